/- Contracts of the functions, part 21: Ip4Opt. -/
import Derived.Deep.RegionLaw
import Derived.Test.YtmfoionlapcgkaaDoorPA9
/- Contracts of the reference of layer 11: Kinds, Need, Written, Options, address. -/
namespace Go.Proofs.YtmfoionlapcgkaaDoor
open Go.ChangeShapes Go.WideShapes Go.ChangeAt Go.RowKit
set_option linter.unusedVariables false

instance (l : List OpR) : Decidable (okK l) := inferInstanceAs (Decidable (∀ x ∈ l, 2 ≤ x.kd ∧ x.kd ≤ 255))
theorem okK_next {l : List OpR} {k : Nat} {x : OpR} (h : okK (l.take k)) (hx : l[k]? = some x) (h1 : 2 ≤ x.kd) (h2 : x.kd ≤ 255) : okK (l.take (k + 1)) := by
  obtain ⟨hk, e⟩ := List.getElem?_eq_some_iff.1 hx
  rw [List.take_succ_eq_append_getElem hk, e]
  intro y hy
  rcases List.mem_append.1 hy with hy | hy
  · exact h y hy
  · rw [List.mem_singleton] at hy
    subst hy
    exact ⟨h1, h2⟩
set_option maxHeartbeats 4000000 in
set_option maxRecDepth 20000 in
theorem rkinds11_any (A : Option Addr) (c : Nat) (l : List OpR) (w : World) (h : RowL EOpt w A l) (hl : l.length ≤ 1000000000) :
    Calls Tryd.prog 41 #[.slice A l.length c] w fun e w' => e = .returned (.bool (decide (okK l))) ∧ w = w' := by
  obtain ⟨R, hR⟩ : ∃ R, R = decide (okK l) := ⟨_, rfl⟩
  rw [← hR]
  obtain ⟨n, hn⟩ : ∃ n, n = l.length := ⟨_, rfl⟩
  rw [← hn] at hl ⊢
  have HR := Lib.hid hR
  have HN := Lib.hid hn
  have HS := Lib.hid h
  clear hR hn h
  go_enter Tryd.func41, Tryd.ntmps41
  go_wp2_with fail
  go_loop [3] (fun i => ∃ k : Nat, i = .int .i64 (k : Int) ∧ k ≤ n ∧ Hid (okK (l.take k))) (fun i => n - (intOf i).toNat)
  case atStart => exact ⟨0, rfl, Nat.zero_le _, Lib.hid (fun x hx => by simp at hx)⟩
  case round =>
    obtain ⟨k, rfl, hk, HK⟩ := hrel
    by_cases hlt : k < n
    · have hki : (k : Int) < (n : Int) := by omega
      have hki0 : (0 : Int) ≤ (k : Int) := by omega
      have dlt : decide ((k : Int) < (n : Int)) = true := by simp; omega
      obtain ⟨x, hget⟩ : ∃ x, l[k]? = some x := ⟨l[k]'(by have := HN.out; omega), List.getElem?_eq_getElem _⟩
      obtain ⟨g, ob, rfl, hg, -⟩ := HS.out (by have := HN.out; omega)
      obtain ⟨c0, -⟩ := opt_at HS.out hget (Below.refl _ _)
      have hmem := List.mem_of_getElem? hget
      by_cases h1 : x.kd < 2
      · have d1 : decide (x.kd < 2) = true := by simp; omega
        have HF := Lib.hid (show R = false by rw [HR.out]; exact decide_eq_false (fun h => by have := h x hmem; omega))
        clear hget hmem
        go_wp2_with fail
        go_ret
        exact ⟨by rw [HF.out]; rfl, rfl⟩
      · have d1 : decide (x.kd < 2) = false := by simp; omega
        by_cases h2 : 255 < x.kd
        · have d2 : decide (255 < x.kd) = true := by simp; omega
          have HF := Lib.hid (show R = false by rw [HR.out]; exact decide_eq_false (fun h => by have := h x hmem; omega))
          clear hget hmem
          go_wp2_with fail
          go_ret
          exact ⟨by rw [HF.out]; rfl, rfl⟩
        · have d2 : decide (255 < x.kd) = false := by simp; omega
          have HK1 := Lib.hid (okK_next HK.out hget (by omega) (by omega))
          clear hget hmem
          go_wp2_with fail
          go_round
          case rel => exact ⟨k + 1, by go_num, by omega, HK1⟩
          case measure => simp [intOf]; omega
    · obtain rfl : k = n := by omega
      have dlt : decide ((k : Int) < (k : Int)) = false := by simp
      have nlt : ¬ (k : Int) < (k : Int) := by omega
      have HT := Lib.hid (show R = true by rw [HR.out]; have := HK.out; rw [HN.out, List.take_length] at this; exact decide_eq_true this)
      go_wp2_with fail
      go_ret
      exact ⟨by rw [HT.out]; rfl, rfl⟩
theorem wrOs_next {l : List OpR} {k : Nat} {x : OpR} (hx : l[k]? = some x) : wrOs (l.take (k + 1)) = wrOs (l.take k) ++ wrO x := by
  obtain ⟨hk, e⟩ := List.getElem?_eq_some_iff.1 hx
  rw [List.take_succ_eq_append_getElem hk, e, wrOs_snoc]
theorem wrOs_take (l : List OpR) (k : Nat) : (wrOs (l.take k)).length ≤ (wrOs l).length := by
  have : wrOs l = wrOs (l.take k) ++ wrOs (l.drop k) := by unfold wrOs; rw [← List.flatMap_append, List.take_append_drop]
  rw [this, List.length_append]
  omega
set_option maxHeartbeats 4000000 in
set_option maxRecDepth 20000 in
theorem rneed11_any (A : Option Addr) (c : Nat) (l : List OpR) (w : World) (h : RowL EOpt w A l) (hl : l.length ≤ 1000000000) (hd : ∀ x ∈ l, x.dat.length ≤ 4611686018427387904) :
    Calls Tryd.prog 42 #[.slice A l.length c] w fun e w' => e = .returned (.int .i64 (min 41 (wrOs l).length : Nat)) ∧ w = w' := by
  obtain ⟨n, hn⟩ : ∃ n, n = l.length := ⟨_, rfl⟩
  rw [← hn] at hl ⊢
  have HN := Lib.hid hn
  have HS := Lib.hid h
  have HD := Lib.hid hd
  clear hn h hd
  go_enter Tryd.func42, Tryd.ntmps42
  go_wp2_with fail
  go_loop [3, 4] (fun s i => ∃ k t : Nat, i = .int .i64 (k : Int) ∧ s = .int .i64 (t : Int) ∧ k ≤ n ∧ t ≤ 41 ∧ Hid (t = min 41 (wrOs (l.take k)).length)) (fun _ i => n - (intOf i).toNat)
  case atStart => exact ⟨0, 0, rfl, rfl, Nat.zero_le _, by omega, Lib.hid (by simp [wrOs])⟩
  case round =>
    obtain ⟨k, t, rfl, rfl, hk, ht, HT⟩ := hrel
    by_cases hlt : k < n
    · have hki : (k : Int) < (n : Int) := by omega
      have hki0 : (0 : Int) ≤ (k : Int) := by omega
      have dlt : decide ((k : Int) < (n : Int)) = true := by simp; omega
      obtain ⟨x, hget⟩ : ∃ x, l[k]? = some x := ⟨l[k]'(by have := HN.out; omega), List.getElem?_eq_getElem _⟩
      obtain ⟨g, ob, rfl, hg, -⟩ := HS.out (by have := HN.out; omega)
      obtain ⟨-, c1⟩ := opt_at HS.out hget (Below.refl _ _)
      have hxd := HD.out x (List.mem_of_getElem? hget)
      obtain ⟨y, hy⟩ : ∃ y, y = x.dat.length := ⟨_, rfl⟩
      have hsz : (str x.dat).size = y := by rw [str_size, hy]
      obtain ⟨t1, ht1⟩ : ∃ t1, t1 = min 41 (t + 2 + y) := ⟨_, rfl⟩
      have hmn : min (41 : Int) ((t : Int) + 2 + (y : Int)) = (t1 : Int) := by omega
      have HT1 := Lib.hid (show t1 = min 41 (wrOs (l.take (k + 1))).length by rw [wrOs_next hget, List.length_append, wrO_len, ht1, HT.out, ← hy]; omega)
      have ht41 : t1 ≤ 41 := by omega
      rw [← hy] at hxd
      generalize str x.dat = D at *
      clear hget hy ht1
      go_wp2_with fail
      go_round
      case rel => exact ⟨k + 1, t1, by go_num, by first | rfl | simp [hmn], by omega, ht41, HT1⟩
      case measure => simp [intOf]; omega
    · obtain rfl : k = n := by omega
      have dlt : decide ((k : Int) < (k : Int)) = false := by simp
      have nlt : ¬ (k : Int) < (k : Int) := by omega
      have HT2 := Lib.hid (show t = min 41 (wrOs l).length by have := HT.out; rw [HN.out, List.take_length] at this; exact this)
      go_wp2_with fail
      go_ret
      exact ⟨by rw [← HT2.out]; rfl, rfl⟩
/-! ### Written -/
def strOf11 : Value → ByteArray
  | .string s => s
  | _ => ⟨#[]⟩
theorem u8c (n : Int) : ((IntKind.u8.wrap n).toNat < 256) := by rw [IntKind.wrap_u8]; omega
/-- Two bytes in a new block, as a string. -/
theorem two_str (w : World) (a b : Nat) (ha : a < 256) (hb : b < 256) : (convert 48 9 (.slice (some ⟨w.heap.size, 0, none⟩) 2 2)).run Tryd.prog (w.alloc (.cells #[.int .u8 (a : Int), .int .u8 (b : Int)] 5)) = .ok (.string (str [UInt8.ofNat a, UInt8.ofNat b])) (w.alloc (.cells #[.int .u8 (a : Int), .int .u8 (b : Int)] 5)) := by
  refine bs_string (l := [UInt8.ofNat a, UInt8.ofNat b]) (base := 0) ⟨some ⟨w.heap.size, 0, none⟩, 2, rfl, Nat.le_refl _, fun _ => ⟨w.heap.size, 0, rfl, Nat.zero_le _, alloc_lt6 w _, fun j hj => ?_⟩⟩
  have hX : Cells (w.alloc (.cells #[.int .u8 (a : Int), .int .u8 (b : Int)] 5)) w.heap.size 5 #[.int .u8 (a : Int), .int .u8 (b : Int)] := heap_alloc_new w _
  refine ⟨?_, by rw [Nat.zero_add]; exact Cells.frozen hX j⟩
  rw [Nat.zero_add, Cells.cell hX j]
  match j, hj with
  | 0, _ => simp [u8n ha]
  | 1, _ => simp [u8n hb]
set_option maxHeartbeats 4000000 in
set_option maxRecDepth 20000 in
theorem rwritten11_any (A : Option Addr) (c : Nat) (l : List OpR) (w : World) (h : RowL EOpt w A l) (hl : (wrOs l).length ≤ 40) (hk : okK l) :
    Calls Tryd.prog 43 #[.slice A l.length c] w fun e w' => e = .returned (.string (str (wrP l))) ∧ Below w.heap.size w w' := by
  obtain ⟨n, hn⟩ : ∃ n, n = l.length := ⟨_, rfl⟩
  rw [← hn]
  have HN := Lib.hid hn
  have HS := Lib.hid h
  have HL := Lib.hid hl
  have HK := Lib.hid hk
  have hn40 : n ≤ 40 := by
    rw [hn]
    have : ∀ m : List OpR, m.length ≤ (wrOs m).length := fun m => by
      induction m with
      | nil => exact Nat.zero_le _
      | cons a r ih => rw [wrOs_cons, List.length_append, wrO_len, List.length_cons]; omega
    exact Nat.le_trans (this l) hl
  have HB0 := Lib.hid (Below.refl w.heap.size w)
  clear hn h hl hk
  go_enter Tryd.func43, Tryd.ntmps43
  go_wp2_with fail
  go_loopw [3, 4] (fun v3 v4 wr => ∃ (k : Nat) (T : ByteArray), v3 = .string T ∧ v4 = .int .i64 (k : Int) ∧ k ≤ n ∧ T.size ≤ 40 ∧ Hid (T = str (wrOs (l.take k))) ∧ Hid (Below w.heap.size w wr)) (fun _ v4 _ => n - (intOf v4).toNat)
  case atStart => exact ⟨0, ⟨#[]⟩, rfl, rfl, Nat.zero_le _, by decide, Lib.hid rfl, HB0⟩
  case round =>
    clear HB0
    obtain ⟨k, T, rfl, rfl, hk, hT40, HT, HB⟩ := hrel
    by_cases hlt : k < n
    · have hki : (k : Int) < (n : Int) := by omega
      have hki0 : (0 : Int) ≤ (k : Int) := by omega
      have dlt : decide ((k : Int) < (n : Int)) = true := by simp; omega
      obtain ⟨x, hget⟩ : ∃ x, l[k]? = some x := ⟨l[k]'(by have := HN.out; omega), List.getElem?_eq_getElem _⟩
      obtain ⟨g, ob, rfl, hg, -⟩ := HS.out (by have := HN.out; omega)
      obtain ⟨c0, c1⟩ := opt_at HS.out hget HB.out
      obtain ⟨hx1, hx2⟩ := HK.out x (List.mem_of_getElem? hget)
      have htk := wrOs_take l (k + 1)
      rw [wrOs_next hget, List.length_append, wrO_len] at htk
      have hy40 : T.size + (2 + x.dat.length) ≤ 40 := by have h1 := HL.out; have h2 := HT.out; have h3 : T.size = (wrOs (l.take k)).length := by rw [h2, str_size]
                                                         omega
      have HTN := Lib.hid (show T ++ str [UInt8.ofNat x.kd.toNat, UInt8.ofNat (2 + x.dat.length)] ++ str x.dat = str (wrOs (l.take (k + 1))) by
        rw [HT.out, wrOs_next hget, str_append, str_append]
        unfold wrO
        simp)
      obtain ⟨y, hy⟩ : ∃ y, y = x.dat.length := ⟨_, rfl⟩
      have hsz : (str x.dat).size = y := by rw [str_size, hy]
      rw [← hy] at hy40 HTN
      obtain ⟨a, ha⟩ : ∃ a : Nat, x.kd = (a : Int) := ⟨x.kd.toNat, by omega⟩
      rw [ha] at c0 HTN
      rw [Int.toNat_natCast] at HTN
      have ha255 : a < 256 := by omega
      obtain ⟨b, hb⟩ : ∃ b, b = 2 + y := ⟨_, rfl⟩
      have hbi : (2 : Int) + (y : Int) = (b : Int) := by omega
      have hb255 : b < 256 := by omega
      rw [← hb] at HTN
      have ua : IntKind.u8.wrap (a : Int) = (a : Int) := by rw [IntKind.wrap_u8]; omega
      have ub : IntKind.u8.wrap (b : Int) = (b : Int) := by rw [IntKind.wrap_u8]; omega
      have hcv : (convert 48 9 (.slice (some ⟨wr.heap.size, 0, none⟩) 2 2)).run Tryd.prog ((wr.alloc (.cells #[.int .u8 (a : Int), .int .u8 (b : Int)] 5)).drew) = .ok (.string (str [UInt8.ofNat a, UInt8.ofNat b])) ((wr.alloc (.cells #[.int .u8 (a : Int), .int .u8 (b : Int)] 5)).drew) := two_str wr.drew a b ha255 hb255
      have hgw : g < wr.heap.size := Nat.lt_of_lt_of_le hg HB.out.size
      have hUs : (str [UInt8.ofNat a, UInt8.ofNat b]).size = 2 := str_size _
      generalize str [UInt8.ofNat a, UInt8.ofNat b] = U at *
      generalize str x.dat = D at *
      clear hget htk hx1 hx2 ha hy hb
      go_wp2_with fail
      go_region
      have HB2 := Lib.hid (show Below w.heap.size w ((wr.alloc (.cells #[.int .u8 (a : Int), .int .u8 (b : Int)] 5)).drew) from by
        have h2 := HB.out.alloc HB.out.size (.cells #[.int .u8 (a : Int), .int .u8 (b : Int)] 5)
        exact ⟨h2.os, h2.tape, h2.output, h2.size, h2.block⟩)
      have hsz3 : (T ++ U ++ D).size ≤ 40 := by rw [ByteArray.size_append, ByteArray.size_append]; omega
      clear hcv c0 c1 HB hgw
      go_wp2_with fail
      go_roundw
      case rel => exact ⟨k + 1, T ++ U ++ D, rfl, by go_num, by omega, hsz3, HTN, HB2⟩
      case measure => simp [intOf]; omega
    · obtain rfl : k = n := by omega
      have dlt : decide ((k : Int) < (k : Int)) = false := by simp
      have nlt : ¬ (k : Int) < (k : Int) := by omega
      obtain ⟨m, hm⟩ : ∃ m, m = (wrOs l).length := ⟨_, rfl⟩
      have hm40 : m ≤ 40 := by rw [hm]; exact HL.out
      have HT2 := Lib.hid (show T = str (wrOs l ++ List.replicate 0 0) by have := HT.out; rw [HN.out, List.take_length] at this; rw [this]; simp)
      have HM := Lib.hid hm
      clear hm HT
      go_wp2_with fail
      go_loopw [3] (fun v3 _wr => ∃ (j : Nat) (T : ByteArray), v3 = .string T ∧ j ≤ padN m ∧ T.size = m + j ∧ Hid (T = str (wrOs l ++ List.replicate j 0)) ∧ _wr = wr) (fun v3 _ => 44 - (strOf11 v3).size)
      case atStart => exact ⟨0, T, rfl, Nat.zero_le _, by rw [HT2.out, str_size, List.length_append, List.length_replicate, HM.out], HT2, rfl⟩
      case round =>
        obtain ⟨j, T, rfl, hj, hsz, HT, rfl⟩ := hrel
        obtain ⟨z, hz⟩ : ∃ z, z = m + j := ⟨_, rfl⟩
        rw [← hz] at hsz
        have hpad : padN m ≤ 3 := by unfold padN; omega
        by_cases h4 : z % 4 = 0
        · have e4 : (z : Int) % 4 = 0 := by omega
          have HF := Lib.hid (show T = str (wrP l) by rw [HT.out]; unfold wrP; rw [← HM.out, show padN m = j by unfold padN at hj ⊢; omega])
          clear hz h4
          go_wp2_with fail
          go_ret
          exact ⟨by rw [← HF.out]; rfl, HB.out⟩
        · have e4 : ¬ (z : Int) % 4 = 0 := by omega
          have d4 : ((z : Int) % 4 != 0) = true := by rw [bne_iff_ne]; exact e4
          have HT1 := Lib.hid (show T ++ ⟨#[0]⟩ = str (wrOs l ++ List.replicate (j + 1) 0) by
            have e : (⟨#[0]⟩ : ByteArray) = str [0] := rfl
            rw [HT.out, e, str_append, List.append_assoc, List.replicate_succ'])
          have hz44 : z ≤ 43 := by omega
          have hj1 : j + 1 ≤ padN m := by unfold padN at hj ⊢; omega
          have hs1 : (T ++ ⟨#[0]⟩).size = m + (j + 1) := by rw [ByteArray.size_append, hsz, hz]; rfl
          have HS1 := Lib.hid hs1
          have HZ := Lib.hid hz
          clear hs1 hz h4
          go_wp2_with fail
          go_roundw
          case rel => exact ⟨j + 1, T ++ ⟨#[0]⟩, rfl, hj1, HS1.out, HT1, trivial⟩
          case measure => have h1 := HS1.out; have h2 := HZ.out; simp only [strOf11]; rw [h1, hsz]; omega
theorem extract_str11 (s : ByteArray) (L : List UInt8) (h : s = str L) (a b : Nat) : s.extract a b = str ((L.drop a).take (b - a)) := by
  subst h
  have : str ((str L).extract a b).data.toList = (str L).extract a b := str_of _
  rw [← this]
  congr 1
  have e := str_toList L
  simp only [ByteArray.data_extract, Array.toList_extract, List.extract_eq_take_drop, e]
/-! ### Options -/
/-- What Options leaves. -/
def OptP (w : World) (o : Option (List OpR)) (e : Ending) (w' : World) : Prop := match o with
  | none => e = .returned (.tuple #[.slice none 0 0, .bool false]) ∧ Below w.heap.size w w'
  | some l => ∃ A c, e = .returned (.tuple #[.slice A l.length c, .bool true]) ∧ RowL EOpt w' A l ∧ (A = none → c = 0) ∧ (∀ a, A = some a → w.heap.size ≤ a.block) ∧ Below w.heap.size w w'
set_option maxHeartbeats 4000000 in
set_option maxRecDepth 20000 in
theorem ropts11_any (S : List UInt8) (w : World) (hs : S.length ≤ 1000000) :
    Calls Tryd.prog 33 #[.string (str S)] w (OptP w (optsD S)) := by
  have hsz : (str S).size = S.length := str_size S
  obtain ⟨s, hS⟩ : ∃ s, s = str S := ⟨_, rfl⟩
  have hget : ∀ i (h : i < s.size) (h2 : i < S.length), s[i] = S[i] := by
    subst hS
    intro i h h2
    show (str S).data[i] = _
    simp [str]
  rw [← hS] at hsz ⊢
  obtain ⟨R, hR⟩ : ∃ R, R = optsD S := ⟨_, rfl⟩
  rw [← hR]
  have HR0 := Lib.hid (show R = (optsD (S.drop 0)).map (fun l => ([] : List OpR) ++ l) by rw [hR, List.drop_zero]; cases optsD S <;> rfl)
  have HG := Lib.hid hget
  have HSZ := Lib.hid hsz
  have HSS := Lib.hid hS
  have hs6 : s.size ≤ 1000000 := by omega
  have HB0 := Lib.hid ((below_alloc6 w (.cells #[] 51)))
  have HO0 := Lib.hid (own_empty EOpt w 51 (Nat.le_refl w.heap.size))
  clear hR hS hget hsz hs
  go_enter Tryd.func33, Tryd.ntmps33
  go_wp2_with fail
  go_loopw [4, 5] (fun v4 v5 wr => ∃ (i n : Nat) (A : Option Addr) (c : Nat) (out : List OpR), v4 = .slice A n c ∧ v5 = .int .i64 (i : Int) ∧ i ≤ s.size ∧ n ≤ i ∧ Hid (n = out.length) ∧ Hid (R = (optsD (S.drop i)).map (fun l => out ++ l)) ∧ Hid (wr.ownsRow w.heap.size 51 2 (.slice A n c) n (EOpt.cells out)) ∧ Hid (Below w.heap.size w wr)) (fun _ v5 _ => s.size - (intOf v5).toNat)
  case atStart => exact ⟨0, 0, _, 0, [], rfl, rfl, Nat.zero_le _, Nat.zero_le _, Lib.hid rfl, HR0, HO0, HB0⟩
  case round =>
    clear HB0 HO0 HR0
    obtain ⟨i, n, A, c, out, rfl, rfl, hi, hni, HN, HR, HO, HB⟩ := hrel
    have hi0 : (0 : Int) ≤ (i : Int) := by omega
    by_cases hlt : i < s.size
    · have hki : (i : Int) < (s.size : Int) := by omega
      have dlt : decide ((i : Int) < (s.size : Int)) = true := by simp; omega
      have hS1 : i < S.length := by have := HSZ.out; omega
      obtain ⟨u0, hu0⟩ : ∃ u, s[i] = u := ⟨_, rfl⟩
      have hx0 : S[i].toNat = u0.toNat := by rw [← HG.out i hlt hS1, hu0]
      obtain ⟨b0, hb0⟩ : ∃ b, u0.toNat = b := ⟨_, rfl⟩
      rw [hb0] at hx0
      have hb0l : b0 < 256 := by rw [← hb0]; exact u8_lt u0
      by_cases h0 : b0 = 0
      · have e0 : ((b0 : Int) != 0) = false := by rw [bne_eq_false_iff_eq]; omega
        have n0 : (b0 : Int) = 0 := by omega
        have HF := Lib.hid (show R = some out by rw [HR.out, optsD_zero hS1 (by omega)]; simp)
        clear hx0 h0
        go_wp2_with fail
        go_ret2
        rw [HF.out]
        exact ⟨A, c, by rw [← HN.out]; rfl, rowl_of_own (E := EOpt) HO.out HN.out, fun hA => by subst hA; exact (own_none HO.out).2, fun a ha => (own_blk_in HO.out a.block (by rw [ha]; rfl)).1, HB.out⟩
      have e0 : ((b0 : Int) != 0) = true := by rw [bne_iff_ne]; omega
      have n0 : ¬ (b0 : Int) = 0 := by omega
      by_cases h1 : b0 = 1
      · have e1 : ((b0 : Int) == 1) = true := by rw [beq_iff_eq]; omega
        have n1 : (b0 : Int) = 1 := by omega
        have HF := Lib.hid (show R = (optsD (S.drop (i + 1))).map (fun l => out ++ l) by rw [HR.out, optsD_one hS1 (by omega)])
        clear hx0 h0 h1
        go_wp2_with fail
        go_roundw
        case rel => exact ⟨i + 1, n, A, c, out, rfl, by go_num, by omega, by omega, HN, HF, HO, HB⟩
        case measure => simp [intOf]; omega
      have e1 : ((b0 : Int) == 1) = false := by rw [beq_eq_false_iff_ne]; omega
      have n1 : ¬ (b0 : Int) = 1 := by omega
      obtain ⟨i1, hi1⟩ : ∃ j, j = i + 1 := ⟨_, rfl⟩
      have ki1 : (i : Int) + 1 = (i1 : Int) := by omega
      by_cases h2 : s.size ≤ i1
      · have d2 : decide ((s.size : Int) ≤ (i1 : Int)) = true := by simp; omega
        have n2 : (s.size : Int) ≤ (i1 : Int) := by omega
        have HF := Lib.hid (show R = none by rw [HR.out, optsD_last hS1 (by omega) (by omega) (by have := HSZ.out; omega)]; rfl)
        clear hx0 h0 h1 hi1 h2
        go_wp2_with fail
        go_ret2
        rw [HF.out]
        exact ⟨rfl, HB.out⟩
      have d2 : decide ((s.size : Int) ≤ (i1 : Int)) = false := by simp; omega
      have n2 : ¬ (s.size : Int) ≤ (i1 : Int) := by omega
      have hlt1 : i1 < s.size := by omega
      have hki1 : (i1 : Int) < (s.size : Int) := by omega
      have hi10 : (0 : Int) ≤ (i1 : Int) := by omega
      have hS2 : i + 1 < S.length := by have := HSZ.out; omega
      obtain ⟨u1, hu1⟩ : ∃ u, s[i1] = u := ⟨_, rfl⟩
      have hx1 : S[i + 1].toNat = u1.toNat := by rw [← HG.out (i + 1) (by omega) hS2]; subst hi1; rw [hu1]
      obtain ⟨b1, hb1⟩ : ∃ b, u1.toNat = b := ⟨_, rfl⟩
      rw [hb1] at hx1
      have hb1l : b1 < 256 := by rw [← hb1]; exact u8_lt u1
      by_cases h3 : b1 < 2
      · have d3 : decide ((b1 : Int) < 2) = true := by simp; omega
        have n3 : (b1 : Int) < 2 := by omega
        have HF := Lib.hid (show R = none by rw [HR.out, optsD_bad hS2 (by omega) (by omega) (.inl (by omega))]; rfl)
        clear hx0 hx1 h0 h1 hi1 h2 h3
        go_wp2_with fail
        go_ret2
        rw [HF.out]
        exact ⟨rfl, HB.out⟩
      have d3 : decide ((b1 : Int) < 2) = false := by simp; omega
      have n3 : ¬ (b1 : Int) < 2 := by omega
      obtain ⟨j, hj⟩ : ∃ j, j = i + b1 := ⟨_, rfl⟩
      have kj : (i : Int) + (b1 : Int) = (j : Int) := by omega
      by_cases h4 : s.size < j
      · have d4 : decide ((s.size : Int) < (j : Int)) = true := by simp; omega
        have n4 : (s.size : Int) < (j : Int) := by omega
        have HF := Lib.hid (show R = none by rw [HR.out, optsD_bad hS2 (by omega) (by omega) (.inr (by have := HSZ.out; omega))]; rfl)
        clear hx0 hx1 h0 h1 hi1 h2 h3 h4 hj
        go_wp2_with fail
        go_ret2
        rw [HF.out]
        exact ⟨rfl, HB.out⟩
      have d4 : decide ((s.size : Int) < (j : Int)) = false := by simp; omega
      have n4 : ¬ (s.size : Int) < (j : Int) := by omega
      obtain ⟨i2, hi2⟩ : ∃ j, j = i + 2 := ⟨_, rfl⟩
      have ki2 : (i : Int) + 2 = (i2 : Int) := by omega
      have wi2 : IntKind.i64.wrap ((i : Int) + 2) = (i2 : Int) := by rw [IntKind.wrap_i64]; omega
      have wi2' : IntKind.i64.wrap (i2 : Int) = (i2 : Int) := by rw [IntKind.wrap_i64]; omega
      have wj : IntKind.i64.wrap ((i : Int) + (b1 : Int)) = (j : Int) := by rw [IntKind.wrap_i64]; omega
      have wj' : IntKind.i64.wrap (j : Int) = (j : Int) := by rw [IntKind.wrap_i64]; omega
      have wb : IntKind.i64.wrap (b0 : Int) = (b0 : Int) := by rw [IntKind.wrap_i64]; omega
      have hi2j : i2 ≤ j := by omega
      have hjs : j ≤ s.size := by omega
      have hi2ji : (i2 : Int) ≤ (j : Int) := by omega
      have hjsi : (j : Int) ≤ (s.size : Int) := by omega
      have hji : i < j := by omega
      have HF := Lib.hid (show R = (optsD (S.drop j)).map (fun l => (out ++ [⟨(b0 : Int), (S.drop i2).take (j - i2)⟩]) ++ l) by
        rw [HR.out, optsD_opt hS2 (by omega) (by omega) (by omega) (by have := HSZ.out; omega), hx1, hx0, ← hj, hi2, show j - (i + 2) = b1 - 2 by omega]
        cases optsD (S.drop j) <;> simp)
      have hex : s.extract i2 j = str ((S.drop i2).take (j - i2)) := by rw [extract_str11 s S HSS.out]
      obtain ⟨x, hx⟩ : ∃ x : OpR, x = ⟨(b0 : Int), (S.drop i2).take (j - i2)⟩ := ⟨_, rfl⟩
      rw [← hx] at HF
      have HXC := Lib.hid (show EOpt.cells [x] = [.int .i64 (b0 : Int), .string (str ((S.drop i2).take (j - i2)))] by rw [hx]; rfl)
      generalize str ((S.drop i2).take (j - i2)) = D at *
      clear hx0 hx1 h0 h1 hi1 h2 h3 h4 hj hi2 hx
      go_wp2_with fail
      have hbz : w.heap.size ≤ wr.heap.size := HB.out.size
      go_region_law ((refine step_push (E := EOpt) optTy (by rfl) _ _ (by rfl) w.heap.size (.slice A n c) n out [x] (by rfl) ((HO.out.alloc _).drew) wr.heap.size 1 1 #[.int .i64 (b0 : Int), .string D] (0, 0) (by rfl) (heap_alloc_new wr _) HXC.out.symm rfl (by omega) (by omega) (by decide) (Nat.le_trans hbz (Nat.le_of_lt (alloc_lt6 wr _))) ?_; intro g2 cap2 wz hown hgrow hat hlt2))
      all_goals
        have HB9 := Lib.hid ((HB.out.alloc HB.out.size (.cells #[.int .i64 (b0 : Int), .string D] 51)).grown (show (wr.alloc (.cells #[.int .i64 (b0 : Int), .string D] 51)).grownBy wz _ from ⟨hgrow.os, hgrow.tape, hgrow.output, hgrow.size, hgrow.block⟩) (by have := HB.out.size; simp; omega) (fun j hj => (own_blk_in HO.out _ hj).1))
        have HO9 := Lib.hid (show wz.ownsRow w.heap.size 51 2 (.slice (some ⟨g2, 0, none⟩) (n + 1) cap2) (n + 1) (EOpt.cells (out ++ [x])) from hown)
        have HN9 := Lib.hid (show n + 1 = (out ++ [x]).length by rw [List.length_append, HN.out]; rfl)
        clear hown hgrow hat hlt2 HB HO
        go_wp2_with fail
        go_roundw
        case rel => exact ⟨j, n + 1, some ⟨g2, 0, none⟩, cap2, out ++ [x], rfl, rfl, hjs, by omega, HN9, HF, HO9, HB9⟩
        case measure => simp [intOf]; omega
    · have dlt : decide ((i : Int) < (s.size : Int)) = false := by simp; omega
      have nlt : ¬ (i : Int) < (s.size : Int) := by omega
      have HF := Lib.hid (show R = some out by rw [HR.out, optsD_end S i (by have := HSZ.out; omega)]; simp)
      go_wp2_with fail
      go_ret2
      rw [HF.out]
      exact ⟨A, c, by rw [← HN.out]; rfl, rowl_of_own (E := EOpt) HO.out HN.out, fun hA => by subst hA; exact (own_none HO.out).2, fun a ha => (own_blk_in HO.out a.block (by rw [ha]; rfl)).1, HB.out⟩
end Go.Proofs.YtmfoionlapcgkaaDoor
