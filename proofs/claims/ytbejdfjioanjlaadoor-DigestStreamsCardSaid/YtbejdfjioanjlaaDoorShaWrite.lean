/- Contract: the program's Write. -/
import Derived.Test.YtbejdfjioanjlaaDoorShaCopy
import Derived.Deep.RegionHeld3
namespace Go.Proofs.YtbejdfjioanjlaaDoor
open Go.ChangeShapes Go.WideShapes Go.ChangeAt Go.RowKit

theorem cut_at (r g : Nat) (h : r < 64) (W : World) : (Instr.sliceAt 44 (.pointer (some ⟨g, 8, none⟩)) (some (.int .i64 (r : Int))) none none).run Tryd.prog W = .ok (.slice (some ⟨g, 8 + r, none⟩) (64 - r) (64 - r)) W := by
  have ht : Tryd.prog.underlying 44 = some (.array (Tryd.prog.arrayLen 44) (Tryd.prog.elem 44)) := by kernel_rfl
  have hn : Tryd.prog.arrayLen 44 = 64 := by kernel_rfl
  have hz : ∀ w, (Go.sizeOf (Tryd.prog.elem 44)).run Tryd.prog w = .ok 1 w := fun _ => by kernel_rfl
  rw [run_sliceAt_array_l W 44 _ ht .i64 (r : Int) (by omega) (by rw [hn]; omega), hz, hn]
  have e : slicedAt ⟨g, 8, none⟩ (r : Int).toNat 64 64 1 = .slice (some ⟨g, 8 + r, none⟩) (64 - r) (64 - r) := by
    unfold slicedAt
    rw [Int.toNat_natCast, if_neg (by omega), Nat.mul_one, Addr.add_lit]
  show Result.ok (slicedAt ⟨g, 8, none⟩ (r : Int).toNat 64 64 1) W = _
  rw [e]
theorem cut_all (g : Nat) (W : World) : (Instr.sliceAt 44 (.pointer (some ⟨g, 8, none⟩)) none none none).run Tryd.prog W = .ok (.slice (some ⟨g, 8, none⟩) 64 64) W := by
  have ht : Tryd.prog.underlying 44 = some (.array (Tryd.prog.arrayLen 44) (Tryd.prog.elem 44)) := by kernel_rfl
  have hn : Tryd.prog.arrayLen 44 = 64 := by kernel_rfl
  have hz : ∀ w, (Go.sizeOf (Tryd.prog.elem 44)).run Tryd.prog w = .ok 1 w := fun _ => by kernel_rfl
  rw [run_sliceAt_array_all W 44 _ ht, hz, hn]
  rfl

theorem write_nil (s : ByteArray) (w : World) :
    Calls Tryd.prog 14 #[.pointer none, .string s] w fun e w' => e = .returned (.tuple #[]) ∧ w = w' := by
  go_enter Tryd.func14, Tryd.ntmps14
  go_wp2_with fail
  refine bodyPost_ret (results_none rfl _ _ _) rfl ?_
  exact ⟨rfl, rfl⟩

set_option maxRecDepth 20000 in
theorem write_short (g : Nat) (S : St) (P : List UInt8) (n : Nat) (s : ByteArray) (w : World) (hh : HH w g S P n) (h1 : 0 < n % 64) (h2 : n % 64 + s.size < 64) (hn : n ≤ 4611686018427387903) :
    Calls Tryd.prog 14 #[.pointer (some ⟨g, 0, none⟩), .string s] w fun e w' => e = .returned (.tuple #[]) ∧ HH w' g S (lay P (n % 64) s.data.toList) (n + s.size) ∧ w.grownBy w' (some g) := by
  generalize hr : n % 64 = r at *
  generalize hm : n + s.size = m at *
  have e0 : (n : Int) % 64 = (r : Int) := by omega
  have e1 : (n : Int) + (s.size : Int) = (m : Int) := by omega
  have c0 := hh.count
  have z0 := hh.frozen 72
  have hH := Lib.hid hh
  have hri : (0 : Int) < (r : Int) := by omega
  have hr64 : r < 64 := by omega
  have hsz : s.size < 64 := by omega
  have hm63 : m ≤ 9223372036854775807 := by omega
  have hrs : r + s.size < 64 := h2
  clear hh hr hm h2
  have hcut := cut_at r g hr64
  have hmin : Nat.min s.size (64 - r) = s.size := Nat.min_eq_left (by omega)
  have htk : s.data.toList.take s.size = s.data.toList := by
    rw [show s.size = s.data.toList.length by simp, List.take_length]
  have hcop := fun W n' (h : HH W g S P n') => run_copy_hash h
  have e2 : (r : Int) + (s.size : Int) < 64 := by omega
  have HMIN := Lib.hid hmin
  have HTK := Lib.hid htk
  clear hcop hmin htk
  go_enter Tryd.func14, Tryd.ntmps14
  go_wp2_with ((with_reducible show wpList _ _ _ _ _ _); refine wpList_copy_hash rfl (.tmp 29) (.tmp 30) (by rfl) (hH.out.counted m) r (by omega) (64 - r) s s.size HMIN.out (by rfl) (by rfl) ?_)
  refine bodyPost_ret (results_none rfl _ _ _) rfl ?_
  rw [HTK.out]
  exact ⟨rfl, (hH.out.counted m).splice r s.data.toList (by simp; omega), but_setCells _ _ _ _ (but_setCell (but_refl _ _) 72 _)⟩

set_option maxRecDepth 20000 in
theorem write_whole (g : Nat) (S : St) (P : List UInt8) (n : Nat) (s : ByteArray) (w : World) (hk : Kt w) (hh : HH w g S P n) (hok : S.ok) (hg : g ≠ 0) (h1 : n % 64 = 0) (hn : n ≤ 2305843009213693951) (hs : s.size ≤ 2305843009213693951) :
    Calls Tryd.prog 14 #[.pointer (some ⟨g, 0, none⟩), .string s] w fun e w' => e = .returned (.tuple #[]) ∧ HH w' g (blks S s.data.toList (s.size / 64)) (lay P 0 (rest s.data.toList)) (n + s.size) ∧ w.grownBy w' (some g) := by
  generalize hm : n + s.size = m at *
  have e0 : (n : Int) % 64 = 0 := by omega
  have e1 : (n : Int) + (s.size : Int) = (m : Int) := by omega
  have hL : s.data.toList.length = s.size := by simp
  have c0 := hh.count
  have z0 := hh.frozen 72
  have hcall := fun W (a : Kt W) (b : HH W g S P m) => each_any g S P m s W (by omega) a b hok hg
  have hH := Lib.hid hh
  have HK := Lib.hid hk
  have hm63 : m ≤ 9223372036854775807 := by omega
  have hcut := cut_all g
  have hrl := rest_length s.data.toList
  have hmf : ∀ (fn : Fn) (first cap : Array Value) (w : World), (Instr.makeFunc fn first cap).run Tryd.prog w = .ok (.func fn first cap) w := fun _ _ _ _ => rfl
  generalize blks S s.data.toList (s.size / 64) = S2 at *
  generalize rest s.data.toList = R at *
  have hmin : Nat.min (str R).size (64 - 0) = R.length := by rw [str_size]; exact Nat.min_eq_left (by omega)
  have htk : (str R).data.toList.take R.length = R := by rw [str_toList, List.take_length]
  have HMIN := Lib.hid hmin
  have HTK := Lib.hid htk
  have HRL := Lib.hid hrl
  have HC := Lib.hid hcall
  clear hh hm hk hmin htk hcall hrl hL
  go_enter Tryd.func14, Tryd.ntmps14
  go_wp2_with fail
  refine (HC.out _ ?_ ?_).mono ?_
  · exact HK.out.only (but_set _ _ _ _) hg
  · exact hH.out.counted m
  rintro e w1 ⟨rfl, hh1, hg1⟩
  have HH1 := Lib.hid hh1
  have HG1 := Lib.hid (but_trans (but_set w g 72 (.int .i64 m)) hg1)
  clear hh1 hg1 c0 z0
  go_wp2_with ((with_reducible show wpList _ _ _ _ _ _); refine wpList_copy_hash rfl (.tmp 57) (.tmp 58) (by rfl) HH1.out 0 (by omega) 64 (str R) R.length HMIN.out (by rfl) (by rfl) ?_)
  first | go_end0 | refine bodyPost_ret (results_none rfl _ _ _) rfl ?_
  rw [HTK.out]
  exact ⟨rfl, HH1.out.splice 0 R (by have := HRL.out; omega), but_setCells _ _ _ _ HG1.out⟩

set_option maxRecDepth 20000 in
theorem write_fill (g : Nat) (S : St) (P : List UInt8) (n : Nat) (s : ByteArray) (w : World) (hk : Kt w) (hh : HH w g S P n) (hok : S.ok) (hg : g ≠ 0) (h1 : 0 < n % 64) (h2 : 64 ≤ n % 64 + s.size) (hn : n ≤ 2305843009213693951) (hs : s.size ≤ 2305843009213693951) :
    Calls Tryd.prog 14 #[.pointer (some ⟨g, 0, none⟩), .string s] w fun e w' => e = .returned (.tuple #[]) ∧ HH w' g (blks (comp S (lay P (n % 64) (s.data.toList.take (64 - n % 64)))) (s.data.toList.drop (64 - n % 64)) ((s.data.toList.drop (64 - n % 64)).length / 64)) (lay (lay P (n % 64) (s.data.toList.take (64 - n % 64))) 0 (rest (s.data.toList.drop (64 - n % 64)))) (n + s.size) ∧ w.grownBy w' (some g) := by
  generalize hr : n % 64 = r at *
  generalize hm : n + s.size = m at *
  obtain ⟨t, ht⟩ : ∃ t, r + t = 64 := ⟨64 - r, by omega⟩
  rw [show 64 - r = t by omega]
  have e0 : (n : Int) % 64 = (r : Int) := by omega
  have e1 : (n : Int) + (s.size : Int) = (m : Int) := by omega
  have e2 : (r : Int) + (t : Int) = 64 := by omega
  have hri : (0 : Int) < (r : Int) := by omega
  have hr64 : r < 64 := by omega
  have hts : t ≤ s.size := by omega
  have hm63 : m ≤ 9223372036854775807 := by omega
  have hL : s.data.toList.length = s.size := by simp
  have c0 := hh.count
  have z0 := hh.frozen 72
  have hx : s.extract t s.size = str (s.data.toList.drop t) := by
    have := str_cut s.data.toList t s.size
    rw [str_of] at this
    rw [this, ← hL, List.take_length]
  have hcut := cut_at r g hr64
  have hcut2 := cut_all g
  have hmf : ∀ (fn : Fn) (first cap : Array Value) (w : World), (Instr.makeFunc fn first cap).run Tryd.prog w = .ok (.func fn first cap) w := fun _ _ _ _ => rfl
  have hmin1 : Nat.min s.size (64 - r) = t := by rw [show 64 - r = t by omega]; exact Nat.min_eq_right hts
  have hd : (64 : Int) - (r : Int) = (t : Int) := by omega
  have hfit : r + (s.data.toList.take t).length ≤ 64 := by rw [List.length_take]; omega
  generalize hT : s.data.toList.take t = T at *
  have hD : (s.data.toList.drop t).length = s.size - t := by rw [List.length_drop, hL]
  generalize s.data.toList.drop t = D at *
  have hB64 := lay_length P r T
  have hspl := fun V (h : HH V g S P m) => h.splice r T hfit
  generalize lay P r T = B at *
  have hadd := fun W (a : Kt W) (b : HH W g S B m) => hadd_any g S B m (str B) W (by rw [str_size]; exact hB64) a b hok
  rw [str_toList] at hadd
  have hok2 : (comp S B).ok := comp_ok _ _
  generalize comp S B = S1 at *
  have heach := fun W (a : Kt W) (b : HH W g S1 B m) => each_any g S1 B m (str D) W (by rw [str_size]; omega) a b hok2 hg
  rw [str_toList, str_size] at heach
  have hrl := rest_length D
  generalize blks S1 D (D.length / 64) = S2 at *
  generalize rest D = R at *
  have hmin : Nat.min (str R).size (64 - 0) = R.length := by rw [str_size]; exact Nat.min_eq_left (by omega)
  have htk : (str R).data.toList.take R.length = R := by rw [str_toList, List.take_length]
  have hconv : ∀ V S', HH V g S' B m → (convert 27 9 (.slice (some ⟨g, 8, none⟩) 64 64)).run Tryd.prog V = .ok (.string (str B)) V := fun V _ h => by
    have hbs : BS V 0 (.slice (some ⟨g, 8, none⟩) B.length 64) B := ⟨_, 64, rfl, by omega, fun _ => ⟨g, 8, rfl, Nat.zero_le _, h.lt, fun j hj => ⟨by
      have := h.byte (i := j) (by omega)
      rw [List.getD_eq_getElem?_getD, List.getElem?_eq_getElem hj] at this
      exact this, h.frozen _⟩⟩⟩
    have := bs_string hbs
    rw [hB64] at this
    exact this
  have hH := Lib.hid hh
  have HK := Lib.hid hk
  have HMIN1 := Lib.hid hmin1
  have HMIN := Lib.hid hmin
  have HTK := Lib.hid htk
  have HRL := Lib.hid hrl
  have HADD := Lib.hid hadd
  have HEACH := Lib.hid heach
  have HSPL := Lib.hid hspl
  have HT := Lib.hid hT
  have HX := Lib.hid hx
  have HCONV := Lib.hid hconv
  clear hh hr hm hk hmin htk hadd heach hrl hmin1 hspl hT hx hconv hL hD hB64 ht hfit
  go_enter Tryd.func14, Tryd.ntmps14
  go_wp2_with ((with_reducible show wpList _ _ _ _ _ _); refine wpList_copy_hash rfl (.tmp 29) (.tmp 30) (by rfl) (hH.out.counted m) r (by omega) (64 - r) s t HMIN1.out (by rfl) (by rfl) ?_)
  rw [HT.out]
  have hh1 := HSPL.out _ (hH.out.counted m)
  have hg1 := but_setCells (cellsOf T) (8 + r) _ _ (but_setCell (but_refl w (some g)) 72 (.int .i64 m))
  generalize ((w.setCell ⟨g, 72, none⟩ (.int .i64 m)).setCells g (8 + r) (cellsOf T)) = w1 at *
  have hk1 := HK.out.only hg1 hg
  have hc1 := HCONV.out _ _ hh1
  have hc2 := HCONV.out _ _ hh1.drew
  have HH1 := Lib.hid hh1
  have HK1 := Lib.hid hk1
  have HG1 := Lib.hid hg1
  clear hh1 hk1 hg1 c0 z0
  go_region_held3 (fun w' => (convert 27 9 (.slice (some ⟨g, 8, none⟩) 64 64)).run Tryd.prog w' = .ok (.string (str B)) w') (first | exact hc1 | exact hc2 | exact HCONV.out _ _ hh2 | assumption) ((go_at_call 25; refine (HADD.out _ ?_ ?_).mono ?_; exact HK1.out; exact HH1.out; rintro e w2 ⟨rfl, hh2, hg2⟩))
  have hk2 := (show Kt w1.drew from HK1.out).only hg2 hg
  have HG2 := Lib.hid (but_trans (but_drew HG1.out) hg2)
  have HH2 := Lib.hid hh2
  have HK2 := Lib.hid hk2
  clear hg2 hh2 hk2 hc1 hc2 HH1 HK1 HG1
  have hti : (t : Int) ≤ (s.size : Int) := by omega
  go_wp2_with fail
  rw [HX.out]
  refine (HEACH.out _ HK2.out HH2.out).mono ?_
  rintro e w3 ⟨rfl, hh3, hg3⟩
  have HH3 := Lib.hid hh3
  have HG3 := Lib.hid (but_trans HG2.out hg3)
  clear hh3 hg3 HH2 HG2 HK2
  go_wp2_with ((with_reducible show wpList _ _ _ _ _ _); refine wpList_copy_hash rfl (.tmp 57) (.tmp 58) (by rfl) HH3.out 0 (by omega) 64 (str R) R.length HMIN.out (by rfl) (by rfl) ?_)
  first | go_end0 | refine bodyPost_ret (results_none rfl _ _ _) rfl ?_
  rw [HTK.out]
  exact ⟨rfl, HH3.out.splice 0 R (by have := HRL.out; omega), but_setCells _ _ _ _ HG3.out⟩
end Go.Proofs.YtbejdfjioanjlaaDoor
