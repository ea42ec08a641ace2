/- ChecksumDetects holds: for every string, every place and every 16-bit word the law that another word changes the Sum, up to the two forms of zero, and that Update follows it, returns true and leaves memory as it was; the table of shifts is tied to the program's text. No other condition. -/
import Derived.Test.YtajoejpodflnlaaDoorAwk02
import Derived.Test.YtajoejpodflnlaaDoorTied02
import Derived.Test.YtajoejpodflnlaaDoorCards
namespace Go.Proofs.YtajoejpodflnlaaDoor.checksumDetects
open Go.ChangeShapes Go.WideShapes Go.ChangeAt Go.RowKit
open Go.ChangeMaps (open_string shut_string)
set_option linter.unusedVariables false

theorem own : ownKnob Tryd.prog.godebug = none := by kernel_rfl
theorem laidOut : laidOutB Tryd.prog = true := by kernel_rfl

theorem wsum_two : ∀ (l : List UInt8), l.length = 2 → wsum l = num l
  | [a, b], _ => by simp [wsum, num]
/-- What stands before a word, the word, what stands behind it. -/
theorem parts (s : ByteArray) (k : Nat) (h : 2 * k + 2 ≤ s.size) : s.data.toList = s.data.toList.take (2 * k) ++ sub s (2 * k) 2 ++ s.data.toList.drop (2 * k + 2) := by
  unfold sub
  rw [List.append_assoc, show s.data.toList.drop (2 * k + 2) = (s.data.toList.drop (2 * k)).drop 2 by rw [List.drop_drop], List.take_append_drop, List.take_append_drop]
theorem wsum_parts (P M R : List UInt8) (k : Nat) (hP : P.length = 2 * k) (hM : M.length = 2) : wsum (P ++ M ++ R) = wsum P + num M + wsum R := by
  rw [wsum_append _ _ (by rw [List.length_append]; omega), wsum_append _ _ (by omega), wsum_two M hM]
theorem turned_list (s : ByteArray) (k : Nat) (M : List UInt8) (h : 2 * k + 2 ≤ s.size) : (s.extract 0 (2 * k) ++ str M ++ s.extract (2 * k + 2) s.size).data.toList = s.data.toList.take (2 * k) ++ M ++ s.data.toList.drop (2 * k + 2) := by
  have e : ∀ a b : ByteArray, (a ++ b).data.toList = a.data.toList ++ b.data.toList := fun a b => by simp
  rw [e, e, str_toList, Lib.extract_data, Lib.extract_data, List.drop_zero, Nat.sub_zero]
  congr 1
  rw [List.take_of_length_le]
  simp

/-- What the plain sums say of the answers: n and m the sums of the words before and behind, x and y the two words. -/
theorem answers (n m x y : Nat) (hx : x ≤ 65535) (hy : y ≤ 65535) (h : m + x = n + y) :
    ((((x : Int) - y).tmod 65535 != 0) = false ∨ ((((x : Int) - y).tmod 65535 != 0) = true ∧ ((((65535 - rep n : Nat) : Int)) == ((65535 - rep m : Nat) : Int)) = false)) ∧
      (upd ((65535 - rep n : Nat) : Int) x y = ((65535 - rep m : Nat) : Int) ∨ (upd ((65535 - rep n : Nat) : Int) x y = 0 ∧ 65535 - rep m = 65535)) := by
  have rn := rep_le n
  have rm := rep_le m
  constructor
  · by_cases hd : ((x : Int) - y).tmod 65535 = 0
    · exact Or.inl (by simp [hd])
    · refine Or.inr ⟨by simpa using hd, ?_⟩
      have hne : ¬ rep n = rep m := fun e => by
        have h1 := rep_mod n
        have h2 := rep_mod m
        rw [e] at h1
        have h3 : n % 65535 = m % 65535 := by omega
        have h4 : (65535 : Int) ∣ ((x : Int) - y) := by omega
        exact hd (Int.tmod_eq_zero_of_dvd h4)
      have : ¬ (((65535 - rep n : Nat) : Int)) = ((65535 - rep m : Nat) : Int) := by omega
      simpa using this
  · have e1 : ((65535 - rep n : Nat) : Int) % 65536 = ((65535 - rep n : Nat) : Int) := by omega
    have e2 : (x : Int) % 65536 = x := by omega
    have e3 : (y : Int) % 65536 = y := by omega
    have e4 : (65535 : Int) - ((65535 - rep n : Nat) : Int) = (rep n : Nat) := by omega
    have e5 : (65535 : Int) - (x : Int) = ((65535 - x : Nat) : Int) := by omega
    have hu : upd ((65535 - rep n : Nat) : Int) x y = 65535 - (rep (m + 65535) : Nat) := by
      unfold upd
      rw [e1, e2, e3, e4, e5, oc_rep _ _ (by omega), oc_rep _ _ hy, show n + (65535 - x) + y = m + 65535 by omega]
    by_cases hm : m = 0
    · right
      subst hm
      rw [hu]
      exact ⟨by decide, by decide⟩
    · left
      have : rep (m + 65535) = rep m := by
        unfold rep
        rw [if_neg (by omega), if_neg hm, show m + 65535 - 1 = (m - 1) + 65535 by omega, Nat.add_mod_right]
      rw [hu, this]
      omega

theorem sums (s : ByteArray) (k y : Nat) (h : 2 * k + 2 ≤ s.size) (hy : y ≤ 65535) :
    wsum (s.extract 0 (2 * k) ++ str (leL 2 y).reverse ++ s.extract (2 * k + 2) s.size).data.toList + num (sub s (2 * k) 2) = wsum s.data.toList + y := by
  have hl : s.data.toList.length = s.size := by simp
  have hP : (s.data.toList.take (2 * k)).length = 2 * k := by rw [List.length_take]; omega
  rw [turned_list s k _ h, wsum_parts _ _ _ k hP (by rw [List.length_reverse, leL_length]), num_reverse_leL, Nat.mod_eq_of_lt (show y < 256 ^ 2 by omega)]
  have hs := congrArg wsum (parts s k h)
  rw [wsum_parts _ _ _ k hP (sub_length h)] at hs
  omega

set_option maxHeartbeats 1000000 in
theorem walk (s : ByteArray) (a y : Int) (w : World) (hsh : TiedW w) (hm : s.size ≤ maxLen) (wa : (Lit.int .i64 a).wf = true) (wy : (Lit.int .u16 y).wf = true) :
    Calls Tryd.prog 8 #[.string s, .int .i64 a, .int .u16 y] w fun e w' => e = .returned (.bool true) ∧ Below w.heap.size w w' := by
  have hy : 0 ≤ y ∧ y < 65536 := by
    have h' : IntKind.u16.min ≤ y ∧ y ≤ IntKind.u16.max := by simpa [Lit.wf] using wy
    exact ⟨Int.le_trans (by decide) h'.1, Int.lt_of_le_of_lt h'.2 (by decide)⟩
  clear wa wy
  obtain ⟨y, rfl⟩ := Int.eq_ofNat_of_zero_le hy.1
  have hy16 : y < 65536 := by omega
  clear hy
  by_cases hl : 20000 < s.size
  · have H := Lib.hid (fun W => long_yes s W hm hl)
    go_enter Tryd.func8, Tryd.ntmps8
    go_wp2_with fail
    refine (H.out _).mono ?_
    rintro e w1 ⟨rfl, rfl⟩
    go_wp2_with fail
    refine (awake_any _ hsh).mono ?_
    rintro e w9 ⟨rfl, hb9⟩
    go_wp2_with fail
    go_ret
    exact ⟨rfl, hb9⟩
  have hs : s.size ≤ 20000 := by omega
  have H := Lib.hid (fun W => long_no s W hs)
  by_cases ha0 : a < 0
  · go_enter Tryd.func8, Tryd.ntmps8
    go_wp2_with fail
    refine (H.out _).mono ?_
    rintro e w1 ⟨rfl, rfl⟩
    go_wp2_with fail
    refine (awake_any _ hsh).mono ?_
    rintro e w9 ⟨rfl, hb9⟩
    go_wp2_with fail
    go_ret
    exact ⟨rfl, hb9⟩
  obtain ⟨k, rfl⟩ := Int.eq_ofNat_of_zero_le (show 0 ≤ a by omega)
  have hd0 : decide ((k : Int) < 0) = false := by simp
  clear ha0
  by_cases hk : s.size / 2 ≤ k
  · have hd1 : decide ((s.size : Int) / 2 ≤ (k : Int)) = true := by simp; omega
    go_enter Tryd.func8, Tryd.ntmps8
    go_wp2_with fail
    refine (H.out _).mono ?_
    rintro e w1 ⟨rfl, rfl⟩
    go_wp2_with fail
    refine (awake_any _ hsh).mono ?_
    rintro e w9 ⟨rfl, hb9⟩
    go_wp2_with fail
    go_ret
    exact ⟨rfl, hb9⟩
  have hd1 : decide ((s.size : Int) / 2 ≤ (k : Int)) = false := by simp; omega
  have hk2 : 2 * k + 2 ≤ s.size := by omega
  have hx16 : num (sub s (2 * k) 2) < 65536 := by
    have := num_lt (sub s (2 * k) 2)
    rw [sub_length hk2] at this
    exact this
  have hans := answers (wsum s.data.toList) (wsum (s.extract 0 (2 * k) ++ str (leL 2 y).reverse ++ s.extract (2 * k + 2) s.size).data.toList) (num (sub s (2 * k) 2)) y (by omega) (by omega) (sums s k y hk2 (by omega))
  have hg := fun W => get_ok s (2 * (k : Int)) 2 W (by omega) (by omega) (by omega) (by omega) (by omega)
  rw [show (2 * (k : Int)).toNat = 2 * k by omega, show Int.toNat 2 = 2 from rfl] at hg
  have hp := fun W => put_yes y 2 W (by omega) (by omega) (by omega) (by omega) (by rw [Int.toNat_natCast]; show _ < 65536; omega)
  rw [Int.toNat_natCast, show Int.toNat 2 = 2 from rfl] at hp
  have hps : (str (leL 2 y).reverse).size = 2 := by rw [str_size, List.length_reverse, leL_length]
  have h1 := fun W => sum_any s W (by omega)
  have h2 := fun W => sum_any (s.extract 0 (2 * k) ++ str (leL 2 y).reverse ++ s.extract (2 * k + 2) s.size) W (by rw [ByteArray.size_append, ByteArray.size_append, ByteArray.size_extract, ByteArray.size_extract]; omega)
  have h3 := fun W => update_any (csum s.data.toList : Nat) (num (sub s (2 * k) 2) : Nat) y W
  unfold csum at h1 h2 h3
  have ra : 65535 - rep (wsum s.data.toList) ≤ 65535 := by omega
  have rb : 65535 - rep (wsum (s.extract 0 (2 * k) ++ str (leL 2 y).reverse ++ s.extract (2 * k + 2) s.size).data.toList) ≤ 65535 := by omega
  have h2k : 2 * (k : Int) = ((2 * k : Nat) : Int) := by omega
  have h2r : ((2 * k : Nat) : Int) + 2 = ((2 * k + 2 : Nat) : Int) := by omega
  have hw1 : IntKind.i64.wrap ((2 * k : Nat) : Int) = ((2 * k : Nat) : Int) := IntWalk.i64_in _ (by omega)
  have hw2 : IntKind.i64.wrap ((2 * k + 2 : Nat) : Int) = ((2 * k + 2 : Nat) : Int) := IntWalk.i64_in _ (by omega)
  have hb1 : ((2 * k : Nat) : Int) ≤ (s.size : Int) := by omega
  have hb2 : ((2 * k + 2 : Nat) : Int) ≤ (s.size : Int) := by omega
  have hb3 : 2 * k ≤ s.size := by omega
  have hb4 : 2 * k + 2 ≤ s.size := by omega
  have hsx : (s.extract 0 (2 * k)).size = 2 * k := by rw [ByteArray.size_extract]; omega
  have hsx2 : (s.extract (2 * k + 2) s.size).size = s.size - (2 * k + 2) := by rw [ByteArray.size_extract]; omega
  rw [h2k] at hg
  clear hk2
  generalize num (sub s (2 * k) 2) = x at *
  generalize str (leL 2 y).reverse = P at *
  generalize 2 * k + 2 = r at *
  generalize 2 * k = q at *
  generalize 65535 - rep (wsum (s.extract 0 q ++ P ++ s.extract r s.size).data.toList) = b at *
  generalize 65535 - rep (wsum s.data.toList) = a at *
  generalize upd (a : Int) x y = c at *
  have HG := Lib.hid hg
  have HP := Lib.hid hp
  have H1 := Lib.hid h1
  have H2 := Lib.hid h2
  have H3 := Lib.hid h3
  clear hg hp h1 h2 h3 hk hm
  have hmin : min q s.size = q := by omega
  have hc1 : (9223372036854775807 < q + P.size) = False := by rw [hps]; simp; omega
  have hc2 : (9223372036854775807 < q + P.size + (s.size - r)) = False := by rw [hps]; simp; omega
  clear hsx hsx2 hps
  obtain ⟨hA, hB⟩ := hans
  rcases hA with hA | ⟨hA, hA2⟩
  · rcases hB with hB | ⟨hB, hB2⟩
    · subst hB
      go_enter Tryd.func8, Tryd.ntmps8
      go_wp2_with fail
      refine (H.out _).mono ?_
      rintro e w1 ⟨rfl, rfl⟩
      go_wp2_with fail
      refine (HG.out _).mono ?_
      rintro e w2 ⟨rfl, hb2⟩
      have hs2 := Sh.kept hsh hb2
      go_wp2_with fail
      go_region_held3 (fun _ => True) (trivial) (first
        | (go_at_call 24; refine (HP.out _).mono ?_; rintro e w3 ⟨rfl, hb3d⟩; have hb3 : Below w2.heap.size w2 w3 := ⟨hb3d.os, hb3d.tape, hb3d.output, hb3d.size, hb3d.block⟩))
      have hs3 := Sh.kept hs2 hb3
      have hB3 := hb2.trans (hb3.mono hb2.size)
      go_wp2_with fail
      refine (H1.out _).mono ?_
      rintro e w1 ⟨rfl, rfl⟩
      go_wp2_with fail
      refine (H2.out _).mono ?_
      rintro e w1 ⟨rfl, rfl⟩
      go_wp2_with fail
      refine (H3.out _).mono ?_
      rintro e w1 ⟨rfl, rfl⟩
      go_wp2_with fail
      refine (awake_any _ hs3).mono ?_
      rintro e w9 ⟨rfl, hb9⟩
      go_wp2_with fail
      go_ret
      exact ⟨rfl, hB3.trans (hb9.mono hB3.size)⟩
    · subst hB hB2
      go_enter Tryd.func8, Tryd.ntmps8
      go_wp2_with fail
      refine (H.out _).mono ?_
      rintro e w1 ⟨rfl, rfl⟩
      go_wp2_with fail
      refine (HG.out _).mono ?_
      rintro e w2 ⟨rfl, hb2⟩
      have hs2 := Sh.kept hsh hb2
      go_wp2_with fail
      go_region_held3 (fun _ => True) (trivial) (first
        | (go_at_call 24; refine (HP.out _).mono ?_; rintro e w3 ⟨rfl, hb3d⟩; have hb3 : Below w2.heap.size w2 w3 := ⟨hb3d.os, hb3d.tape, hb3d.output, hb3d.size, hb3d.block⟩))
      have hs3 := Sh.kept hs2 hb3
      have hB3 := hb2.trans (hb3.mono hb2.size)
      go_wp2_with fail
      refine (H1.out _).mono ?_
      rintro e w1 ⟨rfl, rfl⟩
      go_wp2_with fail
      refine (H2.out _).mono ?_
      rintro e w1 ⟨rfl, rfl⟩
      go_wp2_with fail
      refine (H3.out _).mono ?_
      rintro e w1 ⟨rfl, rfl⟩
      go_wp2_with fail
      refine (awake_any _ hs3).mono ?_
      rintro e w9 ⟨rfl, hb9⟩
      go_wp2_with fail
      go_ret
      exact ⟨rfl, hB3.trans (hb9.mono hB3.size)⟩
  · rcases hB with hB | ⟨hB, hB2⟩
    · subst hB
      go_enter Tryd.func8, Tryd.ntmps8
      go_wp2_with fail
      refine (H.out _).mono ?_
      rintro e w1 ⟨rfl, rfl⟩
      go_wp2_with fail
      refine (HG.out _).mono ?_
      rintro e w2 ⟨rfl, hb2⟩
      have hs2 := Sh.kept hsh hb2
      go_wp2_with fail
      go_region_held3 (fun _ => True) (trivial) (first
        | (go_at_call 24; refine (HP.out _).mono ?_; rintro e w3 ⟨rfl, hb3d⟩; have hb3 : Below w2.heap.size w2 w3 := ⟨hb3d.os, hb3d.tape, hb3d.output, hb3d.size, hb3d.block⟩))
      have hs3 := Sh.kept hs2 hb3
      have hB3 := hb2.trans (hb3.mono hb2.size)
      go_wp2_with fail
      refine (H1.out _).mono ?_
      rintro e w1 ⟨rfl, rfl⟩
      go_wp2_with fail
      refine (H2.out _).mono ?_
      rintro e w1 ⟨rfl, rfl⟩
      go_wp2_with fail
      refine (H3.out _).mono ?_
      rintro e w1 ⟨rfl, rfl⟩
      go_wp2_with fail
      refine (awake_any _ hs3).mono ?_
      rintro e w9 ⟨rfl, hb9⟩
      go_wp2_with fail
      go_ret
      exact ⟨rfl, hB3.trans (hb9.mono hB3.size)⟩
    · subst hB hB2
      have hA3 : ((a : Int) == 65535) = false := hA2
      clear hA2
      go_enter Tryd.func8, Tryd.ntmps8
      go_wp2_with fail
      refine (H.out _).mono ?_
      rintro e w1 ⟨rfl, rfl⟩
      go_wp2_with fail
      refine (HG.out _).mono ?_
      rintro e w2 ⟨rfl, hb2⟩
      have hs2 := Sh.kept hsh hb2
      go_wp2_with fail
      go_region_held3 (fun _ => True) (trivial) (first
        | (go_at_call 24; refine (HP.out _).mono ?_; rintro e w3 ⟨rfl, hb3d⟩; have hb3 : Below w2.heap.size w2 w3 := ⟨hb3d.os, hb3d.tape, hb3d.output, hb3d.size, hb3d.block⟩))
      have hs3 := Sh.kept hs2 hb3
      have hB3 := hb2.trans (hb3.mono hb2.size)
      go_wp2_with fail
      refine (H1.out _).mono ?_
      rintro e w1 ⟨rfl, rfl⟩
      go_wp2_with fail
      refine (H2.out _).mono ?_
      rintro e w1 ⟨rfl, rfl⟩
      go_wp2_with fail
      refine (H3.out _).mono ?_
      rintro e w1 ⟨rfl, rfl⟩
      go_wp2_with fail
      refine (awake_any _ hs3).mono ?_
      rintro e w9 ⟨rfl, hb9⟩
      go_wp2_with fail
      go_ret
      exact ⟨rfl, hB3.trans (hb9.mono hB3.size)⟩

set_option maxRecDepth 100000 in
theorem lifted (os : Os) (started : os.Started) (H : Type) (enc : TypeId × Value → H) :
    ReturnsInHanded {} Tryd.checked os 8 .any (fun w args => (Rows.checksumDetectsSpec.pre enc Tryd.prog Tryd.f8 [] false w args ∧ laidMetH Tryd.prog laidL w) ∧ sizedMet enc Tryd.prog Tryd.f8 (OpenSpec.ofChange Rows.checksumDetectsSpec) false w args) (Rows.checksumDetectsSpec.post enc Tryd.prog Tryd.f8 false true false false) := by
  refine returnsInHanded_of_change_and (C := Tryd.checked) (X := fun w _ => laidMetH Tryd.prog laidL w) (fun _ _ _ hh h => h.of_heap hh) own started (by kernel_rfl) Tryd.func8
    (ChangeSpec.witness_shaped (enc := enc) (C := Tryd.checked) (os := os) (X := fun w _ => laidMetH Tryd.prog laidL w) false (World.doorLaid Tryd.prog 400 os) #[.string ⟨#[]⟩, .int .i64 0, .int .u16 0] 8 rfl (World.shaped_of_RefB (by kernel_rfl) (by kernel_rfl)) (by kernel_rfl) (by kernel_rfl) (by kernel_rfl) (door_met os _)) ?_
  intro W base args ds gs before hval0 hW _ _ hL _
  have hval : ∀ (j : Nat) t v, Tryd.f8.params[j]? = some t → args[j]? = some v → Value.okWide Tryd.prog W .any base t v := hval0
  have hW' := hW
  obtain ⟨p, q, hA0, hV, rfl, hfz, hnd⟩ := hW
  have hA : DataW.TrodAll enc Tryd.prog W 0 (fun _ => true) true Tryd.f8.params.toList args.toList ds p := hA0
  rw [Tryd.params8] at hA hval
  obtain ⟨v0, vs0, d0, ds0, p0, q0, hargs, rfl, rfl, h0, r0⟩ := trodAll_cons hA
  obtain ⟨v1, vs1, d1, ds1, p1, q1, rfl, rfl, rfl, h1, r1⟩ := trodAll_cons r0
  obtain ⟨v2, vs2, d2, ds2, p2, q2, rfl, rfl, rfl, h2, r2⟩ := trodAll_cons r1
  obtain ⟨rfl, rfl, rfl⟩ := trodAll_nil r2
  obtain rfl : args = #[v0, v1, v2] := by cases args; simp_all
  obtain ⟨rfl, rfl⟩ := trodVars_none hV
  obtain ⟨a0, rfl, rfl, rfl, w0⟩ := open_string Tryd.underlying9 (hval 0 9 v0 rfl rfl) h0
  obtain ⟨a1, rfl, rfl, rfl, w1⟩ := open_int Tryd.underlying3 (hval 1 3 v1 rfl rfl) h1
  obtain ⟨a2, rfl, rfl, rfl, w2⟩ := open_int Tryd.underlying38 (hval 2 38 v2 rfl rfl) h2
  clear hA0 hval0
  refine (walk a0 a1 a2 W (tied_of_laid hL) w0 w1 w2).mono fun e W' ⟨he, bel⟩ => ?_
  subst he
  exact ⟨_, rfl, _, _, _, [], _, [], hW', trodAll_mk1 (shut_bool Tryd.underlying4 _), (trodAll_cons_mk (shut_string Tryd.underlying9 w0) (trodAll_cons_mk (shut_int Tryd.underlying3 w1) (trodAll_cons_mk (shut_int Tryd.underlying38 w2) trodAll_mk0))), rfl, bel.frame _, fun h => by cases h⟩

theorem over : Rows.checksumDetectsRow.holds Tryd.pinned (OpenSpec.ofChange Rows.checksumDetectsSpec) :=
  OpenClaim.holds_of_wide 8 Tryd.f8 rfl rfl rfl rfl rfl rfl rfl ⟨rfl, rfl, rfl, rfl, rfl⟩ rfl rfl rfl rfl rfl (by kernel_rfl) Tryd.func8 (by kernel_rfl)
    (of_decide_eq_true (by kernel_rfl)) (by unfold Func.isWrapper; first | (rw [if_pos (by decide +kernel)]; kernel_rfl) | (rw [if_neg (by decide +kernel)]; exact ⟨rfl, rfl⟩))
    (fun os started H enc _ => lifted os started H enc)

theorem bare : Rows.ChecksumDetectsSaid := over

/-- The tied card. -/
theorem proved : Rows.ChecksumDetectsCardSaid :=
  Claim7.holds_tied_plain_at .later [] _ true _ false
    bare (fun _ h => by cases h) (by kernel_rfl) (fun _ h => by cases h) checksumDetects_row_tie rfl ⟨rfl, rfl⟩ (by kernel_rfl) rfl
    (fun f fn hf hfn => by
      obtain rfl : f = 8 := Option.some.inj ((show Tryd.prog.funcNamed "intrusion/intrusionlaw02.ChecksumDetects" = some 8 by kernel_rfl).symm.trans hf) |>.symm
      obtain rfl : fn = Tryd.f8 := (Option.some.inj (Tryd.func8.symm.trans hfn)).symm
      exact ⟨by kernel_rfl, fun j t ht => by
        rw [Tryd.params8] at ht
        have hm : t ∈ [9, 3, 38] := by simpa using Array.mem_of_getElem? ht
        have hall : ([9, 3, 38].all fun u => !Tryd.prog.wantsStandIn u) = true := by kernel_rfl
        exact (show Tryd.prog.wantsStandIn t = false by simpa using List.all_eq_true.1 hall t hm)⟩)
    (by kernel_rfl)
#print axioms proved

end Go.Proofs.YtajoejpodflnlaaDoor.checksumDetects
