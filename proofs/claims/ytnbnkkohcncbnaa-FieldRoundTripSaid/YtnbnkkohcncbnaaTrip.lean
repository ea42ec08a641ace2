/- FieldRoundTrip holds: for every place (a size, what stands before and after) and every number the law that reading returns what was written returns true and leaves memory as it was. No condition. -/
import Derived.Test.YtnbnkkohcncbnaaAwake
import Derived.Lib.SmallJoins
namespace Go.Proofs.Ytnbnkkohcncbnaa.fieldRoundTrip
open Go.ChangeShapes Go.WideShapes Go.ChangeAt Go.RowKit Go.Joins
open Go.ChangeMaps (open_string shut_string)
set_option linter.unusedVariables false

theorem own : ownKnob Try.prog.godebug = none := by kernel_rfl
theorem laidOut : laidOutB Try.prog = true := by kernel_rfl
theorem cellsPlace : Try.prog.cellsOf 30 = 3 := by kernel_rfl

theorem long (z : Nat) (b a : ByteArray) (n : Int) (w : World) (hb : b.size ≤ maxLen) (ha : a.size ≤ maxLen) (h : 100 < b.size ∨ 100 < a.size) :
    Calls Try.prog 5 #[.agg #[.int .u8 (z : Int), .string b, .string a], .int .u64 n] w fun e w' => e = .returned (.bool true) ∧ Below w.heap.size w w' := by
  unfold maxLen at hb ha
  by_cases h1 : 100 < b.size
  · go_enter Try.func5, Try.ntmps5
    go_wp2_with fail
    go_quiet (fail)
    go_wp2_with fail
    refine (awake_any _).mono ?_
    rintro e v5 ⟨rfl, hb5⟩
    go_wp2_with fail
    go_ret
    exact ⟨rfl, (below_drewN ((Below.refl _ _).alloc (Nat.le_refl _) _) _).trans (hb5.mono (by simp))⟩
  · have h2 : 100 < a.size := by omega
    have hd : decide (100 < (b.size : Int)) = false := by simp; omega
    go_enter Try.func5, Try.ntmps5
    go_wp2_with fail
    go_quiet (fail)
    go_wp2_with fail
    refine (awake_any _).mono ?_
    rintro e v5 ⟨rfl, hb5⟩
    go_wp2_with fail
    go_ret
    exact ⟨rfl, (below_drewN ((Below.refl _ _).alloc (Nat.le_refl _) _) _).trans (hb5.mono (by simp))⟩

theorem val_lt (n k : Nat) (hn : n < 18446744073709551616) (h1 : 1 ≤ k) (h7 : k ≤ 7) : n / 256 / pw (7 - k) < pw k := by
  rw [Nat.div_lt_iff_lt_mul (pw_pos _)]
  have e : pw k * pw (7 - k) = 72057594037927936 := by
    unfold pw
    rw [← Nat.pow_add, show k + (7 - k) = 7 by omega]
  rw [e]
  omega

theorem rev_at (k v i : Nat) (A B : ByteArray) (hA : A = str (leL k v).reverse) (hB : B = str (leL k v)) (hi : i < A.size) (hj : k - 1 - i < B.size) : A[i] = B[k - 1 - i] := by
  subst hA hB
  have hl : (leL k v).length = k := leL_length k v
  have h1 : i < k := by rwa [str_size, List.length_reverse, hl] at hi
  show (leL k v).reverse.toArray[i]'(by simp; omega) = (leL k v).toArray[k - 1 - i]'(by simp; omega)
  simp [hl]

theorem cut_mid (B A L : List UInt8) : ((B ++ L ++ A).drop B.length).take L.length = L := by
  rw [List.append_assoc, List.drop_left, List.take_left]

/-- The part between what stands before and after. -/
theorem sub_mid (b a : ByteArray) (L : List UInt8) (k : Nat) (hk : L.length = k) : sub (b ++ str L ++ a) b.size k = L := by
  unfold sub
  have e : (b ++ str L ++ a).data.toList = b.data.toList ++ L ++ a.data.toList := by simp [str]
  have hb : b.size = b.data.toList.length := by simp
  rw [e, hb, ← hk]
  exact cut_mid _ _ _

set_option maxHeartbeats 800000 in
theorem core (z : Nat) (b a : ByteArray) (n : Nat) (w : World) (hz : z < 256) (hb : b.size ≤ 100) (ha : a.size ≤ 100) (hn : n < 18446744073709551616) :
    Calls Try.prog 5 #[.agg #[.int .u8 (z : Int), .string b, .string a], .int .u64 (n : Int)] w fun e w' => e = .returned (.bool true) ∧ Below w.heap.size w w' := by
  have hd1 : decide (100 < (b.size : Int)) = false := by simp; omega
  have hd2 : decide (100 < (a.size : Int)) = false := by simp; omega
  go_enter Try.func5, Try.ntmps5
  go_wp2_with fail
  go_quiet (fail)
  go_wp2_with fail
  have e1 : (1 + (z : Int) % 7) = ((1 + z % 7 : Nat) : Int) := by omega
  have e2 : (n : Int) / 256 / 2 ^ (8 * (7 - (1 + z % 7))) = ((n / 256 / pw (7 - (1 + z % 7)) : Nat) : Int) := by rw [two_pow_pw']; simp
  have hv := val_lt n (1 + z % 7) hn (by omega) (by omega)
  have hk1 : 1 ≤ 1 + z % 7 := by omega
  have hk7 : 1 + z % 7 ≤ 7 := by omega
  rw [e1, e2]
  clear e1 e2 hd1 hd2
  generalize n / 256 / pw (7 - (1 + z % 7)) = v at *
  generalize 1 + z % 7 = k at *
  have hv7 : v < 72057594037927936 := Nat.lt_of_lt_of_le hv (pw_le7 hk7)
  have cput := fun W => put_yes v k W (by omega) (by omega) (by omega) (by omega) (by simpa using hv)
  have cputl := fun W => putl_yes v k W (by omega) (by omega) (by omega) (by omega) (by simpa using hv)
  rw [Int.toNat_natCast, Int.toNat_natCast] at cput cputl
  have hsA : (b ++ str (leL k v).reverse ++ a).size = b.size + k + a.size := by rw [ByteArray.size_append, ByteArray.size_append, str_size, List.length_reverse, leL_length]
  have hsB : (b ++ str (leL k v) ++ a).size = b.size + k + a.size := by rw [ByteArray.size_append, ByteArray.size_append, str_size, leL_length]
  have hval : num (leL k v).reverse = v := by rw [num_reverse_leL]; exact Nat.mod_eq_of_lt hv
  have cget := fun W => get_ok (b ++ str (leL k v).reverse ++ a) (b.size : Int) k W (by omega) (by omega) (by omega) (by omega) (by omega)
  have cgetl := fun W => getl_ok (b ++ str (leL k v) ++ a) (b.size : Int) k W (by omega) (by omega) (by omega) (by omega) (by omega)
  rw [Int.toNat_natCast, Int.toNat_natCast, sub_mid b a _ k (by rw [List.length_reverse, leL_length]), hval] at cget
  rw [Int.toNat_natCast, Int.toNat_natCast, sub_mid b a _ k (by rw [leL_length]), hval] at cgetl
  clear hsA hsB hval
  generalize hA : str (leL k v).reverse = A at cput cget
  generalize hB : str (leL k v) = B at cputl cgetl
  have hAs : A.size = k := by rw [← hA, str_size, List.length_reverse, leL_length]
  have hBs : B.size = k := by rw [← hB, str_size, leL_length]
  have hrev := fun i hi hj => rev_at k v i A B hA.symm hB.symm hi hj
  have HA := Lib.hid hA
  have HB := Lib.hid hB
  have HR := Lib.hid hrev
  have C1 := Lib.hid cput
  have C2 := Lib.hid cputl
  have C3 := Lib.hid cget
  have C4 := Lib.hid cgetl
  have d1 : ((A.size : Int) != (k : Int)) = false := by rw [hAs]; simp
  have d2 : ((B.size : Int) != (k : Int)) = false := by rw [hBs]; simp
  have hA1 : A.size ≤ k := by omega
  have hA2 : k ≤ A.size := by omega
  have hB1 : B.size ≤ k := by omega
  have hB2 : k ≤ B.size := by omega
  have HAs := Lib.hid hAs
  have HBs := Lib.hid hBs
  clear hA hB hrev cput cputl hAs hBs cget cgetl
  refine (C1.out _).mono ?_
  rintro e w1 ⟨rfl, hb1⟩
  go_wp2_with fail
  refine (C2.out _).mono ?_
  rintro e w2 ⟨rfl, hb2⟩
  go_wp2_with fail
  have hB2w : Below w.heap.size w w2 := ((below_drewN ((Below.refl _ _).alloc (Nat.le_refl _) _) _).trans (hb1.mono (by simp))).trans (hb2.mono (by have := hb1.size; simp at this; omega))
  go_loopw [11] (fun i wr => ∃ x : Nat, x ≤ k ∧ i = .int .i64 x ∧ Below w.heap.size w wr) (fun i _ => k - (intOf i).toNat)
  case atStart => exact ⟨0, by omega, rfl, hB2w⟩
  case round =>
    obtain ⟨x, hx, rfl, hbw⟩ := hrel
    by_cases hlt : x < k
    · have hxa : x < A.size := by omega
      have hxb : k - 1 - x < B.size := by omega
      have hw1 : IntKind.i64.wrap ((k : Int) - 1) = (k : Int) - 1 := IntWalk.i64_in _ (by omega)
      have hw2 : IntKind.i64.wrap ((k : Int) - 1 - (x : Int)) = ((k - 1 - x : Nat) : Int) := by rw [IntWalk.i64_in _ (by omega)]; omega
      have hne : ((A[x].toNat : Int) != (B[k - 1 - x].toNat : Int)) = false := by rw [HR.out x hxa hxb]; simp
      generalize k - 1 - x = j at *
      go_wp2_with fail
      go_quiet (fail)
      go_wp2_with fail
      go_roundw
      case rel => exact ⟨x + 1, by omega, by go_num, below_drewN hbw _⟩
      case measure => simp [intOf]; omega
    · go_wp2_with fail
      refine (C3.out _).mono ?_
      rintro e w3 ⟨rfl, hb3⟩
      go_wp2_with fail
      refine (C4.out _).mono ?_
      rintro e w4 ⟨rfl, hb4⟩
      go_wp2_with fail
      refine (awake_any _).mono ?_
      rintro e w5 ⟨rfl, hb5⟩
      go_wp2_with fail
      go_ret
      have k3 := hbw.trans (hb3.mono hbw.size)
      have k4 := k3.trans (hb4.mono k3.size)
      exact ⟨rfl, k4.trans (hb5.mono k4.size)⟩

theorem walk (z : Nat) (b a : ByteArray) (n : Int) (w : World) (hz : z < 256) (hb : b.size ≤ maxLen) (ha : a.size ≤ maxLen) (w1 : (Lit.int .u64 n).wf = true) :
    Calls Try.prog 5 #[.agg #[.int .u8 (z : Int), .string b, .string a], .int .u64 n] w fun e w' => e = .returned (.bool true) ∧ Below w.heap.size w w' := by
  have hn : 0 ≤ n ∧ n < 18446744073709551616 := by
    have h' : IntKind.u64.min ≤ n ∧ n ≤ IntKind.u64.max := by simpa [Lit.wf] using w1
    exact ⟨Int.le_trans (by decide) h'.1, Int.lt_of_le_of_lt h'.2 (by decide)⟩
  obtain ⟨m, rfl⟩ := Int.eq_ofNat_of_zero_le hn.1
  by_cases hl : 100 < b.size ∨ 100 < a.size
  · exact long z b a m w hb ha hl
  · exact core z b a m w hz (by omega) (by omega) (by omega)

set_option maxRecDepth 100000 in
theorem lifted (os : Os) (started : os.Started) (H : Type) (enc : TypeId × Value → H) :
    ReturnsInHanded {} Try.checked os 5 .any (Rows.fieldRoundTripSpec.pre6 enc Try.prog Try.f5 Rows.fieldRoundTripRow.domain false) (Rows.fieldRoundTripSpec.post enc Try.prog Try.f5 false true false false) := by
  refine returnsInHanded_of_change (C := Try.checked) own started (by kernel_rfl) Try.func5
    (ChangeSpec.witness6 (enc := enc) (C := Try.checked) false ⟨#[], #[.agg #[.int .u8 0, .string ⟨#[]⟩, .string ⟨#[]⟩], .int .u64 0], []⟩ 8 (by kernel_rfl) (by kernel_rfl) (by kernel_rfl) (by kernel_rfl)) ?_
  intro W base args ds gs before hval0 hW hcnd _
  have hval : ∀ (j : Nat) t v, Try.f5.params[j]? = some t → args[j]? = some v → Value.okWide Try.prog W .any base t v := hval0
  have hW' := hW
  obtain ⟨p, q, hA0, hV, rfl, hfz, hnd⟩ := hW
  have hA : DataW.TrodAll enc Try.prog W 0 (fun _ => true) true Try.f5.params.toList args.toList ds p := hA0
  rw [Try.params5] at hA hval
  obtain ⟨v0, vs0, d0, ds0, p0, q0, hargs, rfl, rfl, h0, r0⟩ := trodAll_cons hA
  obtain ⟨v1, vs1, d1, ds1, p1, q1, rfl, rfl, rfl, h1, r1⟩ := trodAll_cons r0
  obtain ⟨rfl, rfl, rfl⟩ := trodAll_nil r1
  obtain rfl : args = #[v0, v1] := by cases args; simp_all
  obtain ⟨rfl, rfl⟩ := trodVars_none hV
  have k0 := h0
  have lt0 : ∀ x ∈ p0, x.block < W.heap.size := by obtain ⟨m, hm⟩ := k0; exact DataW.trod_lt m _ _ _ hm
  obtain ⟨c0, c1, c2, y0, y1, y2, m, rfl, rfl, rfl, hy0, hy1, hy2⟩ := open_agg3 Try.underlying30 (by kernel_rfl) cellsPlace (hval 0 30 v0 rfl rfl) h0
  obtain ⟨z, e0, rfl, wz⟩ := DataW.trod_int Try.underlying5 hy0
  obtain ⟨b, e1, rfl, wb⟩ := DataW.trod_string Try.underlying9 hy1
  obtain ⟨a, e2, rfl, wa⟩ := DataW.trod_string Try.underlying9 hy2
  simp at e0 e1 e2
  subst e0 e1 e2
  have hz : 0 ≤ z ∧ z < 256 := by
    have h' : IntKind.u8.min ≤ z ∧ z ≤ IntKind.u8.max := by simpa [Lit.wf] using wz
    exact ⟨Int.le_trans (by decide) h'.1, Int.lt_of_le_of_lt h'.2 (by decide)⟩
  obtain ⟨zn, rfl⟩ := Int.eq_ofNat_of_zero_le hz.1
  obtain ⟨a1, rfl, rfl, rfl, w1⟩ := open_int Try.underlying31 (hval 1 31 v1 rfl rfl) h1
  clear hA0 hval0
  refine (walk zn b a a1 W (by omega) wb wa w1).mono fun e W' ⟨he, bel⟩ => ?_
  subst he
  exact ⟨_, rfl, _, _, _, [], _, [], hW', trodAll_mk1 (shut_bool Try.underlying4 _), (trodAll_cons_mk (Below.trod laidOut (by kernel_rfl) (of_decide_eq_true (by kernel_rfl)) k0 bel lt0) (trodAll_cons_mk (shut_int Try.underlying31 w1) trodAll_mk0)), rfl, bel.frame _, fun h => by cases h⟩

theorem over : Rows.fieldRoundTripRow.holds Try.pinned (OpenSpec.ofChange Rows.fieldRoundTripSpec) :=
  OpenClaim.holds_of_wide 5 Try.f5 rfl rfl rfl rfl rfl rfl rfl ⟨rfl, rfl, rfl, rfl, rfl⟩ rfl rfl rfl rfl rfl (by kernel_rfl) Try.func5 (by kernel_rfl)
    (of_decide_eq_true (by kernel_rfl)) (by unfold Func.isWrapper; first | (rw [if_pos (by decide +kernel)]; kernel_rfl) | (rw [if_neg (by decide +kernel)]; exact ⟨rfl, rfl⟩))
    (fun os started H enc _ => lifted os started H enc)

theorem proved : Rows.FieldRoundTripSaid := over
#print axioms proved
end Go.Proofs.Ytnbnkkohcncbnaa.fieldRoundTrip
