/- The statement AddrsetPrefixes. -/
import Derived.Test.YtmcelgnifpfjpaaRows
import Derived.Test.YtmcelgnifpfjpaaAPr6
import Derived.Test.YtmcelgnifpfjpaaAPr7
import Derived.Test.YtmcelgnifpfjpaaAPr8
namespace Go.Proofs.Ytmcelgnifpfjpaa.addrsetPrefixes
open Go.ChangeShapes Go.WideShapes Go.ChangeAt Go.RowKit
set_option linter.unusedVariables false

theorem own : ownKnob Try.prog.godebug = none := by kernel_rfl
theorem laidOut : laidOutB Try.prog = true := by kernel_rfl
theorem ch_mem {W lo hi : Nat} : ∀ {x : List (Nat × Nat)} {a b : Nat}, Ch W lo hi a x b → ∀ q ∈ x, GoodB W lo hi q.1 q.2
  | [], _, _, _, q, hq => by cases hq
  | (n, e) :: r, a, b, ⟨_, h2, h3⟩, q, hq => by
    rcases List.mem_cons.1 hq with rfl | hq
    · exact h2
    · exact ch_mem h3 q hq
theorem raw_fits {L : List Rg} (h : ∀ r ∈ L, someR r = true ∧ r.fits) : ∀ p ∈ rawL L, p.fits := fun p hp => by
  obtain ⟨x, hx, hp⟩ := List.mem_flatMap.1 hp
  obtain ⟨q, hq, rfl⟩ := List.mem_map.1 hp
  have hx := h x hx
  obtain ⟨x1, x2, x3, x4⟩ := someR_iff.1 hx.1
  have k1 := nA_key hx.2.1 x1
  have k2 := nA_key hx.2.2 x2
  rw [← x3] at k2
  have hg := ch_mem (dec_all (W := width x.lo.v) (lo := nA x.lo) (hi := nA x.hi) (by omega) k2.2) q hq
  have hp := Nat.two_pow_pos q.2
  have := hg.high
  exact (adN_fits (v := x.lo.v) (n := q.1) (by omega)).1
theorem pref_or (L : List Rg) : prefL L = [] ∨ prefL L = rawL L := by
  unfold prefL
  split
  · exact .inr rfl
  · exact .inl rfl
theorem pref_len (L : List Rg) : (prefL L).length ≤ 256 := by
  unfold prefL
  split
  · assumption
  · simp
set_option maxHeartbeats 4000000 in
set_option maxRecDepth 20000 in
theorem walk (A0 : Option Addr) (c0 : Nat) (l0 : List Rg) (w : World) (s0 : RowL ER w A0 l0) (n0 : A0 = none → c0 = 0) (f0 : ∀ r ∈ l0, r.fits) :
    Calls Try.prog 6 #[.slice A0 l0.length c0] w fun e w' => e = .returned (.bool true) ∧ Below w.heap.size w w' := by
  have HW := Lib.hid (few_any A0 none l0.length c0 0 0 w)
  have HAW := Lib.hid awake_any
  rw [show decide (0 ≤ 16) = true by decide, Bool.and_true] at HW
  cases hfew : decide (l0.length ≤ 16) with
  | false =>
    rw [hfew] at HW
    generalize l0.length = q0 at *
    clear s0 n0 f0 hfew
    go_enter Try.func6, Try.ntmps6
    go_wp2_with fail
    refine (HW.out).mono ?_
    rintro e w1 ⟨rfl, rfl⟩
    go_wp2_with fail
    refine (HAW.out _).mono ?_
    rintro e w2 ⟨rfl, hb⟩
    go_wp2_with fail
    go_ret
    exact ⟨rfl, hb⟩
  | true =>
    rw [hfew] at HW
    have b0 := of_decide_eq_true hfew
    have H1 := Lib.hid (fun (W : World) (hb : Below w.heap.size w W) => pprefixes_any A0 c0 l0 W (s0.kept hb) f0 (by omega))
    have H2 := Lib.hid (fun (W : World) (hb : Below w.heap.size w W) => rprefixes_any A0 c0 l0 W (s0.kept hb) f0 (by omega))
    have H3 := Lib.hid (fun (W : World) (hb : Below w.heap.size w W) => pnormal_any A0 c0 l0 W (s0.kept hb) f0 (by omega))
    generalize l0.length = q0 at *
    clear s0 n0 f0 hfew
    have B0 := Lib.hid (Below.refl w.heap.size w)
    obtain ⟨w0, hw0⟩ : ∃ w0, w0 = w := ⟨w, rfl⟩
    rw [← hw0] at H1 H2 H3 B0 HW ⊢
    clear hw0
    go_enter Try.func6, Try.ntmps6
    go_wp2_with fail
    refine (HW.out).mono ?_
    rintro e w1 ⟨rfl, hw⟩
    have hw := hw.symm
    subst hw
    go_wp2_with fail
    refine (H1.out _ B0.out).mono ?_
    rintro e w2 ⟨La, Aa, na, ca, g1, g2, rfl, g3, hb⟩
    have B1 := Lib.hid (B0.out.trans (hb.mono B0.out.size))
    clear hb B0
    go_wp2_with fail
    refine (H2.out _ B1.out).mono ?_
    rintro e w3 ⟨Lb, Ab, nb, cb, k1, k2, rfl, k3, hb⟩
    obtain rfl := good_uniq g1 k1 (fun m => (g2 m).trans (k2 m).symm)
    obtain rfl : na = nb := g3.1.trans k3.1.symm
    have B2 := Lib.hid (B1.out.trans (hb.mono B1.out.size))
    have HRa := Lib.hid ((g3.kept hb).row)
    have HRb := Lib.hid k3.row
    have HN := Lib.hid g3.1
    have hn : na ≤ 256 := by rw [g3.1]; exact pref_len La
    have HFP := Lib.hid (show ∀ p ∈ prefL La, p.fits from fun p hp => by
      rcases pref_or La with e | e
      · rw [e] at hp; cases hp
      · rw [e] at hp; exact raw_fits (fun r hr => g1.1 r hr) p hp)
    have HSE := Lib.hid (show 0 < (prefL La).length → ∀ m, anyS (spnL (ofL (prefL La))) m = anyS (spnL l0) m from fun hp m => by
      rcases pref_or La with e | e
      · rw [e] at hp; cases hp
      · rw [e, rawL_any (fun r hr => g1.1 r hr) m, g2 m])
    generalize prefL La = P at *
    clear g1 g2 g3 k1 k2 k3 hb B1 H1 H2 HW
    have hm := pfx_guard
    go_wp2_with fail
    go_loopw [5] (fun i wr => ∃ k : Nat, k ≤ na ∧ i = .int .i64 k ∧ Hid (RowL EP wr Aa P) ∧ Hid (RowL EP wr Ab P) ∧ Hid (Below w0.heap.size w0 wr)) (fun i _ => na - (intOf i).toNat)
    case atStart => exact ⟨0, Nat.zero_le _, rfl, HRa, HRb, B2⟩
    case round =>
      clear HRa HRb B2
      obtain ⟨k, hk, rfl, T1, T2, hB⟩ := hrel
      by_cases hlt : k < na
      · have hkl : k < P.length := by rw [← HN.out]; exact hlt
        obtain ⟨⟨v1, p1, l1, z1⟩, hget⟩ : ∃ s, P[k]? = some s := ⟨P[k], List.getElem?_eq_getElem hkl⟩
        obtain ⟨g1, o1, rfl, hg1⟩ := T1.out.shape (by omega)
        obtain ⟨g2, o2, rfl, hg2⟩ := T2.out.shape (by omega)
        obtain ⟨a0, a1, a2, a3⟩ := pf_at T1.out hget (Below.refl _ _)
        obtain ⟨b0, b1, b2, b3⟩ := pf_at T2.out hget (Below.refl _ _)
        have q1 := fun W => pfx_neq v1 p1 l1 z1 W
        have hki : (k : Int) < (na : Int) := by omega
        have hki0 : (0 : Int) ≤ (k : Int) := by omega
        clear hget hkl
        go_wp2_with fail
        go_quiet (fail)
        have hB2 := Lib.hid (below_drewN7 hB.out nq)
        have T12 := Lib.hid (T1.out.drewN nq)
        have T22 := Lib.hid (T2.out.drewN nq)
        clear hB T1 T2 a0 a1 a2 a3 b0 b1 b2 b3 q1
        generalize wr.drewN nq = w2 at *
        go_wp2_with fail
        go_roundw
        case rel => exact ⟨k + 1, by omega, by go_num, T12, T22, hB2⟩
        case measure => simp [intOf]; omega
      · have hd : decide ((k : Int) < (na : Int)) = false := by simp; omega
        by_cases hz : na = 0
        · have hz1 : ((na : Int) == 0) = true := by simp [hz]
          have hz2 : decide ((na : Int) = 0) = true := by simp [hz]
          clear hz
          go_wp2_with fail
          refine (HAW.out _).mono ?_
          rintro e w2 ⟨rfl, hb⟩
          have B5 := Lib.hid (hB.out.trans (hb.mono hB.out.size))
          clear hb
          go_wp2_with fail
          go_ret
          exact ⟨rfl, B5.out⟩
        · have hz1 : ((na : Int) == 0) = false := by simp; omega
          have hz2 : decide ((na : Int) = 0) = false := by simp; omega
          have hz3 : ¬ (na : Int) = 0 := by omega
          have HPO := Lib.hid (pof_any Aa ca P wr T1.out HFP.out (by rw [← HN.out]; omega))
          have HSE2 := Lib.hid (HSE.out (by rw [← HN.out]; omega))
          rw [← HN.out] at HPO
          have hnb : na ≤ 256 := hn
          clear hz HSE HN T1 T2
          go_wp2_with fail
          refine (HPO.out).mono ?_
          rintro e w2 ⟨Lc, Ac, nc, cc, m1, m2, m3, rfl, m5, hb⟩
          have B5 := Lib.hid (hB.out.trans (hb.mono hB.out.size))
          have HOc := Lib.hid m5
          have HGc := Lib.hid (And.intro m1 m2)
          have hnc : nc ≤ 256 := Nat.le_trans m3 hnb
          clear hb hB m1 m2 m3 m5 HPO
          go_wp2_with fail
          refine (H3.out _ B5.out).mono ?_
          rintro e w4 ⟨Ld, Ad, nd, cd, m1, m2, m3, rfl, m5, hb⟩
          have B6 := Lib.hid (B5.out.trans (hb.mono B5.out.size))
          have HOc2 := Lib.hid (HOc.out.kept hb)
          have HOd := Lib.hid m5
          have HGd := Lib.hid (And.intro m1 m2)
          clear hb B5 HOc m1 m2 m3 m5 H3
          go_wp2_with fail
          refine (same7_own _ _ Ac Ad nc nd cc cd Lc Ld _ HOc2.out HOd.out (good_uniq HGc.out.1 HGd.out.1 (fun m => by rw [HGc.out.2 m, HGd.out.2 m]; exact HSE2.out m)) (by omega)).mono ?_
          rintro e w5 ⟨rfl, hb⟩
          have B7 := Lib.hid (B6.out.trans (hb.mono B6.out.size))
          clear hb B6
          go_wp2_with fail
          refine (HAW.out _).mono ?_
          rintro e w6 ⟨rfl, hb⟩
          have B8 := Lib.hid (B7.out.trans (hb.mono B7.out.size))
          clear hb B7
          go_wp2_with fail
          go_ret
          exact ⟨rfl, B8.out⟩
set_option maxRecDepth 100000 in
theorem lifted (os : Os) (started : os.Started) (H : Type) (enc : TypeId × Value → H) :
    ReturnsInHanded {} Try.checked os 6 .any (Rows.addrsetPrefixesSpec.pre6 enc Try.prog Try.f6 Rows.addrsetPrefixesRow.domain false) (Rows.addrsetPrefixesSpec.post enc Try.prog Try.f6 false true false false) := by
  refine returnsInHanded_of_change (C := Try.checked) own started (by kernel_rfl) Try.func6
    (ChangeSpec.witness6 (enc := enc) (C := Try.checked) false ⟨#[], #[.slice none 0 0], []⟩ 8 (by kernel_rfl) (by kernel_rfl) (by kernel_rfl) (by kernel_rfl)) ?_
  intro W base args ds gs before hval0 hW hcnd _
  have hval : ∀ (j : Nat) t v, Try.f6.params[j]? = some t → args[j]? = some v → Value.okWide Try.prog W .any base t v := hval0
  have hW' := hW
  obtain ⟨p, q, hA0, hV, rfl, hfz, hnd⟩ := hW
  have hA : DataW.TrodAll enc Try.prog W 0 (fun _ => true) true Try.f6.params.toList args.toList ds p := hA0
  rw [Try.params6] at hA hval
  obtain ⟨v0, vs0, d0, ds0, p0, q0, hargs, rfl, rfl, h0, r0⟩ := trodAll_cons hA
  obtain ⟨rfl, rfl, rfl⟩ := trodAll_nil r0
  obtain rfl : args = #[v0] := by cases args; simp_all
  obtain ⟨rfl, rfl⟩ := trodVars_none hV
  obtain ⟨a0, len0, cap0, rfl⟩ := okWide_slice Try.underlying22 (hval 0 22 v0 rfl rfl)
  have k0 := h0
  have lt0 : ∀ x ∈ p0, x.block < W.heap.size := by obtain ⟨m, hm⟩ := k0; exact DataW.trod_lt m _ _ _ hm
  obtain ⟨l0, s0, e0, n0, m0, f0⟩ := in_ranges h0
  subst e0
  clear hA0 hval0
  refine (walk a0 cap0 l0 W s0 n0 f0).mono fun e W' ⟨he, bel⟩ => ?_
  subst he
  exact ⟨_, rfl, _, _, _, [], _, [], hW', trodAll_mk1 (shut_bool Try.underlying4 _), (trodAll_cons_mk (Below.trod laidOut (by kernel_rfl) (of_decide_eq_true (by kernel_rfl)) k0 bel lt0) trodAll_mk0), rfl, bel.frame _, fun h => by cases h⟩

theorem over : Rows.addrsetPrefixesRow.holds Try.pinned (OpenSpec.ofChange Rows.addrsetPrefixesSpec) :=
  OpenClaim.holds_of_wide 6 Try.f6 rfl rfl rfl rfl rfl rfl rfl ⟨rfl, rfl, rfl, rfl, rfl⟩ rfl rfl rfl rfl rfl (by kernel_rfl) Try.func6 (by kernel_rfl)
    (of_decide_eq_true (by kernel_rfl)) (by unfold Func.isWrapper; first | (rw [if_pos (by decide +kernel)]; kernel_rfl) | (rw [if_neg (by decide +kernel)]; exact ⟨rfl, rfl⟩))
    (fun os started H enc _ => lifted os started H enc)

theorem proved : Rows.AddrsetPrefixesSaid := over
#print axioms proved

end Go.Proofs.Ytmcelgnifpfjpaa.addrsetPrefixes
