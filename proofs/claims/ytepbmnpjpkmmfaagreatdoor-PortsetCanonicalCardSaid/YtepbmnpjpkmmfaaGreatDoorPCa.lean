/- PortsetCanonical holds: for every text excluding one port more changes what Parse returns as it must, and the law returns true and leaves memory as it was; tied card (tables of the library). -/
import Derived.Test.YtepbmnpjpkmmfaaGreatDoorCards
import Derived.Test.YtepbmnpjpkmmfaaGreatDoorPA8
namespace Go.Proofs.YtepbmnpjpkmmfaaGreatDoor.portsetCanonical
open Go.ChangeShapes Go.WideShapes Go.ChangeAt Go.RowKit
open Go.ChangeMaps (open_string shut_string)
set_option linter.unusedVariables false

theorem own : ownKnob Tryz.prog.godebug = none := by kernel_rfl
theorem laidOut : laidOutB Tryz.prog = true := by kernel_rfl
set_option maxHeartbeats 2000000 in
set_option maxRecDepth 20000 in
theorem walk (s : ByteArray) (w : World) (ht : TW w) (hs : s.size ≤ maxLen) :
    Calls Tryz.prog 7 #[.string s] w fun e w' => e = .returned (.bool true) ∧ Below w.heap.size w w' := by
  have HT := Lib.hid ht
  have B0 := Lib.hid (Below.refl w.heap.size w)
  by_cases hl : 1000 < s.size
  · have d0 : decide ((1000 : Int) < (s.size : Int)) = true := by simp; omega
    have nd : (1000 : Int) < (s.size : Int) := by omega
    go_enter Tryz.func7, Tryz.ntmps7
    go_wp2_with fail
    refine (awake_any _ (HT.out.kept B0.out)).mono ?_
    rintro e w99 ⟨rfl, b99⟩
    go_wp2_with fail
    go_ret
    exact ⟨rfl, B0.out.trans (b99.mono B0.out.size)⟩
  have d0 : decide ((1000 : Int) < (s.size : Int)) = false := by simp; omega
  have nd : ¬ (1000 : Int) < (s.size : Int) := by omega
  have H1 := Lib.hid (fun (W : World) (hb : Below w.heap.size w W) => pparse8_any s W (by omega) (HT.out.kept hb))
  have hany := str_eq8 s [97, 110, 121]
  obtain ⟨sl, hsl⟩ : ∃ sl, sl = s.data.toList := ⟨_, rfl⟩
  rw [← hsl] at H1 hany
  by_cases he : errP sl = 0
  · have hpos : True := trivial
    clear hpos
    have hcat : s ++ (⟨#[44, 33, 48]⟩ : ByteArray) = str (sl ++ tailT) := by
      rw [hsl, ← str_append, str_of]; rfl
    have hlen := toList_length6 s
    rw [← hsl] at hlen
    have q1 := add_ok (P := s) (Q := (⟨#[44, 33, 48]⟩ : ByteArray)) (a := 1000) (b := 3) (by omega) (Nat.le_refl 3) (by omega)
    have q2 : (9223372036854775807 < s.size + 3) = False := by simp only [eq_iff_iff, iff_false]; omega
    have HP2 := Lib.hid (fun (W : World) (hb : Below w.heap.size w W) => show Calls Tryz.prog 10 #[.string (s ++ (⟨#[44, 33, 48]⟩ : ByteArray))] W (ParP W (sl ++ tailT) 4000) from by
      have h := pparse8_any (str (sl ++ tailT)) W (by rw [str_size, List.length_append, hlen]; show s.size + 3 ≤ 10000; omega) (HT.out.kept hb)
      rw [str_toList] at h
      rw [hcat]
      exact h)
    have HMI := Lib.hid (fun (W : World) (A : Option Addr) (c : Nat) (B : Option Addr) (L : List Spn) (h1 : SpL W A L) (h2 : SpL W B [⟨0, 0⟩]) (hl : L.length ≤ 4000) => show Calls Tryz.prog 21 #[.slice A L.length c, .slice B 1 1] W (SetP W (fun m => memS 4294967296 L m && !memS 4294967296 [⟨0, 0⟩] m) (2 * (L.length + 1))) from pminus_any A B c 1 L [⟨0, 0⟩] W h1 h2 (by omega) (by simp))
    have HSU := Lib.hid (fun (W : World) (A : Option Addr) (c : Nat) (B : Option Addr) (d : Nat) (L M : List Spn) (h1 : SpL W A L) (h2 : SpL W B M) (hl : L.length ≤ 4000) (hl2 : M.length ≤ 1000) => psubset_any A B c d L M W h1 h2 (by omega) (by omega))
    have HA := Lib.hid (fun (W : World) (hb : Below w.heap.size w W) => pall8_any W)
    have HFS := Lib.hid (show ∀ m, parF sl m = setP sl m from fun m => by unfold parF; rw [if_pos he])
    have HST := Lib.hid (fun (hf : errP (sl ++ tailT) = 0) (m : Int) => (show parF (sl ++ tailT) m = (setP sl m && !anyS [⟨0, 0⟩] m) from by unfold parF; rw [if_pos hf, set_tail he hf]))
    have HFE := Lib.hid (fun (hf : errP (sl ++ tailT) ≠ 0) => err_tail he hf)
    have HFZ := Lib.hid (fun (hf : errP (sl ++ tailT) ≠ 0) => err_set hf)
    have HPT := Lib.hid (fun m => show setP sl m = true → 0 ≤ m ∧ m ≤ 65535 from fun h => by
      unfold setP at h
      split at h
      · exact (inPort_iff m).1 h
      · unfold portF at h
        rw [Bool.and_eq_true, inPort_iff] at h
        exact h.1)
    have HE := Lib.hid he
    clear hcat hlen ht he hsl
    generalize sl ++ tailT = tl at *
    by_cases hf : errP tl = 0
    · have hfz : True := trivial
      clear hfz
      go_enter Tryz.func7, Tryz.ntmps7
      go_wp2_with fail
      refine (H1.out _ B0.out).mono ?_
      rintro e w1 ⟨L, A3, c3, okl, anyl, lel, he1, ownl, b1⟩
      rw [HE.out] at he1
      subst he1
      have S3 := Lib.hid (spl_of_own ownl)
      have HK := Lib.hid (show okL 4294967296 0 L ∧ ∀ m, anyS L m = setP sl m from ⟨okl, fun m => (anyl m).trans (HFS.out m)⟩)
      clear okl anyl ownl H1
      have B1 := Lib.hid (B0.out.trans (b1.mono B0.out.size))
      clear b1
      go_wp2_with fail
      refine (HP2.out _ B1.out).mono ?_
      rintro e w2 ⟨M, A4, c4, okm, anym, lem, he2, ownm, b2⟩
      rw [hf] at he2
      subst he2
      have S4 := Lib.hid (spl_of_own ownm)
      have HKM := Lib.hid (show okL 4294967296 0 M ∧ ∀ m, anyS M m = (setP sl m && !anyS [⟨0, 0⟩] m) from ⟨okm, fun m => (anym m).trans (HST.out hf m)⟩)
      have S32 := Lib.hid (S3.out.kept b2)
      clear okm anym ownm S3 HP2 hf
      have B2 := Lib.hid (B1.out.trans (b2.mono B1.out.size))
      clear b2
      have HMI2 := Lib.hid (HMI.out (w2.alloc (.cells #[.int .i64 0, .int .i64 0] 34)) A3 c3 (some ⟨w2.heap.size, 0, none⟩) L (S32.out.kept (below_alloc5 _ _)) (spl_lit w2 _ _ rfl) (by omega))
      have HEQ := Lib.hid (fun m => show anyS M m = (memS 4294967296 L m && !memS 4294967296 [⟨0, 0⟩] m) from by
        rw [okL_mem HK.out.1, okL_mem (by simp [okL]), HKM.out.2, HK.out.2])
      have B2a := Lib.hid (B2.out.alloc B2.out.size (.cells #[.int .i64 0, .int .i64 0] 34))
      have S42 := Lib.hid (S4.out.kept (below_alloc5 w2 (.cells #[.int .i64 0, .int .i64 0] 34)))
      have S33 := Lib.hid (S32.out.kept (below_alloc5 w2 (.cells #[.int .i64 0, .int .i64 0] 34)))
      obtain ⟨ql, hql⟩ : ∃ q, q = L.length := ⟨_, rfl⟩
      rw [← hql] at HMI2 lel ⊢
      have HQL := Lib.hid hql
      clear HMI hql S4 S32
      go_wp2_with fail
      refine HMI2.out.mono ?_
      intro e w3 hs3
      obtain ⟨A5, c5, rfl, s5, b3⟩ := hs3.known HKM.out.1 HEQ.out
      have S5 := Lib.hid s5
      have S43 := Lib.hid (S42.out.kept b3)
      have S34 := Lib.hid (S33.out.kept b3)
      have B3 := Lib.hid (B2a.out.trans (b3.mono B2a.out.size))
      clear hs3 s5 S42 S33 HMI2 b3 B2a B2
      have HSM := Lib.hid (same_any A4 A5 c4 c5 M w3 S43.out S5.out (by omega))
      generalize M.length = qm at *
      go_wp2_with fail
      refine (HSM.out).mono ?_
      rintro e w4 ⟨rfl, b4⟩
      have S35 := Lib.hid (S34.out.kept b4)
      clear S34 S43 S5 HSM
      have B4 := Lib.hid (B3.out.trans (b4.mono B3.out.size))
      clear b4
      go_wp2_with fail
      refine (HA.out _ B4.out).mono ?_
      rintro e w5 ⟨LA, A6, c6, oka, anya, lea, rfl, owna, b5⟩
      have SA := Lib.hid (spl_of_own owna)
      have S36 := Lib.hid (S35.out.kept b5)
      have HSB := Lib.hid (fun m => show anyS [] m = (memS 4294967296 L m && !memS 4294967296 LA m) from by
        rw [okL_mem HK.out.1, okL_mem oka, anya, HK.out.2]
        cases hx : setP sl m with
        | false => rfl
        | true => rw [(inPort_iff m).2 (HPT.out m hx)]; rfl)
      have HSU2 := Lib.hid (HSU.out w5 A3 c3 A6 c6 L LA S36.out SA.out (by have := HQL.out; omega) (by omega))
      rw [← HQL.out] at HSU2
      clear oka anya owna S35 HSU SA S36
      generalize LA.length = qa at *
      have B5 := Lib.hid (B4.out.trans (b5.mono B4.out.size))
      clear b5
      go_wp2_with fail
      refine HSU2.out.mono ?_
      intro e w6 hs6
      obtain ⟨rfl, b6⟩ := hs6.known (K := []) trivial HSB.out
      clear hs6 HSU2
      have B6 := Lib.hid (B5.out.trans (b6.mono B5.out.size))
      clear b6
      go_wp2_with fail
      refine (awake_any _ (HT.out.kept B6.out)).mono ?_
      rintro e w99 ⟨rfl, b99⟩
      go_wp2_with fail
      go_ret
      exact ⟨rfl, B6.out.trans (b99.mono B6.out.size)⟩
    · have hfz : True := trivial
      clear hfz
      go_enter Tryz.func7, Tryz.ntmps7
      go_wp2_with fail
      refine (H1.out _ B0.out).mono ?_
      rintro e w1 ⟨L, A3, c3, okl, anyl, lel, he1, ownl, b1⟩
      rw [HE.out] at he1
      subst he1
      have S3 := Lib.hid (spl_of_own ownl)
      have HK := Lib.hid (show okL 4294967296 0 L ∧ ∀ m, anyS L m = setP sl m from ⟨okl, fun m => (anyl m).trans (HFS.out m)⟩)
      clear okl anyl ownl H1
      have B1 := Lib.hid (B0.out.trans (b1.mono B0.out.size))
      clear b1
      have HFZ2 := Lib.hid (HFZ.out hf)
      have hor := HFE.out hf
      have hne : ((errP tl : Int) != 0) = true := by rw [bne_iff_ne]; omega
      have hne' : ¬ (errP tl : Int) = 0 := by omega
      clear HFE HFZ HST hf
      go_wp2_with fail
      refine (HP2.out _ B1.out).mono ?_
      intro e w2 hs2
      obtain ⟨A4, c4, rfl, s4, b2⟩ := hs2.known (K := []) trivial HFZ2.out
      clear hs2 s4 HP2 S3
      have B2 := Lib.hid (B1.out.trans (b2.mono B1.out.size))
      clear b2
      generalize errP tl = er at *
      rcases hor with h3 | ⟨h14, hs14⟩
      · subst h3
        go_wp2_with fail
        refine (awake_any _ (HT.out.kept B2.out)).mono ?_
        rintro e w99 ⟨rfl, b99⟩
        go_wp2_with fail
        go_ret
        exact ⟨rfl, B2.out.trans (b99.mono B2.out.size)⟩
      · subst h14
        have ta : (s.toList == [97, 110, 121]) = true := by rw [hany, hs14]; decide
        go_wp2_with fail
        refine (awake_any _ (HT.out.kept B2.out)).mono ?_
        rintro e w99 ⟨rfl, b99⟩
        go_wp2_with fail
        go_ret
        exact ⟨rfl, B2.out.trans (b99.mono B2.out.size)⟩
  · have hpos : True := trivial
    clear hpos
    clear hany ht hsl
    have hne : ((errP sl : Int) != 0) = true := by rw [bne_iff_ne]; omega
    have hne' : ¬ (errP sl : Int) = 0 := by omega
    have HFE := Lib.hid (err_set he)
    go_enter Tryz.func7, Tryz.ntmps7
    go_wp2_with fail
    refine (H1.out _ B0.out).mono ?_
    intro e w1 hs1
    obtain ⟨A3, c3, rfl, s3, b1⟩ := hs1.known (K := []) trivial HFE.out
    clear hs1 s3
    have B1 := Lib.hid (B0.out.trans (b1.mono B0.out.size))
    clear b1
    go_wp2_with fail
    refine (awake_any _ (HT.out.kept B1.out)).mono ?_
    rintro e w99 ⟨rfl, b99⟩
    go_wp2_with fail
    go_ret
    exact ⟨rfl, B1.out.trans (b99.mono B1.out.size)⟩

set_option maxRecDepth 100000 in
theorem lifted (os : Os) (started : os.Started) (H : Type) (enc : TypeId × Value → H) :
    ReturnsInHanded {} Tryz.checked os 7 .any (fun w args => (Rows.portsetCanonicalSpec.pre enc Tryz.prog Tryz.f7 [] false w args ∧ laidMetH Tryz.prog laidL w) ∧ sizedMet enc Tryz.prog Tryz.f7 (OpenSpec.ofChange Rows.portsetCanonicalSpec) false w args) (Rows.portsetCanonicalSpec.post enc Tryz.prog Tryz.f7 false true false false) := by
  refine wrap6 (C := Tryz.checked) (X := fun w _ => laidMetH Tryz.prog laidL w) (fun _ _ _ hh h => h.of_heap hh) own started (by kernel_rfl) Tryz.func7
    (ChangeSpec.witness_shaped (enc := enc) (C := Tryz.checked) (os := os) (X := fun w _ => laidMetH Tryz.prog laidL w) false (World.laidAll Tryz.prog os laidL) #[.string ⟨#[]⟩] 8 (World.laidAll_os _ _ _) (World.shaped_of_ZipB (by kernel_rfl) (by kernel_rfl)) (by kernel_rfl) (by kernel_rfl) (by kernel_rfl) (door_met os _)) ?_
  intro W base args ds gs before hval0 hW hL hsh
  have hval : ∀ (j : Nat) t v, Tryz.f7.params[j]? = some t → args[j]? = some v → Value.okWide Tryz.prog W .any base t v := hval0
  have hW' := hW
  obtain ⟨p, q, hA0, hV, rfl, hfz, hnd⟩ := hW
  have hA : DataW.TrodAll enc Tryz.prog W 0 (fun _ => true) true Tryz.f7.params.toList args.toList ds p := hA0
  rw [Tryz.params7] at hA hval
  obtain ⟨v0, vs0, d0, ds0, p0, q0, hargs, rfl, rfl, h0, r0⟩ := trodAll_cons hA
  obtain ⟨rfl, rfl, rfl⟩ := trodAll_nil r0
  obtain rfl : args = #[v0] := by cases args; simp_all
  obtain ⟨rfl, rfl⟩ := trodVars_none hV
  obtain ⟨a0, rfl, rfl, rfl, w0⟩ := open_string Tryz.underlying9 (hval 0 9 v0 rfl rfl) h0
  clear hA0 hval0
  refine (walk a0 W (tied_of_laid hL hsh) w0).mono fun e W' ⟨he, bel⟩ => ?_
  subst he
  exact ⟨_, rfl, _, _, _, [], _, [], hW', trodAll_mk1 (shut_bool Tryz.underlying4 _), (trodAll_cons_mk (shut_string Tryz.underlying9 w0) trodAll_mk0), rfl, bel.frame _, fun h => by cases h⟩

theorem over : Rows.portsetCanonicalRow.holds Tryz.pinned (OpenSpec.ofChange Rows.portsetCanonicalSpec) :=
  OpenClaim.holds_of_wide 7 Tryz.f7 rfl rfl rfl rfl rfl rfl rfl ⟨rfl, rfl, rfl, rfl, rfl⟩ rfl rfl rfl rfl rfl (by kernel_rfl) Tryz.func7 (by kernel_rfl)
    (of_decide_eq_true (by kernel_rfl)) (by unfold Func.isWrapper; first | (rw [if_pos (by decide +kernel)]; kernel_rfl) | (rw [if_neg (by decide +kernel)]; exact ⟨rfl, rfl⟩))
    (fun os started H enc _ => lifted os started H enc)

theorem bare : Rows.PortsetCanonicalSaid := over

/-- The tied card. -/
theorem proved : Rows.PortsetCanonicalCardSaid :=
  Claim7.holds_tied_plain_at .later [] _ true _ false
    bare (fun _ h => by cases h) (by kernel_rfl) (fun _ h => by cases h) portsetCanonical_row_tie rfl ⟨rfl, rfl⟩ (by kernel_rfl) rfl
    (fun f fn hf hfn => by
      obtain rfl : f = 7 := Option.some.inj ((show Tryz.prog.funcNamed "intrusion/intrusionlaw08.PortsetCanonical" = some 7 by kernel_rfl).symm.trans hf) |>.symm
      obtain rfl : fn = Tryz.f7 := (Option.some.inj (Tryz.func7.symm.trans hfn)).symm
      exact ⟨by kernel_rfl, fun j t ht => by
        rw [Tryz.params7] at ht
        have hm : t ∈ [9] := by simpa using Array.mem_of_getElem? ht
        have hall : ([9].all fun u => !Tryz.prog.wantsStandIn u) = true := by kernel_rfl
        exact (show Tryz.prog.wantsStandIn t = false by simpa using List.all_eq_true.1 hall t hm)⟩)
    (by kernel_rfl)
#print axioms proved

end Go.Proofs.YtepbmnpjpkmmfaaGreatDoor.portsetCanonical
