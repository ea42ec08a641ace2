/- LexerRoundTrip holds: for every list of tokens the law that a printed list is read as its valid tokens returns true and leaves memory as it was. No condition. -/
import Derived.Test.YtcakdgfkepdpkaaAwk04
import Derived.Test.YtcakdgfkepdpkaaLexRPrint
namespace Go.Proofs.Ytcakdgfkepdpkaa.lexerRoundTrip
open Go.ChangeShapes Go.WideShapes Go.ChangeAt Go.RowKit
open Go.ChangeMaps (open_string shut_string)
set_option linter.unusedVariables false

theorem own : ownKnob Try.prog.godebug = none := by kernel_rfl
theorem laidOut : laidOutB Try.prog = true := by kernel_rfl

theorem pl_prefix (K : Nat → Int) (T : Nat → ByteArray) (i : Nat) : ∀ d, pl K T i <+: pl K T (i + d)
  | 0 => List.prefix_rfl
  | d + 1 => by
    have ih := pl_prefix K T i d
    rw [show i + (d + 1) = (i + d) + 1 by omega, pl]
    split
    · exact ih.trans (List.prefix_append _ _)
    · exact ih
theorem pl_at (K : Nat → Int) (T : Nat → ByteArray) {i n : Nat} (h : i < n) (hv : validI (K i) (T i).data.toList = true) : (pl K T n)[(pl K T i).length]? = some ((K i).toNat, (T i).data.toList) := by
  obtain ⟨d, rfl⟩ : ∃ d, n = (i + 1) + d := ⟨n - (i + 1), by omega⟩
  obtain ⟨r, hr⟩ := pl_prefix K T (i + 1) d
  have e : pl K T (i + 1) = pl K T i ++ [((K i).toNat, (T i).data.toList)] := by rw [pl, if_pos hv]
  rw [← hr, e, List.append_assoc, List.getElem?_append_right (Nat.le_refl _), Nat.sub_self]
  rfl
theorem place_get {xs : List (Nat × List UInt8)} {k : Nat} {x : Nat × List UInt8} (h : xs[k]? = some x) : ∃ t, (placeJ xs)[k]? = some t ∧ t.kind = x.1 ∧ t.text = x.2 := by
  have e := congrArg (fun l : List (Nat × List UInt8) => l[k]?) (placeJ_map xs)
  simp only [List.getElem?_map, h] at e
  cases ht : (placeJ xs)[k]? with
  | none => rw [ht] at e; cases e
  | some t =>
    rw [ht] at e
    simp only [Option.map_some, Option.some.injEq] at e
    exact ⟨t, rfl, by rw [← e], by rw [← e]⟩
theorem place_lt {xs : List (Nat × List UInt8)} (hv : ∀ x ∈ xs, validT x.1 x.2 = true) {k : Nat} {t1 t2 : Tok} (h1 : (placeJ xs)[k]? = some t1) (h2 : (placeJ xs)[k + 1]? = some t2) : t1.at_ < t2.at_ := by
  have hp := placeJ_asc xs (fun x hx => tok_pos (hv x hx))
  obtain ⟨l1, e1⟩ := List.getElem?_eq_some_iff.1 h1
  obtain ⟨l2, e2⟩ := List.getElem?_eq_some_iff.1 h2
  have := List.pairwise_iff_getElem.1 hp k (k + 1) l1 l2 (by omega)
  rw [e1, e2] at this
  exact this
theorem tail_len : ∀ xs : List (Nat × List UInt8), xs.length ≤ (tailT xs).length
  | [] => Nat.le_refl _
  | x :: xs => by
    have := tail_len xs
    simp [tailT]; omega
theorem join_ge (xs : List (Nat × List UInt8)) (hv : ∀ x ∈ xs, validT x.1 x.2 = true) : xs.length ≤ (joinT xs).length := by
  cases xs with
  | nil => exact Nat.le_refl _
  | cons x xs =>
    have h1 := tail_len xs
    have h2 := tok_pos (hv x (by simp))
    simp [joinT]; omega
theorem scan_print (xs : List (Nat × List UInt8)) (hv : ∀ x ∈ xs, validT x.1 x.2 = true) (h : (str (joinT xs)).size ≤ 16000) : scanS (str (joinT xs)) = .ok (placeJ xs ++ [⟨0, [], (joinT xs).length⟩]) 0 := by
  unfold scanS
  rw [if_neg (by omega), str_toList]
  exact scan_join xs hv _ (by have := join_ge xs hv; rw [str_size]; omega)

theorem ts_drewN {w : World} {g : Nat} {l : List Tok} (h : TS w g l) (q : Nat) : TS (w.drewN q) g l := h
set_option maxHeartbeats 1000000 in
set_option maxRecDepth 20000 in
theorem walk (A : Option Addr) (n cap : Nat) (K : Nat → Int) (T : Nat → ByteArray) (P : Nat → Int) (w : World) (hin : InToks w A n K T P) (hn : n ≤ maxLen) :
    Calls Try.prog 5 #[.slice A n cap] w fun e w' => e = .returned (.bool true) ∧ Below w.heap.size w w' := by
  have hm := tok_guard
  go_enter Try.func5, Try.ntmps5
  go_wp2_with fail
  refine (longt_any A n cap K T P w hin hn).mono ?_
  rintro e w1 ⟨bb, rfl, rfl, hbb⟩
  cases bb with
  | true =>
    clear hbb
    go_wp2_with fail
    refine (awake_any _).mono ?_
    rintro e w9 ⟨rfl, hb9⟩
    go_wp2_with fail
    go_ret
    exact ⟨rfl, hb9⟩
  | false =>
    obtain ⟨hn40, ht300⟩ := hbb rfl
    clear hbb
    have h1 := fun W (h : InToks W A n K T P) => pprint_any A n cap K T P W h hn40 ht300
    have hjl := join_len K T n (fun i hi => ht300 i hi)
    have hsz := str_size (joinT (pl K T n))
    have hsc := scan_print (pl K T n) (pl_valid K T n)
    have h2 := fun W => pscan_any (str (joinT (pl K T n))) W (by omega)
    have hll : (placeJ (pl K T n)).length = (pl K T n).length := placeJ_length _
    have hln : (pl K T n).length ≤ n := pl_len K T n
    obtain ⟨q, hq⟩ : ∃ q, q = str (joinT (pl K T n)) := ⟨_, rfl⟩
    rw [← hq] at h1 h2 hsz hsc
    have H1 := Lib.hid h1
    have HIN := Lib.hid hin
    clear h1 hin hq
    go_wp2_with fail
    refine (H1.out _ HIN.out).mono ?_
    rintro e w2 ⟨rfl, hb⟩
    have HB2 := Lib.hid hb
    clear hb
    by_cases h16 : 16000 < q.size
    · have d16 : (16000 : Int) < (q.size : Int) := by omega
      clear h2 hsc h16
      go_wp2_with fail
      refine (awake_any _).mono ?_
      rintro e w9 ⟨rfl, hb9⟩
      go_wp2_with fail
      go_ret
      exact ⟨rfl, HB2.out.trans (hb9.mono HB2.out.size)⟩
    have d16 : decide ((16000 : Int) < (q.size : Int)) = false := by simp; omega
    rw [hsc (by omega)] at h2
    have h2' := fun W => scan_list (h2 W) (by simp)
    obtain ⟨L, hL⟩ : ∃ L, L = placeJ (pl K T n) ++ [(⟨0, [], (joinT (pl K T n)).length⟩ : Tok)] := ⟨_, rfl⟩
    rw [← hL] at h2'
    have hLl : L.length = (pl K T n).length + 1 := by rw [hL]; simp [hll]
    have hend : L[(pl K T n).length]? = some ⟨0, [], q.size⟩ := by rw [hL, List.getElem?_append_right (by omega), hll, Nat.sub_self, hsz]; rfl
    have hmid : ∀ k t, (placeJ (pl K T n))[k]? = some t → L[k]? = some t := fun k t ht => by
      have hk := (List.getElem?_eq_some_iff.1 ht).1
      rw [hL, List.getElem?_append_left hk]; exact ht
    have H2 := Lib.hid h2'
    have HEND := Lib.hid hend
    have HMID := Lib.hid hmid
    have HLL := Lib.hid hLl
    clear h2 h2' hL hend hmid hsc hsz hjl
    have hLn : L.length ≤ 41 := by omega
    have hL0 : 0 < L.length := by omega
    clear hLl hll
    obtain ⟨ln, hln2⟩ : ∃ ln, ln = L.length := ⟨_, rfl⟩
    rw [← hln2] at H2 HLL hLn hL0
    clear hln2
    go_wp2_with fail
    refine (H2.out _).mono ?_
    rintro e w3 ⟨g, cp, rfl, hg, hts, hb⟩
    have HB3 := Lib.hid (HB2.out.trans (hb.mono HB2.out.size))
    have HTS := Lib.hid hts
    have hdl : ((ln : Int) == 0) = false := by simp; omega
    clear hb hts
    go_wp2_with fail
    go_loopw [7, 8] (fun kv i wr => ∃ j : Nat, j ≤ n ∧ i = .int .i64 j ∧ kv = .int .i64 ((pl K T j).length : Nat) ∧ Hid (TS wr g L) ∧ Hid (Below w.heap.size w wr)) (fun _ i _ => n - (intOf i).toNat)
    case atStart => exact ⟨0, Nat.zero_le _, rfl, rfl, HTS.out, HB3.out⟩
    case round =>
      clear HTS HB3
      obtain ⟨j, hj, rfl, rfl, HTS, HB⟩ := hrel
      by_cases hlt : j < n
      · obtain ⟨gi, o, rfl, hgi, hc⟩ := HIN.out (by omega)
        obtain ⟨c0, c1, c2, _⟩ := hc j hlt
        have hbc := fun i => HB.out.cell (p := ⟨gi, i, none⟩) hgi
        have d0 := (hbc _).trans c0
        have d1 := (hbc _).trans c1
        have d2 := (hbc _).trans c2
        have hsz := ht300 j hlt
        have hva := fun W => rvalid4_any (K j) (P j) (T j) W (by omega)
        have hki : (j : Int) < (n : Int) := by omega
        have hki0 : (0 : Int) ≤ (j : Int) := by omega
        have HVA := Lib.hid hva
        clear hva
        cases hv : validI (K j) (T j).data.toList with
        | false =>
          rw [hv] at HVA
          have hpl : (pl K T (j + 1)).length = (pl K T j).length := by rw [pl, hv]; rfl
          have HPL := Lib.hid hpl
          generalize (pl K T j).length = kk at *
          generalize K j = kd at *
          generalize T j = te at *
          generalize P j = pp at *
          clear hc hbc c0 c1 c2 hv hpl
          go_wp2_with fail
          refine (HVA.out _).mono ?_
          rintro e w4 ⟨rfl, hb⟩
          have HB4 := Lib.hid (HB.out.trans (hb.mono HB.out.size))
          have HT4 := Lib.hid (HTS.out.kept hb HTS.out.1)
          clear hb HB HTS d0 d1 d2
          go_wp2_with fail
          go_roundw
          case rel => exact ⟨j + 1, by omega, by go_num, by rw [HPL.out], HT4.out, HB4.out⟩
          case measure => simp [intOf]; omega
        | true =>
          rw [hv] at HVA
          have hpl : (pl K T (j + 1)).length = (pl K T j).length + 1 := by rw [pl, hv, if_pos rfl]; simp
          obtain ⟨tk, ht1, ht2, ht3⟩ := place_get (pl_at K T hlt hv)
          have hkl : (pl K T j).length < (pl K T n).length := by
            have := (List.getElem?_eq_some_iff.1 ht1).1
            rwa [placeJ_length] at this
          obtain ⟨jj, hjj, _, _, _⟩ := validI_yes hv
          simp only at ht2 ht3
          have hkd : ((tk.kind : Nat) : Int) = K j := by rw [ht2, hjj]; simp
          have htx : str tk.text = T j := by rw [ht3, str_of]
          have hprev : 0 < (pl K T j).length → ∃ tp, (placeJ (pl K T n))[(pl K T j).length - 1]? = some tp ∧ tp.at_ < tk.at_ := fun hp => by
            have hk1 : (pl K T j).length - 1 < (placeJ (pl K T n)).length := by rw [placeJ_length]; omega
            refine ⟨_, List.getElem?_eq_getElem hk1, ?_⟩
            refine place_lt (pl_valid K T n) (List.getElem?_eq_getElem hk1) ?_
            rw [show (pl K T j).length - 1 + 1 = (pl K T j).length by omega]
            exact ht1
          have hgk := HMID.out _ _ ht1
          have hkln : (pl K T j).length < ln := by rw [HLL.out]; omega
          have HPL := Lib.hid hpl
          have HPV := Lib.hid hprev
          clear hprev ht1 hkl hpl ht2 ht3 hjj
          generalize (pl K T j).length = kk at *
          have dk : decide ((ln : Int) ≤ (kk : Int)) = false := by simp; omega
          have dk0 : (0 : Int) ≤ (kk : Int) := by omega
          have dk1 : (kk : Int) < (ln : Int) := by omega
          generalize K j = kd at *
          generalize T j = te at *
          generalize P j = pp at *
          have HC0 := Lib.hid c0
          have HC1 := Lib.hid c1
          clear hc hbc c0 c1 c2 hv
          go_wp2_with fail
          refine (HVA.out _).mono ?_
          rintro e w4 ⟨rfl, hb⟩
          have hB4 := HB.out.trans (hb.mono HB.out.size)
          have HT4 := Lib.hid (HTS.out.kept hb HTS.out.1)
          have hbc := fun i => hB4.cell (p := ⟨gi, i, none⟩) hgi
          have d0 := (hbc _).trans HC0.out
          have d1 := (hbc _).trans HC1.out
          obtain ⟨t0, t1, t2⟩ := HT4.out.at hgk
          rw [hkd] at t0
          rw [htx] at t1
          clear hb HB HTS hbc hgk hkd htx d2
          by_cases hk0 : 0 < kk
          · obtain ⟨tp, htp, hat⟩ := HPV.out hk0
            obtain ⟨_, _, p2⟩ := HT4.out.at (HMID.out _ _ htp)
            obtain ⟨k1, hk1⟩ : ∃ k1, k1 = kk - 1 := ⟨_, rfl⟩
            rw [← hk1] at p2
            have e1 : (kk : Int) - 1 = (k1 : Int) := by omega
            have e2 : IntKind.i64.wrap (k1 : Int) = (k1 : Int) := IntWalk.i64_in _ (by omega)
            have e3 : (0 : Int) ≤ (k1 : Int) := by omega
            have e4 : (k1 : Int) < (ln : Int) := by omega
            have e5 : (0 : Int) < (kk : Int) := by omega
            generalize tk.at_ = a1 at *
            generalize tp.at_ = a2 at *
            have e6 : decide ((a1 : Int) ≤ (a2 : Int)) = false := by simp; omega
            have e7 : (ln ≤ kk) = False := by simp; omega
            have e8 : (a1 ≤ a2) = False := by simp; omega
            have HB4 := Lib.hid hB4
            clear hk1 htp HPV hB4 hat
            go_wp2_with fail
            go_quiet (fail)
            have HB5 := Lib.hid (below_drewN HB4.out nq)
            have HT5 := Lib.hid (ts_drewN HT4.out nq)
            clear HB4 HT4 d0 d1 t0 t1 t2 p2
            generalize w4.drewN nq = w5 at *
            go_wp2_with fail
            go_roundw
            case rel => exact ⟨j + 1, by omega, by go_num, by rw [HPL.out]; go_num, HT5.out, HB5.out⟩
            case measure => simp [intOf]; omega
          · obtain rfl : kk = 0 := by omega
            have e5 : decide ((0 : Int) < 0) = false := by decide
            have dz : decide ((ln : Int) ≤ 0) = false := by simp; omega
            have dz1 : (0 : Int) < (ln : Int) := by omega
            have dz2 : decide (ln = 0) = false := by simp; omega
            clear dk dk0 dk1
            have HB4 := Lib.hid hB4
            clear HPV hB4
            simp only [Nat.zero_mul, Nat.zero_add] at t0 t1 t2
            go_wp2_with fail
            go_quiet (fail)
            have HB5 := Lib.hid (below_drewN HB4.out nq)
            have HT5 := Lib.hid (ts_drewN HT4.out nq)
            clear HB4 HT4 d0 d1 t0 t1 t2
            generalize w4.drewN nq = w5 at *
            go_wp2_with fail
            go_roundw
            case rel => exact ⟨j + 1, by omega, by go_num, by rw [HPL.out]; go_num, HT5.out, HB5.out⟩
            case measure => simp [intOf]; omega
      · obtain rfl : j = n := by omega
        have hd : decide ((j : Int) < (j : Int)) = false := by simp
        obtain ⟨t0, t1, t2⟩ := HTS.out.at HEND.out
        have hl1 : (ln : Int) - 1 = ((pl K T j).length : Int) := by rw [HLL.out]; omega
        have hkl : (pl K T j).length < ln := by rw [HLL.out]; omega
        generalize (pl K T j).length = kk at *
        have dk0 : (0 : Int) ≤ (kk : Int) := by omega
        have dk1 : (kk : Int) < (ln : Int) := by omega
        have HB4 := Lib.hid HB.out
        clear HB HTS
        go_wp2_with fail
        refine (awake_any _).mono ?_
        rintro e w9 ⟨rfl, hb9⟩
        go_wp2_with fail
        go_ret
        exact ⟨rfl, HB4.out.trans (hb9.mono HB4.out.size)⟩

set_option maxRecDepth 100000 in
theorem lifted (os : Os) (started : os.Started) (H : Type) (enc : TypeId × Value → H) :
    ReturnsInHanded {} Try.checked os 5 .any (Rows.lexerRoundTripSpec.pre6 enc Try.prog Try.f5 Rows.lexerRoundTripRow.domain false) (Rows.lexerRoundTripSpec.post enc Try.prog Try.f5 false true false false) := by
  refine returnsInHanded_of_change (C := Try.checked) own started (by kernel_rfl) Try.func5
    (ChangeSpec.witness6 (enc := enc) (C := Try.checked) false ⟨#[], #[.slice none 0 0], []⟩ 8 (by kernel_rfl) (by kernel_rfl) (by kernel_rfl) (by kernel_rfl)) ?_
  intro W base args ds gs before hval0 hW hcnd _
  have hval : ∀ (j : Nat) t v, Try.f5.params[j]? = some t → args[j]? = some v → Value.okWide Try.prog W .any base t v := hval0
  have hW' := hW
  obtain ⟨p, q, hA0, hV, rfl, hfz, hnd⟩ := hW
  have hA : DataW.TrodAll enc Try.prog W 0 (fun _ => true) true Try.f5.params.toList args.toList ds p := hA0
  rw [Try.params5] at hA hval
  obtain ⟨v0, vs0, d0, ds0, p0, q0, hargs, rfl, rfl, h0, r0⟩ := trodAll_cons hA
  obtain ⟨rfl, rfl, rfl⟩ := trodAll_nil r0
  obtain rfl : args = #[v0] := by cases args; simp_all
  obtain ⟨rfl, rfl⟩ := trodVars_none hV
  obtain ⟨a0, len0, cap0, rfl⟩ := okWide_slice Try.underlying23 (hval 0 23 v0 rfl rfl)
  have k0 := h0
  have lt0 : ∀ x ∈ p0, x.block < W.heap.size := by obtain ⟨m, hm⟩ := k0; exact DataW.trod_lt m _ _ _ hm
  obtain ⟨K, T, P, w0, w1⟩ := in_toks h0
  clear hA0 hval0
  refine (walk a0 len0 cap0 K T P W w0 w1).mono fun e W' ⟨he, bel⟩ => ?_
  subst he
  exact ⟨_, rfl, _, _, _, [], _, [], hW', trodAll_mk1 (shut_bool Try.underlying4 _), (trodAll_cons_mk (Below.trod laidOut (by kernel_rfl) (of_decide_eq_true (by kernel_rfl)) k0 bel lt0) trodAll_mk0), rfl, bel.frame _, fun h => by cases h⟩

theorem over : Rows.lexerRoundTripRow.holds Try.pinned (OpenSpec.ofChange Rows.lexerRoundTripSpec) :=
  OpenClaim.holds_of_wide 5 Try.f5 rfl rfl rfl rfl rfl rfl rfl ⟨rfl, rfl, rfl, rfl, rfl⟩ rfl rfl rfl rfl rfl (by kernel_rfl) Try.func5 (by kernel_rfl)
    (of_decide_eq_true (by kernel_rfl)) (by unfold Func.isWrapper; first | (rw [if_pos (by decide +kernel)]; kernel_rfl) | (rw [if_neg (by decide +kernel)]; exact ⟨rfl, rfl⟩))
    (fun os started H enc _ => lifted os started H enc)

theorem proved : Rows.LexerRoundTripSaid := over
#print axioms proved
end Go.Proofs.Ytcakdgfkepdpkaa.lexerRoundTrip
