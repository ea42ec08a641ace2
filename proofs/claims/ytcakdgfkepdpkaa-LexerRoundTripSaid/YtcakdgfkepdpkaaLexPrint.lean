/- Contract: Print of the program. -/
import Derived.Test.YtcakdgfkepdpkaaLexToks
import Derived.Test.YtcakdgfkepdpkaaLexRValid
import Derived.Lib.AppendStr
namespace Go.Proofs.Ytcakdgfkepdpkaa
open Go.ChangeShapes Go.WideShapes Go.ChangeAt Go.RowKit
set_option linter.unusedVariables false

/-- The valid ones of the first k tokens. -/
def pl (K : Nat → Int) (T : Nat → ByteArray) : Nat → List (Nat × List UInt8)
  | 0 => []
  | k + 1 => if validI (K k) (T k).data.toList = true then pl K T k ++ [((K k).toNat, (T k).data.toList)] else pl K T k
theorem pl_valid (K : Nat → Int) (T : Nat → ByteArray) : ∀ k, ∀ x ∈ pl K T k, validT x.1 x.2 = true
  | 0, x, h => by simp [pl] at h
  | k + 1, x, h => by
    rw [pl] at h
    split at h
    · rename_i hv
      rw [List.mem_append] at h
      rcases h with h | h
      · exact pl_valid K T k x h
      · simp only [List.mem_singleton] at h
        subst h
        obtain ⟨j, hj, _, _, hjv⟩ := validI_yes hv
        rw [hj]
        exact hjv
    · exact pl_valid K T k x h
theorem pl_len (K : Nat → Int) (T : Nat → ByteArray) : ∀ k, (pl K T k).length ≤ k
  | 0 => Nat.le_refl _
  | k + 1 => by
    have := pl_len K T k
    rw [pl]
    split
    · simp; omega
    · omega
theorem tailT_snoc : ∀ (xs : List (Nat × List UInt8)) (x : Nat × List UInt8), tailT (xs ++ [x]) = tailT xs ++ (32 :: tokText x.1 x.2)
  | [], x => by simp [tailT]
  | y :: ys, x => by simp [tailT, tailT_snoc ys x]
theorem join_snoc (xs : List (Nat × List UInt8)) (x : Nat × List UInt8) : joinT (xs ++ [x]) = if xs = [] then tokText x.1 x.2 else joinT xs ++ ([32] ++ tokText x.1 x.2) := by
  cases xs with
  | nil => simp [joinT, tailT]
  | cons y ys => simp [joinT, tailT_snoc]
theorem tok_pos {x : Nat × List UInt8} (h : validT x.1 x.2 = true) : 0 < (tokText x.1 x.2).length := (tok_print h (.inl rfl) 0).2.2
theorem join_pos {xs : List (Nat × List UInt8)} (h : xs ≠ []) (hv : ∀ x ∈ xs, validT x.1 x.2 = true) : 0 < (joinT xs).length := by
  cases xs with
  | nil => exact absurd rfl h
  | cons y ys =>
    have := tok_pos (hv y (by simp))
    simp [joinT]
    omega
theorem join_nil_iff (K : Nat → Int) (T : Nat → ByteArray) (k : Nat) : pl K T k = [] ↔ (joinT (pl K T k)).length = 0 := by
  constructor
  · intro h; rw [h]; rfl
  · intro h
    by_cases e : pl K T k = []
    · exact e
    · have := join_pos e (pl_valid K T k); omega
theorem quo_len4 : ∀ (L : List UInt8) (b : Bool), (quo b L).length ≤ 3 * L.length + 1
  | [], b => by cases b <;> simp [quo]
  | c :: r, b => by
    have h1 := quo_len4 r false
    have h2 := quo_len4 r true
    rw [quo]
    split
    · cases b <;> simp <;> omega
    · simp; omega
theorem text_len (k : Nat) (L : List UInt8) : (tokText k L).length ≤ 3 * L.length + 3 := by
  unfold tokText
  split
  · have := quo_len4 L false
    unfold quoteL
    simp; omega
  split
  · simp; omega
  · omega
theorem text_eq {k : Int} {L : List UInt8} (h : validI k L = true) : tokText k.toNat L = textI k L := by
  obtain ⟨j, rfl, h1, h2, _⟩ := validI_yes h
  unfold tokText textI
  rw [Int.toNat_natCast]
  by_cases e2 : j = 2
  · subst e2; rfl
  rw [if_neg e2, if_neg (show ¬ (j : Int) = 2 by omega)]
  by_cases e3 : j = 3
  · subst e3; rfl
  rw [if_neg e3, if_neg (show ¬ (j : Int) = 3 by omega)]
theorem join_len (K : Nat → Int) (T : Nat → ByteArray) : ∀ k, (∀ i, i < k → (T i).size ≤ 300) → (joinT (pl K T k)).length ≤ 1000 * k
  | 0, _ => by simp [pl, joinT]
  | k + 1, h => by
    have ih := join_len K T k (fun i hi => h i (by omega))
    have hk := h k (by omega)
    have hl : (T k).data.toList.length = (T k).size := by simp
    have ht := text_len (K k).toNat (T k).data.toList
    rw [pl]
    split
    · rw [join_snoc]
      split
      · simp only; omega
      · simp only [List.length_append, List.length_cons, List.length_nil]; omega
    · omega

theorem slice_of_own {w : World} {base n k : Nat} {t : TypeId} {v : Value} {xs : List Value} (h : w.ownsRow base t k v n xs) : ∃ A cap, v = .slice A n cap := by
  rcases h.2 with ⟨rfl, rfl⟩ | ⟨g, c, cur, hv, _⟩
  · exact ⟨none, 0, rfl⟩
  · exact ⟨_, _, hv⟩

set_option maxHeartbeats 1000000 in
set_option maxRecDepth 20000 in
theorem pprint_any (A0 : Option Addr) (n cap0 : Nat) (K : Nat → Int) (T : Nat → ByteArray) (P : Nat → Int) (w : World) (h : InToks w A0 n K T P) (hn : n ≤ 40) (ht : ∀ i, i < n → (T i).size ≤ 300) :
    Calls Try.prog 15 #[.slice A0 n cap0] w fun e w' => e = .returned (.string (str (joinT (pl K T n)))) ∧ Below w.heap.size w w' := by
  obtain ⟨i0, hi, hz0, hz1, hz2⟩ := info_parts info5
  have H := Lib.hid h
  have HT := Lib.hid ht
  clear h ht
  go_enter Try.func15, Try.ntmps15
  go_wp2_with fail
  go_loopw [3, 5, 8] (fun b _ i wr => ∃ k : Nat, ∃ O : List UInt8, ∃ A cap, k ≤ n ∧ i = .int .i64 k ∧ Hid (O = joinT (pl K T k)) ∧ O.length ≤ 1000 * k ∧ b = .slice A O.length cap ∧ Hid (wr.ownsRow w.heap.size 5 1 (.slice A O.length cap) O.length (cellsOf O)) ∧ Hid (Below w.heap.size w wr)) (fun _ _ i _ => n - (intOf i).toNat)
  case atStart => exact ⟨0, [], none, 0, Nat.zero_le _, rfl, rfl, Nat.zero_le _, rfl, World.ownsRow_nil .., Below.refl _ _⟩
  case round =>
    obtain ⟨k, O, A, cap, hk, rfl, HO, hol, rfl, HOW, HB⟩ := hrel
    by_cases hlt : k < n
    · obtain ⟨g, o, rfl, hg, hc⟩ := H.out (by omega)
      obtain ⟨c0, c1, c2, _⟩ := hc k hlt
      have hbc := fun i => HB.out.cell (p := ⟨g, i, none⟩) hg
      have d0 := (hbc _).trans c0
      have d1 := (hbc _).trans c1
      have d2 := (hbc _).trans c2
      have hsz := HT.out k hlt
      have hO' : joinT (pl K T (k + 1)) = if validI (K k) (T k).data.toList = true then (if pl K T k = [] then textI (K k) (T k).data.toList else O ++ ([32] ++ textI (K k) (T k).data.toList)) else O := by
        rw [HO.out, pl]
        by_cases hv : validI (K k) (T k).data.toList = true
        · rw [if_pos hv, if_pos hv, join_snoc, text_eq hv]
        · rw [if_neg hv, if_neg hv]
      have hlen' : (joinT (pl K T (k + 1))).length ≤ 1000 * (k + 1) := join_len K T (k + 1) (fun i hi => HT.out i (by omega))
      have hni := join_nil_iff K T k
      rw [← HO.out] at hni
      have hpv := fun W => pvalid_any (K k) (P k) (T k) W (by omega)
      have hpp := fun W => pprinted_any (K k) (P k) (T k) W (by omega)
      have hpos : validI (K k) (T k).data.toList = true → 0 < (textI (K k) (T k).data.toList).length := fun hv => by
        obtain ⟨j, hj, _, _, hjv⟩ := validI_yes hv
        have := tok_pos (x := (j, (T k).data.toList)) hjv
        have e := text_eq hv
        rw [hj, Int.toNat_natCast] at e
        rw [hj, ← e]; exact this
      have hki : (k : Int) < (n : Int) := by omega
      have hki0 : (0 : Int) ≤ (k : Int) := by omega
      obtain ⟨O2, hO2⟩ : ∃ O2, O2 = joinT (pl K T (k + 1)) := ⟨_, rfl⟩
      rw [← hO2] at hO' hlen'
      have HO2 := Lib.hid hO2
      generalize textI (K k) (T k).data.toList = tx at *
      generalize hvd : validI (K k) (T k).data.toList = vd at *
      generalize K k = kd at *
      generalize T k = te at *
      generalize P k = pp at *
      clear hc hbc c0 c1 c2 hO2 hvd
      have htb := tb_new wr kd te pp
      have hB1 := HB.out.alloc HB.out.size (.cells #[.int .i64 kd, .string te, .int .i64 pp] 36)
      have hown1 := HOW.out.alloc (.cells #[.int .i64 kd, .string te, .int .i64 pp] 36)
      have e0 := htb.c0
      have e1 := htb.c1
      have e2 := htb.c2
      cases vd with
      | false =>
        rw [if_neg (by decide)] at hO'
        subst hO'
        have HPV := Lib.hid hpv
        clear hpv hpp hpos hni
        go_wp2_with fail
        refine (HPV.out _).mono ?_
        rintro e w2 ⟨rfl, hb⟩
        have HB2 := Lib.hid (hB1.trans (hb.mono hB1.size))
        have HO2' := Lib.hid (own_of_blocks hown1 (fun b _ hl => hb.block b hl))
        clear hb hB1 hown1 htb e0 e1 e2 d0 d1 d2 HB HOW
        go_wp2_with fail
        go_roundw
        case rel => exact ⟨k + 1, O2, A, cap, by omega, by go_num, HO2, hlen', rfl, HO2', HB2⟩
        case measure => simp [intOf]; omega
      | true =>
        rw [if_pos rfl] at hO'
        have hpos' := hpos rfl
        have HPV := Lib.hid hpv
        have HPP := Lib.hid hpp
        clear hpv hpp hpos
        by_cases hO0 : O.length = 0
        · have hnil := hni.2 hO0
          rw [if_pos hnil] at hO'
          subst hO'
          have hOn : O = [] := List.eq_nil_of_length_eq_zero hO0
          subst hOn
          have hOT : (str O2).size = O2.length := str_size O2
          obtain ⟨ts, hts⟩ : ∃ ts, ts = str O2 := ⟨_, rfl⟩
          have hsc : cellsOf [] ++ Lib.strCells ts = cellsOf O2 := by rw [hts]; unfold Lib.strCells; rw [str_toList]; rfl
          rw [← hts] at hOT
          have HSC := Lib.hid hsc
          have HPQ := Lib.hid (show ∀ W, Calls Try.prog 34 #[.agg #[.int .i64 kd, .string te, .int .i64 pp]] W fun e w' => e = .returned (.string ts) ∧ Below W.heap.size W w' from by rw [hts]; exact HPP.out)
          clear hni hnil hO0 hts hsc HPP
          simp only [List.length_nil] at *
          go_wp2_with fail
          refine (HPV.out _).mono ?_
          rintro e w2 ⟨rfl, hb⟩
          have hB2 := hB1.trans (hb.mono hB1.size)
          have hown2 := own_of_blocks hown1 (fun b _ hl => hb.block b hl)
          have htb2 := htb.kept hb htb.lt
          have e0 := htb2.c0
          have e1 := htb2.c1
          have e2 := htb2.c2
          clear hb hB1 hown1 htb d0 d1 d2 HB HOW
          go_wp2_with fail
          refine (HPQ.out _).mono ?_
          rintro e w3 ⟨rfl, hb⟩
          have hB3 := hB2.trans (hb.mono hB2.size)
          have hown3 := own_of_blocks hown2 (fun b _ hl => hb.block b hl)
          clear hb hB2 hown2 htb2 e0 e1 e2
          go_wp2_with (at_builtin; refine Lib.wpList_append_own_string _ rfl _ _ 51 9 rfl w.heap.size 5 i0 Try.underlying51 Try.underlying9 hi hz0 hz1 hz2 _ 0 (cellsOf []) rfl hown3 ts rfl ?c3 ?c4 ?c5 ?_)
          case c3 => unfold maxLen; omega
          case c4 => omega
          case c5 => exact hB3.size
          intro v' w4 hown4 hgrow _
          rw [HSC.out] at hown4
          try rw [show 0 + ts.size = O2.length by omega] at hown4
          obtain ⟨A4, cap4, rfl⟩ := slice_of_own hown4
          have hB4 := hB3.grown hgrow hB3.size (fun j hj => (hown3.lt j hj).1)
          have HO4 := Lib.hid hown4
          have HB4 := Lib.hid hB4
          clear hown3 hB3 hown4 hgrow hB4
          go_wp2_with fail
          go_roundw
          case rel => exact ⟨k + 1, O2, A4, cap4, by omega, by go_num, HO2, hlen', rfl, HO4, HB4⟩
          case measure => simp [intOf]; omega
        · have hnil : ¬ pl K T k = [] := fun e => hO0 (hni.1 e)
          rw [if_neg hnil] at hO'
          have hOpos : (0 : Int) < (O.length : Int) := by omega
          obtain ⟨M1, hM1⟩ : ∃ M1, M1 = O ++ [32] := ⟨_, rfl⟩
          have HL1 := Lib.hid (show O.length + 1 = M1.length by rw [hM1]; simp)
          have HC1 := Lib.hid (show cellsOf O ++ [.int .u8 32] = cellsOf M1 by rw [hM1]; unfold cellsOf; rw [List.map_append]; rfl)
          obtain ⟨ts, hts⟩ : ∃ ts, ts = str tx := ⟨_, rfl⟩
          have HSC := Lib.hid (show cellsOf M1 ++ Lib.strCells ts = cellsOf O2 by rw [hts, hO', hM1]; unfold Lib.strCells cellsOf; rw [str_toList]; simp)
          have hOT : M1.length + ts.size = O2.length := by rw [hts, hO', hM1, str_size]; simp; omega
          have HNE := Lib.hid (show (Value.slice A O.length cap).ownBlock ≠ some wr.heap.size from fun e => by have := (HOW.out.lt _ e).2; omega)
          have HPQ := Lib.hid (show ∀ W, Calls Try.prog 34 #[.agg #[.int .i64 kd, .string te, .int .i64 pp]] W fun e w' => e = .returned (.string ts) ∧ Below W.heap.size W w' from by rw [hts]; exact HPP.out)
          clear hni hnil hO0 hts HPP hM1 hO' hpos'
          go_wp2_with fail
          refine (HPV.out _).mono ?_
          rintro e w2 ⟨rfl, hb⟩
          have hB2 := hB1.trans (hb.mono hB1.size)
          have hown2 := own_of_blocks hown1 (fun b _ hl => hb.block b hl)
          have htb2 := htb.kept hb htb.lt
          clear hb hB1 hown1 htb d0 d1 d2 HB HOW e0 e1 e2
          go_wp2_with (at_builtin; refine wpList_append_lies _ rfl _ _ 51 rfl w.heap.size 5 i0 (.int .u8 0) 1 1 Try.underlying51 hi hz0 hz1 hz2 rfl (by omega) _ O.length (cellsOf O) rfl (hown2.alloc _) ⟨w2.heap.size, 0, none⟩ 1 1 [.int .u8 32] rfl rfl ?c1 ?c2 (by omega) ?c3 ?c4 ?c5 _ rfl ?_)
          case c1 => exact World.news_of_block (cs := #[.int .u8 32]) (t := 5) (fr := (0, 0)) (heap_alloc_new w2 _)
          case c2 => simp [Value.oneCell']
          case c3 => unfold maxLen; omega
          case c4 => omega
          case c5 => have := hB2.size; simp; omega
          intro g5 cap5 w5 hown5 hgrow hat hlt1
          have hal2 := hB2.alloc hB2.size (.cells #[.int .u8 32] 5)
          have hB5 : Below w.heap.size w w5 := hal2.grown hgrow (by have := hB2.size; simp; omega) (fun k hk => (hown2.lt k hk).1)
          rw [HC1.out] at hown5
          try rw [HL1.out] at hown5
          try rw [HL1.out]
          have hl1 := HL1.out
          have htb5 : TB w5 wr.heap.size kd te pp := by
            have hlt := htb2.lt
            have hlt3 : wr.heap.size < (w2.alloc (.cells #[.int .u8 32] 5)).heap.size := Nat.lt_trans hlt (alloc_lt _ _)
            have hx := htb2.kept (below_alloc w2 (.cells #[.int .u8 32] 5)) hlt
            exact (hgrow.block _ hlt3 (Ne.symm HNE.out)).trans hx
          have e0 := htb5.c0
          have e1 := htb5.c1
          have e2 := htb5.c2
          clear hown2 hgrow hat hlt1 hB2 hal2 htb2
          go_wp2_with fail
          refine (HPQ.out _).mono ?_
          rintro e w3 ⟨rfl, hb⟩
          have hB3 := hB5.trans (hb.mono hB5.size)
          have hown3 := own_of_blocks hown5 (fun b _ hl => hb.block b hl)
          clear hb hB5 hown5 htb5 e0 e1 e2
          go_wp2_with (at_builtin; refine Lib.wpList_append_own_string _ rfl _ _ 51 9 rfl w.heap.size 5 i0 Try.underlying51 Try.underlying9 hi hz0 hz1 hz2 _ M1.length (cellsOf M1) rfl hown3 ts rfl ?c3 ?c4 ?c5 ?_)
          case c3 => unfold maxLen; omega
          case c4 => omega
          case c5 => exact hB3.size
          intro v' w4 hown4 hgrow _
          rw [HSC.out] at hown4
          try rw [hOT] at hown4
          obtain ⟨A4, cap4, rfl⟩ := slice_of_own hown4
          have hB4 := hB3.grown hgrow hB3.size (fun j hj => (hown3.lt j hj).1)
          have HO4 := Lib.hid hown4
          have HB4 := Lib.hid hB4
          clear hown3 hB3 hown4 hgrow hB4
          go_wp2_with fail
          go_roundw
          case rel => exact ⟨k + 1, O2, A4, cap4, by omega, by go_num, HO2, hlen', rfl, HO4, HB4⟩
          case measure => simp [intOf]; omega
    · obtain rfl : k = n := by omega
      have hcv := bs_string (bs_of_own HOW.out)
      have hd : decide ((k : Int) < (k : Int)) = false := by simp
      have hb := HB.out
      clear HB HOW
      go_wp2_with fail
      go_ret
      exact ⟨by rw [← HO.out]; rfl, hb⟩
end Go.Proofs.Ytcakdgfkepdpkaa
