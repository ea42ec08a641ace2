/- Contracts: variableAt and markAt of the program. -/
import Derived.Test.YtcakdgfkepdpkaaLexTok
namespace Go.Proofs.Ytcakdgfkepdpkaa
open Go.ChangeShapes Go.WideShapes Go.ChangeAt Go.RowKit

set_option maxRecDepth 20000 in
theorem pvarat_any (s : ByteArray) (a : Nat) (w : World) (ha : a < s.size) (hs : s.size ≤ 281474976710656) :
    Calls Try.prog 51 #[.string s, .int .i64 (a : Int)] w fun e w' => e = .returned (tokRes (varT (s.data.toList.drop (a + 1)) a)) ∧ Below w.heap.size w w' := by
  obtain ⟨x, hx⟩ : ∃ x, a + 1 = x := ⟨_, rfl⟩
  have hxi : (a : Int) + 1 = (x : Int) := by omega
  unfold varT
  rw [hx]
  have hxs : x ≤ s.size := by omega
  have h1 := fun W => follow_pure s x 43 nameB W hxs (by omega) pname_any eg_name
  have hle := tw_le s x hxs nameB
  have hex := extract_tw s x nameB
  have hsz := str_size ((s.data.toList.drop x).takeWhile nameB)
  generalize hT : (s.data.toList.drop x).takeWhile nameB = T at *
  have hab : (x : Int) ≤ ((x + T.length : Nat) : Int) := by omega
  have hTs : T.length ≤ 281474976710656 := by omega
  generalize x + T.length = b at *
  have h3 : ∀ W, Calls Try.prog 22 #[.string (s.extract x b)] W fun e w' => e = .returned (.bool (isName T)) ∧ W = w' := fun W => by
    have h := pisname_any (s.extract x b) W (by rw [hex, hsz]; omega)
    rw [show isName (s.extract x b).data.toList = isName T by rw [hex, str_toList]] at h
    exact h
  have H1 := Lib.hid h1
  clear h1
  cases hN : isName T with
  | false =>
    rw [hN] at h3
    have H3 := Lib.hid h3
    rw [if_neg (by decide)]
    clear hex hT h3 hx hN
    go_enter Try.func51, Try.ntmps51
    go_wp2_with fail
    refine (H1.out _).mono ?_
    rintro e w1 ⟨rfl, rfl⟩
    go_wp2_with fail
    refine (H3.out _).mono ?_
    rintro e w1 ⟨rfl, rfl⟩
    have ht := tb_new w 0 ⟨#[]⟩ 0
    have HB1 := Lib.hid (below_alloc w (.cells #[.int .i64 0, .string ⟨#[]⟩, .int .i64 0] 36))
    generalize w.alloc (.cells #[.int .i64 0, .string ⟨#[]⟩, .int .i64 0] 36) = w1 at *
    have c0 := ht.c0
    have c1 := ht.c1
    have c2 := ht.c2
    have f0 := ht.f 0
    have f1 := ht.f 1
    have f2 := ht.f 2
    go_wp2_with fail
    change bodyPost _ _ _ _ _ (tset w1 w.heap.size 0 ⟨#[]⟩ 0)
    exact bodyPost_ret (res_tok3 rfl _ _ rfl (ht.set 0 ⟨#[]⟩ 0)) rfl ⟨rfl, tset_below HB1.out (Nat.le_refl _) _ _ _⟩
  | true =>
    rw [hN] at h3
    have H3 := Lib.hid h3
    rw [if_pos rfl]
    have h2 : ∀ W, Calls Try.prog 57 #[.int .i64 3, .string (s.extract x b), .int .i64 (a : Int)] W fun e w' => e = .returned (.agg #[.int .i64 3, .string (str T), .int .i64 (a : Int)]) ∧ Below W.heap.size W w' := fun W =>
      (newtok_any 3 (a : Int) (s.extract x b) W (by rw [hex, hsz]; omega)).mono fun e w' ⟨h, hb⟩ => ⟨by rw [h, hex]; rfl, hb⟩
    have H2 := Lib.hid h2
    clear hex hT h3 hx hN h2
    go_enter Try.func51, Try.ntmps51
    go_wp2_with fail
    refine (H1.out _).mono ?_
    rintro e w1 ⟨rfl, rfl⟩
    go_wp2_with fail
    refine (H3.out _).mono ?_
    rintro e w1 ⟨rfl, rfl⟩
    go_wp2_with fail
    refine (H2.out _).mono ?_
    rintro e w1 ⟨rfl, hb⟩
    have ht := (tb_new w 0 ⟨#[]⟩ 0).kept hb (alloc_lt _ _)
    have HB1 := Lib.hid ((below_alloc w (.cells #[.int .i64 0, .string ⟨#[]⟩, .int .i64 0] 36)).trans (hb.mono (Nat.le_of_lt (alloc_lt _ _))))
    have c0 := ht.c0
    have c1 := ht.c1
    have c2 := ht.c2
    have f0 := ht.f 0
    have f1 := ht.f 1
    have f2 := ht.f 2
    clear hb
    go_wp2_with fail
    change bodyPost _ _ _ _ _ (tset w1 w.heap.size 3 (str T) a)
    exact bodyPost_ret (res_tok3 rfl _ _ rfl (ht.set 3 (str T) a)) rfl ⟨rfl, tset_below HB1.out (Nat.le_refl _) _ _ _⟩

/-- The longest mark: of two bytes, else of one. -/
theorem find_len (n : Nat) (L : List UInt8) : ∀ M : List (List UInt8), (∀ m ∈ M, m.length = n) → M.find? (fun m => m.isPrefixOf L) = if (decide (n ≤ L.length) && M.any fun m => m == L.take n) = true then some (L.take n) else none
  | [], _ => by simp
  | m :: M, h => by
    have hm := h m (by simp)
    rw [List.find?_cons, prefix_iff, hm, List.any_cons, find_len n L M (fun m' h' => h m' (by simp [h']))]
    by_cases h1 : n ≤ L.length
    · by_cases h2 : m = L.take n
      · simp [h1, ← h2]
      · have h2' : (L.take n == m) = false := by rw [beq_eq_false_iff_ne]; exact fun e => h2 e.symm
        have h2'' : (m == L.take n) = false := by rw [beq_eq_false_iff_ne]; exact h2
        simp [h1, h2', h2'']
    · simp [h1]
theorem any_len {n : Nat} {X : List UInt8} (hX : X.length ≠ n) : ∀ M : List (List UInt8), (∀ m ∈ M, m.length = n) → (M.any fun m => m == X) = false
  | [], _ => rfl
  | m :: M, h => by
    rw [List.any_cons, any_len hX M (fun m' h' => h m' (by simp [h']))]
    have : (m == X) = false := by
      rw [beq_eq_false_iff_ne]
      rintro rfl
      exact hX (h _ (by simp))
    rw [this]; rfl
def marks2 : List (List UInt8) := [[45, 62], [60, 62], [60, 61]]
def marks1 : List (List UInt8) := [[40], [41], [91], [93], [123], [125], [44], [59], [33], [61], [60], [62], [38], [43]]
theorem marks_eq : marks = marks2 ++ marks1 := rfl
theorem marks2_len : ∀ m ∈ marks2, m.length = 2 := by decide
theorem marks1_len : ∀ m ∈ marks1, m.length = 1 := by decide
theorem markOf_eq (L : List UInt8) : markOf L = if (decide (2 ≤ L.length) && isMk (L.take 2)) = true then L.take 2 else if (decide (1 ≤ L.length) && isMk (L.take 1)) = true then L.take 1 else [] := by
  unfold markOf
  rw [marks_eq, List.find?_append, find_len 2 L _ marks2_len, find_len 1 L _ marks1_len]
  have e2 : 2 ≤ L.length → isMk (L.take 2) = marks2.any fun m => m == L.take 2 := fun h => by
    unfold isMk
    rw [marks_eq, List.any_append, any_len (n := 1) (by rw [List.length_take]; omega) _ marks1_len, Bool.or_false]
  have e1 : 1 ≤ L.length → isMk (L.take 1) = marks1.any fun m => m == L.take 1 := fun h => by
    unfold isMk
    rw [marks_eq, List.any_append, any_len (n := 2) (by rw [List.length_take]; omega) _ marks2_len, Bool.false_or]
  by_cases h2 : 2 ≤ L.length
  · rw [e2 h2, e1 (by omega)]
    cases (marks2.any fun m => m == L.take 2) <;> cases (marks1.any fun m => m == L.take 1) <;> simp [h2, show 1 ≤ L.length by omega]
  · by_cases h1 : 1 ≤ L.length
    · rw [e1 h1]
      cases (marks1.any fun m => m == L.take 1) <;> simp [h2, h1]
    · simp [h2, h1]
theorem isMk_ne {L : List UInt8} (h : isMk L = true) : L ≠ [] := by
  rintro rfl
  revert h
  decide

set_option maxRecDepth 20000 in
theorem pmarkat_any (s : ByteArray) (a : Nat) (w : World) (ha : a < s.size) (hs : s.size ≤ 281474976710656) :
    Calls Try.prog 53 #[.string s, .int .i64 (a : Int)] w fun e w' => e = .returned (tokRes (markT (s.data.toList.drop a) a)) ∧ Below w.heap.size w w' := by
  have hmk := markOf_eq (s.data.toList.drop a)
  have hlen : (s.data.toList.drop a).length = s.size - a := by rw [List.length_drop]; simp
  have hx1 := extract_str s a (a + 1)
  have hx2 := extract_str s a (a + 2)
  rw [Nat.add_sub_cancel_left] at hx1 hx2
  have hi1 := fun W => pismark_any (s.extract a (a + 1)) W
  have hi2 := fun W => pismark_any (s.extract a (a + 2)) W
  rw [show (s.extract a (a + 1)).data.toList = (s.data.toList.drop a).take 1 by rw [hx1, str_toList]] at hi1
  rw [show (s.extract a (a + 2)).data.toList = (s.data.toList.drop a).take 2 by rw [hx2, str_toList]] at hi2
  have hl1 : ((s.data.toList.drop a).take 1).length = 1 := by rw [List.length_take]; omega
  generalize s.data.toList.drop a = L at *
  obtain ⟨b1, hb1⟩ : ∃ b1, a + 1 = b1 := ⟨_, rfl⟩
  obtain ⟨b2, hb2⟩ : ∃ b2, a + 2 = b2 := ⟨_, rfl⟩
  rw [hb1] at hx1 hi1
  rw [hb2] at hx2 hi2
  have i1 : (a : Int) + 1 = (b1 : Int) := by omega
  have i2 : (a : Int) + 2 = (b2 : Int) := by omega
  have HB0 := Lib.hid ((below_alloc w (.cells #[.int .i64 0, .string ⟨#[]⟩, .int .i64 0] 36)).trans ((below_alloc (w.alloc (.cells #[.int .i64 0, .string ⟨#[]⟩, .int .i64 0] 36)) (.cells #[.int .i64 2, .int .i64 1] 3)).mono (Nat.le_of_lt (alloc_lt _ _))))
  have HT0 := Lib.hid ((tb_new w 0 ⟨#[]⟩ 0).kept (below_alloc (w.alloc (.cells #[.int .i64 0, .string ⟨#[]⟩, .int .i64 0] 36)) (.cells #[.int .i64 2, .int .i64 1] 3)) (alloc_lt _ _))
  have hce : Cells ((w.alloc (.cells #[.int .i64 0, .string ⟨#[]⟩, .int .i64 0] 36)).alloc (.cells #[.int .i64 2, .int .i64 1] 3)) (w.heap.size + 1) 3 #[.int .i64 2, .int .i64 1] := heap_alloc2_new w _ _
  have d0 := (hce.cell 0).trans (show _ = some (Value.int .i64 2) from rfl)
  have d1 := (hce.cell 1).trans (show _ = some (Value.int .i64 1) from rfl)
  have HH1 := Lib.hid hi1
  have HH2 := Lib.hid hi2
  have hlen2 : L.length = s.size - a := hlen
  have q1 : (1 : Int) ≤ (s.size : Int) - (a : Int) := by omega
  have HX1 := Lib.hid hx1
  have HX2 := Lib.hid hx2
  have HMK := Lib.hid hmk
  have z1 : (s.extract a b1).size ≤ 281474976710656 := by rw [hx1, str_size, List.length_take]; omega
  have z2 : (s.extract a b2).size ≤ 281474976710656 := by rw [hx2, str_size, List.length_take]; omega
  have n1 := fun W => newtok_any 4 (a : Int) (s.extract a b1) W z1
  have n2 := fun W => newtok_any 4 (a : Int) (s.extract a b2) W z2
  unfold tokV at n1 n2
  have N1 := Lib.hid n1
  have N2 := Lib.hid n2
  have HL1 := Lib.hid hl1
  have bb2 : b2 = a + 2 := hb2.symm
  have bb1 : b1 = a + 1 := hb1.symm
  clear hce hi1 hi2 hlen hx1 hx2 hmk z1 z2 n1 n2 hl1 hb1 hb2
  go_enter Try.func53, Try.ntmps53
  go_wp2_with fail
  generalize (w.alloc (.cells #[.int .i64 0, .string ⟨#[]⟩, .int .i64 0] 36)).alloc (.cells #[.int .i64 2, .int .i64 1] 3) = w0 at *
  go_loop [8, 11] (fun c i => (i = .int .i64 0 ∨ (i = .int .i64 1 ∧ Hid ((decide (2 ≤ L.length) && isMk (L.take 2)) = false)) ∨ (i = .int .i64 2 ∧ Hid ((decide (2 ≤ L.length) && isMk (L.take 2)) = false ∧ (decide (1 ≤ L.length) && isMk (L.take 1)) = false)))) (fun _ i => 2 - (intOf i).toNat)
  case atStart => exact .inl rfl
  case round =>
    rcases hrel with rfl | ⟨rfl, HN2⟩ | ⟨rfl, HN2⟩
    · by_cases h2 : a + 2 ≤ s.size
      · have q2 : (2 : Int) ≤ (s.size : Int) - (a : Int) := by omega
        have b2s : b2 ≤ s.size := by omega
        have ab2 : (a : Int) ≤ (b2 : Int) := by omega
        have dl : decide (2 ≤ L.length) = true := by simp; omega
        cases hm : isMk (L.take 2) with
        | true =>
          have hv := HMK.out
          rw [dl, hm, Bool.true_and, if_pos rfl] at hv
          have hval : tokRes (markT L a) = .tuple #[tokV 4 (s.extract a b2) a, .int .i64 b2, .int .i64 0] := by
            unfold markT
            rw [hv, HX2.out]
            have hne := isMk_ne hm
            have hln : (L.take 2).length = 2 := by rw [List.length_take]; omega
            generalize L.take 2 = M at *
            cases M with
            | nil => exact absurd rfl hne
            | cons c r => simp only [tokRes]; rw [hln, bb2]; rfl
          have h3 := HH2.out
          rw [hm] at h3
          have H3 := Lib.hid h3
          have HV := Lib.hid hval
          clear h3 hval hv hm dl bb1 bb2 HH1 HMK HX1 HX2 HL1 N1 d1 q1
          go_wp2_with fail
          refine (H3.out _).mono ?_
          rintro e w1 ⟨rfl, rfl⟩
          go_wp2_with fail
          refine (N2.out _).mono ?_
          rintro e w1 ⟨rfl, hb⟩
          have ht := HT0.out.kept hb HT0.out.lt
          have HB1 := Lib.hid (HB0.out.trans (hb.mono HB0.out.size))
          have c0 := ht.c0
          have c1 := ht.c1
          have c2 := ht.c2
          have f0 := ht.f 0
          have f1 := ht.f 1
          have f2 := ht.f 2
          clear hb
          go_wp2_with fail
          change bodyPost _ _ _ _ _ (tset w1 w.heap.size 4 (s.extract a b2) a)
          exact bodyPost_ret (res_tok3 rfl _ _ rfl (ht.set 4 (s.extract a b2) a)) rfl ⟨by rw [HV.out]; rfl, tset_below HB1.out (Nat.le_refl _) _ _ _⟩
        | false =>
          have h3 := HH2.out
          rw [hm] at h3
          have H3 := Lib.hid h3
          clear h3 hm dl bb1 bb2 HH1 HX1 HX2 HL1 N1 d1 q1
          go_wp2_with fail
          refine (H3.out _).mono ?_
          rintro e w1 ⟨rfl, rfl⟩
          go_wp2_with fail
          go_round
          case rel => exact .inr (.inl ⟨rfl, Bool.and_false _⟩)
          case measure => simp [intOf]
      · have q2 : decide ((2 : Int) ≤ (s.size : Int) - (a : Int)) = false := by simp; omega
        have HN := Lib.hid (show (decide (2 ≤ L.length) && isMk (L.take 2)) = false by rw [show decide (2 ≤ L.length) = false by simp; omega, Bool.false_and])
        clear bb1 bb2 HH1 HX1 HX2 HL1 N1 d1 q1
        go_wp2_with fail
        go_round
        case rel => exact .inr (.inl ⟨rfl, HN.out⟩)
        case measure => simp [intOf]
    · have b1s : b1 ≤ s.size := by omega
      have ab1 : (a : Int) ≤ (b1 : Int) := by omega
      have dl : decide (1 ≤ L.length) = true := by simp; omega
      cases hm : isMk (L.take 1) with
      | true =>
        have hv := HMK.out
        rw [HN2.out, if_neg (by decide), dl, hm, Bool.true_and, if_pos rfl] at hv
        have hval : tokRes (markT L a) = .tuple #[tokV 4 (s.extract a b1) a, .int .i64 b1, .int .i64 0] := by
          unfold markT
          rw [hv, HX1.out]
          have hne := isMk_ne hm
          have hln := HL1.out
          generalize L.take 1 = M at *
          cases M with
          | nil => exact absurd rfl hne
          | cons c r => simp only [tokRes]; rw [hln, bb1]; rfl
        have h3 := HH1.out
        rw [hm] at h3
        have H3 := Lib.hid h3
        have HV := Lib.hid hval
        clear h3 hval hv hm dl bb1 bb2 HH2 HMK HX1 HX2 HL1 N2 d0 HN2
        go_wp2_with fail
        refine (H3.out _).mono ?_
        rintro e w1 ⟨rfl, rfl⟩
        go_wp2_with fail
        refine (N1.out _).mono ?_
        rintro e w1 ⟨rfl, hb⟩
        have ht := HT0.out.kept hb HT0.out.lt
        have HB1 := Lib.hid (HB0.out.trans (hb.mono HB0.out.size))
        have c0 := ht.c0
        have c1 := ht.c1
        have c2 := ht.c2
        have f0 := ht.f 0
        have f1 := ht.f 1
        have f2 := ht.f 2
        clear hb
        go_wp2_with fail
        change bodyPost _ _ _ _ _ (tset w1 w.heap.size 4 (s.extract a b1) a)
        exact bodyPost_ret (res_tok3 rfl _ _ rfl (ht.set 4 (s.extract a b1) a)) rfl ⟨by rw [HV.out]; rfl, tset_below HB1.out (Nat.le_refl _) _ _ _⟩
      | false =>
        have h3 := HH1.out
        rw [hm] at h3
        have H3 := Lib.hid h3
        clear h3 hm dl bb1 bb2 HH2 HX1 HX2 HL1 N2 d0
        go_wp2_with fail
        refine (H3.out _).mono ?_
        rintro e w1 ⟨rfl, rfl⟩
        go_wp2_with fail
        go_round
        case rel => exact .inr (.inr ⟨rfl, HN2.out, Bool.and_false _⟩)
        case measure => simp [intOf]
    · have hv := HMK.out
      rw [HN2.out.1, HN2.out.2, if_neg (by decide), if_neg (by decide)] at hv
      have hval : tokRes (markT L a) = .tuple #[tokV 0 ⟨#[]⟩ 0, .int .i64 a, .int .i64 14] := by
        unfold markT
        rw [hv]; rfl
      have HV := Lib.hid hval
      clear hv hval HN2 HMK
      have ht := HT0.out
      have HB1 := Lib.hid HB0.out
      have c0 := ht.c0
      have c1 := ht.c1
      have c2 := ht.c2
      have f0 := ht.f 0
      have f1 := ht.f 1
      have f2 := ht.f 2
      go_wp2_with fail
      change bodyPost _ _ _ _ _ (tset w0 w.heap.size 0 ⟨#[]⟩ 0)
      exact bodyPost_ret (res_tok3 rfl _ _ rfl (ht.set 0 ⟨#[]⟩ 0)) rfl ⟨by rw [HV.out]; rfl, tset_below HB1.out (Nat.le_refl _) _ _ _⟩

end Go.Proofs.Ytcakdgfkepdpkaa
