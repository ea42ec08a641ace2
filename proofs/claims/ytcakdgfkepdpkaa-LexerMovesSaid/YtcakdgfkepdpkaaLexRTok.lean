/- Contract: the reference's token. -/
import Derived.Test.YtcakdgfkepdpkaaLexLit
namespace Go.Proofs.Ytcakdgfkepdpkaa
open Go.ChangeShapes Go.WideShapes Go.ChangeAt Go.RowKit

theorem extract_end (s : ByteArray) (a : Nat) : (s.extract a s.size).data.toList = s.data.toList.drop a := by
  rw [extract_str, str_toList]
  exact List.take_of_length_le (by rw [List.length_drop]; simp)

set_option maxHeartbeats 4000000 in
set_option maxRecDepth 20000 in
theorem rtokat_any (s : ByteArray) (a : Nat) (w : World) (ha : a < s.size) (hs : s.size ≤ 16000) :
    Calls Try.prog 32 #[.string s, .int .i64 (a : Int)] w fun e w' => e = .returned (tokRes (tokAt (s.data.toList.drop a) a)) ∧ Below w.heap.size w w' := by
  have heq := tok_eq s[a] (s.data.toList.drop (a + 1)) a
  rw [← drop_at s a ha] at heq
  have hwd := fun W => rword_any s[a] W
  have hb8 := u8_lt s[a]
  have hai : (a : Int) < (s.size : Int) := by omega
  have hai0 : (0 : Int) ≤ (a : Int) := by omega
  have HT0 := Lib.hid (tb_new w 0 ⟨#[]⟩ 0)
  have HB0 := Lib.hid (below_alloc w (.cells #[.int .i64 0, .string ⟨#[]⟩, .int .i64 0] 36))
  cases hw : wordB s[a] with
  | true =>
    rw [if_pos hw] at heq
    rw [heq]
    rw [hw] at hwd
    have HW := Lib.hid hwd
    have hle := tw_le s a (by omega) wordB
    have hex := extract_tw s a wordB
    have hT16 : ((s.data.toList.drop a).takeWhile wordB).length ≤ 16000 := by omega
    unfold wordT
    obtain ⟨b, hb⟩ : ∃ b, b = a + ((s.data.toList.drop a).takeWhile wordB).length := ⟨_, rfl⟩
    rw [← hb] at hex hle ⊢
    have HBT := Lib.hid hb
    obtain ⟨T, hT⟩ : ∃ T, T = (s.data.toList.drop a).takeWhile wordB := ⟨_, rfl⟩
    rw [← hT] at hex hb hT16 ⊢
    have hbi : (b : Int) - (a : Int) = (T.length : Int) := by omega
    have hab : (a : Int) ≤ (b : Int) := by omega
    have HEX := Lib.hid hex
    obtain ⟨V, hVV⟩ : ∃ V, V = tokRes (if 80 < T.length then Res.err 3 a else Res.ok (⟨1, T, a⟩ : Tok) b) := ⟨_, rfl⟩
    rw [← hVV]
    have HVV := Lib.hid hVV
    clear hT hb hex heq hw hwd hVV
    go_enter Try.func32, Try.ntmps32
    go_wp2_with fail
    refine (HW.out _).mono ?_
    rintro e w1 ⟨rfl, rfl⟩
    clear HW
    go_wp2_with fail
    generalize w.alloc (.cells #[.int .i64 0, .string ⟨#[]⟩, .int .i64 0] 36) = w0 at *
    go_loop [8] (fun i => ∃ k : Nat, a ≤ k ∧ k ≤ s.size ∧ i = .int .i64 k ∧ Hid (b = k + ((s.data.toList.drop k).takeWhile wordB).length)) (fun i => s.size - (intOf i).toNat)
    case atStart => exact ⟨a, Nat.le_refl _, by omega, rfl, HBT.out⟩
    case round =>
      clear HBT
      obtain ⟨k, hak, hk, rfl, HK⟩ := hrel
      by_cases hlt : k < s.size
      · have hk8 := u8_lt s[k]
        have hki : (k : Int) < (s.size : Int) := by omega
        have hki0 : (0 : Int) ≤ (k : Int) := by omega
        have hkk := HK.out
        rw [drop_at s k hlt, List.takeWhile_cons] at hkk
        have htest := fun W => rword_any s[k] W
        cases hpk : wordB s[k] with
        | true =>
          rw [hpk] at hkk htest
          have HTE := Lib.hid htest
          have HK2 := Lib.hid (show b = k + 1 + ((s.data.toList.drop (k + 1)).takeWhile wordB).length by simp at hkk; omega)
          clear hkk htest hpk HK
          go_wp2_with fail
          refine (HTE.out _).mono ?_
          rintro e w2 ⟨rfl, rfl⟩
          go_wp2_with fail
          go_round
          case rel => exact ⟨k + 1, by omega, by omega, by go_num, HK2.out⟩
          case measure => simp [intOf]; omega
        | false =>
          rw [hpk] at hkk htest
          have HTE := Lib.hid htest
          obtain rfl : b = k := by simpa using hkk
          clear hkk htest hpk HK hak hk
          go_wp2_with fail
          refine (HTE.out _).mono ?_
          rintro e w2 ⟨rfl, rfl⟩
          by_cases h80 : 80 < T.length
          · have e80 : (80 : Int) < (T.length : Int) := by omega
            have hv : V = .tuple #[tokV 0 ⟨#[]⟩ 0, .int .i64 a, .int .i64 3] := by rw [HVV.out, if_pos h80]; rfl
            have HV := Lib.hid hv
            clear hv h80
            have ht := HT0.out
            have HB1 := Lib.hid HB0.out
            have c0 := ht.c0
            have c1 := ht.c1
            have c2 := ht.c2
            have f0 := ht.f 0
            have f1 := ht.f 1
            have f2 := ht.f 2
            go_wp2_with fail
            change bodyPost _ _ _ _ _ (tset w0 w.heap.size 0 ⟨#[]⟩ 0)
            exact bodyPost_ret (res_tok3 rfl _ _ rfl (ht.set 0 ⟨#[]⟩ 0)) rfl ⟨by rw [HV.out]; rfl, tset_below HB1.out (Nat.le_refl _) _ _ _⟩
          · have e80 : decide ((80 : Int) < (T.length : Int)) = false := by simp; omega
            have hv : V = .tuple #[tokV 1 (s.extract a b) a, .int .i64 b, .int .i64 0] := by rw [HVV.out, if_neg h80, HEX.out]; rfl
            have HV := Lib.hid hv
            clear hv h80
            have ht := HT0.out
            have HB1 := Lib.hid HB0.out
            have c0 := ht.c0
            have c1 := ht.c1
            have c2 := ht.c2
            have f0 := ht.f 0
            have f1 := ht.f 1
            have f2 := ht.f 2
            go_wp2_with fail
            change bodyPost _ _ _ _ _ (tset w0 w.heap.size 1 (s.extract a b) a)
            exact bodyPost_ret (res_tok3 rfl _ _ rfl (ht.set 1 (s.extract a b) a)) rfl ⟨by rw [HV.out]; rfl, tset_below HB1.out (Nat.le_refl _) _ _ _⟩
      · obtain rfl : k = s.size := by omega
        have hkk := HK.out
        rw [drop_end] at hkk
        obtain rfl : b = s.size := by simpa using hkk
        have hd : decide ((s.size : Int) < (s.size : Int)) = false := by simp
        clear hkk HK hak hk
        by_cases h80 : 80 < T.length
        · have e80 : (80 : Int) < (T.length : Int) := by omega
          have hv : V = .tuple #[tokV 0 ⟨#[]⟩ 0, .int .i64 a, .int .i64 3] := by rw [HVV.out, if_pos h80]; rfl
          have HV := Lib.hid hv
          clear hv h80
          have ht := HT0.out
          have HB1 := Lib.hid HB0.out
          have c0 := ht.c0
          have c1 := ht.c1
          have c2 := ht.c2
          have f0 := ht.f 0
          have f1 := ht.f 1
          have f2 := ht.f 2
          go_wp2_with fail
          change bodyPost _ _ _ _ _ (tset w0 w.heap.size 0 ⟨#[]⟩ 0)
          exact bodyPost_ret (res_tok3 rfl _ _ rfl (ht.set 0 ⟨#[]⟩ 0)) rfl ⟨by rw [HV.out]; rfl, tset_below HB1.out (Nat.le_refl _) _ _ _⟩
        · have e80 : decide ((80 : Int) < (T.length : Int)) = false := by simp; omega
          have hv : V = .tuple #[tokV 1 (s.extract a s.size) a, .int .i64 s.size, .int .i64 0] := by rw [HVV.out, if_neg h80, HEX.out]; rfl
          have HV := Lib.hid hv
          clear hv h80
          have ht := HT0.out
          have HB1 := Lib.hid HB0.out
          have c0 := ht.c0
          have c1 := ht.c1
          have c2 := ht.c2
          have f0 := ht.f 0
          have f1 := ht.f 1
          have f2 := ht.f 2
          go_wp2_with fail
          change bodyPost _ _ _ _ _ (tset w0 w.heap.size 1 (s.extract a s.size) a)
          exact bodyPost_ret (res_tok3 rfl _ _ rfl (ht.set 1 (s.extract a s.size) a)) rfl ⟨by rw [HV.out]; rfl, tset_below HB1.out (Nat.le_refl _) _ _ _⟩
  | false =>
    rw [if_neg (by rw [hw]; decide)] at heq
    rw [hw] at hwd
    have HW := Lib.hid hwd
    by_cases hd : s[a].toNat = 36
    · rw [if_pos hd] at heq
      rw [heq]
      have e36 : ((s[a].toNat : Int) == 36) = true := by simp; omega
      obtain ⟨x, hx⟩ : ∃ x, a + 1 = x := ⟨_, rfl⟩
      have hxi : (a : Int) + 1 = (x : Int) := by omega
      have hxs : x ≤ s.size := by omega
      unfold varT
      rw [hx]
      have hle := tw_le s x hxs nameB
      have hex := extract_tw s x nameB
      have hT16 : ((s.data.toList.drop x).takeWhile nameB).length ≤ 16000 := by omega
      obtain ⟨b, hb⟩ : ∃ b, b = x + ((s.data.toList.drop x).takeWhile nameB).length := ⟨_, rfl⟩
      rw [← hb] at hex hle ⊢
      have HBT := Lib.hid hb
      have hsz := str_size ((s.data.toList.drop x).takeWhile nameB)
      obtain ⟨T, hT⟩ : ∃ T, T = (s.data.toList.drop x).takeWhile nameB := ⟨_, rfl⟩
      rw [← hT] at hex hb hT16 hsz ⊢
      have hab : (x : Int) ≤ (b : Int) := by omega
      have hnm : ∀ W, Calls Try.prog 23 #[.string (s.extract x b)] W fun e w' => e = .returned (.bool (isName T)) ∧ W = w' := fun W => by
        have h := risname_any (s.extract x b) W (by rw [hex, hsz]; omega)
        rw [show isName (s.extract x b).data.toList = isName T by rw [hex, str_toList]] at h
        exact h
      have HNM := Lib.hid hnm
      have HEX := Lib.hid hex
      obtain ⟨V, hVV⟩ : ∃ V, V = tokRes (if isName T = true then Res.ok (⟨3, T, a⟩ : Tok) b else Res.err 5 a) := ⟨_, rfl⟩
      rw [← hVV]
      have HVV := Lib.hid hVV
      clear hT hb hex heq hw hwd hd hnm hx hsz hVV
      go_enter Try.func32, Try.ntmps32
      go_wp2_with fail
      refine (HW.out _).mono ?_
      rintro e w1 ⟨rfl, rfl⟩
      clear HW
      go_wp2_with fail
      generalize w.alloc (.cells #[.int .i64 0, .string ⟨#[]⟩, .int .i64 0] 36) = w0 at *
      go_loop [8] (fun i => ∃ k : Nat, x ≤ k ∧ k ≤ s.size ∧ i = .int .i64 k ∧ Hid (b = k + ((s.data.toList.drop k).takeWhile nameB).length)) (fun i => s.size - (intOf i).toNat)
      case atStart => exact ⟨x, Nat.le_refl _, hxs, rfl, HBT.out⟩
      case round =>
        clear HBT
        obtain ⟨k, hak, hk, rfl, HK⟩ := hrel
        by_cases hlt : k < s.size
        · have hk8 := u8_lt s[k]
          have hki : (k : Int) < (s.size : Int) := by omega
          have hki0 : (0 : Int) ≤ (k : Int) := by omega
          have hkk := HK.out
          rw [drop_at s k hlt, List.takeWhile_cons] at hkk
          have htest := fun W => rname_any s[k] W
          cases hpk : nameB s[k] with
          | true =>
            rw [hpk] at hkk htest
            have HTE := Lib.hid htest
            have HK2 := Lib.hid (show b = k + 1 + ((s.data.toList.drop (k + 1)).takeWhile nameB).length by simp at hkk; omega)
            clear hkk htest hpk HK
            go_wp2_with fail
            refine (HTE.out _).mono ?_
            rintro e w2 ⟨rfl, rfl⟩
            go_wp2_with fail
            go_round
            case rel => exact ⟨k + 1, by omega, by omega, by go_num, HK2.out⟩
            case measure => simp [intOf]; omega
          | false =>
            rw [hpk] at hkk htest
            have HTE := Lib.hid htest
            obtain rfl : b = k := by simpa using hkk
            clear hkk htest hpk HK hak hk
            go_wp2_with fail
            refine (HTE.out _).mono ?_
            rintro e w2 ⟨rfl, rfl⟩
            cases hN : isName T with
            | false =>
              have h3 := HNM.out
              rw [hN] at h3
              have H3 := Lib.hid h3
              have hv : V = .tuple #[tokV 0 ⟨#[]⟩ 0, .int .i64 a, .int .i64 5] := by rw [HVV.out, hN]; rfl
              have HV := Lib.hid hv
              clear hv h3 hN HNM
              go_wp2_with fail
              refine (H3.out _).mono ?_
              rintro e w1 ⟨rfl, rfl⟩
              have ht := HT0.out
              have HB1 := Lib.hid HB0.out
              have c0 := ht.c0
              have c1 := ht.c1
              have c2 := ht.c2
              have f0 := ht.f 0
              have f1 := ht.f 1
              have f2 := ht.f 2
              go_wp2_with fail
              change bodyPost _ _ _ _ _ (tset w0 w.heap.size 0 ⟨#[]⟩ 0)
              exact bodyPost_ret (res_tok3 rfl _ _ rfl (ht.set 0 ⟨#[]⟩ 0)) rfl ⟨by rw [HV.out]; rfl, tset_below HB1.out (Nat.le_refl _) _ _ _⟩
            | true =>
              have h3 := HNM.out
              rw [hN] at h3
              have H3 := Lib.hid h3
              have hv : V = .tuple #[tokV 3 (s.extract x b) a, .int .i64 b, .int .i64 0] := by rw [HVV.out, hN, if_pos rfl, HEX.out]; rfl
              have HV := Lib.hid hv
              clear hv h3 hN HNM
              go_wp2_with fail
              refine (H3.out _).mono ?_
              rintro e w1 ⟨rfl, rfl⟩
              have ht := HT0.out
              have HB1 := Lib.hid HB0.out
              have c0 := ht.c0
              have c1 := ht.c1
              have c2 := ht.c2
              have f0 := ht.f 0
              have f1 := ht.f 1
              have f2 := ht.f 2
              go_wp2_with fail
              change bodyPost _ _ _ _ _ (tset w0 w.heap.size 3 (s.extract x b) a)
              exact bodyPost_ret (res_tok3 rfl _ _ rfl (ht.set 3 (s.extract x b) a)) rfl ⟨by rw [HV.out]; rfl, tset_below HB1.out (Nat.le_refl _) _ _ _⟩
        · obtain rfl : k = s.size := by omega
          have hkk := HK.out
          rw [drop_end] at hkk
          obtain rfl : b = s.size := by simpa using hkk
          have hd : decide ((s.size : Int) < (s.size : Int)) = false := by simp
          clear hkk HK hak hk
          cases hN : isName T with
          | false =>
            have h3 := HNM.out
            rw [hN] at h3
            have H3 := Lib.hid h3
            have hv : V = .tuple #[tokV 0 ⟨#[]⟩ 0, .int .i64 a, .int .i64 5] := by rw [HVV.out, hN]; rfl
            have HV := Lib.hid hv
            clear hv h3 hN HNM
            go_wp2_with fail
            refine (H3.out _).mono ?_
            rintro e w1 ⟨rfl, rfl⟩
            have ht := HT0.out
            have HB1 := Lib.hid HB0.out
            have c0 := ht.c0
            have c1 := ht.c1
            have c2 := ht.c2
            have f0 := ht.f 0
            have f1 := ht.f 1
            have f2 := ht.f 2
            go_wp2_with fail
            change bodyPost _ _ _ _ _ (tset w0 w.heap.size 0 ⟨#[]⟩ 0)
            exact bodyPost_ret (res_tok3 rfl _ _ rfl (ht.set 0 ⟨#[]⟩ 0)) rfl ⟨by rw [HV.out]; rfl, tset_below HB1.out (Nat.le_refl _) _ _ _⟩
          | true =>
            have h3 := HNM.out
            rw [hN] at h3
            have H3 := Lib.hid h3
            have hv : V = .tuple #[tokV 3 (s.extract x s.size) a, .int .i64 s.size, .int .i64 0] := by rw [HVV.out, hN, if_pos rfl, HEX.out]; rfl
            have HV := Lib.hid hv
            clear hv h3 hN HNM
            go_wp2_with fail
            refine (H3.out _).mono ?_
            rintro e w1 ⟨rfl, rfl⟩
            have ht := HT0.out
            have HB1 := Lib.hid HB0.out
            have c0 := ht.c0
            have c1 := ht.c1
            have c2 := ht.c2
            have f0 := ht.f 0
            have f1 := ht.f 1
            have f2 := ht.f 2
            go_wp2_with fail
            change bodyPost _ _ _ _ _ (tset w0 w.heap.size 3 (s.extract x s.size) a)
            exact bodyPost_ret (res_tok3 rfl _ _ rfl (ht.set 3 (s.extract x s.size) a)) rfl ⟨by rw [HV.out]; rfl, tset_below HB1.out (Nat.le_refl _) _ _ _⟩
    rw [if_neg hd] at heq
    have e36 : ((s[a].toNat : Int) == 36) = false := by simp; omega
    by_cases hq : s[a].toNat = 34
    · rw [if_pos hq] at heq
      rw [heq]
      have e34 : ((s[a].toNat : Int) == 34) = true := by simp; omega
      have hl := fun W => rliteral_any s a W ha hs
      have hok := lit_ok a (s.data.toList.drop (a + 1)) .plain [] (a + 1)
      cases hL : lit a .plain [] (a + 1) (s.data.toList.drop (a + 1)) with
      | ok t n =>
        rw [hL] at hl
        have H := Lib.hid (show ∀ W, Calls Try.prog _ _ W (fun e w' => e = .returned (.tuple #[.string (str t), .int .i64 (n : Nat), .int .i64 0]) ∧ Below W.heap.size W w') from hl)
        have HV := Lib.hid (show tokRes (strR a (.ok t n)) = .tuple #[tokV 2 (str t) a, .int .i64 n, .int .i64 0] from rfl)
        clear hl hL heq hw hwd hd hq hok
        go_enter Try.func32, Try.ntmps32
        go_wp2_with fail
        refine (HW.out _).mono ?_
        rintro e w1 ⟨rfl, rfl⟩
        go_wp2_with fail
        refine (H.out _).mono ?_
        rintro e w1 ⟨rfl, hb⟩
        have ht := (tb_new w 0 ⟨#[]⟩ 0).kept hb (alloc_lt _ _)
        have HB1 := Lib.hid ((below_alloc w (.cells #[.int .i64 0, .string ⟨#[]⟩, .int .i64 0] 36)).trans (hb.mono (Nat.le_of_lt (alloc_lt _ _))))
        have c0 := ht.c0
        have c1 := ht.c1
        have c2 := ht.c2
        have f0 := ht.f 0
        have f1 := ht.f 1
        have f2 := ht.f 2
        clear hb
        go_wp2_with fail
        change bodyPost _ _ _ _ _ (tset w1 w.heap.size 2 (str t) a)
        exact bodyPost_ret (res_tok3 rfl _ _ rfl (ht.set 2 (str t) a)) rfl ⟨by rw [HV.out]; rfl, tset_below HB1.out (Nat.le_refl _) _ _ _⟩
      | err er n =>
        rw [hL] at hl hok
        have H := Lib.hid (show ∀ W, Calls Try.prog _ _ W (fun e w' => e = .returned (.tuple #[.string ⟨#[]⟩, .int .i64 (n : Nat), .int .i64 (er : Nat)]) ∧ Below W.heap.size W w') from hl)
        have HV := Lib.hid (show tokRes (strR a (.err er n)) = .tuple #[tokV 0 ⟨#[]⟩ 0, .int .i64 n, .int .i64 er] from rfl)
        have hne : ((er : Int) != 0) = true := by
          rcases hok with h | h | h <;> rw [h] <;> decide
        clear hl hL heq hw hwd hd hq hok
        go_enter Try.func32, Try.ntmps32
        go_wp2_with fail
        refine (HW.out _).mono ?_
        rintro e w1 ⟨rfl, rfl⟩
        go_wp2_with fail
        refine (H.out _).mono ?_
        rintro e w1 ⟨rfl, hb⟩
        have ht := (tb_new w 0 ⟨#[]⟩ 0).kept hb (alloc_lt _ _)
        have HB1 := Lib.hid ((below_alloc w (.cells #[.int .i64 0, .string ⟨#[]⟩, .int .i64 0] 36)).trans (hb.mono (Nat.le_of_lt (alloc_lt _ _))))
        have c0 := ht.c0
        have c1 := ht.c1
        have c2 := ht.c2
        have f0 := ht.f 0
        have f1 := ht.f 1
        have f2 := ht.f 2
        clear hb
        go_wp2_with fail
        change bodyPost _ _ _ _ _ (tset w1 w.heap.size 0 ⟨#[]⟩ 0)
        exact bodyPost_ret (res_tok3 rfl _ _ rfl (ht.set 0 ⟨#[]⟩ 0)) rfl ⟨by rw [HV.out]; rfl, tset_below HB1.out (Nat.le_refl _) _ _ _⟩
    · rw [if_neg hq] at heq
      rw [heq]
      have e34 : ((s[a].toNat : Int) == 34) = false := by simp; omega
      have hm := fun W => rmark_any (s.extract a s.size) W (by rw [extract_str, str_size, List.length_take, List.length_drop]; simp; omega)
      rw [extract_end] at hm
      have hml := markOf_le (s.data.toList.drop a)
      rw [List.length_drop] at hml
      have hsl : s.data.toList.length = s.size := by simp
      unfold markT
      cases hM : markOf (s.data.toList.drop a) with
      | nil =>
        rw [hM] at hm
        have H := Lib.hid (show ∀ W, Calls Try.prog _ _ W (fun e w' => e = .returned (.string ⟨#[]⟩) ∧ Below W.heap.size W w') from hm)
        have HV := Lib.hid (show tokRes (.err 14 a) = .tuple #[tokV 0 ⟨#[]⟩ 0, .int .i64 a, .int .i64 14] from rfl)
        clear hm hM heq hw hwd hd hq hml hsl
        go_enter Try.func32, Try.ntmps32
        go_wp2_with fail
        refine (HW.out _).mono ?_
        rintro e w1 ⟨rfl, rfl⟩
        go_wp2_with fail
        refine (H.out _).mono ?_
        rintro e w1 ⟨rfl, hb⟩
        have ht := (tb_new w 0 ⟨#[]⟩ 0).kept hb (alloc_lt _ _)
        have HB1 := Lib.hid ((below_alloc w (.cells #[.int .i64 0, .string ⟨#[]⟩, .int .i64 0] 36)).trans (hb.mono (Nat.le_of_lt (alloc_lt _ _))))
        have c0 := ht.c0
        have c1 := ht.c1
        have c2 := ht.c2
        have f0 := ht.f 0
        have f1 := ht.f 1
        have f2 := ht.f 2
        clear hb
        go_wp2_with fail
        change bodyPost _ _ _ _ _ (tset w1 w.heap.size 0 ⟨#[]⟩ 0)
        exact bodyPost_ret (res_tok3 rfl _ _ rfl (ht.set 0 ⟨#[]⟩ 0)) rfl ⟨by rw [HV.out]; rfl, tset_below HB1.out (Nat.le_refl _) _ _ _⟩
      | cons c r =>
        rw [hM] at hm hml
        simp only
        have hem : (str (c :: r)).toList.isEmpty = false := by rw [str_isEmpty4]; rfl
        have hsz := str_size (c :: r)
        have hval : tokRes (.ok (⟨4, c :: r, a⟩ : Tok) (a + (c :: r).length)) = .tuple #[tokV 4 (str (c :: r)) a, .int .i64 ((a + (str (c :: r)).size : Nat) : Int), .int .i64 0] := by rw [hsz]; rfl
        rw [← hsz] at hml
        generalize (c :: r) = M at *
        generalize str M = m at *
        obtain ⟨n, hn⟩ : ∃ n, n = a + m.size := ⟨_, rfl⟩
        rw [← hn] at hval
        have hni : (a : Int) + (m.size : Int) = (n : Int) := by omega
        have hn16 : n ≤ 16000 := by omega
        have H := Lib.hid hm
        have HV := Lib.hid hval
        clear hm hM heq hw hwd hd hq hml hsl hsz hval hn
        go_enter Try.func32, Try.ntmps32
        go_wp2_with fail
        refine (HW.out _).mono ?_
        rintro e w1 ⟨rfl, rfl⟩
        go_wp2_with fail
        refine (H.out _).mono ?_
        rintro e w1 ⟨rfl, hb⟩
        have ht := (tb_new w 0 ⟨#[]⟩ 0).kept hb (alloc_lt _ _)
        have HB1 := Lib.hid ((below_alloc w (.cells #[.int .i64 0, .string ⟨#[]⟩, .int .i64 0] 36)).trans (hb.mono (Nat.le_of_lt (alloc_lt _ _))))
        have c0 := ht.c0
        have c1 := ht.c1
        have c2 := ht.c2
        have f0 := ht.f 0
        have f1 := ht.f 1
        have f2 := ht.f 2
        clear hb
        go_wp2_with fail
        change bodyPost _ _ _ _ _ (tset w1 w.heap.size 4 m a)
        exact bodyPost_ret (res_tok3 rfl _ _ rfl (ht.set 4 m a)) rfl ⟨by rw [HV.out]; rfl, tset_below HB1.out (Nat.le_refl _) _ _ _⟩
end Go.Proofs.Ytcakdgfkepdpkaa
