/- Contract: tokenAt of the program. -/
import Derived.Test.YtcakdgfkepdpkaaLexStr2
namespace Go.Proofs.Ytcakdgfkepdpkaa
open Go.ChangeShapes Go.WideShapes Go.ChangeAt Go.RowKit

theorem tok_eq (c : UInt8) (r : List UInt8) (a : Nat) : tokAt (c :: r) a = if wordB c = true then wordT (c :: r) a else if c.toNat = 36 then varT r a else if c.toNat = 34 then strR a (lit a .plain [] (a + 1) r) else markT (c :: r) a := by
  unfold tokAt
  simp only
  by_cases h1 : wordB c = true
  · rw [if_pos h1, if_pos h1]; rfl
  rw [if_neg h1, if_neg h1]
  by_cases h2 : c.toNat = 36
  · rw [if_pos h2, if_pos h2]; rfl
  rw [if_neg h2, if_neg h2]
  by_cases h3 : c.toNat = 34
  · rw [if_pos h3, if_pos h3]
    cases lit a .plain [] (a + 1) r <;> rfl
  · rw [if_neg h3, if_neg h3]; rfl
theorem tokRes_form (r : Res Tok) : ∃ k t x n e, tokRes r = .tuple #[.agg #[.int .i64 k, .string t, .int .i64 x], .int .i64 n, .int .i64 e] := by
  cases r with
  | ok t n => exact ⟨_, _, _, _, _, rfl⟩
  | err e n => exact ⟨_, _, _, _, _, rfl⟩

set_option maxRecDepth 20000 in
theorem ptokat_any (s : ByteArray) (a : Nat) (w : World) (ha : a < s.size) (hs : s.size ≤ 16000) :
    Calls Try.prog 30 #[.string s, .int .i64 (a : Int)] w fun e w' => e = .returned (tokRes (tokAt (s.data.toList.drop a) a)) ∧ Below w.heap.size w w' := by
  have heq := tok_eq s[a] (s.data.toList.drop (a + 1)) a
  rw [← drop_at s a ha] at heq
  have hwd := fun W => pword_any s[a] W
  have hb8 := u8_lt s[a]
  have hai : (a : Int) < (s.size : Int) := by omega
  have hai0 : (0 : Int) ≤ (a : Int) := by omega
  have h1 := fun W => pwordat_any s a W (by omega) (by omega)
  have h2 := fun W => pvarat_any s a W ha (by omega)
  have h3 := fun W => pstrat_any s a W ha hs
  have h4 := fun W => pmarkat_any s a W ha (by omega)
  cases hw : wordB s[a] with
  | true =>
    rw [if_pos hw] at heq
    rw [heq]
    rw [hw] at hwd
    have HW := Lib.hid hwd
    obtain ⟨k, t, x, n, er, hf⟩ := tokRes_form (wordT (s.data.toList.drop a) a)
    rw [hf] at h1 ⊢
    have H := Lib.hid h1
    clear h1 h2 h3 h4 hwd hw heq hf
    go_enter Try.func30, Try.ntmps30
    go_wp2_with fail
    refine (HW.out _).mono ?_
    rintro e w1 ⟨rfl, rfl⟩
    go_wp2_with fail
    refine (H.out _).mono ?_
    rintro e w1 ⟨rfl, hb⟩
    have ht := (tb_new w 0 ⟨#[]⟩ 0).kept hb (alloc_lt _ _)
    have HB1 := Lib.hid ((below_alloc w (.cells #[.int .i64 0, .string ⟨#[]⟩, .int .i64 0] 36)).trans (hb.mono (Nat.le_of_lt (alloc_lt _ _))))
    have c0 := ht.c0
    have c1 := ht.c1
    have c2 := ht.c2
    have f0 := ht.f 0
    have f1 := ht.f 1
    have f2 := ht.f 2
    clear hb
    go_wp2_with fail
    change bodyPost _ _ _ _ _ (tset w1 w.heap.size k t x)
    exact bodyPost_ret (res_tok3 rfl _ _ rfl (ht.set k t x)) rfl ⟨rfl, tset_below HB1.out (Nat.le_refl _) _ _ _⟩
  | false =>
    rw [if_neg (by rw [hw]; decide)] at heq
    rw [hw] at hwd
    have HW := Lib.hid hwd
    by_cases hd : s[a].toNat = 36
    · rw [if_pos hd] at heq
      rw [heq]
      have e36 : ((s[a].toNat : Int) == 36) = true := by simp; omega
      obtain ⟨k, t, x, n, er, hf⟩ := tokRes_form (varT (s.data.toList.drop (a + 1)) a)
      rw [hf] at h2 ⊢
      have H := Lib.hid h2
      clear h1 h2 h3 h4 hwd hw heq hf hd
      go_enter Try.func30, Try.ntmps30
      go_wp2_with fail
      refine (HW.out _).mono ?_
      rintro e w1 ⟨rfl, rfl⟩
      go_wp2_with fail
      refine (H.out _).mono ?_
      rintro e w1 ⟨rfl, hb⟩
      have ht := (tb_new w 0 ⟨#[]⟩ 0).kept hb (alloc_lt _ _)
      have HB1 := Lib.hid ((below_alloc w (.cells #[.int .i64 0, .string ⟨#[]⟩, .int .i64 0] 36)).trans (hb.mono (Nat.le_of_lt (alloc_lt _ _))))
      have c0 := ht.c0
      have c1 := ht.c1
      have c2 := ht.c2
      have f0 := ht.f 0
      have f1 := ht.f 1
      have f2 := ht.f 2
      clear hb
      go_wp2_with fail
      change bodyPost _ _ _ _ _ (tset w1 w.heap.size k t x)
      exact bodyPost_ret (res_tok3 rfl _ _ rfl (ht.set k t x)) rfl ⟨rfl, tset_below HB1.out (Nat.le_refl _) _ _ _⟩
    rw [if_neg hd] at heq
    have e36 : ((s[a].toNat : Int) == 36) = false := by simp; omega
    by_cases hq : s[a].toNat = 34
    · rw [if_pos hq] at heq
      rw [heq]
      have e34 : ((s[a].toNat : Int) == 34) = true := by simp; omega
      obtain ⟨k, t, x, n, er, hf⟩ := tokRes_form (strR a (lit a .plain [] (a + 1) (s.data.toList.drop (a + 1))))
      rw [hf] at h3 ⊢
      have H := Lib.hid h3
      clear h1 h2 h3 h4 hwd hw heq hf hd hq
      go_enter Try.func30, Try.ntmps30
      go_wp2_with fail
      refine (HW.out _).mono ?_
      rintro e w1 ⟨rfl, rfl⟩
      go_wp2_with fail
      refine (H.out _).mono ?_
      rintro e w1 ⟨rfl, hb⟩
      have ht := (tb_new w 0 ⟨#[]⟩ 0).kept hb (alloc_lt _ _)
      have HB1 := Lib.hid ((below_alloc w (.cells #[.int .i64 0, .string ⟨#[]⟩, .int .i64 0] 36)).trans (hb.mono (Nat.le_of_lt (alloc_lt _ _))))
      have c0 := ht.c0
      have c1 := ht.c1
      have c2 := ht.c2
      have f0 := ht.f 0
      have f1 := ht.f 1
      have f2 := ht.f 2
      clear hb
      go_wp2_with fail
      change bodyPost _ _ _ _ _ (tset w1 w.heap.size k t x)
      exact bodyPost_ret (res_tok3 rfl _ _ rfl (ht.set k t x)) rfl ⟨rfl, tset_below HB1.out (Nat.le_refl _) _ _ _⟩
    · rw [if_neg hq] at heq
      rw [heq]
      have e34 : ((s[a].toNat : Int) == 34) = false := by simp; omega
      obtain ⟨k, t, x, n, er, hf⟩ := tokRes_form (markT (s.data.toList.drop a) a)
      rw [hf] at h4 ⊢
      have H := Lib.hid h4
      clear h1 h2 h3 h4 hwd hw heq hf hd hq
      go_enter Try.func30, Try.ntmps30
      go_wp2_with fail
      refine (HW.out _).mono ?_
      rintro e w1 ⟨rfl, rfl⟩
      go_wp2_with fail
      refine (H.out _).mono ?_
      rintro e w1 ⟨rfl, hb⟩
      have ht := (tb_new w 0 ⟨#[]⟩ 0).kept hb (alloc_lt _ _)
      have HB1 := Lib.hid ((below_alloc w (.cells #[.int .i64 0, .string ⟨#[]⟩, .int .i64 0] 36)).trans (hb.mono (Nat.le_of_lt (alloc_lt _ _))))
      have c0 := ht.c0
      have c1 := ht.c1
      have c2 := ht.c2
      have f0 := ht.f 0
      have f1 := ht.f 1
      have f2 := ht.f 2
      clear hb
      go_wp2_with fail
      change bodyPost _ _ _ _ _ (tset w1 w.heap.size k t x)
      exact bodyPost_ret (res_tok3 rfl _ _ rfl (ht.set k t x)) rfl ⟨rfl, tset_below HB1.out (Nat.le_refl _) _ _ _⟩
end Go.Proofs.Ytcakdgfkepdpkaa
