/- Contracts: Scan, of the program and of the reference. -/
import Derived.Test.YtcakdgfkepdpkaaLexPure
import Derived.OwnWalk
namespace Go.Proofs.Ytcakdgfkepdpkaa
open Go.ChangeShapes Go.WideShapes Go.ChangeAt Go.RowKit

/-- Tokens as cells, three for each. -/
def tokC (t : Tok) : List Value := [.int .i64 (t.kind : Nat), .string (str t.text), .int .i64 (t.at_ : Nat)]
def tokCells (l : List Tok) : List Value := l.flatMap tokC
theorem tokCells_length (l : List Tok) : (tokCells l).length = l.length * 3 := by
  unfold tokCells
  induction l with
  | nil => rfl
  | cons t r ih => rw [List.flatMap_cons, List.length_append, ih]; simp [tokC]; omega
theorem tokCells_snoc (l : List Tok) (t : Tok) : tokCells (l ++ [t]) = tokCells l ++ tokC t := by simp [tokCells]
theorem info_tok : (Try.prog.info? 36).map (fun i => (i.zero, i.size, i.bytes)) = some (some (.agg #[.int .i64 0, .string ⟨#[]⟩, .int .i64 0]), 3, 32) := by kernel_rfl
/-- What Scan means. -/
def scanS (s : ByteArray) : Res (List Tok) := if 16000 < s.size then .err 3 0 else scanL s.data.toList (s.size + 1) 0 []
/-- What Scan answers and leaves. -/
def ScanP (w : World) (r : Res (List Tok)) (e : Ending) (w' : World) : Prop := match r with
  | .ok l _ => ∃ A cap, e = .returned (.tuple #[.slice A l.length cap, .int .i64 0, .int .i64 0]) ∧ w'.ownsRow w.heap.size 36 3 (.slice A l.length cap) l.length (tokCells l) ∧ Below w.heap.size w w'
  | .err er n => e = .returned (.tuple #[.slice none 0 0, .int .i64 (er : Nat), .int .i64 (n : Nat)]) ∧ Below w.heap.size w w'

set_option maxHeartbeats 400000 in
set_option maxRecDepth 20000 in
theorem pscan_any (s : ByteArray) (w : World) (hs : s.size ≤ 9223372036854775807) : Calls Try.prog 10 #[.string s] w (ScanP w (scanS s)) := by
  by_cases hbig : 16000 < s.size
  · unfold scanS
    rw [if_pos hbig]
    go_enter Try.func10, Try.ntmps10
    go_wp2_with fail
    go_ret3
    exact ⟨rfl, Below.refl _ _⟩
  have hs16 : s.size ≤ 16000 := by omega
  have hd : decide ((16000 : Int) < (s.size : Int)) = false := by simp; omega
  obtain ⟨r0, hr0⟩ : ∃ r0, r0 = scanL s.data.toList (s.size + 1) 0 [] := ⟨_, rfl⟩
  have hsc : scanS s = r0 := by rw [hr0]; unfold scanS; rw [if_neg hbig]
  rw [hsc]
  have hll : s.data.toList.length = s.size := by simp
  have SK0 := Lib.hid (fun W => pskip_any s 0 W (Nat.zero_le _) (by omega))
  have hsk0 := SK0.out
  rw [Nat.zero_add, List.drop_zero] at hsk0
  have SK := Lib.hid hsk0
  clear SK0 hsk0
  obtain ⟨i0, hi, hz0, hz1, hz2⟩ := info_parts info_tok
  have hp0 := skp_le s.data.toList false
  rw [hll] at hp0
  have HR := Lib.hid hr0
  have HLL := Lib.hid hll
  clear hr0 hsc hll hbig
  obtain ⟨p0, hp⟩ : ∃ p0, skp false s.data.toList = p0 := ⟨_, rfl⟩
  rw [hp] at hp0 SK
  have HP := Lib.hid hp
  clear hp
  go_enter Try.func10, Try.ntmps10
  go_wp2_with fail
  refine (SK.out _).mono ?_
  rintro e w0 ⟨rfl, hb0⟩
  have HB0 := Lib.hid hb0
  clear hb0
  clear SK
  go_wp2_with fail
  go_loopw [5, 6, 7, 8, 9] (fun l p c7 c8 c9 wr => ∃ q off fu : Nat, ∃ out : List Tok, ∃ A cap, q ≤ s.size ∧ off ≤ q ∧ s.size + 1 ≤ fu + off ∧ out.length ≤ off ∧ p = .int .i64 q ∧ l = .slice A out.length cap ∧ Hid (wr.ownsRow w.heap.size 36 3 (.slice A out.length cap) out.length (tokCells out)) ∧ Hid (Below w.heap.size w wr) ∧ Hid (q = off + skp false (s.data.toList.drop off)) ∧ Hid (r0 = scanL s.data.toList fu off out)) (fun _ p _ _ _ _ => s.size - (intOf p).toNat)
  case atStart => exact ⟨p0, 0, s.size + 1, [], none, 0, hp0, Nat.zero_le _, Nat.le_refl _, Nat.zero_le _, rfl, rfl, World.ownsRow_nil .., HB0, (by rw [List.drop_zero, Nat.zero_add]; exact HP.out.symm), HR⟩
  case round =>
    clear HB0 HR HP hp0
    obtain ⟨q, off, fu, out, A, cap, hq, hoq, hfu, hol, rfl, rfl, HOW, HB, HQ, HR⟩ := hrel
    obtain ⟨f', rfl⟩ : ∃ f', fu = f' + 1 := ⟨fu - 1, by omega⟩
    have hr := HR.out
    rw [scanL] at hr
    simp only [← HQ.out] at hr
    rw [HLL.out] at hr
    by_cases hlt : q < s.size
    · rw [if_pos hlt] at hr
      have hok := tok_ok (s.data.toList.drop q) q (by rw [List.length_drop, HLL.out]; omega)
      rw [List.length_drop, HLL.out, show q + (s.size - q) = s.size by omega] at hok
      have htk := fun W => ptokat_any s q W hlt hs16
      cases hT : tokAt (s.data.toList.drop q) q with
      | err er n =>
        rw [hT] at hr hok htk
        have hre : r0 = .err er n := hr
        have hne : ((er : Int) != 0) = true := by
          rcases hok with h | h | h <;> rw [h] <;> decide
        have HTK := Lib.hid (show ∀ W, Calls Try.prog _ _ W (fun e w' => e = .returned (.tuple #[.agg #[.int .i64 0, .string ⟨#[]⟩, .int .i64 0], .int .i64 n, .int .i64 er]) ∧ Below W.heap.size W w') from htk)
        subst hre
        clear hr hok htk HR HQ hT
        go_wp2_with fail
        refine (HTK.out _).mono ?_
        rintro e w1 ⟨rfl, hb⟩
        have hb1 := HB.out.trans (hb.mono HB.out.size)
        have HB2 := Lib.hid (hb1.alloc hb1.size (.cells #[.int .i64 0, .string ⟨#[]⟩, .int .i64 0] 36))
        clear hb hb1 HB HOW
        go_wp2_with fail
        go_ret3
        exact ⟨rfl, HB2.out⟩
      | ok t n =>
        rw [hT] at hr hok htk
        obtain ⟨hn1, hn2⟩ := hok
        have hr' : r0 = scanL s.data.toList f' n (out ++ [t]) := hr
        have HTK := Lib.hid (show ∀ W, Calls Try.prog _ _ W (fun e w' => e = .returned (.tuple #[.agg #[.int .i64 (t.kind : Nat), .string (str t.text), .int .i64 (t.at_ : Nat)], .int .i64 n, .int .i64 0]) ∧ Below W.heap.size W w') from htk)
        have HR' := Lib.hid hr'
        have HSN := Lib.hid (tokCells_snoc out t)
        have hsk := fun W => pskip_any s n W hn2 (by omega)
        have hq2 := skp_le (s.data.toList.drop n) false
        rw [List.length_drop, HLL.out] at hq2
        obtain ⟨q', hq'⟩ : ∃ q', q' = n + skp false (s.data.toList.drop n) := ⟨_, rfl⟩
        rw [← hq'] at hsk
        have hq's : q' ≤ s.size := by omega
        have HSK := Lib.hid hsk
        have HQ' := Lib.hid hq'
        obtain ⟨M, hM⟩ : ∃ M, M = out ++ [t] := ⟨_, rfl⟩
        rw [← hM] at HSN HR'
        have hMl : out.length + 1 = M.length := by rw [hM]; simp
        have hM16 : out.length ≤ 16000 := by omega
        have hnq' : n ≤ q' := by omega
        unfold tokC at HSN
        generalize t.kind = k at *
        generalize str t.text = tx at *
        generalize t.at_ = x at *
        clear hr htk HR HQ hT hr' hsk hq2 hq' hM
        go_wp2_with fail
        refine (HTK.out _).mono ?_
        rintro e w1 ⟨rfl, hb⟩
        have hB1 := HB.out.trans (hb.mono HB.out.size)
        have hown1 := own_of_blocks HOW.out (fun b _ hl => hb.block b hl)
        clear hb HB HOW
        have hB2 := hB1.alloc hB1.size (.cells #[.int .i64 k, .string tx, .int .i64 x] 36)
        have hown2 := hown1.alloc (.cells #[.int .i64 k, .string tx, .int .i64 x] 36)
        have htb := tb_new w1 k tx x
        clear hB1 hown1
        have e0 := htb.c0
        have e1 := htb.c1
        have e2 := htb.c2
        go_wp2_with (at_builtin; refine wpList_append_lies _ rfl _ _ 23 rfl w.heap.size 36 i0 (.agg #[.int .i64 0, .string ⟨#[]⟩, .int .i64 0]) 3 32 Try.underlying23 hi hz0 hz1 hz2 rfl (by omega) _ out.length (tokCells out) rfl (hown2.alloc _) ⟨w1.heap.size + 1, 0, none⟩ 1 1 [.int .i64 (k : Int), .string tx, .int .i64 (x : Int)] rfl rfl ?c1 ?c2 (by omega) ?c3 ?c4 ?c5 _ rfl ?_)
        case c1 => exact World.news_of_block (cs := #[.int .i64 (k : Int), .string tx, .int .i64 (x : Int)]) (t := 36) (fr := (0, 0)) (heap_alloc2_new w1 _ _)
        case c2 => simp [Value.oneCell']
        case c3 => unfold maxLen; omega
        case c4 => omega
        case c5 => have := hB2.size; simp at this ⊢; omega
        intro g2 cap2 w2 hown3 hgrow hat hlt2
        have hB3 := (hB2.alloc hB2.size (.cells #[.int .i64 k, .string tx, .int .i64 x] 36)).grown hgrow (by have := hB2.size; simp at this ⊢; omega) (fun j hj => (hown2.lt j hj).1)
        rw [← HSN.out] at hown3
        try rw [hMl] at hown3
        try rw [hMl]
        have HB3 := Lib.hid hB3
        have HO3 := Lib.hid hown3
        clear hB2 hown2 htb e0 e1 e2 hown3 hgrow hat hlt2 hB3
        go_wp2_with fail
        refine (HSK.out _).mono ?_
        rintro e w3 ⟨rfl, hb⟩
        have HB4 := Lib.hid (HB3.out.trans (hb.mono HB3.out.size))
        have HO4 := Lib.hid (own_of_blocks HO3.out (fun b _ hl => hb.block b hl))
        clear hb
        go_wp2_with fail
        go_roundw
        case rel => exact ⟨q', n, f', M, some ⟨g2, 0, none⟩, cap2, hq's, hnq', by omega, by omega, rfl, rfl, HO4.out, HB4.out, HQ'.out, HR'.out⟩
        case measure => simp [intOf]; omega
    · obtain rfl : q = s.size := by omega
      rw [if_neg (Nat.lt_irrefl _)] at hr
      have hre : r0 = .ok (out ++ [⟨0, [], s.size⟩]) 0 := hr
      subst hre
      have HSN := Lib.hid (tokCells_snoc out ⟨0, [], s.size⟩)
      obtain ⟨M, hM⟩ : ∃ M, M = out ++ [(⟨0, [], s.size⟩ : Tok)] := ⟨_, rfl⟩
      rw [← hM] at HSN
      have HM := Lib.hid hM
      have hMl : out.length + 1 = M.length := by rw [hM]; simp
      unfold tokC at HSN
      have hB2 := HB.out
      have hown2 := HOW.out
      clear hr HR HQ hM HB HOW
      have hd2 : decide ((s.size : Int) < (s.size : Int)) = false := by simp
      go_wp2_with (at_builtin; refine wpList_append_lies _ rfl _ _ 23 rfl w.heap.size 36 i0 (.agg #[.int .i64 0, .string ⟨#[]⟩, .int .i64 0]) 3 32 Try.underlying23 hi hz0 hz1 hz2 rfl (by omega) _ out.length (tokCells out) rfl (hown2.alloc _) ⟨wr.heap.size, 0, none⟩ 1 1 [.int .i64 0, .string ⟨#[]⟩, .int .i64 (s.size : Int)] rfl rfl ?c1 ?c2 (by omega) ?c3 ?c4 ?c5 _ rfl ?_)
      case c2 => simp [Value.oneCell']
      case c3 => unfold maxLen; omega
      case c4 => omega
      case c5 => have := hB2.size; simp; omega
      intro g2 cap2 w2 hown3 hgrow hat hlt2
      have hB3 := (hB2.alloc hB2.size (.cells #[.int .i64 0, .string ⟨#[]⟩, .int .i64 (s.size : Int)] 36)).grown hgrow (by have := hB2.size; simp; omega) (fun j hj => (hown2.lt j hj).1)
      rw [show tokCells out ++ [.int .i64 0, .string ⟨#[]⟩, .int .i64 (s.size : Int)] = tokCells M from HSN.out.symm] at hown3
      try rw [hMl] at hown3
      try rw [hMl]
      have HB3 := Lib.hid hB3
      have HO3 := Lib.hid hown3
      clear hB2 hown2 hown3 hgrow hat hlt2 hB3
      go_wp2_with fail
      go_ret3
      refine ⟨some ⟨g2, 0, none⟩, cap2, ?_, ?_, HB3.out⟩
      · rw [← HM.out]; rfl
      · rw [← HM.out]; exact HO3.out
end Go.Proofs.Ytcakdgfkepdpkaa
