/- Contract: the reference's literal. -/
import Derived.Test.YtcakdgfkepdpkaaLexGroup
namespace Go.Proofs.Ytcakdgfkepdpkaa
open Go.ChangeShapes Go.WideShapes Go.ChangeAt Go.RowKit

theorem grp_err : ∀ (L : List UInt8) (m : Md) (acc : List UInt8) (off e n : Nat), grp m acc off L = .err e n → e = 14
  | [], m, acc, off, e, n, h => by cases m <;> (injection h with h1 _; exact h1.symm)
  | c :: r, m, acc, off, e, n, h => by
    cases m with
    | plain => injection h with h1 _; exact h1.symm
    | esc => injection h with h1 _; exact h1.symm
    | g1 =>
      rw [grp] at h
      split at h
      · exact grp_err r _ _ _ _ _ h
      · injection h with h1 _; exact h1.symm
    | g2 d =>
      rw [grp] at h
      split at h
      · exact grp_err r _ _ _ _ _ h
      · injection h with h1 _; exact h1.symm
    | g3 =>
      rw [grp] at h
      split at h
      · cases h
      split at h
      · exact grp_err r _ _ _ _ _ h
      · injection h with h1 _; exact h1.symm
theorem grp_len : ∀ (L : List UInt8) (m : Md) (acc : List UInt8) (off : Nat) (b : List UInt8) (n : Nat), grp m acc off L = .ok b n → b.length + off ≤ acc.length + n
  | [], m, acc, off, b, n, h => by cases m <;> cases h
  | c :: r, m, acc, off, b, n, h => by
    cases m with
    | plain => cases h
    | esc => cases h
    | g1 =>
      rw [grp] at h
      split at h
      · have := grp_len r _ _ _ b n h
        omega
      · cases h
    | g2 d =>
      rw [grp] at h
      split at h
      · have := grp_len r _ _ _ b n h
        simp at this
        omega
      · cases h
    | g3 =>
      rw [grp] at h
      split at h
      · injection h with h1 h2
        subst h1; omega
      split at h
      · have := grp_len r _ _ _ b n h
        omega
      · cases h

/-- What literal answers. -/
def litRes : Res (List UInt8) → Value
  | .ok t n => .tuple #[.string (str t), .int .i64 (n : Nat), .int .i64 0]
  | .err e n => .tuple #[.string ⟨#[]⟩, .int .i64 (n : Nat), .int .i64 (e : Nat)]
theorem litRes_form (r : Res (List UInt8)) : ∃ t n e, litRes r = .tuple #[.string t, .int .i64 n, .int .i64 e] := by
  cases r with
  | ok t n => exact ⟨_, _, _, rfl⟩
  | err e n => exact ⟨_, _, _, rfl⟩

/-- The cells of an owned row that is not empty. -/
theorem own_cells {w : World} {base n k : Nat} {A : Option Addr} {cap : Nat} {t : TypeId} {xs : List Value} (h : w.ownsRow base t k (.slice A n cap) n xs) (hp : 0 < n) :
    ∃ g, A = some ⟨g, 0, none⟩ ∧ base ≤ g ∧ g < w.heap.size ∧ ∀ j u, xs[j]? = some u → w.cell? ((⟨g, 0, none⟩ : Addr).add j) = some u := by
  rcases h.2 with ⟨_, hn⟩ | ⟨g, c, cur, hv, hg, hh, hn, _, hs, ht⟩
  · omega
  · cases hv
    refine ⟨g, rfl, hg, (Array.getElem?_eq_some_iff.1 hh).1, fun j u hu => ?_⟩
    rw [← ht] at hu
    have hj : j < n * k := by
      by_cases hc : j < n * k
      · exact hc
      · rw [List.getElem?_eq_none (by rw [List.length_take]; omega)] at hu
        cases hu
    rw [List.getElem?_take_of_lt hj] at hu
    rw [add_flat]
    simp only [World.cell?, hh, Nat.zero_add]
    simpa using hu

set_option maxHeartbeats 4000000 in
set_option maxRecDepth 20000 in
theorem rliteral_any (s : ByteArray) (a : Nat) (w : World) (ha : a < s.size) (hs : s.size ≤ 16000) :
    Calls Try.prog 54 #[.string s, .int .i64 (a : Int)] w fun e w' => e = .returned (litRes (lit a .plain [] (a + 1) (s.data.toList.drop (a + 1)))) ∧ Below w.heap.size w w' := by
  obtain ⟨i0, hi, hz0, hz1, hz2⟩ := info_parts info5
  obtain ⟨x, hx⟩ : ∃ x, a + 1 = x := ⟨_, rfl⟩
  have hxi : (a : Int) + 1 = (x : Int) := by omega
  rw [hx]
  obtain ⟨r0, hr0⟩ : ∃ r0, r0 = lit a .plain [] x (s.data.toList.drop x) := ⟨_, rfl⟩
  rw [← hr0]
  have HR0 := Lib.hid hr0
  have hxs : x ≤ s.size := by omega
  have hxa : a < x := by omega
  clear hr0 hx
  go_enter Try.func54, Try.ntmps54
  go_wp2_with fail
  go_loopw [7, 8, 9, 10, 11, 12] (fun b i _ _ _ _ wr => ∃ q : Nat, ∃ out : List UInt8, ∃ A cap, q ≤ s.size ∧ out.length ≤ q ∧ i = .int .i64 q ∧ b = .slice A out.length cap ∧ Hid (wr.ownsRow w.heap.size 5 1 (.slice A out.length cap) out.length (cellsOf out)) ∧ Hid (Below w.heap.size w wr) ∧ Hid (r0 = lit a .plain out q (s.data.toList.drop q))) (fun _ i _ _ _ _ _ => s.size - (intOf i).toNat)
  case atStart => exact ⟨x, [], none, 0, hxs, Nat.zero_le _, rfl, rfl, World.ownsRow_nil .., Below.refl _ _, HR0.out⟩
  case round =>
    clear HR0
    obtain ⟨q, out, A, cap, hq, hol, rfl, rfl, HOW, HB, HR⟩ := hrel
    by_cases hlt : q < s.size
    · have hr := HR.out
      rw [drop_at s q hlt, lit] at hr
      have b8 := u8_lt s[q]
      have u0 : (q : Int) < (s.size : Int) := by omega
      have t0 : (0 : Int) ≤ (q : Int) := by omega
      obtain ⟨q1, hq1⟩ : ∃ q1, q1 = q + 1 := ⟨_, rfl⟩
      have e1 : (q : Int) + 1 = (q1 : Int) := by omega
      have hq1s : q1 ≤ s.size := by omega
      have hqq1 : q < q1 := by omega
      have hq1q : q1 ≤ q + 1 := by omega
      rw [← hq1] at hr
      clear hq1 HR
      by_cases h34 : s[q].toNat = 34
      · rw [if_pos h34] at hr
        have y34 : ((s[q].toNat : Int) == 34) = true := by simp; omega
        by_cases hl : 256 < out.length
        · rw [if_pos hl] at hr
          have hli : (256 : Int) < (out.length : Int) := by omega
          subst hr
          clear h34 HOW
          go_wp2_with fail
          go_ret3
          exact ⟨rfl, HB.out⟩
        · rw [if_neg hl] at hr
          have hli : decide ((256 : Int) < (out.length : Int)) = false := by simp; omega
          have hcv := bs_string (bs_of_own HOW.out)
          subst hr
          clear h34 HOW
          go_wp2_with fail
          go_ret3
          exact ⟨rfl, HB.out⟩
      rw [if_neg h34] at hr
      have y34 : ((s[q].toNat : Int) == 34) = false := by simp; omega
      by_cases h92 : s[q].toNat = 92
      · rw [if_pos h92] at hr
        have y92 : ((s[q].toNat : Int) == 92) = true := by simp; omega
        by_cases hlt1 : q1 < s.size
        · rw [drop_at s q1 hlt1, lit] at hr
          have b81 := u8_lt s[q1]
          have u1 : (q1 : Int) < (s.size : Int) := by omega
          have t1 : (0 : Int) ≤ (q1 : Int) := by omega
          have hsp := fun W => rspecial_any s[q1] W
          cases hsb : specB s[q1] with
          | false =>
            rw [hsb] at hsp
            rw [if_neg (by rw [hsb]; decide)] at hr
            have HSP := Lib.hid hsp
            subst hr
            clear h34 h92 HOW hsp hsb
            go_wp2_with fail
            refine (HSP.out _).mono ?_
            rintro e w2 ⟨rfl, rfl⟩
            go_wp2_with fail
            go_ret3
            exact ⟨rfl, HB.out⟩
          | true =>
            rw [hsb] at hsp
            rw [if_pos hsb] at hr
            have HSP := Lib.hid hsp
            obtain ⟨q2, hq2⟩ : ∃ q2, q2 = q1 + 1 := ⟨_, rfl⟩
            have e2 : (q : Int) + 2 = (q2 : Int) := by omega
            rw [← hq2] at hr
            have hq2s : q2 ≤ s.size := by omega
            have hqq2 : q1 < q2 := by omega
            have hq2q : q2 = q1 + 1 → True := fun _ => trivial
            obtain ⟨M, hM⟩ : ∃ M, M = out ++ [s[q1]] := ⟨_, rfl⟩
            rw [← hM] at hr
            have hMl : out.length + 1 = M.length := by rw [hM]; simp
            have hMc : cellsOf out ++ [.int .u8 (s[q1].toNat : Int)] = cellsOf M := by rw [hM]; simp [cellsOf]
            have HR3 := Lib.hid hr
            have HML := Lib.hid hMl
            have HMC := Lib.hid hMc
            have hown := HOW.out
            have hB := HB.out
            have ol : out.length ≤ 16000 := by omega
            clear h34 h92 HOW hsp hsb hr hM hMl hMc hq2 HB hq2q
            go_wp2_with fail
            refine (HSP.out _).mono ?_
            rintro e w2 ⟨rfl, rfl⟩
            go_wp2_with (at_builtin; refine wpList_append_lies _ rfl _ _ 51 rfl w.heap.size 5 i0 (.int .u8 0) 1 1 Try.underlying51 hi hz0 hz1 hz2 rfl (by omega) _ out.length (cellsOf out) rfl (hown.alloc _) ⟨wr.heap.size, 0, none⟩ 1 1 [.int .u8 (s[q1].toNat : Int)] rfl rfl ?c1 ?c2 (by omega) ?c3 ?c4 ?c5 _ rfl ?_)
            case c1 => exact World.news_of_block (cs := #[.int .u8 (s[q1].toNat : Int)]) (t := 5) (fr := (0, 0)) (heap_alloc_new wr _)
            case c2 => simp [Value.oneCell']
            case c3 => unfold maxLen; omega
            case c4 => omega
            case c5 => have := hB.size; simp; omega
            intro gg cap' w1 hown1 hgrow hat hlt1
            have hB1 : Below w.heap.size w w1 := (hB.alloc hB.size _).grown hgrow (by have := hB.size; simp; omega) (fun k hk => (hown.lt k hk).1)
            rw [HMC.out] at hown1
            try rw [HML.out] at hown1
            try rw [HML.out]
            have HO1 := Lib.hid hown1
            have HB1 := Lib.hid hB1
            clear hown1 hgrow hat hlt1 hB1 hown hB
            clear HSP
            go_wp2_with fail
            go_roundw
            case rel => exact ⟨q2, M, some ⟨gg, 0, none⟩, cap', by omega, by have := HML.out; omega, rfl, rfl, HO1.out, HB1.out, HR3.out⟩
            case measure => simp [intOf]; omega
        · obtain rfl : q1 = s.size := by omega
          rw [drop_end] at hr
          have hr' : r0 = .err 14 s.size := hr
          subst hr'
          have hd : decide ((s.size : Int) < (s.size : Int)) = false := by simp
          clear h34 h92 HOW hr
          go_wp2_with fail
          go_ret3
          exact ⟨rfl, HB.out⟩
      rw [if_neg h92] at hr
      have y92 : ((s[q].toNat : Int) == 92) = false := by simp; omega
      by_cases h124 : s[q].toNat = 124
      · rw [if_pos h124] at hr
        have y124 : ((s[q].toNat : Int) == 124) = true := by simp; omega
        have hg := lit_grp a out (s.data.toList.drop q1) .g1 [] q1 rfl
        rw [List.append_nil] at hg
        rw [hg] at hr
        have hok := grp_ok (s.data.toList.drop q1) .g1 [] q1
        have hgr := fun W => rgroup_any s q1 W hq1s hs
        have hdl : (s.data.toList.drop q1).length = s.size - q1 := by rw [List.length_drop]; simp
        rw [hdl, show q1 + (s.size - q1) = s.size by omega] at hok
        have hsome := fun b n => grp_some (s.data.toList.drop q1) .g1 [] q1 b n (by intro e; cases e)
        have hlen := fun b n => grp_len (s.data.toList.drop q1) .g1 [] q1 b n
        cases hG : grp .g1 [] q1 (s.data.toList.drop q1) with
        | err e n =>
          obtain rfl := grp_err _ _ _ _ _ _ hG
          rw [hG] at hr hgr
          have hre : r0 = .err 14 n := hr
          subst hre
          have HGR := Lib.hid (show ∀ W, Calls Try.prog _ _ W (fun e w' => e = .returned (.tuple #[.slice none 0 0, .int .i64 (n : Nat), .bool false]) ∧ Below W.heap.size W w') from hgr)
          clear h34 h92 h124 HOW hr hgr hG hok hsome hlen hg hdl
          go_wp2_with fail
          refine (HGR.out _).mono ?_
          rintro e w2 ⟨rfl, hb⟩
          have HB2 := Lib.hid (HB.out.trans (hb.mono HB.out.size))
          clear hb HB
          go_wp2_with fail
          go_ret3
          exact ⟨rfl, HB2.out⟩
        | ok b n =>
          obtain ⟨hb0, _⟩ := hsome b n hG
          have hbl := hlen b n hG
          rw [hG] at hr hgr hok
          obtain ⟨hn1, hn2⟩ := hok
          have hre : r0 = lit a .plain (out ++ b) n (s.data.toList.drop n) := by
            rw [hr]
            unfold after
            simp only
            rw [List.drop_drop, show q1 + (n - q1) = n by omega]
          have HGR := Lib.hid (show ∀ W, Calls Try.prog _ _ W (fun e w' => ∃ A cap, e = .returned (.tuple #[.slice A b.length cap, .int .i64 (n : Nat), .bool true]) ∧ w'.ownsRow W.heap.size 5 1 (.slice A b.length cap) b.length (cellsOf b) ∧ Below W.heap.size W w') from hgr)
          obtain ⟨M, hM⟩ : ∃ M, M = out ++ b := ⟨_, rfl⟩
          rw [← hM] at hre
          have HR3 := Lib.hid hre
          have HML := Lib.hid (show out.length + b.length = M.length by rw [hM]; simp)
          have HMC := Lib.hid (show cellsOf out ++ cellsOf b = cellsOf M by rw [hM]; simp [cellsOf])
          have hcl : (cellsOf b).length = b.length * 1 := by simp [cellsOf]
          have hone : ∀ u ∈ cellsOf b, u.oneCell' = true := by
            intro u hu
            simp only [cellsOf, List.mem_map] at hu
            obtain ⟨c, _, rfl⟩ := hu
            rfl
          simp only [List.length_nil, Nat.zero_add] at hbl
          generalize b.length = bl at *
          generalize cellsOf b = bc at *
          clear h34 h92 h124 hr hgr hG hsome hlen hre hM hg hdl
          go_wp2_with fail
          refine (HGR.out _).mono ?_
          rintro e w2 ⟨A2, cap2, rfl, ho2, hb⟩
          obtain ⟨g2, rfl, hg2, hg2l, hnews⟩ := own_cells ho2 hb0
          have hown := own_of_blocks HOW.out (fun y _ hl => hb.block y hl)
          have hB := HB.out.trans (hb.mono HB.out.size)
          have ol : out.length ≤ 16000 := by omega
          clear ho2 hb HB HOW HGR
          go_wp2_with (at_builtin; refine wpList_append_lies _ rfl _ _ 51 rfl w.heap.size 5 i0 (.int .u8 0) 1 1 Try.underlying51 hi hz0 hz1 hz2 rfl (by omega) _ out.length (cellsOf out) rfl hown ⟨g2, 0, none⟩ bl cap2 bc rfl hcl hnews hone hb0 ?c3 ?c4 ?c5 _ rfl ?_)
          case c3 => unfold maxLen; omega
          case c4 => omega
          case c5 => exact hB.size
          intro gg cap' w1 hown1 hgrow hat hlt1
          have hB1 : Below w.heap.size w w1 := hB.grown hgrow hB.size (fun k hk => (hown.lt k hk).1)
          rw [HMC.out] at hown1
          try rw [HML.out] at hown1
          try rw [HML.out]
          have HO1 := Lib.hid hown1
          have HB1 := Lib.hid hB1
          clear hown1 hgrow hat hlt1 hB1 hown hB hnews hone
          go_wp2_with fail
          go_roundw
          case rel => exact ⟨n, M, some ⟨gg, 0, none⟩, cap', hn2, by have := HML.out; omega, rfl, rfl, HO1.out, HB1.out, HR3.out⟩
          case measure => simp [intOf]; omega
      rw [if_neg h124] at hr
      have y124 : ((s[q].toNat : Int) == 124) = false := by simp; omega
      by_cases hp : s[q].toNat < 32 ∨ 126 < s[q].toNat
      · rw [if_pos hp] at hr
        subst hr
        by_cases h32 : s[q].toNat < 32
        · have y1 : (s[q].toNat : Int) < 32 := by omega
          clear h34 h92 h124 HOW hp h32
          go_wp2_with fail
          go_ret3
          exact ⟨rfl, HB.out⟩
        · have y1 : decide ((s[q].toNat : Int) < 32) = false := by simp; omega
          have y2 : (126 : Int) < (s[q].toNat : Int) := by omega
          clear h34 h92 h124 HOW hp h32
          go_wp2_with fail
          go_ret3
          exact ⟨rfl, HB.out⟩
      · rw [if_neg hp] at hr
        have y1 : decide ((s[q].toNat : Int) < 32) = false := by simp; omega
        have y2 : decide ((126 : Int) < (s[q].toNat : Int)) = false := by simp; omega
        obtain ⟨M, hM⟩ : ∃ M, M = out ++ [s[q]] := ⟨_, rfl⟩
        rw [← hM] at hr
        have hMl : out.length + 1 = M.length := by rw [hM]; simp
        have hMc : cellsOf out ++ [.int .u8 (s[q].toNat : Int)] = cellsOf M := by rw [hM]; simp [cellsOf]
        have HR3 := Lib.hid hr
        have HML := Lib.hid hMl
        have HMC := Lib.hid hMc
        have hown := HOW.out
        have hB := HB.out
        have ol : out.length ≤ 16000 := by omega
        clear h34 h92 h124 HOW hr hM hMl hMc HB hp
        go_wp2_with (at_builtin; refine wpList_append_lies _ rfl _ _ 51 rfl w.heap.size 5 i0 (.int .u8 0) 1 1 Try.underlying51 hi hz0 hz1 hz2 rfl (by omega) _ out.length (cellsOf out) rfl (hown.alloc _) ⟨wr.heap.size, 0, none⟩ 1 1 [.int .u8 (s[q].toNat : Int)] rfl rfl ?c1 ?c2 (by omega) ?c3 ?c4 ?c5 _ rfl ?_)
        case c1 => exact World.news_of_block (cs := #[.int .u8 (s[q].toNat : Int)]) (t := 5) (fr := (0, 0)) (heap_alloc_new wr _)
        case c2 => simp [Value.oneCell']
        case c3 => unfold maxLen; omega
        case c4 => omega
        case c5 => have := hB.size; simp; omega
        intro gg cap' w1 hown1 hgrow hat hlt1
        have hB1 : Below w.heap.size w w1 := (hB.alloc hB.size _).grown hgrow (by have := hB.size; simp; omega) (fun k hk => (hown.lt k hk).1)
        rw [HMC.out] at hown1
        try rw [HML.out] at hown1
        try rw [HML.out]
        have HO1 := Lib.hid hown1
        have HB1 := Lib.hid hB1
        clear hown1 hgrow hat hlt1 hB1 hown hB
        go_wp2_with fail
        go_roundw
        case rel => exact ⟨q1, M, some ⟨gg, 0, none⟩, cap', by omega, by have := HML.out; omega, rfl, rfl, HO1.out, HB1.out, HR3.out⟩
        case measure => simp [intOf]; omega
    · obtain rfl : q = s.size := by omega
      have hr := HR.out
      rw [drop_end] at hr
      have hr' : r0 = .err 14 s.size := hr
      subst hr'
      have hd : decide ((s.size : Int) < (s.size : Int)) = false := by simp
      clear HOW hr HR
      go_wp2_with fail
      go_ret3
      exact ⟨rfl, HB.out⟩
end Go.Proofs.Ytcakdgfkepdpkaa
