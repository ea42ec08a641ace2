/- Contract: Quote of the program. -/
import Derived.Test.YtcakdgfkepdpkaaLexLit
namespace Go.Proofs.Ytcakdgfkepdpkaa
open Go.ChangeShapes Go.WideShapes Go.ChangeAt Go.RowKit

theorem hexD_at (k : Nat) (h : k < 16) (W : World) : (Instr.index 9 (.string ⟨#[48, 49, 50, 51, 52, 53, 54, 55, 56, 57, 97, 98, 99, 100, 101, 102]⟩) (.int .u8 (k : Int))).run Try.prog W = .ok (.int .u8 ((hexD k).toNat : Int)) W := by
  match k, h with
  | 0, _ => exact (show ∀ V, _ = _ from fun _ => by kernel_rfl) W
  | 1, _ => exact (show ∀ V, _ = _ from fun _ => by kernel_rfl) W
  | 2, _ => exact (show ∀ V, _ = _ from fun _ => by kernel_rfl) W
  | 3, _ => exact (show ∀ V, _ = _ from fun _ => by kernel_rfl) W
  | 4, _ => exact (show ∀ V, _ = _ from fun _ => by kernel_rfl) W
  | 5, _ => exact (show ∀ V, _ = _ from fun _ => by kernel_rfl) W
  | 6, _ => exact (show ∀ V, _ = _ from fun _ => by kernel_rfl) W
  | 7, _ => exact (show ∀ V, _ = _ from fun _ => by kernel_rfl) W
  | 8, _ => exact (show ∀ V, _ = _ from fun _ => by kernel_rfl) W
  | 9, _ => exact (show ∀ V, _ = _ from fun _ => by kernel_rfl) W
  | 10, _ => exact (show ∀ V, _ = _ from fun _ => by kernel_rfl) W
  | 11, _ => exact (show ∀ V, _ = _ from fun _ => by kernel_rfl) W
  | 12, _ => exact (show ∀ V, _ = _ from fun _ => by kernel_rfl) W
  | 13, _ => exact (show ∀ V, _ = _ from fun _ => by kernel_rfl) W
  | 14, _ => exact (show ∀ V, _ = _ from fun _ => by kernel_rfl) W
  | 15, _ => exact (show ∀ V, _ = _ from fun _ => by kernel_rfl) W
  | k + 16, h => exact absurd h (by omega)
theorem nib4 (b : UInt8) : bits .and .u8 (b.toNat : Int) 15 = ((b.toNat % 16 : Nat) : Int) := by
  rw [show (15 : Int) = ((15 : Nat) : Int) from rfl, u8_and_nat _ 15 (u8_lt b) (by decide), nat_mask4]

set_option maxHeartbeats 1000000 in
set_option maxRecDepth 20000 in
theorem pquote_any (s : ByteArray) (w : World) (hs : s.size ≤ 16000) :
    Calls Try.prog 18 #[.string s] w fun e w' => e = .returned (.string (str (quoteL s.data.toList))) ∧ Below w.heap.size w w' := by
  obtain ⟨i0, hi, hz0, hz1, hz2⟩ := info_parts info5
  have hown0 : (w.alloc (.cells #[.int .u8 34] 5)).ownsRow w.heap.size 5 1 (.slice (some ⟨w.heap.size, 0, none⟩) 1 1) 1 (cellsOf [34]) := ⟨rfl, .inr ⟨w.heap.size, 1, #[.int .u8 34], rfl, Nat.le_refl _, heap_alloc_new w _, Nat.le_refl _, by decide, rfl, rfl⟩⟩
  have hB0 := below_alloc w (.cells #[.int .u8 34] 5)
  have hll : s.data.toList.length = s.size := by simp
  obtain ⟨Q, hQ⟩ : ∃ Q, Q = 34 :: quo false s.data.toList := ⟨_, rfl⟩
  obtain ⟨V, hV⟩ : ∃ V, V = str (quoteL s.data.toList) := ⟨_, rfl⟩
  rw [← hV]
  have HV := Lib.hid (show V = str (Q ++ [34]) by rw [hV, hQ]; rfl)
  have HQ0 := Lib.hid (show ([34] : List UInt8) ++ quo false (s.data.toList.drop 0) = Q by rw [hQ]; rfl)
  clear hQ hV hll
  go_enter Try.func18, Try.ntmps18
  go_wp2_with fail
  generalize w.alloc (.cells #[.int .u8 34] 5) = w0 at *
  go_loopw [3, 4, 5, 6, 10] (fun b f _ _ i wr => ∃ k : Nat, ∃ fl : Bool, ∃ out : List UInt8, ∃ A cap, k ≤ s.size ∧ i = .int .i64 k ∧ f = .bool fl ∧ b = .slice A out.length cap ∧ out.length ≤ 3 * k + 1 ∧ wr.ownsRow w.heap.size 5 1 (.slice A out.length cap) out.length (cellsOf out) ∧ Below w.heap.size w wr ∧ Hid (out ++ quo fl (s.data.toList.drop k) = Q)) (fun _ _ _ _ i _ => s.size - (intOf i).toNat)
  case atStart => exact ⟨0, false, [34], _, 1, Nat.zero_le _, rfl, rfl, rfl, by decide, hown0, hB0, HQ0.out⟩
  case round =>
    clear hown0 hB0 HQ0
    obtain ⟨k, fl, out, A, cap, hk, rfl, rfl, rfl, hol, hown, hB, HR⟩ := hrel
    by_cases hlt : k < s.size
    · have hb8 := u8_lt s[k]
      have hki : (k : Int) < (s.size : Int) := by omega
      have hki0 : (0 : Int) ≤ (k : Int) := by omega
      have hpl := fun W => pplain_any s[k] W
      have hbB := hB.size
      have hq := HR.out
      rw [drop_at s k hlt, quo] at hq
      cases hp : plainB s[k] with
      | true =>
        rw [hp] at hpl
        rw [if_pos hp] at hq
        have HPL := Lib.hid hpl
        cases fl with
        | true =>
          rw [if_pos rfl] at hq
          obtain ⟨M1, hM1⟩ : ∃ M1, M1 = out ++ [124] := ⟨_, rfl⟩
          have HLM1 := Lib.hid (show out.length + 1 = M1.length by rw [hM1]; simp)
          have HCM1 := Lib.hid (show cellsOf out ++ [.int .u8 124] = cellsOf M1 by rw [hM1]; unfold cellsOf; rw [List.map_append]; rfl)
          obtain ⟨M2, hM2⟩ : ∃ M2, M2 = M1 ++ [s[k]] := ⟨_, rfl⟩
          have HLM2 := Lib.hid (show M1.length + 1 = M2.length by rw [hM2]; simp)
          have HCM2 := Lib.hid (show cellsOf M1 ++ [.int .u8 (s[k].toNat : Int)] = cellsOf M2 by rw [hM2]; unfold cellsOf; rw [List.map_append]; rfl)
          have HREL := Lib.hid (show M2 ++ quo false (s.data.toList.drop (k + 1)) = Q by rw [hM2, hM1, ← hq]; simp)
          clear hq hpl hp HR hM1 hM2
          go_wp2_with fail
          refine (HPL.out _).mono ?_
          rintro e w1 ⟨rfl, rfl⟩
          go_wp2_with (at_builtin; refine wpList_append_lies _ rfl _ _ 51 rfl w.heap.size 5 i0 (.int .u8 0) 1 1 Try.underlying51 hi hz0 hz1 hz2 rfl (by omega) _ out.length (cellsOf out) rfl (hown.alloc _) ⟨wr.heap.size, 0, none⟩ 1 1 [.int .u8 124] rfl rfl ?c1 ?c2 (by omega) ?c3 ?c4 ?c5 _ rfl ?_)
          case c1 => exact World.news_of_block (cs := #[.int .u8 124]) (t := 5) (fr := (0, 0)) (heap_alloc_new wr _)
          case c2 => simp [Value.oneCell']
          case c3 => unfold maxLen; omega
          case c4 => omega
          case c5 => have := hB.size; simp; omega
          intro g3 cap3 w3 hown3 hgrow hat hlt1
          have hB3 : Below w.heap.size w w3 := (hB.alloc hB.size _).grown hgrow (by have := hB.size; simp; omega) (fun k hk => (hown.lt k hk).1)
          rw [HCM1.out] at hown3
          try rw [HLM1.out] at hown3
          try rw [HLM1.out]
          have hM1l := HLM1.out
          clear hown hgrow hat hlt1 hB
          go_wp2_with (at_builtin; refine wpList_append_lies _ rfl _ _ 51 rfl w.heap.size 5 i0 (.int .u8 0) 1 1 Try.underlying51 hi hz0 hz1 hz2 rfl (by omega) _ M1.length (cellsOf M1) rfl (hown3.alloc _) ⟨w3.heap.size, 0, none⟩ 1 1 [.int .u8 (s[k].toNat : Int)] rfl rfl ?c1 ?c2 (by omega) ?c3 ?c4 ?c5 _ rfl ?_)
          case c1 => exact World.news_of_block (cs := #[.int .u8 (s[k].toNat : Int)]) (t := 5) (fr := (0, 0)) (heap_alloc_new w3 _)
          case c2 => simp [Value.oneCell']
          case c3 => unfold maxLen; omega
          case c4 => omega
          case c5 => have := hB3.size; simp; omega
          intro g4 cap4 w4 hown4 hgrow hat hlt1
          have hB4 : Below w.heap.size w w4 := (hB3.alloc hB3.size _).grown hgrow (by have := hB3.size; simp; omega) (fun k hk => (hown3.lt k hk).1)
          rw [HCM2.out] at hown4
          try rw [HLM2.out] at hown4
          try rw [HLM2.out]
          have hM2l := HLM2.out
          clear hown3 hgrow hat hlt1 hB3
          go_wp2_with fail
          go_roundw
          case rel => exact ⟨k + 1, false, M2, some ⟨g4, 0, none⟩, cap4, by omega, by go_num, rfl, rfl, by omega, hown4, hB4, HREL.out⟩
          case measure => simp [intOf]; omega
        | false =>
          rw [if_neg (by decide)] at hq
          obtain ⟨M2, hM2⟩ : ∃ M2, M2 = out ++ [s[k]] := ⟨_, rfl⟩
          have HLM2 := Lib.hid (show out.length + 1 = M2.length by rw [hM2]; simp)
          have HCM2 := Lib.hid (show cellsOf out ++ [.int .u8 (s[k].toNat : Int)] = cellsOf M2 by rw [hM2]; unfold cellsOf; rw [List.map_append]; rfl)
          have HREL := Lib.hid (show M2 ++ quo false (s.data.toList.drop (k + 1)) = Q by rw [hM2, ← hq]; simp)
          clear hq hpl hp HR hM2
          go_wp2_with fail
          refine (HPL.out _).mono ?_
          rintro e w1 ⟨rfl, rfl⟩
          go_wp2_with (at_builtin; refine wpList_append_lies _ rfl _ _ 51 rfl w.heap.size 5 i0 (.int .u8 0) 1 1 Try.underlying51 hi hz0 hz1 hz2 rfl (by omega) _ out.length (cellsOf out) rfl (hown.alloc _) ⟨wr.heap.size, 0, none⟩ 1 1 [.int .u8 (s[k].toNat : Int)] rfl rfl ?c1 ?c2 (by omega) ?c3 ?c4 ?c5 _ rfl ?_)
          case c1 => exact World.news_of_block (cs := #[.int .u8 (s[k].toNat : Int)]) (t := 5) (fr := (0, 0)) (heap_alloc_new wr _)
          case c2 => simp [Value.oneCell']
          case c3 => unfold maxLen; omega
          case c4 => omega
          case c5 => have := hB.size; simp; omega
          intro g4 cap4 w4 hown4 hgrow hat hlt1
          have hB4 : Below w.heap.size w w4 := (hB.alloc hB.size _).grown hgrow (by have := hB.size; simp; omega) (fun k hk => (hown.lt k hk).1)
          rw [HCM2.out] at hown4
          try rw [HLM2.out] at hown4
          try rw [HLM2.out]
          have hM2l := HLM2.out
          clear hown hgrow hat hlt1 hB
          go_wp2_with fail
          go_roundw
          case rel => exact ⟨k + 1, false, M2, some ⟨g4, 0, none⟩, cap4, by omega, by go_num, rfl, rfl, by omega, hown4, hB4, HREL.out⟩
          case measure => simp [intOf]; omega
      | false =>
        rw [hp] at hpl
        rw [if_neg (by rw [hp]; decide)] at hq
        have HPL := Lib.hid hpl
        have HQ := Lib.hid hq
        clear hq
        cases fl with
        | true =>
          have h15 := nib4 s[k]
          obtain ⟨hx, hhx⟩ : ∃ h, h = s[k].toNat / 16 := ⟨_, rfl⟩
          obtain ⟨lx, hlx⟩ : ∃ h, h = s[k].toNat % 16 := ⟨_, rfl⟩
          have hq := HQ.out
          rw [← hhx, ← hlx] at hq
          rw [← hlx] at h15
          have h16 : (s[k].toNat : Int) / 16 = (hx : Int) := by omega
          have i1 := hexD_at hx (by omega)
          have i2 := hexD_at lx (by omega)
          generalize hexD hx = d1 at *
          generalize hexD lx = d2 at *
          clear hhx hlx HQ
          obtain ⟨M1, hM1⟩ : ∃ M1, M1 = out ++ [32] := ⟨_, rfl⟩
          have HLM1 := Lib.hid (show out.length + 1 = M1.length by rw [hM1]; simp)
          have HCM1 := Lib.hid (show cellsOf out ++ [.int .u8 32] = cellsOf M1 by rw [hM1]; unfold cellsOf; rw [List.map_append]; rfl)
          obtain ⟨M2, hM2⟩ : ∃ M2, M2 = M1 ++ [d1, d2] := ⟨_, rfl⟩
          have HLM2 := Lib.hid (show M1.length + 2 = M2.length by rw [hM2]; simp)
          have HCM2 := Lib.hid (show cellsOf M1 ++ [.int .u8 (d1.toNat : Int), .int .u8 (d2.toNat : Int)] = cellsOf M2 by rw [hM2]; unfold cellsOf; rw [List.map_append]; rfl)
          have HREL := Lib.hid (show M2 ++ quo true (s.data.toList.drop (k + 1)) = Q by rw [hM2, hM1, ← hq]; simp)
          clear hq hpl hp HR hM1 hM2
          go_wp2_with fail
          refine (HPL.out _).mono ?_
          rintro e w1 ⟨rfl, rfl⟩
          go_wp2_with (at_builtin; refine wpList_append_lies _ rfl _ _ 51 rfl w.heap.size 5 i0 (.int .u8 0) 1 1 Try.underlying51 hi hz0 hz1 hz2 rfl (by omega) _ out.length (cellsOf out) rfl (hown.alloc _) ⟨wr.heap.size, 0, none⟩ 1 1 [.int .u8 32] rfl rfl ?c1 ?c2 (by omega) ?c3 ?c4 ?c5 _ rfl ?_)
          case c1 => exact World.news_of_block (cs := #[.int .u8 32]) (t := 5) (fr := (0, 0)) (heap_alloc_new wr _)
          case c2 => simp [Value.oneCell']
          case c3 => unfold maxLen; omega
          case c4 => omega
          case c5 => have := hB.size; simp; omega
          intro g3 cap3 w3 hown3 hgrow hat hlt1
          have hB3 : Below w.heap.size w w3 := (hB.alloc hB.size _).grown hgrow (by have := hB.size; simp; omega) (fun k hk => (hown.lt k hk).1)
          rw [HCM1.out] at hown3
          try rw [HLM1.out] at hown3
          try rw [HLM1.out]
          have hM1l := HLM1.out
          clear hown hgrow hat hlt1 hB
          have hb3B := hB3.size
          go_wp2_with fail
          go_region_held3 (fun _ => True) (trivial) ((refine step_append_lies _ (by rfl) _ _ 51 (by rfl) w.heap.size 5 i0 (.int .u8 0) 1 1 Try.underlying51 hi hz0 hz1 hz2 rfl (by omega) (.slice (some ⟨g3, 0, none⟩) M1.length cap3) M1.length (cellsOf M1) (by rfl) ((hown3.alloc _).drew) ⟨w3.heap.size, 0, none⟩ 2 2 [.int .u8 (d1.toNat : Int), .int .u8 (d2.toNat : Int)] (by rfl) (by rfl) (World.news_of_block (cs := #[.int .u8 (d1.toNat : Int), .int .u8 (d2.toNat : Int)]) (t := 5) (fr := (0, 0)) (heap_alloc_new w3 _)) (by simp [Value.oneCell']) (by omega) (by unfold maxLen; omega) (by omega) (by simp; omega) (w3.heap.size + 1) (by simp) ?_; intro gg cap' w9 hown9 hgrow hat hlt1))
          all_goals
            have hB9 : Below w.heap.size w w9 := ((hB3.alloc hB3.size _).drew).grown hgrow (by simp; omega) (fun k hk => (hown3.lt k hk).1)
            rw [HCM2.out] at hown9
            try rw [HLM2.out] at hown9
            try rw [HLM2.out]
            have hM2l := HLM2.out
            clear hgrow hat hlt1 hown3 hB3 i1 i2
            go_wp2_with fail
            go_roundw
            case rel => exact ⟨k + 1, true, M2, some ⟨gg, 0, none⟩, cap', by omega, by go_num, rfl, rfl, by omega, hown9, hB9, HREL.out⟩
            case measure => simp [intOf]; omega
        | false =>
          have h15 := nib4 s[k]
          obtain ⟨hx, hhx⟩ : ∃ h, h = s[k].toNat / 16 := ⟨_, rfl⟩
          obtain ⟨lx, hlx⟩ : ∃ h, h = s[k].toNat % 16 := ⟨_, rfl⟩
          have hq := HQ.out
          rw [← hhx, ← hlx] at hq
          rw [← hlx] at h15
          have h16 : (s[k].toNat : Int) / 16 = (hx : Int) := by omega
          have i1 := hexD_at hx (by omega)
          have i2 := hexD_at lx (by omega)
          generalize hexD hx = d1 at *
          generalize hexD lx = d2 at *
          clear hhx hlx HQ
          obtain ⟨M1, hM1⟩ : ∃ M1, M1 = out ++ [124] := ⟨_, rfl⟩
          have HLM1 := Lib.hid (show out.length + 1 = M1.length by rw [hM1]; simp)
          have HCM1 := Lib.hid (show cellsOf out ++ [.int .u8 124] = cellsOf M1 by rw [hM1]; unfold cellsOf; rw [List.map_append]; rfl)
          obtain ⟨M2, hM2⟩ : ∃ M2, M2 = M1 ++ [d1, d2] := ⟨_, rfl⟩
          have HLM2 := Lib.hid (show M1.length + 2 = M2.length by rw [hM2]; simp)
          have HCM2 := Lib.hid (show cellsOf M1 ++ [.int .u8 (d1.toNat : Int), .int .u8 (d2.toNat : Int)] = cellsOf M2 by rw [hM2]; unfold cellsOf; rw [List.map_append]; rfl)
          have HREL := Lib.hid (show M2 ++ quo true (s.data.toList.drop (k + 1)) = Q by rw [hM2, hM1, ← hq]; simp)
          clear hq hpl hp HR hM1 hM2
          go_wp2_with fail
          refine (HPL.out _).mono ?_
          rintro e w1 ⟨rfl, rfl⟩
          go_wp2_with (at_builtin; refine wpList_append_lies _ rfl _ _ 51 rfl w.heap.size 5 i0 (.int .u8 0) 1 1 Try.underlying51 hi hz0 hz1 hz2 rfl (by omega) _ out.length (cellsOf out) rfl (hown.alloc _) ⟨wr.heap.size, 0, none⟩ 1 1 [.int .u8 124] rfl rfl ?c1 ?c2 (by omega) ?c3 ?c4 ?c5 _ rfl ?_)
          case c1 => exact World.news_of_block (cs := #[.int .u8 124]) (t := 5) (fr := (0, 0)) (heap_alloc_new wr _)
          case c2 => simp [Value.oneCell']
          case c3 => unfold maxLen; omega
          case c4 => omega
          case c5 => have := hB.size; simp; omega
          intro g3 cap3 w3 hown3 hgrow hat hlt1
          have hB3 : Below w.heap.size w w3 := (hB.alloc hB.size _).grown hgrow (by have := hB.size; simp; omega) (fun k hk => (hown.lt k hk).1)
          rw [HCM1.out] at hown3
          try rw [HLM1.out] at hown3
          try rw [HLM1.out]
          have hM1l := HLM1.out
          clear hown hgrow hat hlt1 hB
          have hb3B := hB3.size
          go_wp2_with fail
          go_region_held3 (fun _ => True) (trivial) ((refine step_append_lies _ (by rfl) _ _ 51 (by rfl) w.heap.size 5 i0 (.int .u8 0) 1 1 Try.underlying51 hi hz0 hz1 hz2 rfl (by omega) (.slice (some ⟨g3, 0, none⟩) M1.length cap3) M1.length (cellsOf M1) (by rfl) ((hown3.alloc _).drew) ⟨w3.heap.size, 0, none⟩ 2 2 [.int .u8 (d1.toNat : Int), .int .u8 (d2.toNat : Int)] (by rfl) (by rfl) (World.news_of_block (cs := #[.int .u8 (d1.toNat : Int), .int .u8 (d2.toNat : Int)]) (t := 5) (fr := (0, 0)) (heap_alloc_new w3 _)) (by simp [Value.oneCell']) (by omega) (by unfold maxLen; omega) (by omega) (by simp; omega) (w3.heap.size + 1) (by simp) ?_; intro gg cap' w9 hown9 hgrow hat hlt1))
          all_goals
            have hB9 : Below w.heap.size w w9 := ((hB3.alloc hB3.size _).drew).grown hgrow (by simp; omega) (fun k hk => (hown3.lt k hk).1)
            rw [HCM2.out] at hown9
            try rw [HLM2.out] at hown9
            try rw [HLM2.out]
            have hM2l := HLM2.out
            clear hgrow hat hlt1 hown3 hB3 i1 i2
            go_wp2_with fail
            go_roundw
            case rel => exact ⟨k + 1, true, M2, some ⟨gg, 0, none⟩, cap', by omega, by go_num, rfl, rfl, by omega, hown9, hB9, HREL.out⟩
            case measure => simp [intOf]; omega
    · obtain rfl : k = s.size := by omega
      have hd : decide ((s.size : Int) < (s.size : Int)) = false := by simp
      have hq := HR.out
      rw [drop_end] at hq
      cases fl with
      | true =>
        obtain ⟨M1, hM1⟩ : ∃ M1, M1 = out ++ [124] := ⟨_, rfl⟩
        have HLM1 := Lib.hid (show out.length + 1 = M1.length by rw [hM1]; simp)
        have HCM1 := Lib.hid (show cellsOf out ++ [.int .u8 124] = cellsOf M1 by rw [hM1]; unfold cellsOf; rw [List.map_append]; rfl)
        obtain ⟨M2, hM2⟩ : ∃ M2, M2 = M1 ++ [34] := ⟨_, rfl⟩
        have HLM2 := Lib.hid (show M1.length + 1 = M2.length by rw [hM2]; simp)
        have HCM2 := Lib.hid (show cellsOf M1 ++ [.int .u8 34] = cellsOf M2 by rw [hM2]; unfold cellsOf; rw [List.map_append]; rfl)
        have HVV := Lib.hid (show V = str M2 by rw [HV.out, ← hq, hM2, hM1]; rfl)
        clear hq HR hM1 hM2
        go_wp2_with (at_builtin; refine wpList_append_lies _ rfl _ _ 51 rfl w.heap.size 5 i0 (.int .u8 0) 1 1 Try.underlying51 hi hz0 hz1 hz2 rfl (by omega) _ out.length (cellsOf out) rfl (hown.alloc _) ⟨wr.heap.size, 0, none⟩ 1 1 [.int .u8 124] rfl rfl ?c1 ?c2 (by omega) ?c3 ?c4 ?c5 _ rfl ?_)
        case c1 => exact World.news_of_block (cs := #[.int .u8 124]) (t := 5) (fr := (0, 0)) (heap_alloc_new wr _)
        case c2 => simp [Value.oneCell']
        case c3 => unfold maxLen; omega
        case c4 => omega
        case c5 => have := hB.size; simp; omega
        intro g3 cap3 w3 hown3 hgrow hat hlt1
        have hB3 : Below w.heap.size w w3 := (hB.alloc hB.size _).grown hgrow (by have := hB.size; simp; omega) (fun k hk => (hown.lt k hk).1)
        rw [HCM1.out] at hown3
        try rw [HLM1.out] at hown3
        try rw [HLM1.out]
        have hM1l := HLM1.out
        clear hown hgrow hat hlt1 hB
        go_wp2_with (at_builtin; refine wpList_append_lies _ rfl _ _ 51 rfl w.heap.size 5 i0 (.int .u8 0) 1 1 Try.underlying51 hi hz0 hz1 hz2 rfl (by omega) _ M1.length (cellsOf M1) rfl (hown3.alloc _) ⟨w3.heap.size, 0, none⟩ 1 1 [.int .u8 34] rfl rfl ?c1 ?c2 (by omega) ?c3 ?c4 ?c5 _ rfl ?_)
        case c1 => exact World.news_of_block (cs := #[.int .u8 34]) (t := 5) (fr := (0, 0)) (heap_alloc_new w3 _)
        case c2 => simp [Value.oneCell']
        case c3 => unfold maxLen; omega
        case c4 => omega
        case c5 => have := hB3.size; simp; omega
        intro g4 cap4 w4 hown4 hgrow hat hlt1
        have hB4 : Below w.heap.size w w4 := (hB3.alloc hB3.size _).grown hgrow (by have := hB3.size; simp; omega) (fun k hk => (hown3.lt k hk).1)
        rw [HCM2.out] at hown4
        try rw [HLM2.out] at hown4
        try rw [HLM2.out]
        have hM2l := HLM2.out
        clear hown3 hgrow hat hlt1 hB3
        have hcv := bs_string (bs_of_own hown4)
        go_wp2_with fail
        go_ret
        exact ⟨by rw [HVV.out]; rfl, hB4⟩
      | false =>
        obtain ⟨M2, hM2⟩ : ∃ M2, M2 = out ++ [34] := ⟨_, rfl⟩
        have HLM2 := Lib.hid (show out.length + 1 = M2.length by rw [hM2]; simp)
        have HCM2 := Lib.hid (show cellsOf out ++ [.int .u8 34] = cellsOf M2 by rw [hM2]; unfold cellsOf; rw [List.map_append]; rfl)
        have HVV := Lib.hid (show V = str M2 by rw [HV.out, ← hq, hM2]; simp [quo])
        clear hq HR hM2
        go_wp2_with (at_builtin; refine wpList_append_lies _ rfl _ _ 51 rfl w.heap.size 5 i0 (.int .u8 0) 1 1 Try.underlying51 hi hz0 hz1 hz2 rfl (by omega) _ out.length (cellsOf out) rfl (hown.alloc _) ⟨wr.heap.size, 0, none⟩ 1 1 [.int .u8 34] rfl rfl ?c1 ?c2 (by omega) ?c3 ?c4 ?c5 _ rfl ?_)
        case c1 => exact World.news_of_block (cs := #[.int .u8 34]) (t := 5) (fr := (0, 0)) (heap_alloc_new wr _)
        case c2 => simp [Value.oneCell']
        case c3 => unfold maxLen; omega
        case c4 => omega
        case c5 => have := hB.size; simp; omega
        intro g4 cap4 w4 hown4 hgrow hat hlt1
        have hB4 : Below w.heap.size w w4 := (hB.alloc hB.size _).grown hgrow (by have := hB.size; simp; omega) (fun k hk => (hown.lt k hk).1)
        rw [HCM2.out] at hown4
        try rw [HLM2.out] at hown4
        try rw [HLM2.out]
        have hM2l := HLM2.out
        clear hown hgrow hat hlt1 hB
        have hcv := bs_string (bs_of_own hown4)
        go_wp2_with fail
        go_ret
        exact ⟨by rw [HVV.out]; rfl, hB4⟩
end Go.Proofs.Ytcakdgfkepdpkaa
