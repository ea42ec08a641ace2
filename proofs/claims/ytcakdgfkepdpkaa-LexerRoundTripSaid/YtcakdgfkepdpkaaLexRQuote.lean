/- Contract: Quote of the reference. -/
import Derived.Test.YtcakdgfkepdpkaaLexQuote
import Derived.Lib.SmallJoins
namespace Go.Proofs.Ytcakdgfkepdpkaa
open Go.ChangeShapes Go.WideShapes Go.ChangeAt Go.RowKit

/-- The sixteen digits. -/
def dig16 : ByteArray := ⟨#[48, 49, 50, 51, 52, 53, 54, 55, 56, 57, 97, 98, 99, 100, 101, 102]⟩
theorem dig16_at : ∀ k : Fin 16, dig16.extract k.1 (k.1 + 1) = str [hexD k.1] := by
  intro k
  have h : ∀ k : Fin 16, (dig16.extract k.1 (k.1 + 1)).data = #[hexD k.1] := by decide +kernel
  exact ByteArray.ext (h k)
theorem str_app (a b : List UInt8) : str a ++ str b = str (a ++ b) := str_append a b

set_option maxHeartbeats 1000000 in
set_option maxRecDepth 20000 in
theorem rquote_any (s : ByteArray) (w : World) (hs : s.size ≤ 16000) :
    Calls Try.prog 19 #[.string s] w fun e w' => e = .returned (.string (str (quoteL s.data.toList))) ∧ Below w.heap.size w w' := by
  obtain ⟨Q, hQ⟩ : ∃ Q, Q = 34 :: quo false s.data.toList := ⟨_, rfl⟩
  obtain ⟨V, hV⟩ : ∃ V, V = str (quoteL s.data.toList) := ⟨_, rfl⟩
  rw [← hV]
  have HV := Lib.hid (show V = str (Q ++ [34]) by rw [hV, hQ]; rfl)
  have HQ0 := Lib.hid (show ([34] : List UInt8) ++ quo false (s.data.toList.drop 0) = Q by rw [hQ]; rfl)
  have HS0 := Lib.hid (show (⟨#[34]⟩ : ByteArray) = str [34] from rfl)
  clear hQ hV
  go_enter Try.func19, Try.ntmps19
  go_wp2_with fail
  go_loopw [4, 5, 6, 7, 8, 9, 10] (fun o f i _ _ _ _ wr => ∃ k : Nat, ∃ fl : Bool, ∃ b : ByteArray, ∃ out : List UInt8, k ≤ s.size ∧ i = .int .i64 k ∧ f = .bool fl ∧ o = .string b ∧ Hid (b = str out) ∧ b.size ≤ 3 * k + 1 ∧ Hid (Below w.heap.size w wr) ∧ Hid (out ++ quo fl (s.data.toList.drop k) = Q)) (fun _ _ i _ _ _ _ _ => s.size - (intOf i).toNat)
  case atStart => exact ⟨0, false, ⟨#[34]⟩, [34], Nat.zero_le _, rfl, rfl, rfl, rfl, by decide, Below.refl _ _, HQ0.out⟩
  case round =>
    clear HQ0
    obtain ⟨k, fl, b, out, hk, rfl, rfl, rfl, HBS, hbz, HB, HR⟩ := hrel
    by_cases hlt : k < s.size
    · have hb8 := u8_lt s[k]
      have hki : (k : Int) < (s.size : Int) := by omega
      have hki0 : (0 : Int) ≤ (k : Int) := by omega
      have hpl := plainB_eq s[k]
      have hsp := fun W => rspecial_any s[k] W
      have hq := HR.out
      rw [drop_at s k hlt, quo] at hq
      obtain ⟨k1, hk1⟩ : ∃ k1, k1 = k + 1 := ⟨_, rfl⟩
      have k1i : (k : Int) + 1 = (k1 : Int) := by omega
      have k1s : k1 ≤ s.size := by omega
      have hxx : s.extract k k1 = str [s[k]] := by
        rw [hk1, extract_str, drop_at s k hlt, Nat.add_sub_cancel_left]; rfl
      have hxz : (s.extract k k1).size = 1 := by rw [hxx, str_size]; rfl
      rw [← hk1] at hq
      have j1 : (9223372036854775807 < b.size + 1) = False := by simp; omega
      have j2 : (9223372036854775807 < b.size + 1 + 1) = False := by simp; omega
      have j3 : (9223372036854775807 < b.size + 1 + 1 + 1) = False := by simp; omega
      by_cases hplain : plainB s[k] = true
      · obtain ⟨p1, p2, p3, p4, p5⟩ := plain_of hplain
        have hsb : specB s[k] = false := by
          cases hc : specB s[k] with
          | false => rfl
          | true => rw [hplain, hc] at hpl; simp at hpl
        rw [hsb] at hsp
        rw [if_pos hplain] at hq
        have HSP := Lib.hid hsp
        have c1 : (32 : Int) ≤ (s[k].toNat : Int) := by omega
        have c2 : (s[k].toNat : Int) ≤ 126 := by omega
        cases fl with
        | true =>
          rw [if_pos rfl] at hq
          have HREL := Lib.hid (show (out ++ [124] ++ [s[k]]) ++ quo false (s.data.toList.drop k1) = Q by rw [← hq]; simp)
          have HBS2 := Lib.hid (show b ++ ⟨#[124]⟩ ++ s.extract k k1 = str (out ++ [124] ++ [s[k]]) by rw [HBS.out, hxx, ← str_app, ← str_app]; rfl)
          have hz2 : (b ++ (⟨#[124]⟩ : ByteArray) ++ s.extract k k1).size = b.size + 1 + 1 := by rw [ByteArray.size_append, ByteArray.size_append, hxz]; rfl
          have HZ2 := Lib.hid hz2
          have HK1 := Lib.hid hk1
          clear hq hpl hsp hsb hplain hxx hk1 HR HBS hz2
          go_wp2_with fail
          refine (HSP.out _).mono ?_
          rintro e w1 ⟨rfl, rfl⟩
          go_wp2_with fail
          go_roundw
          case rel => exact ⟨k1, false, _, _, k1s, rfl, rfl, rfl, HBS2.out, by rw [HZ2.out]; have := HK1.out; omega, HB, HREL.out⟩
          case measure => have := HK1.out; simp [intOf]; omega
        | false =>
          rw [if_neg (by decide)] at hq
          have HREL := Lib.hid (show (out ++ [s[k]]) ++ quo false (s.data.toList.drop k1) = Q by rw [← hq]; simp)
          have HBS2 := Lib.hid (show b ++ s.extract k k1 = str (out ++ [s[k]]) by rw [HBS.out, hxx, ← str_app])
          have HZ2 := Lib.hid (show (b ++ s.extract k k1).size = b.size + 1 by rw [ByteArray.size_append, hxz])
          have HK1 := Lib.hid hk1
          clear hq hpl hsp hsb hplain hxx hk1 HR HBS
          go_wp2_with fail
          refine (HSP.out _).mono ?_
          rintro e w1 ⟨rfl, rfl⟩
          go_wp2_with fail
          go_roundw
          case rel => exact ⟨k1, false, _, _, k1s, rfl, rfl, rfl, HBS2.out, by rw [HZ2.out]; have := HK1.out; omega, HB, HREL.out⟩
          case measure => have := HK1.out; simp [intOf]; omega
      · rw [if_neg hplain] at hq
        obtain ⟨hx, hhx⟩ : ∃ h, h = s[k].toNat / 16 := ⟨_, rfl⟩
        obtain ⟨lx, hlx⟩ : ∃ h, h = s[k].toNat % 16 := ⟨_, rfl⟩
        rw [← hhx, ← hlx] at hq
        have h16 : (s[k].toNat : Int) / 16 = (hx : Int) := by omega
        have l16 : (s[k].toNat : Int) % 16 = (lx : Int) := by omega
        have t16 : Int.tdiv (s[k].toNat : Int) 16 = (hx : Int) := by rw [Int.tdiv_eq_ediv_of_nonneg (by omega)]; exact h16
        have m16 : Int.tmod (s[k].toNat : Int) 16 = (lx : Int) := by rw [Int.tmod_eq_emod_of_nonneg (by omega)]; exact l16
        have d1 := dig16_at ⟨hx, by omega⟩
        have d2 := dig16_at ⟨lx, by omega⟩
        simp only at d1 d2
        obtain ⟨hx1, hhx1⟩ : ∃ h, h = hx + 1 := ⟨_, rfl⟩
        obtain ⟨lx1, hlx1⟩ : ∃ h, h = lx + 1 := ⟨_, rfl⟩
        rw [← hhx1] at d1
        rw [← hlx1] at d2
        have ex1 : (hx : Int) + 1 = (hx1 : Int) := by omega
        have ex2 : (lx : Int) + 1 = (lx1 : Int) := by omega
        have w1 : IntKind.i64.wrap (hx1 : Int) = (hx1 : Int) := IntWalk.i64_in _ (by omega)
        have w2 : IntKind.i64.wrap (lx1 : Int) = (lx1 : Int) := IntWalk.i64_in _ (by omega)
        have g1 : (0 : Int) ≤ (hx : Int) := by omega
        have g2 : (0 : Int) ≤ (lx : Int) := by omega
        have g3 : (hx : Int) ≤ (hx1 : Int) := by omega
        have g4 : (lx : Int) ≤ (lx1 : Int) := by omega
        have g5 : (hx1 : Int) ≤ 16 := by omega
        have g6 : (lx1 : Int) ≤ 16 := by omega
        have z1 : (dig16.extract hx hx1).size = 1 := by rw [d1, str_size]; rfl
        have z2 : (dig16.extract lx lx1).size = 1 := by rw [d2, str_size]; rfl
        unfold dig16 at z1 z2 d1 d2
        generalize hexD hx = y1 at *
        generalize hexD lx = y2 at *
        clear hhx hlx hhx1 hlx1
        cases fl with
        | true =>
          have HREL := Lib.hid (show (out ++ [32] ++ [y1] ++ [y2]) ++ quo true (s.data.toList.drop k1) = Q by rw [← hq]; simp)
          have HBS2 := Lib.hid (show b ++ ⟨#[32]⟩ ++ (⟨#[48, 49, 50, 51, 52, 53, 54, 55, 56, 57, 97, 98, 99, 100, 101, 102]⟩ : ByteArray).extract hx hx1 ++ (⟨#[48, 49, 50, 51, 52, 53, 54, 55, 56, 57, 97, 98, 99, 100, 101, 102]⟩ : ByteArray).extract lx lx1 = str (out ++ [32] ++ [y1] ++ [y2]) by rw [HBS.out, d1, d2, ← str_app, ← str_app, ← str_app]; rfl)
          have HZ2 := Lib.hid (show (b ++ ⟨#[32]⟩ ++ (⟨#[48, 49, 50, 51, 52, 53, 54, 55, 56, 57, 97, 98, 99, 100, 101, 102]⟩ : ByteArray).extract hx hx1 ++ (⟨#[48, 49, 50, 51, 52, 53, 54, 55, 56, 57, 97, 98, 99, 100, 101, 102]⟩ : ByteArray).extract lx lx1).size = b.size + 1 + 1 + 1 by rw [ByteArray.size_append, ByteArray.size_append, ByteArray.size_append, z1, z2]; rfl)
          have HK1 := Lib.hid hk1
          clear hq hxx hxz hk1 HR HBS d1 d2
          by_cases hc1 : s[k].toNat < 32
          · have c1 : decide ((32 : Int) ≤ (s[k].toNat : Int)) = false := by simp; omega
            clear hpl hsp hplain hc1
            go_wp2_with fail
            go_quiet (fail)
            have HB2 := Lib.hid (below_drewN HB.out nq)
            clear HB
            generalize wr.drewN nq = w2 at *
            go_wp2_with fail
            go_roundw
            case rel => exact ⟨k1, true, _, _, k1s, rfl, rfl, rfl, HBS2.out, by rw [HZ2.out]; have := HK1.out; omega, HB2.out, HREL.out⟩
            case measure => have := HK1.out; simp [intOf]; omega
          · have c1 : (32 : Int) ≤ (s[k].toNat : Int) := by omega
            by_cases hc2 : 126 < s[k].toNat
            · have c2 : decide ((s[k].toNat : Int) ≤ 126) = false := by simp; omega
              clear hpl hsp hplain hc1 hc2
              go_wp2_with fail
              go_quiet (fail)
              have HB2 := Lib.hid (below_drewN HB.out nq)
              clear HB
              generalize wr.drewN nq = w2 at *
              go_wp2_with fail
              go_roundw
              case rel => exact ⟨k1, true, _, _, k1s, rfl, rfl, rfl, HBS2.out, by rw [HZ2.out]; have := HK1.out; omega, HB2.out, HREL.out⟩
              case measure => have := HK1.out; simp [intOf]; omega
            · have c2 : (s[k].toNat : Int) ≤ 126 := by omega
              have hsb : specB s[k] = true := by
                cases hc : specB s[k] with
                | true => rfl
                | false =>
                  rw [hc] at hpl
                  rw [hpl] at hplain
                  exact absurd (by simp; omega) hplain
              rw [hsb] at hsp
              have HSP := Lib.hid hsp
              clear hpl hsp hplain hc1 hc2 hsb
              go_wp2_with fail
              refine (HSP.out _).mono ?_
              rintro e w9 ⟨rfl, rfl⟩
              go_wp2_with fail
              go_quiet (fail)
              have HB2 := Lib.hid (below_drewN HB.out nq)
              clear HB
              generalize wr.drewN nq = w2 at *
              go_wp2_with fail
              go_roundw
              case rel => exact ⟨k1, true, _, _, k1s, rfl, rfl, rfl, HBS2.out, by rw [HZ2.out]; have := HK1.out; omega, HB2.out, HREL.out⟩
              case measure => have := HK1.out; simp [intOf]; omega
        | false =>
          have HREL := Lib.hid (show (out ++ [124] ++ [y1] ++ [y2]) ++ quo true (s.data.toList.drop k1) = Q by rw [← hq]; simp)
          have HBS2 := Lib.hid (show b ++ ⟨#[124]⟩ ++ (⟨#[48, 49, 50, 51, 52, 53, 54, 55, 56, 57, 97, 98, 99, 100, 101, 102]⟩ : ByteArray).extract hx hx1 ++ (⟨#[48, 49, 50, 51, 52, 53, 54, 55, 56, 57, 97, 98, 99, 100, 101, 102]⟩ : ByteArray).extract lx lx1 = str (out ++ [124] ++ [y1] ++ [y2]) by rw [HBS.out, d1, d2, ← str_app, ← str_app, ← str_app]; rfl)
          have HZ2 := Lib.hid (show (b ++ ⟨#[124]⟩ ++ (⟨#[48, 49, 50, 51, 52, 53, 54, 55, 56, 57, 97, 98, 99, 100, 101, 102]⟩ : ByteArray).extract hx hx1 ++ (⟨#[48, 49, 50, 51, 52, 53, 54, 55, 56, 57, 97, 98, 99, 100, 101, 102]⟩ : ByteArray).extract lx lx1).size = b.size + 1 + 1 + 1 by rw [ByteArray.size_append, ByteArray.size_append, ByteArray.size_append, z1, z2]; rfl)
          have HK1 := Lib.hid hk1
          clear hq hxx hxz hk1 HR HBS d1 d2
          by_cases hc1 : s[k].toNat < 32
          · have c1 : decide ((32 : Int) ≤ (s[k].toNat : Int)) = false := by simp; omega
            clear hpl hsp hplain hc1
            go_wp2_with fail
            go_quiet (fail)
            have HB2 := Lib.hid (below_drewN HB.out nq)
            clear HB
            generalize wr.drewN nq = w2 at *
            go_wp2_with fail
            go_roundw
            case rel => exact ⟨k1, true, _, _, k1s, rfl, rfl, rfl, HBS2.out, by rw [HZ2.out]; have := HK1.out; omega, HB2.out, HREL.out⟩
            case measure => have := HK1.out; simp [intOf]; omega
          · have c1 : (32 : Int) ≤ (s[k].toNat : Int) := by omega
            by_cases hc2 : 126 < s[k].toNat
            · have c2 : decide ((s[k].toNat : Int) ≤ 126) = false := by simp; omega
              clear hpl hsp hplain hc1 hc2
              go_wp2_with fail
              go_quiet (fail)
              have HB2 := Lib.hid (below_drewN HB.out nq)
              clear HB
              generalize wr.drewN nq = w2 at *
              go_wp2_with fail
              go_roundw
              case rel => exact ⟨k1, true, _, _, k1s, rfl, rfl, rfl, HBS2.out, by rw [HZ2.out]; have := HK1.out; omega, HB2.out, HREL.out⟩
              case measure => have := HK1.out; simp [intOf]; omega
            · have c2 : (s[k].toNat : Int) ≤ 126 := by omega
              have hsb : specB s[k] = true := by
                cases hc : specB s[k] with
                | true => rfl
                | false =>
                  rw [hc] at hpl
                  rw [hpl] at hplain
                  exact absurd (by simp; omega) hplain
              rw [hsb] at hsp
              have HSP := Lib.hid hsp
              clear hpl hsp hplain hc1 hc2 hsb
              go_wp2_with fail
              refine (HSP.out _).mono ?_
              rintro e w9 ⟨rfl, rfl⟩
              go_wp2_with fail
              go_quiet (fail)
              have HB2 := Lib.hid (below_drewN HB.out nq)
              clear HB
              generalize wr.drewN nq = w2 at *
              go_wp2_with fail
              go_roundw
              case rel => exact ⟨k1, true, _, _, k1s, rfl, rfl, rfl, HBS2.out, by rw [HZ2.out]; have := HK1.out; omega, HB2.out, HREL.out⟩
              case measure => have := HK1.out; simp [intOf]; omega
    · obtain rfl : k = s.size := by omega
      have hd : decide ((s.size : Int) < (s.size : Int)) = false := by simp
      have hq := HR.out
      rw [drop_end] at hq
      have j1 : (9223372036854775807 < b.size + 1) = False := by simp; omega
      have j2 : (9223372036854775807 < b.size + 1 + 1) = False := by simp; omega
      have hB := HB.out
      cases fl with
      | true =>
        have HVV := Lib.hid (show V = b ++ ⟨#[124]⟩ ++ ⟨#[34]⟩ by rw [HV.out, ← hq, HBS.out, ← str_app, ← str_app]; rfl)
        clear hq HR HB
        go_wp2_with fail
        go_ret
        exact ⟨by rw [HVV.out]; rfl, hB⟩
      | false =>
        have HVV := Lib.hid (show V = b ++ ⟨#[34]⟩ by rw [HV.out, ← hq, HBS.out, ← str_app]; simp [quo]; rfl)
        clear hq HR HB
        go_wp2_with fail
        go_ret
        exact ⟨by rw [HVV.out]; rfl, hB⟩
end Go.Proofs.Ytcakdgfkepdpkaa
