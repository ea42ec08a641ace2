/- Contract: the reference's group. -/
import Derived.Test.YtcakdgfkepdpkaaLexPure
import Derived.OwnWalk
import Derived.Deep.RegionHeld3
import Derived.Deep.AppendLies
import Derived.Deep.RegionWith
namespace Go.Proofs.Ytcakdgfkepdpkaa
open Go.ChangeShapes Go.WideShapes Go.ChangeAt Go.RowKit

/-- A group of a string, behind its first bar. -/
def grp : Md → List UInt8 → Nat → List UInt8 → Res (List UInt8)
  | _, _, off, [] => .err 14 off
  | .g1, acc, off, c :: r => match hexV c with
    | some h => grp (.g2 h) acc (off + 1) r
    | none => .err 14 off
  | .g2 h, acc, off, c :: r => match hexV c with
    | some l => grp .g3 (acc ++ [UInt8.ofNat (16 * h + l)]) (off + 1) r
    | none => .err 14 off
  | .g3, acc, off, c :: r => if c.toNat = 124 then .ok acc (off + 1) else if c.toNat = 32 then grp .g1 acc (off + 1) r else .err 14 off
  | _, _, off, _ :: _ => .err 14 off
/-- How a string goes on behind a group. -/
def after (st : Nat) (out0 : List UInt8) (off : Nat) (L : List UInt8) : Res (List UInt8) → Res (List UInt8)
  | .ok b n => lit st .plain (out0 ++ b) n (L.drop (n - off))
  | .err e n => .err e n
def isG : Md → Bool
  | .plain => false
  | .esc => false
  | _ => true
theorem grp_ok : ∀ (L : List UInt8) (m : Md) (acc : List UInt8) (off : Nat), resOk off (off + L.length) (grp m acc off L)
  | [], m, acc, off => by cases m <;> exact .inr (.inr rfl)
  | c :: r, m, acc, off => by
    have rc : ∀ m' acc', resOk off (off + (c :: r).length) (grp m' acc' (off + 1) r) := fun m' acc' =>
      (grp_ok r m' acc' (off + 1)).mono (by omega) (by simp; omega)
    cases m with
    | plain => exact .inr (.inr rfl)
    | esc => exact .inr (.inr rfl)
    | g1 =>
      rw [grp]
      split
      · exact rc _ _
      · exact .inr (.inr rfl)
    | g2 h =>
      rw [grp]
      split
      · exact rc _ _
      · exact .inr (.inr rfl)
    | g3 =>
      rw [grp]
      split
      · exact ⟨by omega, by simp⟩
      split
      · exact rc _ _
      · exact .inr (.inr rfl)
theorem after_step (st : Nat) (out0 : List UInt8) (off : Nat) (c : UInt8) (r : List UInt8) {x : Res (List UInt8)} (h : resOk (off + 1) (off + 1 + r.length) x) : after st out0 off (c :: r) x = after st out0 (off + 1) r x := by
  cases x with
  | ok b n =>
    unfold after
    simp only
    have : n - off = (n - (off + 1)) + 1 := by have := h.1; omega
    rw [this, List.drop_succ_cons]
  | err e n => rfl
theorem lit_grp (st : Nat) (out0 : List UInt8) : ∀ (L : List UInt8) (m : Md) (acc : List UInt8) (off : Nat), isG m = true → lit st m (out0 ++ acc) off L = after st out0 off L (grp m acc off L)
  | [], m, acc, off, h => by cases m <;> first | (cases h; done) | rfl
  | c :: r, m, acc, off, h => by
    cases m with
    | plain => cases h
    | esc => cases h
    | g1 =>
      rw [lit, grp]
      cases hexV c with
      | none => rfl
      | some v =>
        simp only
        rw [after_step _ _ _ _ _ (grp_ok r _ _ _)]
        exact lit_grp st out0 r _ acc _ rfl
    | g2 d =>
      rw [lit, grp]
      cases hexV c with
      | none => rfl
      | some v =>
        simp only
        rw [after_step _ _ _ _ _ (grp_ok r _ _ _), List.append_assoc]
        exact lit_grp st out0 r _ _ _ rfl
    | g3 =>
      rw [lit, grp]
      by_cases h1 : c.toNat = 124
      · rw [if_pos h1, if_pos h1]
        unfold after
        simp
      rw [if_neg h1, if_neg h1]
      by_cases h2 : c.toNat = 32
      · rw [if_pos h2, if_pos h2, after_step _ _ _ _ _ (grp_ok r _ _ _)]
        exact lit_grp st out0 r _ acc _ rfl
      · rw [if_neg h2, if_neg h2]; rfl
/-- A group holds a byte. -/
theorem grp_some : ∀ (L : List UInt8) (m : Md) (acc : List UInt8) (off : Nat) (b : List UInt8) (n : Nat), (m = .g3 → 0 < acc.length) → grp m acc off L = .ok b n → 0 < b.length ∧ b.length ≤ acc.length + L.length
  | [], m, acc, off, b, n, _, h => by cases m <;> cases h
  | c :: r, m, acc, off, b, n, hm, h => by
    cases m with
    | plain => cases h
    | esc => cases h
    | g1 =>
      rw [grp] at h
      split at h
      · have := grp_some r _ _ _ b n (by intro e; cases e) h
        exact ⟨this.1, by simp; omega⟩
      · cases h
    | g2 d =>
      rw [grp] at h
      split at h
      · have := grp_some r _ _ _ b n (by intro _; simp) h
        exact ⟨this.1, by have := this.2; simp at this ⊢; omega⟩
      · cases h
    | g3 =>
      rw [grp] at h
      split at h
      · injection h with h1 h2
        subst h1
        exact ⟨hm rfl, by omega⟩
      split at h
      · have := grp_some r _ _ _ b n (by intro e; cases e) h
        exact ⟨this.1, by simp; omega⟩
      · cases h

def GrpP (w : World) (r : Res (List UInt8)) (e : Ending) (w' : World) : Prop := match r with
  | .ok b n => ∃ A cap, e = .returned (.tuple #[.slice A b.length cap, .int .i64 (n : Nat), .bool true]) ∧ w'.ownsRow w.heap.size 5 1 (.slice A b.length cap) b.length (cellsOf b) ∧ Below w.heap.size w w'
  | .err _ n => e = .returned (.tuple #[.slice none 0 0, .int .i64 (n : Nat), .bool false]) ∧ Below w.heap.size w w'
theorem hexI_yes {c : UInt8} {v : Nat} (h : hexV c = some v) : hexI c = (v : Int) := by unfold hexI; rw [h]
theorem hexI_no {c : UInt8} (h : hexV c = none) : hexI c = -1 := by unfold hexI; rw [h]

set_option maxHeartbeats 4000000 in
set_option maxRecDepth 20000 in
theorem rgroup_any (s : ByteArray) (a : Nat) (w : World) (ha : a ≤ s.size) (hs : s.size ≤ 16000) :
    Calls Try.prog 60 #[.string s, .int .i64 (a : Int)] w (GrpP w (grp .g1 [] a (s.data.toList.drop a))) := by
  obtain ⟨i0, hi, hz0, hz1, hz2⟩ := info_parts info5
  obtain ⟨r0, hr0⟩ : ∃ r0, r0 = grp .g1 [] a (s.data.toList.drop a) := ⟨_, rfl⟩
  rw [← hr0]
  have HR0 := Lib.hid hr0
  clear hr0
  go_enter Try.func60, Try.ntmps60
  go_wp2_with fail
  go_loopw [1, 7, 8] (fun i b k wr => ∃ q : Nat, ∃ out : List UInt8, ∃ A cap, q ≤ s.size ∧ out.length ≤ q ∧ i = .int .i64 q ∧ b = .slice A out.length cap ∧ Hid (wr.ownsRow w.heap.size 5 1 (.slice A out.length cap) out.length (cellsOf out)) ∧ Hid (Below w.heap.size w wr) ∧ Hid (r0 = grp .g1 out q (s.data.toList.drop q))) (fun i _ _ _ => s.size - (intOf i).toNat)
  case atStart => exact ⟨a, [], none, 0, ha, Nat.zero_le _, rfl, rfl, World.ownsRow_nil .., Below.refl _ _, HR0.out⟩
  case round =>
    clear HR0
    obtain ⟨q, out, A, cap, hq, hol, rfl, rfl, HOW, HB, HR⟩ := hrel
    go_wp2_with fail
    go_loop [8] (fun k => (k = .int .i64 0) ∨ (k = .int .i64 1 ∧ q < s.size ∧ Hid (∀ h : q < s.size, ∃ v, hexV s[q] = some v)) ∨ (k = .int .i64 2 ∧ q + 1 < s.size ∧ Hid (∀ h : q + 1 < s.size, (∃ v, hexV s[q] = some v) ∧ ∃ v, hexV s[q + 1] = some v))) (fun k => 2 - (intOf k).toNat)
    case atStart => exact .inl rfl
    case round =>
      rcases hrel with rfl | ⟨rfl, hlt, HK⟩ | ⟨rfl, hlt, HK⟩
      · by_cases hlt : q < s.size
        · have hb8 := u8_lt s[q]
          have hqi : (q : Int) < (s.size : Int) := by omega
          have hqi0 : (0 : Int) ≤ (q : Int) := by omega
          have hx := fun W => rhex4_any s[q] W
          cases hv : hexV s[q] with
          | none =>
            rw [hexI_no hv] at hx
            have HX := Lib.hid hx
            have hre : r0 = .err 14 q := by
              rw [HR.out, drop_at s q hlt, grp, hv]
            subst hre
            have hb := HB.out
            clear hx hv HR HOW
            go_wp2_with fail
            refine (HX.out _).mono ?_
            rintro e w1 ⟨rfl, rfl⟩
            go_wp2_with fail
            go_ret3
            exact ⟨rfl, hb⟩
          | some v =>
            rw [hexI_yes hv] at hx
            have HX := Lib.hid hx
            have HV := Lib.hid (show ∀ h : q < s.size, ∃ v, hexV s[q] = some v from fun _ => ⟨v, hv⟩)
            clear hx hv
            go_wp2_with fail
            refine (HX.out _).mono ?_
            rintro e w1 ⟨rfl, rfl⟩
            go_wp2_with fail
            go_round
            case rel => exact .inr (.inl ⟨rfl, hlt, HV.out⟩)
            case measure => simp [intOf]
        · obtain rfl : q = s.size := by omega
          have hre : r0 = .err 14 s.size := by
            rw [HR.out, drop_end]; rfl
          subst hre
          have hb := HB.out
          clear HR HOW
          go_wp2_with fail
          go_ret3
          exact ⟨rfl, hb⟩
      · obtain ⟨v, hv⟩ := HK.out hlt
        obtain ⟨q1, hq1⟩ : ∃ q1, q1 = q + 1 := ⟨_, rfl⟩
        have hqe : (q : Int) + 1 = (q1 : Int) := by omega
        by_cases hlt1 : q1 < s.size
        · have hb8 := u8_lt s[q1]
          have hqi : (q1 : Int) < (s.size : Int) := by omega
          have hqi0 : (0 : Int) ≤ (q1 : Int) := by omega
          have hx := fun W => rhex4_any s[q1] W
          cases hv1 : hexV s[q1] with
          | none =>
            rw [hexI_no hv1] at hx
            have HX := Lib.hid hx
            have hre : r0 = .err 14 q1 := by
              rw [HR.out, drop_at s q hlt, grp, hv]
              simp only
              rw [← hq1, drop_at s q1 hlt1, grp, hv1]
            subst hre
            have hb := HB.out
            clear hx hv hv1 HR HOW hq1
            go_wp2_with fail
            refine (HX.out _).mono ?_
            rintro e w1 ⟨rfl, rfl⟩
            go_wp2_with fail
            go_ret3
            exact ⟨rfl, hb⟩
          | some v1 =>
            rw [hexI_yes hv1] at hx
            have HX := Lib.hid hx
            have HV := Lib.hid (show ∀ h : q + 1 < s.size, (∃ v, hexV s[q] = some v) ∧ ∃ v, hexV s[q + 1] = some v from fun _ => ⟨⟨v, hv⟩, v1, by subst hq1; exact hv1⟩)
            have HQ1 := Lib.hid hq1
            clear hx hv hv1 hq1
            go_wp2_with fail
            refine (HX.out _).mono ?_
            rintro e w1 ⟨rfl, rfl⟩
            go_wp2_with fail
            go_round
            case rel => exact .inr (.inr ⟨rfl, by have := HQ1.out; omega, HV.out⟩)
            case measure => simp [intOf]
        · obtain rfl : q1 = s.size := by omega
          have hre : r0 = .err 14 s.size := by
            rw [HR.out, drop_at s q hlt, grp, hv]
            simp only
            rw [← hq1, drop_end]; rfl
          subst hre
          have hb := HB.out
          clear HR HOW hv hq1
          go_wp2_with fail
          go_ret3
          exact ⟨rfl, hb⟩
      · obtain ⟨⟨v, hv⟩, v1, hv1⟩ := HK.out hlt
        obtain ⟨q1, hq1⟩ : ∃ q1, q1 = q + 1 := ⟨_, rfl⟩
        obtain ⟨q2, hq2⟩ : ∃ q2, q2 = q + 2 := ⟨_, rfl⟩
        obtain ⟨q3, hq3⟩ : ∃ q3, q3 = q + 3 := ⟨_, rfl⟩
        have e1 : (q : Int) + 1 = (q1 : Int) := by omega
        have e2 : (q : Int) + 2 = (q2 : Int) := by omega
        have e3 : (q2 : Int) + 1 = (q3 : Int) := by omega
        have e4 : (q3 : Int) - 1 = (q2 : Int) := by omega
        have hl1 : q1 < s.size := by omega
        have hl0 : q < s.size := by omega
        have hv1' : hexV s[q1] = some v1 := by subst hq1; exact hv1
        have hq2s : q2 ≤ s.size := by omega
        have hstep : grp .g1 out q (s.data.toList.drop q) = grp .g3 (out ++ [UInt8.ofNat (16 * v + v1)]) q2 (s.data.toList.drop q2) := by
          rw [drop_at s q hl0, grp, hv]
          simp only
          rw [← hq1, drop_at s q1 hl1, grp, hv1']
          simp only
          rw [show q1 + 1 = q2 by omega]
        have hv16 := hex_lt hv
        have hv116 := hex_lt hv1
        have b0 := u8_lt s[q]
        have b1 := u8_lt s[q1]
        have x0 := hexI_yes hv
        have x1 := hexI_yes hv1'
        have HA := Lib.hid (fun c W => rhex4_any c W)
        have hsum : 16 * v + v1 = (UInt8.ofNat (16 * v + v1)).toNat := by rw [UInt8.toNat_ofNat']; omega
        obtain ⟨c2, hc2⟩ : ∃ c2, c2 = UInt8.ofNat (16 * v + v1) := ⟨_, rfl⟩
        rw [← hc2] at hstep hsum
        obtain ⟨m16, hm16⟩ : ∃ m16, m16 = 16 * v := ⟨_, rfl⟩
        have g1 : (v : Int) * 16 = (m16 : Int) := by omega
        have g2 : (m16 : Int) + (v1 : Int) = (c2.toNat : Int) := by omega
        have z1 : IntKind.i64.wrap (m16 : Int) = (m16 : Int) := IntWalk.i64_in _ (by omega)
        have hb2 := u8_lt c2
        have z2 : IntKind.i64.wrap (c2.toNat : Int) = (c2.toNat : Int) := IntWalk.i64_in _ (by omega)
        have z3 : IntKind.u8.wrap (c2.toNat : Int) = (c2.toNat : Int) := by
          show (c2.toNat : Int) % 256 = _
          omega
        have z4 : IntKind.i64.wrap (q1 : Int) = (q1 : Int) := IntWalk.i64_in _ (by omega)
        obtain ⟨M, hM⟩ : ∃ M, M = out ++ [c2] := ⟨_, rfl⟩
        rw [← hM] at hstep
        have hMl : out.length + 1 = M.length := by rw [hM]; simp
        have hMc : cellsOf out ++ [.int .u8 (c2.toNat : Int)] = cellsOf M := by rw [hM]; simp [cellsOf]
        have hr := HR.out
        rw [hstep] at hr
        have HR2 := Lib.hid hr
        have HMC := Lib.hid hMc
        have HML := Lib.hid hMl
        have hown := HOW.out
        have hB := HB.out
        have u0 : (q : Int) < (s.size : Int) := by omega
        have u1 : (q1 : Int) < (s.size : Int) := by omega
        have t0 : (0 : Int) ≤ (q : Int) := by omega
        have t1 : (0 : Int) ≤ (q1 : Int) := by omega
        have ol : out.length ≤ 16000 := by omega
        have HQ := Lib.hid (And.intro hq1 (And.intro hq2 hq3))
        clear hv hv1 hv1' hstep hsum hc2 hM hMc hMl hr HR HK HOW hq1 hq2 hq3 hm16
        go_wp2_with fail
        go_region_held3 (fun _ => True) (trivial) (first
          | (go_at_call 62; refine (HA.out _ _).mono ?_; rintro e w1 ⟨rfl, rfl⟩; first | rw [x0] | rw [x1])
          | (refine step_append_lies _ (by rfl) _ _ 51 (by rfl) w.heap.size 5 i0 (.int .u8 0) 1 1 Try.underlying51 hi hz0 hz1 hz2 rfl (by omega) (.slice A out.length cap) out.length (cellsOf out) (by rfl) ((hown.alloc _).drew) ⟨wr.heap.size, 0, none⟩ 1 1 [.int .u8 (c2.toNat : Int)] (by rfl) (by rfl) (World.news_of_block (cs := #[.int .u8 (c2.toNat : Int)]) (t := 5) (fr := (0, 0)) (heap_alloc_new wr _)) (by simp [Value.oneCell']) (by omega) (by unfold maxLen; omega) (by omega) (by have := hB.size; simp; omega) (wr.heap.size + 1) (by simp) ?_; intro gg cap' w1 hown1 hgrow hat hlt1))
        all_goals
          have hB1 : Below w.heap.size w w1 := ((hB.alloc hB.size _).drew).grown hgrow (by have := hB.size; simp; omega) (fun k hk => (hown.lt k hk).1)
          rw [HMC.out] at hown1
          try rw [HML.out] at hown1
          try rw [HML.out]
          have HO1 := Lib.hid hown1
          have HB1 := Lib.hid hB1
          clear hown1 hgrow hat hlt1 hB1 hown hB HA x0 x1 z1 z2 z3 z4 g1 g2 HB
          by_cases hend : q2 < s.size
          · have hr := HR2.out
            rw [drop_at s q2 hend] at hr
            have b8 := u8_lt s[q2]
            have u2 : (q2 : Int) < (s.size : Int) := by omega
            have t2 : (0 : Int) ≤ (q2 : Int) := by omega
            rw [grp, show q2 + 1 = q3 by have := HQ.out; omega] at hr
            by_cases h124 : s[q2].toNat = 124
            · rw [if_pos h124] at hr
              have y1 : ((s[q2].toNat : Int) != 32) = true := by simp; omega
              have y2 : ((s[q2].toNat : Int) != 124) = false := by simp; omega
              have y3 : ((s[q2].toNat : Int) == 124) = true := by simp; omega
              subst hr
              clear HR2 h124
              go_wp2_with fail
              go_ret3
              exact ⟨_, _, rfl, HO1.out, HB1.out⟩
            · rw [if_neg h124] at hr
              have y3 : ((s[q2].toNat : Int) == 124) = false := by simp; omega
              have y2 : ((s[q2].toNat : Int) != 124) = true := by simp; omega
              by_cases h32 : s[q2].toNat = 32
              · rw [if_pos h32] at hr
                have y1 : ((s[q2].toNat : Int) != 32) = false := by simp; omega
                have HR3 := Lib.hid hr
                clear HR2 h124 h32 hr
                go_wp2_with fail
                go_roundw
                case rel => exact ⟨q3, M, some ⟨gg, 0, none⟩, cap', by have := HQ.out; omega, by have := HQ.out; have := HML.out; omega, rfl, rfl, HO1.out, HB1.out, HR3.out⟩
                case measure => have := HQ.out; simp [intOf]; omega
              · rw [if_neg h32] at hr
                have y1 : ((s[q2].toNat : Int) != 32) = true := by simp; omega
                subst hr
                clear HR2 h124 h32
                go_wp2_with fail
                go_ret3
                exact ⟨rfl, HB1.out⟩
          · obtain rfl : q2 = s.size := by omega
            have hr := HR2.out
            rw [drop_end] at hr
            have hr' : r0 = .err 14 s.size := hr
            subst hr'
            have hd : decide ((s.size : Int) < (s.size : Int)) = false := by simp
            clear HR2 hr
            go_wp2_with fail
            go_ret3
            exact ⟨rfl, HB1.out⟩
end Go.Proofs.Ytcakdgfkepdpkaa
