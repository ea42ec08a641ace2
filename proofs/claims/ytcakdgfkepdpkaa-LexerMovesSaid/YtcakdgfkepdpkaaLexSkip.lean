/- Contracts: skip of the program (a closure) and of the reference (two loops); follow with a step that only tests. -/
import Derived.Test.YtcakdgfkepdpkaaLexFollow
import Derived.Test.YtcakdgfkepdpkaaReader
namespace Go.Proofs.Ytcakdgfkepdpkaa
open Go.ChangeShapes Go.WideShapes Go.ChangeAt Go.RowKit

theorem drop_at (s : ByteArray) (k : Nat) (h : k < s.size) : s.data.toList.drop k = s[k] :: s.data.toList.drop (k + 1) := by
  rw [List.drop_eq_getElem_cons (by simpa using h)]; rfl
theorem drop_end (s : ByteArray) : s.data.toList.drop s.size = [] := List.drop_of_length_le (by simp)

/-- Within a comment behind this byte? -/
def cmtB (m : Bool) (c : UInt8) : Bool := c.toNat == 35 || m && !(c.toNat == 10)
theorem skp_cons (m : Bool) (c : UInt8) (r : List UInt8) : skp m (c :: r) = if (cmtB m c || spaceB c) = true then 1 + skp (cmtB m c) r else 0 := by
  cases m
  · by_cases h : c.toNat = 35
    · simp [skp, cmtB, h]
    · have e : (c.toNat == 35) = false := by simpa using h
      by_cases h2 : spaceB c = true
      · have h3 := h2
        simp only [spaceB, Bool.or_eq_true, beq_iff_eq] at h3
        simp [skp, cmtB, h, h2, h3, e]
      · have h3 := h2
        simp only [spaceB, Bool.or_eq_true, beq_iff_eq] at h3
        simp [skp, cmtB, h, h2, h3, e]
  · by_cases h : c.toNat = 10
    · simp [skp, cmtB, spaceB, h]
    · have e : (c.toNat == 10) = false := by simpa using h
      simp [skp, cmtB, h, e]

theorem cmtB_eq (m : Bool) (c : UInt8) : cmtB m c = ((c.toNat : Int) == 35 || m && (c.toNat : Int) != 10) := by
  unfold cmtB
  rw [nat_beq, nat_beq]; rfl

theorem skipstep_any (c : UInt8) (b : Nat) (m : Bool) (w : World) (h : Cells w b 4 #[.bool m]) :
    Calls Try.prog 47 #[.int .i32 (c.toNat : Int), .pointer (some ⟨b, 0, none⟩)] w fun e w' => e = .returned (.bool (cmtB m c || spaceB c)) ∧ Cells w' b 4 #[.bool (cmtB m c)] ∧ w.grownBy w' (some b) := by
  have c0 := h.cell 0
  have f0 := h.frozen 0
  have hs := h.set 0 (.bool (cmtB m c))
  have hc1 := hs.cell 0
  have hg := only_set w b 0 (.bool (cmtB m c))
  simp at c0 hc1
  simp only [List.setIfInBounds_toArray, List.set_cons_zero] at hs
  have h0 := fun W => pspace_any c W
  have hb := u8_lt c
  have e := cmtB_eq m c
  generalize hz : cmtB m c = z at *
  generalize spaceB c = y at *
  have H0 := Lib.hid h0
  have HS := Lib.hid hs
  have HG := Lib.hid hg
  clear h0 hs hg h hz
  generalize c.toNat = n at *
  by_cases h1 : (n : Int) = 35
  · have e1 : ((n : Int) == 35) = true := by simpa using h1
    have ez : z = true := by rw [e, e1]; rfl
    subst ez
    clear e h1
    go_enter Try.func47, Try.ntmps47
    go_wp2_with fail
    go_ret
    exact ⟨rfl, HS.out, HG.out⟩
  · have e1 : ((n : Int) == 35) = false := by simpa using h1
    rw [e1, Bool.false_or] at e
    cases m with
    | false =>
      rw [Bool.false_and] at e
      subst e
      clear h1
      go_enter Try.func47, Try.ntmps47
      go_wp2_with fail
      refine (H0.out _).mono ?_
      rintro e w1 ⟨rfl, rfl⟩
      go_wp2_with fail
      go_ret
      exact ⟨rfl, HS.out, HG.out⟩
    | true =>
      rw [Bool.true_and] at e
      cases z with
      | true =>
        have e2 : ((n : Int) != 10) = true := e.symm
        clear e h1
        go_enter Try.func47, Try.ntmps47
        go_wp2_with fail
        go_ret
        exact ⟨rfl, HS.out, HG.out⟩
      | false =>
        have e2 : ((n : Int) != 10) = false := e.symm
        clear e h1
        go_enter Try.func47, Try.ntmps47
        go_wp2_with fail
        refine (H0.out _).mono ?_
        rintro e w1 ⟨rfl, rfl⟩
        go_wp2_with fail
        go_ret
        exact ⟨rfl, HS.out, HG.out⟩

theorem eg_skip : ∀ (args : Array Value) (W : World), (callFunc 47 args).run Try.prog W = .ok (.enter 47 args) W := fun _ _ => by kernel_rfl

/-- The program's skip. -/
theorem pskip_any (s : ByteArray) (a : Nat) (w : World) (ha : a ≤ s.size) (hs : s.size ≤ 4611686018427387903) :
    Calls Try.prog 29 #[.string s, .int .i64 (a : Int)] w fun e w' => e = .returned (.int .i64 ((a + skp false (s.data.toList.drop a) : Nat) : Int)) ∧ Below w.heap.size w w' := by
  have hB0 : Below w.heap.size w (w.alloc (.cells #[.bool false] 4)) := (Below.refl _ w).alloc (Nat.le_refl _) _
  have hc0 : Cells (w.alloc (.cells #[.bool false] 4)) w.heap.size 4 #[.bool false] := heap_alloc_new w _
  obtain ⟨T, hT⟩ : ∃ T, T = a + skp false (s.data.toList.drop a) := ⟨_, rfl⟩
  rw [← hT]
  have hfol := fun W (h0 : (∃ m, Cells W w.heap.size 4 #[.bool m] ∧ a + skp m (s.data.toList.drop a) = T) ∧ Below w.heap.size w W) =>
    follow_gen s a 47 #[.pointer (some ⟨w.heap.size, 0, none⟩)] (fun k W => (∃ m, Cells W w.heap.size 4 #[.bool m] ∧ k + skp m (s.data.toList.drop k) = T) ∧ Below w.heap.size w W) (fun k W => k = T ∧ Below w.heap.size w W) W ha hs h0 eg_skip
      (fun k hk W hak h => by
        obtain ⟨⟨m, hc, hm⟩, hb⟩ := h
        refine (skipstep_any s[k] w.heap.size m W hc).mono ?_
        rintro e W' ⟨rfl, hc', hg'⟩
        rw [drop_at s k hk, skp_cons] at hm
        refine ⟨_, rfl, fun hb2 => ⟨⟨_, hc', ?_⟩, below_only hb hg' (Nat.le_refl _) hb.size⟩, fun hb2 => ⟨?_, below_only hb hg' (Nat.le_refl _) hb.size⟩⟩
        · rw [if_pos hb2] at hm
          omega
        · rw [if_neg (by rw [hb2]; decide)] at hm
          omega)
  have HF := Lib.hid (hfol _ ⟨⟨false, hc0, hT.symm⟩, hB0⟩)
  have HT := Lib.hid hT
  clear hfol hc0 hB0 hT
  go_enter Try.func29, Try.ntmps29
  go_wp2_with fail
  refine HF.out.mono ?_
  rintro e w1 ⟨k, hk, hak, rfl, hor⟩
  have hkT : k = T ∧ Below w.heap.size w w1 := by
    rcases hor with ⟨rfl, ⟨m, _, hm⟩, hb⟩ | ⟨_, rfl, hb⟩
    · rw [drop_end] at hm
      simp [skp] at hm
      exact ⟨hm, hb⟩
    · exact ⟨rfl, hb⟩
  obtain ⟨rfl, hb⟩ := hkT
  clear hor
  go_wp2_with fail
  go_ret
  exact ⟨rfl, hb⟩

theorem skp_true_out (k : Nat) (s : ByteArray) (h : k = s.size ∨ ∃ h : k < s.size, s[k].toNat = 10) : skp true (s.data.toList.drop k) = skp false (s.data.toList.drop k) := by
  rcases h with rfl | ⟨h, h10⟩
  · rw [drop_end]; rfl
  · rw [drop_at s k h]
    simp [skp, h10]

/-- The reference's skip. -/
theorem rskip_any (s : ByteArray) (a : Nat) (w : World) (ha : a ≤ s.size) (hs : s.size ≤ 4611686018427387903) :
    Calls Try.prog 31 #[.string s, .int .i64 (a : Int)] w fun e w' => e = .returned (.int .i64 ((a + skp false (s.data.toList.drop a) : Nat) : Int)) ∧ w = w' := by
  obtain ⟨T, hT⟩ : ∃ T, T = a + skp false (s.data.toList.drop a) := ⟨_, rfl⟩
  rw [← hT]
  have HT := Lib.hid hT
  clear hT
  go_enter Try.func31, Try.ntmps31
  go_wp2_with fail
  go_loop [1, 5] (fun i c => ∃ k : Nat, k ≤ s.size ∧ i = .int .i64 k ∧ Hid (T = k + skp false (s.data.toList.drop k))) (fun i c => s.size - (intOf i).toNat)
  case atStart => exact ⟨a, ha, rfl, HT.out⟩
  case round =>
    obtain ⟨k, hk, rfl, HK⟩ := hrel
    by_cases hlt : k < s.size
    · have hb8 := u8_lt s[k]
      have hki : (k : Int) < (s.size : Int) := by omega
      have hki0 : (0 : Int) ≤ (k : Int) := by omega
      by_cases h35 : (s[k].toNat : Int) = 35
      · have hTk : T = k + 1 + skp true (s.data.toList.drop (k + 1)) := by
          have := HK.out
          rw [drop_at s k hlt] at this
          rw [this]
          simp only [skp]
          rw [if_pos (by omega)]
          omega
        have e35 : ((s[k].toNat : Int) == 35) = true := by simpa using h35
        have e10 : ((s[k].toNat : Int) != 10) = true := by simp [h35]
        have HTK := Lib.hid hTk
        clear h35 hTk
        go_wp2_with fail
        go_loop [1] (fun i => ∃ q : Nat, k ≤ q ∧ q ≤ s.size ∧ i = .int .i64 q ∧ Hid (q = k ∨ T = q + skp true (s.data.toList.drop q))) (fun i => s.size - (intOf i).toNat)
        case atStart => exact ⟨k, Nat.le_refl _, hk, rfl, .inl rfl⟩
        case round =>
          obtain ⟨q, hkq, hq, rfl, HQ⟩ := hrel
          by_cases hltq : q < s.size
          · have hq8 := u8_lt s[q]
            have hqi : (q : Int) < (s.size : Int) := by omega
            have hqi0 : (0 : Int) ≤ (q : Int) := by omega
            by_cases hqk : q = k
            · subst hqk
              go_wp2_with fail
              go_round
              case rel => exact ⟨q + 1, by omega, by omega, by go_num, .inr HTK.out⟩
              case measure => simp [intOf]; omega
            · have hTq : T = q + skp true (s.data.toList.drop q) := HQ.out.resolve_left hqk
              by_cases h10 : (s[q].toNat : Int) = 10
              · have e2 : ((s[q].toNat : Int) != 10) = false := by simp [h10]
                have hTf : T = q + skp false (s.data.toList.drop q) := by
                  rw [hTq, skp_true_out q s (.inr ⟨hltq, by omega⟩)]
                have HTF := Lib.hid hTf
                clear h10 hTf hTq
                go_wp2_with fail
                go_round
                case rel => exact ⟨q, hq, rfl, HTF.out⟩
                case measure => simp [intOf]; omega
              · have e2 : ((s[q].toNat : Int) != 10) = true := by simpa using h10
                have hTf : T = q + 1 + skp true (s.data.toList.drop (q + 1)) := by
                  rw [drop_at s q hltq] at hTq
                  rw [hTq]
                  simp only [skp]
                  rw [if_neg (by omega)]
                  omega
                have HTF := Lib.hid hTf
                clear h10 hTf hTq
                go_wp2_with fail
                go_round
                case rel => exact ⟨q + 1, by omega, by omega, by go_num, .inr HTF.out⟩
                case measure => simp [intOf]; omega
          · obtain rfl : q = s.size := by omega
            have hTf : T = s.size + skp false (s.data.toList.drop s.size) := by
              rw [← skp_true_out s.size s (.inl rfl)]
              exact HQ.out.resolve_left (by omega)
            have HTF := Lib.hid hTf
            have hd : decide ((s.size : Int) < (s.size : Int)) = false := by simp
            clear hTf
            go_wp2_with fail
            go_round
            case rel => exact ⟨s.size, Nat.le_refl _, rfl, HTF.out⟩
            case measure => simp [intOf]; omega
      · have e35 : ((s[k].toNat : Int) == 35) = false := by simpa using h35
        have hsp := spaceB_eq s[k]
        have hTk := HK.out
        rw [drop_at s k hlt] at hTk
        simp only [skp] at hTk
        rw [if_neg (by omega)] at hTk
        have e32 := nat_beq s[k].toNat 32
        have e9 := nat_beq s[k].toNat 9
        have e10 := nat_beq s[k].toNat 10
        have e13 := nat_beq s[k].toNat 13
        by_cases hs2 : s[k].toNat = 32 ∨ s[k].toNat = 9 ∨ s[k].toNat = 10 ∨ s[k].toNat = 13
        · rw [if_pos (by simpa [or_assoc] using hs2)] at hTk
          have hTk2 : T = k + 1 + skp false (s.data.toList.drop (k + 1)) := by omega
          have HTK := Lib.hid hTk2
          clear hTk hTk2 e32 e9 e10 e13 h35
          by_cases h1 : s[k].toNat = 32
          · have q1 : ((s[k].toNat : Int) != 32) = false := by simp [h1]
            clear h1 hs2
            go_wp2_with fail
            go_round
            case rel => exact ⟨k + 1, by omega, by go_num, HTK.out⟩
            case measure => simp [intOf]; omega
          have q1 : ((s[k].toNat : Int) != 32) = true := by simp; omega
          by_cases h2 : s[k].toNat = 9
          · have q2 : ((s[k].toNat : Int) != 9) = false := by simp [h2]
            clear h1 h2 hs2
            go_wp2_with fail
            go_round
            case rel => exact ⟨k + 1, by omega, by go_num, HTK.out⟩
            case measure => simp [intOf]; omega
          have q2 : ((s[k].toNat : Int) != 9) = true := by simp; omega
          by_cases h3 : s[k].toNat = 10
          · have q3 : ((s[k].toNat : Int) != 10) = false := by simp [h3]
            clear h1 h2 h3 hs2
            go_wp2_with fail
            go_round
            case rel => exact ⟨k + 1, by omega, by go_num, HTK.out⟩
            case measure => simp [intOf]; omega
          have q3 : ((s[k].toNat : Int) != 10) = true := by simp; omega
          have q4 : ((s[k].toNat : Int) != 13) = false := by simp; omega
          clear h1 h2 h3 hs2
          go_wp2_with fail
          go_round
          case rel => exact ⟨k + 1, by omega, by go_num, HTK.out⟩
          case measure => simp [intOf]; omega
        · rw [if_neg (by simpa [or_assoc] using hs2)] at hTk
          have q1 : ((s[k].toNat : Int) != 32) = true := by simp; omega
          have q2 : ((s[k].toNat : Int) != 9) = true := by simp; omega
          have q3 : ((s[k].toNat : Int) != 10) = true := by simp; omega
          have q4 : ((s[k].toNat : Int) != 13) = true := by simp; omega
          have hTk2 : k = T := by omega
          subst hTk2
          clear hTk e32 e9 e10 e13 h35 hs2
          go_wp2_with fail
          go_ret
          exact ⟨rfl, rfl⟩
    · obtain rfl : k = s.size := by omega
      obtain rfl : T = s.size := by
        rw [HK.out, drop_end]; rfl
      have hd : decide ((s.size : Int) < (s.size : Int)) = false := by simp
      go_wp2_with fail
      go_ret
      exact ⟨rfl, rfl⟩

/-- follow with a step that only tests. -/
theorem follow_pure (s : ByteArray) (a : Nat) (g : FuncId) (p : UInt8 → Bool) (w : World) (ha : a ≤ s.size) (hs : s.size ≤ 4611686018427387903)
    (hp : ∀ c W, Calls Try.prog g #[.int .i32 ((c : UInt8).toNat : Int)] W fun e W' => e = .returned (.bool (p c)) ∧ W = W') (eg : ∀ args W, (callFunc g args).run Try.prog W = .ok (.enter g args) W) :
    Calls Try.prog 42 #[.string s, .int .i64 (a : Int), .func (.func g) #[] #[]] w fun e w' => e = .returned (.int .i64 ((a + ((s.data.toList.drop a).takeWhile p).length : Nat) : Int)) ∧ w = w' := by
  refine (follow_gen s a g #[] (fun k W => a + ((s.data.toList.drop a).takeWhile p).length = k + ((s.data.toList.drop k).takeWhile p).length ∧ w = W) (fun k W => a + ((s.data.toList.drop a).takeWhile p).length = k ∧ w = W) w ha hs ⟨rfl, rfl⟩ eg ?_).mono ?_
  · intro k hk W _ h
    obtain ⟨h, rfl⟩ := h
    refine (hp s[k] w).mono ?_
    rintro e W' ⟨rfl, rfl⟩
    rw [drop_at s k hk, List.takeWhile_cons] at h
    refine ⟨_, rfl, fun hb => ⟨?_, rfl⟩, fun hb => ⟨?_, rfl⟩⟩
    · rw [if_pos hb] at h
      simp only [List.length_cons] at h
      omega
    · rw [if_neg (by rw [hb]; decide)] at h
      simpa using h
  · rintro e w' ⟨k, hk, hak, rfl, ⟨rfl, h, rfl⟩ | ⟨_, h, rfl⟩⟩
    · rw [drop_end] at h
      simp at h
      exact ⟨by rw [← h], rfl⟩
    · exact ⟨by rw [← h], rfl⟩
end Go.Proofs.Ytcakdgfkepdpkaa
