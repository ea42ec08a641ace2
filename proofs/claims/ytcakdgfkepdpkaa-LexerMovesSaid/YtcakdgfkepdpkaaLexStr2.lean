/- Contract: stringAt of the program. -/
import Derived.Test.YtcakdgfkepdpkaaLexStr
import Derived.Test.YtcakdgfkepdpkaaRef2
namespace Go.Proofs.Ytcakdgfkepdpkaa
open Go.ChangeShapes Go.WideShapes Go.ChangeAt Go.RowKit

/-- The states' numbers. -/
def mdN : Md → Int
  | .plain => 0
  | .esc => 1
  | .g1 => 2
  | .g2 _ => 3
  | .g3 => 4
def mdH (m : Md) (hi : Int) : Prop := match m with
  | .g2 h => hi = (h : Int) ∧ h < 16
  | _ => True
theorem mdN_ne (m : Md) : mdN m ≠ 5 := by cases m <;> simp [mdN]
/-- What the whole string's reading will answer, seen from inside. -/
def InS (a0 W : World) (g a : Nat) (r0 : Res (List UInt8)) (k : Nat) (rest : List UInt8) : Prop :=
  ∃ st hi out, SW a0 W g st hi out ∧ out.length ≤ k ∧ ((∃ m, st = mdN m ∧ mdH m hi ∧ r0 = lit a m out k rest) ∨ (st = 5 ∧ r0 = if 256 < out.length then .err 3 a else .ok out k))
def OutS (a0 W : World) (g a : Nat) (r0 : Res (List UInt8)) (k : Nat) : Prop :=
  ∃ st hi out, SW a0 W g st hi out ∧ out.length ≤ k ∧ ((st ≠ 5 ∧ r0 = .err 14 k) ∨ (st = 5 ∧ r0 = if 256 < out.length then .err 3 a else .ok out k))
theorem ins_end {a0 W : World} {g a : Nat} {r0 : Res (List UInt8)} {k : Nat} (h : InS a0 W g a r0 k []) : OutS a0 W g a r0 k := by
  obtain ⟨st, hi, out, hs, ho, ⟨m, rfl, _, hr⟩ | h⟩ := h
  · exact ⟨_, hi, out, hs, ho, .inl ⟨mdN_ne m, by rw [hr]; cases m <;> rfl⟩⟩
  · exact ⟨st, hi, out, hs, ho, .inr h⟩

/-- A call of the step, whatever the state. -/
def StepR (a0 W : World) (g a : Nat) (r0 : Res (List UInt8)) (k : Nat) (c : UInt8) (r : List UInt8) : Prop :=
  Calls Try.prog 58 #[.int .i32 (c.toNat : Int), .pointer (some ⟨g + 1, 0, none⟩), .pointer (some ⟨g + 3, 0, none⟩), .pointer (some ⟨g + 2, 0, none⟩)] W fun e w' => ∃ b : Bool, e = .returned (.bool b) ∧ Hid (b = true → InS a0 w' g a r0 (k + 1) r) ∧ Hid (b = false → OutS a0 w' g a r0 k)
theorem stepR_on {a0 W : World} {g a k : Nat} {r0 : Res (List UInt8)} {c : UInt8} {r : List UInt8} {st' hi' : Int} {out' : List UInt8} (h : Step1 a0 W g c true st' hi' out') (ho : out'.length ≤ k + 1)
    (hr : (∃ m, st' = mdN m ∧ mdH m hi' ∧ r0 = lit a m out' (k + 1) r) ∨ (st' = 5 ∧ r0 = if 256 < out'.length then .err 3 a else .ok out' (k + 1))) : StepR a0 W g a r0 k c r := by
  unfold StepR
  unfold Step1 at h
  refine h.mono ?_
  rintro e w' ⟨rfl, hs⟩
  refine ⟨true, rfl, ?_, ?_⟩
  · exact fun _ => ⟨st', hi', out', hs, ho, hr⟩
  · exact fun e => absurd e (by decide)
theorem stepR_off {a0 W : World} {g a k : Nat} {r0 : Res (List UInt8)} {c : UInt8} {r : List UInt8} {st' hi' : Int} {out' : List UInt8} (h : Step1 a0 W g c false st' hi' out') (ho : out'.length ≤ k)
    (hr : (st' ≠ 5 ∧ r0 = .err 14 k) ∨ (st' = 5 ∧ r0 = if 256 < out'.length then .err 3 a else .ok out' k)) : StepR a0 W g a r0 k c r := by
  unfold StepR
  unfold Step1 at h
  refine h.mono ?_
  rintro e w' ⟨rfl, hs⟩
  refine ⟨false, rfl, ?_, ?_⟩
  · exact fun e => absurd e (by decide)
  · exact fun _ => ⟨st', hi', out', hs, ho, hr⟩

theorem not_plain {c : UInt8} (h : c.toNat = 34 ∨ c.toNat = 92 ∨ c.toNat = 124 ∨ c.toNat < 32 ∨ 126 < c.toNat) : plainB c = false := by
  cases hp : plainB c with
  | false => rfl
  | true => have := plain_of hp; omega
theorem is_plain {c : UInt8} (h1 : c.toNat ≠ 34) (h2 : c.toNat ≠ 92) (h3 : c.toNat ≠ 124) (h4 : ¬ (c.toNat < 32 ∨ 126 < c.toNat)) : plainB c = true := by
  unfold plainB specB
  simp
  omega
theorem step_all {a0 W : World} {g a k : Nat} {r0 : Res (List UInt8)} {c : UInt8} {r : List UInt8} (hk : k ≤ 60000000000) (h : InS a0 W g a r0 k (c :: r)) : StepR a0 W g a r0 k c r := by
  obtain ⟨st, hi, out, hs, ho, ⟨m, rfl, hm, hr⟩ | ⟨rfl, hr⟩⟩ := h
  · cases m with
    | plain =>
      by_cases h34 : c.toNat = 34
      · rw [lit, if_pos h34] at hr
        exact stepR_on (step_plain_end c hs (not_plain (.inl h34)) h34) (by omega) (.inr ⟨rfl, hr⟩)
      by_cases h92 : c.toNat = 92
      · rw [lit, if_neg h34, if_pos h92] at hr
        exact stepR_on (step_plain_esc c hs (not_plain (.inr (.inl h92))) h92) (by omega) (.inl ⟨.esc, rfl, trivial, hr⟩)
      by_cases h124 : c.toNat = 124
      · rw [lit, if_neg h34, if_neg h92, if_pos h124] at hr
        exact stepR_on (step_plain_bar c hs (not_plain (.inr (.inr (.inl h124)))) h124) (by omega) (.inl ⟨.g1, rfl, trivial, hr⟩)
      by_cases hp : c.toNat < 32 ∨ 126 < c.toNat
      · rw [lit, if_neg h34, if_neg h92, if_neg h124, if_pos hp] at hr
        exact stepR_off (step_plain_no c hs (not_plain (by omega)) h92 h124 h34) (by omega) (.inl ⟨by decide, hr⟩)
      · rw [lit, if_neg h34, if_neg h92, if_neg h124, if_neg hp] at hr
        exact stepR_on (step_plain_chr c hs (by omega) (is_plain h34 h92 h124 hp)) (by simp; omega) (.inl ⟨.plain, rfl, trivial, hr⟩)
    | esc =>
      cases hp : specB c with
      | true =>
        rw [lit, if_pos hp] at hr
        exact stepR_on (step_esc_chr c hs (by omega) hp) (by simp; omega) (.inl ⟨.plain, rfl, trivial, hr⟩)
      | false =>
        rw [lit, if_neg (by rw [hp]; decide)] at hr
        exact stepR_off (step_esc_no c hs hp) (by omega) (.inl ⟨by decide, hr⟩)
    | g1 =>
      cases hx : hexV c with
      | none =>
        rw [lit, hx] at hr
        exact stepR_off (step_g1_no c hs hx) (by omega) (.inl ⟨by decide, hr⟩)
      | some v =>
        rw [lit, hx] at hr
        exact stepR_on (step_g1_yes c hs hx) (by omega) (.inl ⟨.g2 v, rfl, ⟨rfl, hex_lt hx⟩, hr⟩)
    | g2 d =>
      obtain ⟨rfl, hd⟩ := hm
      cases hx : hexV c with
      | none =>
        rw [lit, hx] at hr
        exact stepR_off (step_g2_no c hs hx) (by omega) (.inl ⟨by decide, hr⟩)
      | some v =>
        rw [lit, hx] at hr
        exact stepR_on (step_g2_yes c hs (by omega) hx hd) (by simp; omega) (.inl ⟨.g3, rfl, trivial, hr⟩)
    | g3 =>
      by_cases h124 : c.toNat = 124
      · rw [lit, if_pos h124] at hr
        exact stepR_on (step_g3_bar c hs h124) (by omega) (.inl ⟨.plain, rfl, trivial, hr⟩)
      by_cases h32 : c.toNat = 32
      · rw [lit, if_neg h124, if_pos h32] at hr
        exact stepR_on (step_g3_sp c hs h32) (by omega) (.inl ⟨.g1, rfl, trivial, hr⟩)
      · rw [lit, if_neg h124, if_neg h32] at hr
        exact stepR_off (step_g3_no c hs h32 h124) (by omega) (.inl ⟨by decide, hr⟩)
  · exact stepR_off (step_end c hs) ho (.inr ⟨rfl, hr⟩)

theorem eg_str : ∀ (args : Array Value) (W : World), (callFunc 58 args).run Try.prog W = .ok (.enter 58 args) W := fun _ _ => by kernel_rfl
/-- A string's token. -/
def strR (a : Nat) : Res (List UInt8) → Res Tok
  | .ok t n => .ok ⟨2, t, a⟩ n
  | .err e n => .err e n

theorem pstrat_follow (s : ByteArray) (a x : Nat) (g : Nat) (a0 w : World) (r0 : Res (List UInt8)) (hx : x ≤ s.size) (hs : s.size ≤ 16000) (h : InS a0 w g a r0 x (s.data.toList.drop x)) :
    Calls Try.prog 42 #[.string s, .int .i64 (x : Int), .func (.func 58) #[] #[.pointer (some ⟨g + 1, 0, none⟩), .pointer (some ⟨g + 3, 0, none⟩), .pointer (some ⟨g + 2, 0, none⟩)]] w fun e w' => ∃ k, k ≤ s.size ∧ e = .returned (.int .i64 (k : Int)) ∧ OutS a0 w' g a r0 k := by
  refine (follow_gen s x 58 #[.pointer (some ⟨g + 1, 0, none⟩), .pointer (some ⟨g + 3, 0, none⟩), .pointer (some ⟨g + 2, 0, none⟩)] (fun k W => InS a0 W g a r0 k (s.data.toList.drop k)) (fun k W => OutS a0 W g a r0 k) w hx (by omega) h eg_str ?_).mono ?_
  · intro k hk W _ h
    rw [drop_at s k hk] at h
    exact step_all (by omega) h
  · rintro e w' ⟨k, hk, _, rfl, ⟨rfl, h⟩ | ⟨_, h⟩⟩
    · rw [drop_end] at h
      exact ⟨_, Nat.le_refl _, rfl, ins_end h⟩
    · exact ⟨k, hk, rfl, h⟩

theorem alloc_size (w : World) (o : Obj) : (w.alloc o).heap.size = w.heap.size + 1 := by
  show (w.heap.push o).size = _
  simp
theorem Cells.alloc {w : World} {g : Nat} {t : TypeId} {cs : Array Value} (h : Cells w g t cs) (o : Obj) : Cells (w.alloc o) g t cs := (heap_alloc_old w o h.lt).trans h
theorem cells_at_new (w : World) (g : Nat) (h : w.heap.size = g) (t : TypeId) (cs : Array Value) : Cells (w.alloc (.cells cs t)) g t cs := by
  subst h
  exact heap_alloc_new w _
/-- The world in which the reader starts. -/
def strW (w : World) : World := (((w.alloc (.cells #[.int .i64 0, .string ⟨#[]⟩, .int .i64 0] 36)).alloc (.cells #[.int .i64 0] 3)).alloc (.cells #[.int .i64 0] 3)).alloc (.cells #[.slice none 0 0] 51)
theorem sw_new (w : World) : SW w (strW w) w.heap.size 0 0 [] := by
  unfold strW
  have s1 := alloc_size w (.cells #[.int .i64 0, .string ⟨#[]⟩, .int .i64 0] 36)
  have c0 := cells_at_new w w.heap.size rfl 36 #[.int .i64 0, .string ⟨#[]⟩, .int .i64 0]
  have b1 := below_alloc w (.cells #[.int .i64 0, .string ⟨#[]⟩, .int .i64 0] 36)
  generalize w.alloc (.cells #[.int .i64 0, .string ⟨#[]⟩, .int .i64 0] 36) = w1 at *
  have s2 := alloc_size w1 (.cells #[.int .i64 0] 3)
  have c1 := cells_at_new w1 (w.heap.size + 1) s1 3 #[.int .i64 0]
  have d0 := c0.alloc (.cells #[.int .i64 0] 3)
  have b2 := b1.alloc b1.size (.cells #[.int .i64 0] 3)
  generalize w1.alloc (.cells #[.int .i64 0] 3) = w2 at *
  have s3 := alloc_size w2 (.cells #[.int .i64 0] 3)
  have c2 := cells_at_new w2 (w.heap.size + 2) (by omega) 3 #[.int .i64 0]
  have e0 := d0.alloc (.cells #[.int .i64 0] 3)
  have e1 := c1.alloc (.cells #[.int .i64 0] 3)
  have b3 := b2.alloc b2.size (.cells #[.int .i64 0] 3)
  generalize w2.alloc (.cells #[.int .i64 0] 3) = w3 at *
  have c3 := cells_at_new w3 (w.heap.size + 3) (by omega) 51 #[.slice none 0 0]
  exact ⟨b3.alloc b3.size _, e0.alloc _, e1.alloc _, c2.alloc _, none, 0, c3, World.ownsRow_nil ..⟩

set_option maxRecDepth 20000 in
theorem pstrat_any (s : ByteArray) (a : Nat) (w : World) (ha : a < s.size) (hs : s.size ≤ 16000) :
    Calls Try.prog 52 #[.string s, .int .i64 (a : Int)] w fun e w' => e = .returned (tokRes (strR a (lit a .plain [] (a + 1) (s.data.toList.drop (a + 1))))) ∧ Below w.heap.size w w' := by
  obtain ⟨r0, hr0⟩ : ∃ r0, r0 = lit a .plain [] (a + 1) (s.data.toList.drop (a + 1)) := ⟨_, rfl⟩
  obtain ⟨x, hx⟩ : ∃ x, a + 1 = x := ⟨_, rfl⟩
  have hxi : (a : Int) + 1 = (x : Int) := by omega
  rw [← hr0]
  rw [hx] at hr0
  have hW := sw_new w
  have hfo := fun hin => pstrat_follow s a x w.heap.size w (strW w) r0 (by omega) hs hin
  have HFO := Lib.hid (hfo ⟨0, 0, [], hW, Nat.zero_le _, .inl ⟨.plain, rfl, trivial, hr0⟩⟩)
  clear hfo hW hr0
  go_enter Try.func52, Try.ntmps52
  go_wp2_with fail
  change Calls _ _ _ (strW w) _
  refine HFO.out.mono ?_
  rintro e w1 ⟨k, hk, rfl, st, hi, out, hsw, ho, hor⟩
  have c4 := hsw.cst
  obtain ⟨A, cap, hc, hown⟩ := hsw.own
  have c5 := (hc.cell 0).trans (show _ = some (Value.slice A out.length cap) from rfl)
  have ht := hsw.tok
  have HB1 := Lib.hid hsw.below
  have c0 := ht.c0
  have c1 := ht.c1
  have c2 := ht.c2
  have f0 := ht.f 0
  have f1 := ht.f 1
  have f2 := ht.f 2
  rcases hor with ⟨hst, hr⟩ | ⟨rfl, hr⟩
  · have hst2 : (st != 5) = true := by simpa using hst
    have hval : tokRes (strR a r0) = .tuple #[tokV 0 ⟨#[]⟩ 0, .int .i64 k, .int .i64 14] := by rw [hr]; rfl
    have HV := Lib.hid hval
    clear hval hr hst hown hc hsw HFO
    go_wp2_with fail
    change bodyPost _ _ _ _ _ (tset w1 w.heap.size 0 ⟨#[]⟩ 0)
    exact bodyPost_ret (res_tok3 rfl _ _ rfl (ht.set 0 ⟨#[]⟩ 0)) rfl ⟨by rw [HV.out]; rfl, tset_below HB1.out (Nat.le_refl _) _ _ _⟩
  · by_cases hl : 256 < out.length
    · rw [if_pos hl] at hr
      have hli : (256 : Int) < (out.length : Int) := by omega
      have hval : tokRes (strR a r0) = .tuple #[tokV 0 ⟨#[]⟩ 0, .int .i64 a, .int .i64 3] := by rw [hr]; rfl
      have HV := Lib.hid hval
      clear hval hr hown hc hsw HFO
      go_wp2_with fail
      change bodyPost _ _ _ _ _ (tset w1 w.heap.size 0 ⟨#[]⟩ 0)
      exact bodyPost_ret (res_tok3 rfl _ _ rfl (ht.set 0 ⟨#[]⟩ 0)) rfl ⟨by rw [HV.out]; rfl, tset_below HB1.out (Nat.le_refl _) _ _ _⟩
    · rw [if_neg hl] at hr
      have hli : decide ((256 : Int) < (out.length : Int)) = false := by simp; omega
      have hval : tokRes (strR a r0) = .tuple #[tokV 2 (str out) a, .int .i64 k, .int .i64 0] := by rw [hr]; rfl
      have hcv := bs_string (bs_of_own hown)
      have HV := Lib.hid hval
      clear hval hr hown hc hsw HFO
      go_wp2_with fail
      change bodyPost _ _ _ _ _ (tset w1 w.heap.size 2 (str out) a)
      exact bodyPost_ret (res_tok3 rfl _ _ rfl (ht.set 2 (str out) a)) rfl ⟨by rw [HV.out]; rfl, tset_below HB1.out (Nat.le_refl _) _ _ _⟩
end Go.Proofs.Ytcakdgfkepdpkaa
