/- Plain mathematics of parse6: the sixteen bytes of a text. -/
import Derived.Test.YtcblgbonijloiaaDoorAdqP4
namespace Go.Proofs.YtcblgbonijloiaaDoor
set_option linter.unusedVariables false

theorem grp_lt {p : By} {n : Nat} (h : grpS p = some n) : n < 65536 := by
  unfold grpS at h
  split at h
  · cases h
  · have key : ∀ (s : By) (a j m : Nat), a < 16 ^ j → hexGo a s = some m → m < 16 ^ (j + s.length) := by
      intro s
      induction s with
      | nil => intro a j m ha e; rw [hexGo] at e; obtain rfl := Option.some.inj e; exact ha
      | cons c r ih =>
        intro a j m ha e
        rw [hexGo, dgN_hex] at e
        split at e
        · rename_i d hd
          have hd2 : d < 16 := by
            split at hd
            · obtain rfl := Option.some.inj hd; assumption
            · cases hd
          have := ih (16 * a + d) (j + 1) m (by rw [Nat.pow_succ]; omega) e
          rw [List.length_cons, show j + (r.length + 1) = j + 1 + r.length by omega]
          exact this
        · cases e
    have h1 := key p 0 0 n (by decide) h
    have h2 : 16 ^ (0 + p.length) ≤ 16 ^ 4 := Nat.pow_le_pow_right (by omega) (by omega)
    have h4 : (16 : Nat) ^ 4 = 65536 := by decide
    omega
theorem grpAll_lt : ∀ (l : List By) (x : List Nat), grpAll l = some x → ∀ n ∈ x, n < 65536
  | [], x, h, n, hn => by rw [grpAll] at h; obtain rfl := Option.some.inj h; simp at hn
  | p :: r, x, h, n, hn => by
    rw [grpAll] at h
    cases hg : grpS p with
    | none => rw [hg] at h; cases h
    | some m =>
      rw [hg] at h
      simp only at h
      cases hr : grpAll r with
      | none => rw [hr] at h; cases h
      | some y =>
        rw [hr] at h
        obtain rfl := Option.some.inj h
        rcases List.mem_cons.1 hn with rfl | hn
        · exact grp_lt hg
        · exact grpAll_lt r y hr n hn
theorem groups_lt {s : By} {x : List Nat} (h : groupsS s = some x) : ∀ n ∈ x, n < 65536 := by
  unfold groupsS at h
  split at h
  · obtain rfl := Option.some.inj h; intro n hn; simp at hn
  · exact grpAll_lt _ x h
theorem parse6_lt {s : By} {l : List Nat} (h : parse6 s = some l) : l.length = 8 ∧ ∀ n ∈ l, n < 65536 := by
  unfold parse6 at h
  split at h
  · split at h
    · rename_i x hx
      split at h
      · rename_i h8
        obtain rfl := Option.some.inj h
        exact ⟨h8, groups_lt hx⟩
      · cases h
    · cases h
  · split at h
    · rename_i x y hx hy
      split at h
      · rename_i h7
        obtain rfl := Option.some.inj h
        refine ⟨by simp; omega, fun n hn => ?_⟩
        rcases List.mem_append.1 hn with hn | hn
        · rcases List.mem_append.1 hn with hn | hn
          · exact groups_lt hx n hn
          · rw [List.eq_of_mem_replicate hn]; omega
        · exact groups_lt hy n hn
      · cases h
    · cases h
/-- Sixteen bytes of eight groups: the two halves. -/
theorem num_gbytes : ∀ (l : List Nat) (a : Nat), (∀ n ∈ l, n < 65536) → (gbytes l).foldl (fun a c => a * 256 + c.toNat) a = l.foldl (fun n d => n * 65536 + d) a
  | [], a, _ => rfl
  | n :: r, a, h => by
    have hn := h n (by simp)
    rw [gbytes, List.foldl_cons, List.foldl_cons, List.foldl_cons, num_gbytes r _ (fun m hm => h m (by simp [hm])), UInt8.toNat_ofNat', UInt8.toNat_ofNat']
    have e : (a * 256 + n / 256 % 2 ^ 8) * 256 + n % 256 % 2 ^ 8 = a * 65536 + n := by omega
    rw [e]
theorem num_groups {l : List Nat} (h : ∀ n ∈ l, n < 65536) : num (gbytes l) = ofDigits 65536 l := num_gbytes l 0 h
theorem gbytes_zero (k : Nat) : gbytes (List.replicate k 0) = List.replicate (2 * k) 0 := by
  induction k with
  | zero => rfl
  | succ k ih =>
    rw [List.replicate_succ, gbytes, ih, show 2 * (k + 1) = 2 * k + 1 + 1 by omega, List.replicate_succ, List.replicate_succ]
    rfl
/-- The halves of eight groups. -/
def halfH (l : List Nat) : Nat := ofDigits 65536 (l.take 4)
def halfL (l : List Nat) : Nat := ofDigits 65536 (l.drop 4)
theorem fb_groups {l : List Nat} (h8 : l.length = 8) (h : ∀ n ∈ l, n < 65536) : fbRes (gbytes l) = adRes (some (true, halfH l, halfL l)) := by
  unfold fbRes
  rw [if_neg (by rw [gbytes_length]; omega), if_pos (by rw [gbytes_length]; omega)]
  have e : gbytes l = gbytes (l.take 4) ++ gbytes (l.drop 4) := by rw [← gbytes_append, List.take_append_drop]
  have h4 : (gbytes (l.take 4)).length = 8 := by rw [gbytes_length, List.length_take]; omega
  rw [e, List.take_append_of_le_length (by omega), List.take_of_length_le (by omega), List.drop_append_of_le_length (by omega), List.drop_of_length_le (by omega), List.nil_append]
  rw [num_groups (fun n hn => h n (List.mem_of_mem_take hn)), num_groups (fun n hn => h n (List.mem_of_mem_drop hn))]
  rfl
/-- What parse6 reads, by the program's tests. -/
def cutL (s : By) : By × By × Bool := match cutGap s with | some (a, b) => (a, b, true) | none => (s, [], false)
theorem parse6_none_head {s : By} (h : groupsS (cutL s).1 = none) : parse6 s = none := by
  unfold cutL at h
  unfold parse6
  cases hc : cutGap s with
  | none => rw [hc] at h; simp only at h; rw [h]
  | some p =>
    obtain ⟨a, b⟩ := p
    rw [hc] at h
    simp only at h ⊢
    rw [h]
theorem parse6_none_tail {s : By} (h : groupsS (cutL s).2.1 = none) : parse6 s = none := by
  unfold cutL at h
  unfold parse6
  cases hc : cutGap s with
  | none => rw [hc] at h; simp only at h; rw [groupsS, if_pos rfl] at h; cases h
  | some p =>
    obtain ⟨a, b⟩ := p
    rw [hc] at h
    simp only at h ⊢
    rw [h]
    cases groupsS a <;> rfl
theorem parse6_both {s : By} {x y : List Nat} (hx : groupsS (cutL s).1 = some x) (hy : groupsS (cutL s).2.1 = some y) :
    parse6 s = if x.length + y.length ≤ 8 ∧ ((cutL s).2.2 = true ↔ x.length + y.length < 8) then some (x ++ List.replicate (8 - (x.length + y.length)) 0 ++ y) else none := by
  unfold cutL at hx hy ⊢
  unfold parse6
  cases hc : cutGap s with
  | none =>
    rw [hc] at hx hy
    simp only at hx hy ⊢
    rw [groupsS, if_pos rfl] at hy
    obtain rfl := Option.some.inj hy
    rw [hx]
    simp only [List.length_nil, Nat.add_zero, Bool.false_eq_true, false_iff]
    by_cases h8 : x.length = 8
    · rw [if_pos h8, if_pos ⟨by omega, by omega⟩, h8]; simp
    · rw [if_neg h8, if_neg (by omega)]
  | some p =>
    obtain ⟨a, b⟩ := p
    rw [hc] at hx hy
    simp only at hx hy ⊢
    rw [hx, hy]
    simp only [true_iff]
    by_cases h8 : x.length + y.length ≤ 7
    · rw [if_pos h8, if_pos ⟨by omega, by omega⟩]
    · rw [if_neg h8, if_neg (by omega)]
/-- Which of the two texts: one with a colon. -/
theorem decGo_no {most : Nat} : ∀ (s : By) (n m : Nat), decGo most n s = some m → ∀ c ∈ s, c ≠ 58
  | [], n, m, h, c, hc => by simp at hc
  | x :: r, n, m, h, c, hc => by
    rw [decGo] at h
    split at h
    · rename_i hx
      rcases List.mem_cons.1 hc with rfl | hc
      · intro e; subst e; exact absurd hx.2 (by decide)
      · exact decGo_no r _ m h c hc
    · cases h
theorem decAll_no : ∀ (l : List By) (x : List Nat), decAll l = some x → ∀ p ∈ l, ∀ c ∈ p, c ≠ 58
  | [], x, h, p, hp, c, hc => by simp at hp
  | q :: r, x, h, p, hp, c, hc => by
    rw [decAll] at h
    cases hd : decS 255 q with
    | negSucc n => rw [hd] at h; cases h
    | ofNat n =>
      rw [hd] at h
      simp only at h
      rcases List.mem_cons.1 hp with rfl | hp
      · unfold decS at hd
        split at hd
        · cases hd
        · split at hd
          · cases hd
          · rename_i m hm
            exact decGo_no p 0 m hm c hc
      · cases hr : decAll r with
        | none => rw [hr] at h; cases h
        | some y => exact decAll_no r y hr p hp c hc
theorem splitGo_mem (c x : UInt8) (hx : x ≠ c) : ∀ (s cur : By), (x ∈ cur ∨ x ∈ s) → ∃ p ∈ splitGo c cur s, x ∈ p
  | [], cur, h => ⟨cur, by rw [splitGo]; simp, by simpa using h⟩
  | y :: r, cur, h => by
    rw [splitGo]
    split
    · rename_i hy
      rcases h with h | h
      · exact ⟨cur, by simp, h⟩
      · rcases List.mem_cons.1 h with e | h
        · exact absurd (e.trans hy) hx
        · obtain ⟨p, hp, hxp⟩ := splitGo_mem c x hx r [] (.inr h)
          exact ⟨p, by simp [hp], hxp⟩
    · apply splitGo_mem c x hx r (cur ++ [y])
      rcases h with h | h
      · exact .inl (by simp [h])
      · rcases List.mem_cons.1 h with e | h
        · exact .inl (by simp [e])
        · exact .inr h
theorem parse4_colon {s : By} (h : (58 : UInt8) ∈ s) : parse4 s = none := by
  unfold parse4
  split
  · cases hd : decAll (splitL 46 s) with
    | none => rfl
    | some x =>
      obtain ⟨p, hp, hc⟩ := splitGo_mem 46 58 (by decide) s [] (.inr h)
      exact absurd rfl (decAll_no _ x hd p hp 58 hc)
  · rfl
theorem cutGap_no : ∀ (s : By), (58 : UInt8) ∉ s → cutGap s = none
  | [], _ => rfl
  | [x], _ => rfl
  | x :: y :: r, h => by
    rw [cutGap, if_neg (fun e => h (by rw [e.1]; simp)), cutGap_no (y :: r) (fun e => h (List.mem_cons_of_mem _ e))]
    rfl
theorem parse6_no_colon {s : By} (h : (58 : UInt8) ∉ s) : parse6 s = none := by
  unfold parse6
  rw [cutGap_no s h]
  simp only
  unfold groupsS
  split
  · rename_i x hx
    split at hx
    · obtain rfl := Option.some.inj hx; rfl
    · have e : splitL 58 s = [s] := by
        unfold splitL
        rw [splitGo_none s [] (fun z hz e => h (by rw [← e]; exact hz))]; rfl
      rw [e] at hx
      rw [grpAll] at hx
      cases hg : grpS s with
      | none => rw [hg] at hx; cases hx
      | some n =>
        rw [hg] at hx
        have : x = [n] := by
          have h2 : (grpAll []).map (n :: ·) = some x := hx
          exact (Option.some.inj h2).symm
        rw [this]; rfl
  · rfl
/-- The address that a text denotes: its family, its two halves. -/
def prs (s : By) : Option (Bool × Nat × Nat) := match parse4 s with
  | some l => some (false, 0, ofDigits 256 l)
  | none => (parse6 s).map fun l => (true, halfH l, halfL l)
theorem prs_colon {s : By} (h : (58 : UInt8) ∈ s) : prs s = (parse6 s).map fun l => (true, halfH l, halfL l) := by
  unfold prs; rw [parse4_colon h]
theorem prs_no_colon {s : By} (h : (58 : UInt8) ∉ s) : prs s = (parse4 s).map fun l => (false, 0, ofDigits 256 l) := by
  unfold prs
  cases parse4 s with
  | some l => rfl
  | none => rw [parse6_no_colon h]; rfl
end Go.Proofs.YtcblgbonijloiaaDoor
