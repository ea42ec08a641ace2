/- Contracts of the functions, part 18: EthREnc, Ip4PRng. -/
import Derived.Test.YtimilcjlogcfhaaPE9
import Derived.Test.YtimilcjlogcfhaaPE16
import Derived.Test.YtimilcjlogcfhaaPE17
/- Contract of the reference of layer 10: Encode. -/
namespace Go.Proofs.Ytimilcjlogcfhaa
open Go.ChangeShapes Go.WideShapes Go.ChangeAt Go.RowKit
set_option linter.unusedVariables false

theorem add_ok10 {P Q : ByteArray} {a b : Nat} (h1 : P.size ≤ a) (h2 : Q.size ≤ b) (h : a + b ≤ 1000000000) : (9223372036854775807 < P.size + Q.size) = False := by
  simp only [eq_iff_iff, iff_false]; omega
theorem app_le10 {P Q : ByteArray} {a b : Nat} (h1 : P.size ≤ a) (h2 : Q.size ≤ b) : (P ++ Q).size ≤ a + b := by
  rw [ByteArray.size_append]; omega
theorem bad_of {x : EthR} (h : badE x) : encE x = ([], 4) := by unfold encE; rw [if_pos h]
theorem box_cell {w0 w : World} {g : Nat} {t : TypeId} {cs : Array Value} (h : Cells w0 g t cs) (hb : Below w0.heap.size w0 w) (i : Nat) (v : Value) (hv : cs[i]? = some v) : w.cell? ⟨g, i, none⟩ = some v :=
  ((Cells.cell (Cells.kept h hb (Cells.lt h)) i).trans hv)
end Go.Proofs.Ytimilcjlogcfhaa

/- Contract of the program of layer 11: inRange. -/
namespace Go.Proofs.Ytimilcjlogcfhaa
open Go.ChangeShapes Go.WideShapes Go.ChangeAt Go.RowKit
set_option linter.unusedVariables false

set_option maxHeartbeats 8000000 in
set_option maxRecDepth 20000 in
theorem prange11_any (tos id ttl proto off : Int) (dont more sv dv : Bool) (sh sl dh dl : Nat) (l : List OpR) (A : Option Addr) (c : Nat) (D : ByteArray) (R : Bool) (w : World) (h : RowL EOpt w A l) (hl : l.length ≤ 1000)
    (hR : R = true ↔ ¬ ((tos < 0 ∨ 255 < tos) ∨ (ttl < 0 ∨ 255 < ttl) ∨ (proto < 0 ∨ 255 < proto) ∨ (id < 0 ∨ 65535 < id) ∨ (off < 0 ∨ 65528 < off ∨ off % 8 ≠ 0) ∨ ¬ a4 ⟨sv, sh, sl⟩ ∨ ¬ a4 ⟨dv, dh, dl⟩ ∨ ∃ x ∈ l, x.kd < 2 ∨ 255 < x.kd)) :
    Calls Try.prog 32 #[.agg #[.int .i64 tos, .int .i64 id, .int .i64 ttl, .int .i64 proto, .bool dont, .bool more, .int .i64 off, .bool sv, .int .u64 (sh : Int), .int .u64 (sl : Int), .bool dv, .int .u64 (dh : Int), .int .u64 (dl : Int), .slice A l.length c, .string D]] w fun e w' => e = .returned (.bool R) ∧ Below w.heap.size w w' := by
  obtain ⟨n, hn⟩ : ∃ n, n = l.length := ⟨_, rfl⟩
  rw [← hn] at hl ⊢
  have HN := Lib.hid hn
  have HS := Lib.hid h
  have HR := Lib.hid hR
  clear hn h hR
  have HU := Lib.hid (fun (n l : Int) (q : Bool) (hq : decide (0 ≤ n ∧ n ≤ l) = q) (W : World) => show Calls Try.prog 59 #[.int .i64 n, .int .i64 l] W fun e w' => e = .returned (.bool q) ∧ W = w' by rw [← hq]; exact pupto11_any n l W)
  have HA := Lib.hid (fun (v : Bool) (hi lo : Nat) (q : Bool) (hq : decide (a4 ⟨v, hi, lo⟩) = q) (W : World) => show Calls Try.prog 60 #[.agg #[.bool v, .int .u64 (hi : Int), .int .u64 (lo : Int)]] W fun e w' => e = .returned (.bool q) ∧ Below W.heap.size W w' by rw [← hq]; exact paddr11_any v hi lo W)
  obtain ⟨q1, hq1⟩ : ∃ q : Bool, decide (0 ≤ tos ∧ tos ≤ 255) = q := ⟨_, rfl⟩
  have Hq1 := Lib.hid hq1
  clear hq1
  obtain ⟨q2, hq2⟩ : ∃ q : Bool, decide (0 ≤ ttl ∧ ttl ≤ 255) = q := ⟨_, rfl⟩
  have Hq2 := Lib.hid hq2
  clear hq2
  obtain ⟨q3, hq3⟩ : ∃ q : Bool, decide (0 ≤ proto ∧ proto ≤ 255) = q := ⟨_, rfl⟩
  have Hq3 := Lib.hid hq3
  clear hq3
  obtain ⟨q4, hq4⟩ : ∃ q : Bool, decide (0 ≤ id ∧ id ≤ 65535) = q := ⟨_, rfl⟩
  have Hq4 := Lib.hid hq4
  clear hq4
  obtain ⟨q5, hq5⟩ : ∃ q : Bool, decide (0 ≤ off ∧ off ≤ 65528) = q := ⟨_, rfl⟩
  have Hq5 := Lib.hid hq5
  clear hq5
  obtain ⟨q7, hq7⟩ : ∃ q : Bool, decide (a4 ⟨sv, sh, sl⟩) = q := ⟨_, rfl⟩
  have Hq7 := Lib.hid hq7
  clear hq7
  obtain ⟨q8, hq8⟩ : ∃ q : Bool, decide (a4 ⟨dv, dh, dl⟩) = q := ⟨_, rfl⟩
  have Hq8 := Lib.hid hq8
  clear hq8
  obtain ⟨q6, hq6⟩ : ∃ q : Bool, (off.tmod 8 == 0) = q := ⟨_, rfl⟩
  have Hq6 := Lib.hid hq6
  obtain ⟨W1, hW1⟩ : ∃ W, W = w.alloc (.cells #[.int .i64 tos, .int .i64 id, .int .i64 ttl, .int .i64 proto, .bool dont, .bool more, .int .i64 off, .bool sv, .int .u64 (sh : Int), .int .u64 (sl : Int), .bool dv, .int .u64 (dh : Int), .int .u64 (dl : Int), .slice A n c, .string D] 28) := ⟨_, rfl⟩
  obtain ⟨g, hg⟩ : ∃ g, g = w.heap.size := ⟨_, rfl⟩
  have HX := Lib.hid (show Cells W1 g 28 #[.int .i64 tos, .int .i64 id, .int .i64 ttl, .int .i64 proto, .bool dont, .bool more, .int .i64 off, .bool sv, .int .u64 (sh : Int), .int .u64 (sl : Int), .bool dv, .int .u64 (dh : Int), .int .u64 (dl : Int), .slice A n c, .string D] by rw [hW1, hg]; exact heap_alloc_new w _)
  have HB1 := Lib.hid (show Below w.heap.size w W1 by rw [hW1]; exact below_alloc6 w _)
  have HV := Lib.hid (fun (W : World) (hb : Below W1.heap.size W1 W) (i : Nat) (v : Value) (hv : (#[.int .i64 tos, .int .i64 id, .int .i64 ttl, .int .i64 proto, .bool dont, .bool more, .int .i64 off, .bool sv, .int .u64 (sh : Int), .int .u64 (sl : Int), .bool dv, .int .u64 (dh : Int), .int .u64 (dl : Int), .slice A n c, .string D])[i]? = some v) => show W.cell? ⟨g, i, none⟩ = some v from box_cell HX.out hb i v hv)
  have HW := Lib.hid (fun (W : World) (hb : Below W1.heap.size W1 W) => HB1.out.trans (hb.mono HB1.out.size))
  have x9 := HV.out W1 (Below.refl _ _) 13 (.slice A n c) rfl
  clear hq6
  go_enter Try.func32, Try.ntmps32
  go_wp2_with fail
  rw [← hW1, ← hg]
  have hgw : w.heap.size = g := hg.symm
  have HGW := Lib.hid hgw
  clear hW1 hg hgw
  go_wp2_with fail
  go_loopw [8] (fun i wr => ∃ k : Nat, i = .int .i64 (k : Int) ∧ k ≤ n ∧ Hid (okK (l.take k)) ∧ Hid (Below W1.heap.size W1 wr)) (fun i _ => n - (intOf i).toNat)
  case atStart => exact ⟨0, rfl, Nat.zero_le _, Lib.hid (fun x hx => by simp at hx), Lib.hid (Below.refl _ _)⟩
  case round =>
    obtain ⟨k, rfl, hk, HK, HB⟩ := hrel
    by_cases hlt : k < n
    · have hki : (k : Int) < (n : Int) := by omega
      have hki0 : (0 : Int) ≤ (k : Int) := by omega
      have dlt : decide ((k : Int) < (n : Int)) = true := by simp; omega
      obtain ⟨x, hget⟩ : ∃ x, l[k]? = some x := ⟨l[k]'(by have := HN.out; omega), List.getElem?_eq_getElem _⟩
      obtain ⟨ga, ob, rfl, hga⟩ := HS.out.shapeA (by have := HN.out; omega)
      obtain ⟨c0, c1⟩ := opt_at HS.out hget (HW.out _ HB.out)
      have hmem := List.mem_of_getElem? hget
      have HBA := Lib.hid (HB.out.alloc HB.out.size (.cells #[.int .i64 x.kd, .string (str x.dat)] 50))
      by_cases h1 : x.kd < 2
      · have d1 : decide (x.kd < 2) = true := by simp; omega
        have HF := Lib.hid (show R = false by rw [← Bool.not_eq_true]; intro hh; exact HR.out.1 hh (.inr (.inr (.inr (.inr (.inr (.inr (.inr ⟨x, hmem, .inl h1⟩))))))))
        clear hget hmem
        go_wp2_with fail
        go_ret
        exact ⟨by rw [HF.out]; rfl, HW.out _ HBA.out⟩
      · have d1 : decide (x.kd < 2) = false := by simp; omega
        by_cases h2 : 255 < x.kd
        · have d2 : decide (255 < x.kd) = true := by simp; omega
          have HF := Lib.hid (show R = false by rw [← Bool.not_eq_true]; intro hh; exact HR.out.1 hh (.inr (.inr (.inr (.inr (.inr (.inr (.inr ⟨x, hmem, .inr h2⟩))))))))
          clear hget hmem
          go_wp2_with fail
          go_ret
          exact ⟨by rw [HF.out]; rfl, HW.out _ HBA.out⟩
        · have d2 : decide (255 < x.kd) = false := by simp; omega
          have HK1 := Lib.hid (okK_next HK.out hget (by omega) (by omega))
          clear hget hmem
          go_wp2_with fail
          go_roundw
          case rel => exact ⟨k + 1, by go_num, by omega, HK1, HBA⟩
          case measure => simp [intOf]; omega
    · obtain rfl : k = n := by omega
      have dlt : decide ((k : Int) < (k : Int)) = false := by simp
      have nlt : ¬ (k : Int) < (k : Int) := by omega
      have HOK := Lib.hid (show ¬ ∃ x ∈ l, x.kd < 2 ∨ 255 < x.kd by
        have := HK.out
        rw [HN.out, List.take_length] at this
        rintro ⟨x, hx, hh⟩
        have := this x hx
        omega)
      have y0 := HV.out wr HB.out 0 (.int .i64 tos) rfl
      have y1 := HV.out wr HB.out 1 (.int .i64 id) rfl
      have y2 := HV.out wr HB.out 2 (.int .i64 ttl) rfl
      have y3 := HV.out wr HB.out 3 (.int .i64 proto) rfl
      have y6 := HV.out wr HB.out 6 (.int .i64 off) rfl
      have y7 := HV.out wr HB.out 7 (.bool sv) rfl
      have y8 := HV.out wr HB.out 8 (.int .u64 (sh : Int)) rfl
      have y9 := HV.out wr HB.out 9 (.int .u64 (sl : Int)) rfl
      have y10 := HV.out wr HB.out 10 (.bool dv) rfl
      have y11 := HV.out wr HB.out 11 (.int .u64 (dh : Int)) rfl
      have y12 := HV.out wr HB.out 12 (.int .u64 (dl : Int)) rfl
      go_wp2_with fail
      refine (HU.out tos 255 q1 Hq1.out _).mono ?_
      rintro e w2 ⟨rfl, rfl⟩
      cases q1
      · have HF := Lib.hid (show R = false by rw [← Bool.not_eq_true]; intro hh; refine HR.out.1 hh ?_; have hq := Hq1.out; simp at hq; exact .inl (by omega))
        go_wp2_with fail
        go_ret
        exact ⟨by rw [HF.out]; rfl, HW.out _ HB.out⟩
      · have zq1 := Hq1.out
        have wq1 : 0 ≤ tos ∧ tos ≤ 255 := by simpa using zq1
        have Wq1 := Lib.hid wq1
        clear zq1 wq1
        go_wp2_with fail
        refine (HU.out ttl 255 q2 Hq2.out _).mono ?_
        rintro e w2 ⟨rfl, rfl⟩
        cases q2
        · have HF := Lib.hid (show R = false by rw [← Bool.not_eq_true]; intro hh; refine HR.out.1 hh ?_; have hq := Hq2.out; simp at hq; exact .inr (.inl (by omega)))
          go_wp2_with fail
          go_ret
          exact ⟨by rw [HF.out]; rfl, HW.out _ HB.out⟩
        · have zq2 := Hq2.out
          have wq2 : 0 ≤ ttl ∧ ttl ≤ 255 := by simpa using zq2
          have Wq2 := Lib.hid wq2
          clear zq2 wq2
          go_wp2_with fail
          refine (HU.out proto 255 q3 Hq3.out _).mono ?_
          rintro e w2 ⟨rfl, rfl⟩
          cases q3
          · have HF := Lib.hid (show R = false by rw [← Bool.not_eq_true]; intro hh; refine HR.out.1 hh ?_; have hq := Hq3.out; simp at hq; exact .inr (.inr (.inl (by omega))))
            go_wp2_with fail
            go_ret
            exact ⟨by rw [HF.out]; rfl, HW.out _ HB.out⟩
          · have zq3 := Hq3.out
            have wq3 : 0 ≤ proto ∧ proto ≤ 255 := by simpa using zq3
            have Wq3 := Lib.hid wq3
            clear zq3 wq3
            go_wp2_with fail
            refine (HU.out id 65535 q4 Hq4.out _).mono ?_
            rintro e w2 ⟨rfl, rfl⟩
            cases q4
            · have HF := Lib.hid (show R = false by rw [← Bool.not_eq_true]; intro hh; refine HR.out.1 hh ?_; have hq := Hq4.out; simp at hq; exact .inr (.inr (.inr (.inl (by omega)))))
              go_wp2_with fail
              go_ret
              exact ⟨by rw [HF.out]; rfl, HW.out _ HB.out⟩
            · have zq4 := Hq4.out
              have wq4 : 0 ≤ id ∧ id ≤ 65535 := by simpa using zq4
              have Wq4 := Lib.hid wq4
              clear zq4 wq4
              go_wp2_with fail
              refine (HU.out off 65528 q5 Hq5.out _).mono ?_
              rintro e w2 ⟨rfl, rfl⟩
              cases q5
              · have HF := Lib.hid (show R = false by rw [← Bool.not_eq_true]; intro hh; refine HR.out.1 hh ?_; have hq := Hq5.out; simp at hq; exact .inr (.inr (.inr (.inr (.inl (by omega))))))
                go_wp2_with fail
                go_ret
                exact ⟨by rw [HF.out]; rfl, HW.out _ HB.out⟩
              · have zq5 := Hq5.out
                have wq5 : 0 ≤ off ∧ off ≤ 65528 := by simpa using zq5
                have Wq5 := Lib.hid wq5
                clear zq5 wq5
                have htm : off.tmod 8 = off % 8 := Int.tmod_eq_emod_of_nonneg Wq5.out.1
                have HTM := Lib.hid htm
                clear htm
                cases q6
                · have hq6 := Hq6.out
                  have nq6 : ¬ off.tmod 8 = 0 := by simpa using hq6
                  have HF := Lib.hid (show R = false by rw [← Bool.not_eq_true]; intro hh; refine HR.out.1 hh ?_; have h3 := HTM.out; exact .inr (.inr (.inr (.inr (.inl (.inr (.inr (by omega))))))))
                  go_wp2_with fail
                  go_ret
                  exact ⟨by rw [HF.out]; rfl, HW.out _ HB.out⟩
                · have hq6 := Hq6.out
                  have nq6 : off.tmod 8 = 0 := by simpa using hq6
                  go_wp2_with fail
                  refine (HA.out sv sh sl q7 Hq7.out _).mono ?_
                  rintro e w2 ⟨rfl, hb2⟩
                  have HB2 := Lib.hid (HB.out.trans (hb2.mono HB.out.size))
                  clear hb2
                  have z10 := HV.out w2 HB2.out 10 (.bool dv) rfl
                  have z11 := HV.out w2 HB2.out 11 (.int .u64 (dh : Int)) rfl
                  have z12 := HV.out w2 HB2.out 12 (.int .u64 (dl : Int)) rfl
                  cases q7
                  · have HF := Lib.hid (show R = false by rw [← Bool.not_eq_true]; intro hh; refine HR.out.1 hh ?_; exact .inr (.inr (.inr (.inr (.inr (.inl (of_decide_eq_false Hq7.out)))))))
                    go_wp2_with fail
                    go_ret
                    exact ⟨by rw [HF.out]; rfl, HW.out _ HB2.out⟩
                  · skip
                    go_wp2_with fail
                    refine (HA.out dv dh dl q8 Hq8.out _).mono ?_
                    rintro e w3 ⟨rfl, hb3⟩
                    have HB3 := Lib.hid (HB2.out.trans (hb3.mono HB2.out.size))
                    clear hb3
                    cases q8
                    · have HF := Lib.hid (show R = false by rw [← Bool.not_eq_true]; intro hh; refine HR.out.1 hh ?_; exact .inr (.inr (.inr (.inr (.inr (.inr (.inl (of_decide_eq_false Hq8.out))))))))
                      go_wp2_with fail
                      go_ret
                      exact ⟨by rw [HF.out]; rfl, HW.out _ HB3.out⟩
                    · have HT := Lib.hid (show R = true by
                        refine HR.out.2 ?_
                        have e1 := Wq1.out
                        have e2 := Wq2.out
                        have e3 := Wq3.out
                        have e4 := Wq4.out
                        have e5 := Wq5.out
                        have e6 := HTM.out
                        rintro (h | h | h | h | h | h | h | h)
                        · omega
                        · omega
                        · omega
                        · omega
                        · omega
                        · exact h (of_decide_eq_true Hq7.out)
                        · exact h (of_decide_eq_true Hq8.out)
                        · exact HOK.out h)
                      go_wp2_with fail
                      go_ret
                      exact ⟨by rw [HT.out]; rfl, HW.out _ HB3.out⟩
end Go.Proofs.Ytimilcjlogcfhaa
