/- Contracts of the functions, part 38: Ip6PEna, RdB, Ip4PSt. -/
import Derived.Test.YtjjldolafnfpoaaPE3
import Derived.Test.YtjjldolafnfpoaaPE4
import Derived.Test.YtjjldolafnfpoaaPE10
import Derived.Test.YtjjldolafnfpoaaPE23
import Derived.Test.YtjjldolafnfpoaaPE29
import Derived.Test.YtjjldolafnfpoaaPE37
/- Contract of the program of layer 12: Encode, of any packet. -/
namespace Go.Proofs.Ytjjldolafnfpoaa
open Go.ChangeShapes Go.WideShapes Go.ChangeAt Go.RowKit
set_option linter.unusedVariables false

theorem penc12_any (p : Ip6R) (A : Option Addr) (c : Nat) (w : World) (h : RowL EOpt w A p.exts) (hd : ∀ x ∈ p.exts, x.dat.length ≤ 4611686018427387904) (hl : p.exts.length ≤ 1000) (hp : p.pay.length ≤ 1000000) (hs : p.src.hi < 18446744073709551616 ∧ p.src.lo < 18446744073709551616) (ht : p.dst.hi < 18446744073709551616 ∧ p.dst.lo < 18446744073709551616) :
    Calls Try.prog 15 #[.agg (ip6C p p.exts.length A c (str p.pay))] w fun e w' => e = .returned (.tuple #[.string (str (encX p).1), .int .i64 ((encX p).2 : Int)]) ∧ Below w.heap.size w w' := by
  have hck := fun (W : World) (hW : Below w.heap.size w W) => pcheck12_any p A c W (h.kept hW) hd hl hp
  obtain ⟨E, hE⟩ : ∃ E, E = (encX p).2 := ⟨_, rfl⟩
  by_cases h0 : E = 0
  · have henc : encX p = ((encX p).1, 0) := Prod.ext rfl (by rw [← hE, h0])
    obtain ⟨hb, h8, hok, _, hlen, hs1⟩ := encX_ok henc
    rw [← hE, h0] at hck ⊢
    rw [hs1]
    unfold badX at hb
    simp only [not_or] at hb
    obtain ⟨b1, b2, b3, b4, -, -, b7, b8, b9, b10⟩ := hb
    obtain ⟨cls, lab, hops, nxt, ⟨sv, sh, sl⟩, ⟨dv, dh, dl⟩, l, frg, id, off, more, pay⟩ := p
    dsimp only at *
    cases sv
    · exact absurd rfl b7
    cases dv
    · exact absurd rfl b8
    have i1 : 0 ≤ id ∧ id ≤ 4294967295 ∧ 0 ≤ off ∧ off ≤ 65528 ∧ off % 8 = 0 := by
      cases frg with
      | false =>
        have h9' : ¬ (id ≠ 0 ∨ off ≠ 0 ∨ more = true) := fun e => b9 ⟨rfl, e⟩
        omega
      | true =>
        have e1 : ¬ (id < 0 ∨ 4294967296 ≤ id ∨ off < 0 ∨ 65528 < off ∨ off % 8 ≠ 0) := fun e => b10 ⟨rfl, e⟩
        omega
    obtain ⟨C, rfl⟩ : ∃ T : Nat, cls = T := ⟨cls.toNat, by omega⟩
    obtain ⟨L, rfl⟩ : ∃ T : Nat, lab = T := ⟨lab.toNat, by omega⟩
    obtain ⟨H, rfl⟩ : ∃ T : Nat, hops = T := ⟨hops.toNat, by omega⟩
    obtain ⟨X, rfl⟩ : ∃ T : Nat, nxt = T := ⟨nxt.toNat, by omega⟩
    obtain ⟨I, rfl⟩ : ∃ T : Nat, id = T := ⟨id.toNat, by omega⟩
    obtain ⟨F, rfl⟩ : ∃ T : Nat, off = T := ⟨off.toNat, by omega⟩
    exact penc12_ok C L H X I F frg more sh sl dh dl _ l pay A c (str pay) _ w rfl rfl rfl (by omega) (by omega) (by omega) (by omega) (by omega) (by omega) (by omega) hs.1 hs.2 ht.1 ht.2 h8 hok hlen h hck
  · rw [encX_bad (by rw [← hE]; exact h0), ← hE]
    rw [← hE] at hck
    obtain ⟨cls, lab, hops, nxt, ⟨sv, sh, sl⟩, ⟨dv, dh, dl⟩, l, frg, id, off, more, pay⟩ := p
    exact penc12_bad cls lab hops nxt id off sv dv frg more sh sl dh dl _ A c (str pay) E h0 w hck
end Go.Proofs.Ytjjldolafnfpoaa

/- The program's reader, all of whose blocks lie below a number B: so it stands apart from whatever the caller makes later. -/
namespace Go.Proofs.Ytjjldolafnfpoaa
open Go.ChangeShapes Go.WideShapes Go.ChangeAt Go.RowKit
set_option linter.unusedVariables false

/-- A reader at block p below B. -/
def RdB (w : World) (B p : Nat) (l : List UInt8) (err : Int) : Prop :=
  ∃ A cap, p < B ∧ Cells w p 89 #[.slice A l.length cap, .int .i64 err] ∧ Left w p A l cap ∧ (0 < l.length → ∀ a, A = some a → a.block < B)
theorem RdB.rd {w : World} {B p : Nat} {l : List UInt8} {err : Int} (h : RdB w B p l err) : Rd w p l err := by
  obtain ⟨A, cap, _, h1, h2, _⟩ := h
  exact ⟨A, cap, h1, h2⟩
theorem RdB.lt {w : World} {B p : Nat} {l : List UInt8} {err : Int} (h : RdB w B p l err) : p < B := by
  obtain ⟨A, cap, h0, _⟩ := h
  exact h0
theorem RdB.of {w : World} {p : Nat} {l : List UInt8} {err : Int} (h : Rd w p l err) : RdB w w.heap.size p l err := by
  obtain ⟨A, cap, h1, h2⟩ := h
  refine ⟨A, cap, h1.lt, h1, h2, fun hp a ha => ?_⟩
  obtain ⟨g, o, e, _, hlt, _⟩ := h2.2 hp
  rw [e] at ha
  obtain rfl := Option.some.inj ha
  exact hlt
theorem RdB.mono {w : World} {B B' p : Nat} {l : List UInt8} {err : Int} (h : RdB w B p l err) (hB : B ≤ B') : RdB w B' p l err := by
  obtain ⟨A, cap, h0, h1, h2, h3⟩ := h
  exact ⟨A, cap, by omega, h1, h2, fun hp a ha => by have := h3 hp a ha; omega⟩
/-- Whatever writes at or above B. -/
theorem RdB.blocks {w w' : World} {B p : Nat} {l : List UInt8} {err : Int} (h : RdB w B p l err) (hz : w.heap.size ≤ w'.heap.size) (hb : ∀ b, b < B → w'.heap[b]? = w.heap[b]?) : RdB w' B p l err := by
  obtain ⟨A, cap, h0, h1, h2, h3⟩ := h
  refine ⟨A, cap, h0, (hb p h0).trans h1, ⟨h2.1, fun hp => ?_⟩, h3⟩
  obtain ⟨g, o, e, hne, hlt, hc⟩ := h2.2 hp
  have hgB : g < B := h3 hp _ e
  refine ⟨g, o, e, hne, by omega, fun j hj => ?_⟩
  rw [World.cell?_of_block (w := w) (w' := w') (a := ⟨g, o + j, none⟩) (hb g hgB), World.frozen?_of_block (w := w) (w' := w') (a := ⟨g, o + j, none⟩) (hb g hgB)]
  exact hc j hj
theorem RdB.set {w : World} {B p g i : Nat} {l : List UInt8} {err : Int} (h : RdB w B p l err) (hg : B ≤ g) (v : Value) : RdB (w.setCell ⟨g, i, none⟩ v) B p l err :=
  h.blocks (by simp [World.setCell]) (fun b hb => Below.heap_setCell w ⟨g, i, none⟩ v b (by simp only; omega))
theorem RdB.kept {w w' : World} {B p : Nat} {l : List UInt8} {err : Int} (h : RdB w B p l err) (hb : Below w.heap.size w w') (hB : B ≤ w.heap.size) : RdB w' B p l err :=
  h.blocks hb.size (fun b hlt => hb.block b (by omega))
theorem RdB.grown {w w' : World} {B p : Nat} {l : List UInt8} {err : Int} {row : Option Nat} (h : RdB w B p l err) (hg : w.grownBy w' row) (hB : B ≤ w.heap.size) (hr : ∀ g, row = some g → B ≤ g) : RdB w' B p l err :=
  h.blocks hg.size (fun b hlt => hg.block b (by omega) (by intro e; have := hr b e.symm; omega))
theorem nextB_short (B p : Nat) (l : List UInt8) (n : Int) (w : World) (h : RdB w B p l 0) (hm : l.length ≤ 9223372036854775807) (hn : (l.length : Int) < n) :
    Calls Try.prog 60 #[.pointer (some ⟨p, 0, none⟩), .int .i64 n, .bool true] w fun e w' => e = .returned (.slice none 0 0) ∧ RdB w' B p l 1 ∧ w.grownBy w' (some p) := by
  obtain ⟨A, cap, h0, hc, hl, h3⟩ := h
  have c0 := hc.cell 0
  have c1 := hc.cell 1
  have f1 := hc.frozen 1
  simp at c0 c1
  have H3 := Lib.hid h3
  clear h3
  go_enter Try.func60, Try.ntmps60
  go_wp2_with fail
  go_ret
  exact ⟨rfl, ⟨A, cap, h0, hc.set 1 _, hl.only (only_set ..), H3.out⟩, only_set ..⟩
theorem add_block (a : Addr) (n : Nat) : (a.add n).block = a.block := by
  unfold Addr.add
  split <;> rfl
theorem nextB_ok (B p : Nat) (l : List UInt8) (n : Nat) (w : World) (h : RdB w B p l 0) (hm : l.length ≤ 9223372036854775807) (hn : n ≤ l.length) :
    Calls Try.prog 60 #[.pointer (some ⟨p, 0, none⟩), .int .i64 n, .bool true] w fun e w' => ∃ A, e = .returned (.slice A n n) ∧ BS w' 0 (.slice A n n) (l.take n) ∧ RdB w' B p (l.drop n) 0 ∧ w.grownBy w' (some p) := by
  obtain ⟨A, cap, h0, hc, hl, h3⟩ := h
  have c0 := hc.cell 0
  have c1 := hc.cell 1
  have f0 := hc.frozen 0
  have hcap := hl.1
  have H3 := Lib.hid h3
  clear h3
  simp at c0 c1
  by_cases hcn : cap = n
  · obtain rfl : cap = l.length := by omega
    subst hcn
    go_enter Try.func60, Try.ntmps60
    go_wp2_with fail
    go_ret
    have hx := hc.set 0 (.slice A 0 0)
    exact ⟨A, rfl, ((hl.only (only_set w p 0 _)).take _ (Nat.le_refl _)), ⟨A, 0, h0, by simpa using hx, ⟨by simp, by simp⟩, by simp⟩, only_set ..⟩
  · go_enter Try.func60, Try.ntmps60
    go_wp2_with fail
    go_ret
    have hx := hc.set 0 (.slice (A.map fun x => x.add n) (l.length - n) (cap - n))
    rw [← List.length_drop] at hx
    refine ⟨A, rfl, ((hl.only (only_set w p 0 _)).take _ hn), ⟨_, _, h0, by rw [List.length_drop] at *; exact hx, (hl.drop n hn).only (only_set ..), fun hp a ha => ?_⟩, only_set ..⟩
    rw [List.length_drop] at hp
    obtain ⟨a0, h1, h2⟩ := Option.map_eq_some_iff.1 ha
    have := H3.out (by omega) a0 h1
    rw [← h2, add_block]
    exact this
/-- What a call of Int reads: the number, what is left, the error. -/
def rdI (l : List UInt8) (err n : Nat) : Nat × List UInt8 × Nat := if err ≠ 0 then (0, l, err) else if l.length < n then (0, l, 1) else (num (l.take n), l.drop n, 0)
theorem rdI_lt (l : List UInt8) (err n : Nat) : (rdI l err n).1 < 256 ^ n := by
  have h : 0 < 256 ^ n := Nat.pow_pos (by decide)
  unfold rdI
  split
  · exact h
  · split
    · exact h
    · have := num_lt (l.take n)
      rwa [show (l.take n).length = n by rw [List.length_take]; omega] at this
theorem rdI_len (l : List UInt8) (err n : Nat) : (rdI l err n).2.1.length ≤ l.length := by
  unfold rdI
  split
  · exact Nat.le_refl _
  · split
    · exact Nat.le_refl _
    · rw [List.length_drop]; omega
theorem next_any_err (B p n : Nat) (l : List UInt8) (err : Nat) (w : World) (h : RdB w B p l (err : Int)) (he : err ≠ 0) (h1 : 1 ≤ n) (h7 : n ≤ 7) :
    Calls Try.prog 43 #[.pointer (some ⟨p, 0, none⟩), .int .i64 (n : Int)] w fun e w' => e = .returned (.int .i64 ((0 : Nat) : Int)) ∧ RdB w' B p l (err : Int) ∧ w.grownBy w' (some p) := by
  have he' : (err : Int) ≠ 0 := by omega
  have HNX := Lib.hid (fun (W : World) (hh : Rd W p l (err : Int)) => next_err p l (err : Int) (n : Int) true W hh he')
  have HR := Lib.hid h
  clear h he he'
  go_enter Try.func43, Try.ntmps43
  go_wp2_with fail
  refine (valid_yes n _ (by omega) (by omega)).mono ?_
  rintro e w1 ⟨rfl, rfl⟩
  go_wp2_with fail
  refine (HNX.out _ HR.out.rd).mono ?_
  rintro e w1 ⟨rfl, rfl⟩
  go_wp2_with fail
  refine (number_any none 0 0 [] _ (bs_nil _ _) (by simp)).mono ?_
  rintro e w1 ⟨rfl, rfl⟩
  go_wp2_with fail
  go_ret
  exact ⟨rfl, HR.out, only_refl ..⟩
set_option maxHeartbeats 2000000 in
theorem intB_any (B p n : Nat) (N : Int) (hN : (n : Int) = N) (l : List UInt8) (err : Nat) (w : World) (h : RdB w B p l (err : Int)) (hm : l.length ≤ 9223372036854775807) (h1 : 1 ≤ n) (h7 : n ≤ 7) :
    Calls Try.prog 43 #[.pointer (some ⟨p, 0, none⟩), .int .i64 N] w fun e w' => e = .returned (.int .i64 ((rdI l err n).1 : Int)) ∧ RdB w' B p (rdI l err n).2.1 ((rdI l err n).2.2 : Int) ∧ w.grownBy w' (some p) := by
  subst hN
  unfold rdI
  by_cases he : err ≠ 0
  · rw [if_pos he]
    refine (next_any_err B p n l err w h he (by omega) (by omega)).mono ?_
    exact fun e w' h => h
  · obtain rfl : err = 0 := by omega
    rw [if_neg (by simp)]
    by_cases hs : l.length < n
    · rw [if_pos hs]
      go_enter Try.func43, Try.ntmps43
      go_wp2_with fail
      refine (valid_yes n _ (by omega) (by omega)).mono ?_
      rintro e w1 ⟨rfl, rfl⟩
      go_wp2_with fail
      refine (nextB_short B p l n _ h hm (by omega)).mono ?_
      rintro e w1 ⟨rfl, h1, hg1⟩
      go_wp2_with fail
      refine (number_any none 0 0 [] _ (bs_nil _ _) (by simp)).mono ?_
      rintro e w2 ⟨rfl, rfl⟩
      go_wp2_with fail
      go_ret
      exact ⟨rfl, h1, hg1⟩
    · rw [if_neg hs]
      have hlen : (l.take n).length = n := by rw [List.length_take]; omega
      have HL := Lib.hid hlen
      clear hlen
      have hn : n ≤ l.length := by omega
      clear hs
      go_enter Try.func43, Try.ntmps43
      go_wp2_with fail
      refine (valid_yes n _ (by omega) (by omega)).mono ?_
      rintro e w1 ⟨rfl, rfl⟩
      go_wp2_with fail
      refine (nextB_ok B p l n _ h hm hn).mono ?_
      rintro e w1 ⟨A, rfl, hbs, h2, hg1⟩
      go_wp2_with fail
      have hc := number_any A n 0 (l.take n) w1 (by rw [HL.out]; exact hbs) (by rw [HL.out]; exact h7)
      rw [HL.out] at hc
      refine hc.mono ?_
      rintro e w2 ⟨rfl, rfl⟩
      go_wp2_with fail
      go_ret
      exact ⟨rfl, h2, hg1⟩
end Go.Proofs.Ytjjldolafnfpoaa

/- The program of layer 11: what readStart reads, and its state in memory. -/
namespace Go.Proofs.Ytjjldolafnfpoaa
open Go.ChangeShapes Go.WideShapes Go.ChangeAt Go.RowKit
set_option linter.unusedVariables false

/-! ### What is read -/
def rdT (l : List UInt8) (err n : Nat) : List UInt8 × List UInt8 × Nat := if err ≠ 0 then ([], l, err) else if l.length < n then ([], l, 1) else (l.take n, l.drop n, 0)
theorem rdT_len (l : List UInt8) (err n : Nat) : (rdT l err n).2.1.length ≤ l.length := by
  unfold rdT
  split
  · exact Nat.le_refl _
  · split
    · exact Nat.le_refl _
    · rw [List.length_drop]; omega
theorem rdT_part (l : List UInt8) (err n : Nat) : (rdT l err n).1.length = n ∨ (rdT l err n).1.length = 0 := by
  unfold rdT
  split
  · exact .inr rfl
  · split
    · exact .inr rfl
    · exact .inl (by rw [List.length_take]; omega)
theorem rdI_ok11 {l : List UInt8} {n : Nat} (h : ¬ l.length < n) : rdI l 0 n = (num (l.take n), l.drop n, 0) := by unfold rdI; rw [if_neg (by simp), if_neg h]
theorem rdT_ok11 {l : List UInt8} {n : Nat} (h : ¬ l.length < n) : rdT l 0 n = (l.take n, l.drop n, 0) := by unfold rdT; rw [if_neg (by simp), if_neg h]
theorem rdI_step {N pos : Nat} {l l' : List UInt8} {err k v e : Nat} (h : err = 1 ∨ (err = 0 ∧ l.length + pos = N)) (hr : rdI l err k = (v, l', e)) : e = 1 ∨ (e = 0 ∧ l'.length + (pos + k) = N) := by
  unfold rdI at hr
  rcases h with rfl | ⟨rfl, h⟩
  · rw [if_pos (by decide)] at hr
    injection hr with _ hr
    injection hr with _ hr
    exact .inl hr.symm
  · rw [if_neg (by simp)] at hr
    by_cases hs : l.length < k
    · rw [if_pos hs] at hr
      injection hr with _ hr
      injection hr with _ hr
      exact .inl hr.symm
    · rw [if_neg hs] at hr
      injection hr with _ hr
      injection hr with h1 h2
      exact .inr ⟨h2.symm, by rw [← h1, List.length_drop]; omega⟩
theorem rdT_step {N pos : Nat} {l l' v : List UInt8} {err k e : Nat} (h : err = 1 ∨ (err = 0 ∧ l.length + pos = N)) (hr : rdT l err k = (v, l', e)) : e = 1 ∨ (e = 0 ∧ l'.length + (pos + k) = N) := by
  unfold rdT at hr
  rcases h with rfl | ⟨rfl, h⟩
  · rw [if_pos (by decide)] at hr
    injection hr with _ hr
    injection hr with _ hr
    exact .inl hr.symm
  · rw [if_neg (by simp)] at hr
    by_cases hs : l.length < k
    · rw [if_pos hs] at hr
      injection hr with _ hr
      injection hr with _ hr
      exact .inl hr.symm
    · rw [if_neg hs] at hr
      injection hr with _ hr
      injection hr with h1 h2
      exact .inr ⟨h2.symm, by rw [← h1, List.length_drop]; omega⟩
theorem num_byt (S : List UInt8) (i : Nat) (h : i < S.length) : num ((S.drop i).take 1) = byt S i := by
  have e : S.getD i 0 = S[i] := by rw [List.getD_eq_getElem?_getD, List.getElem?_eq_getElem h]; rfl
  rw [List.drop_eq_getElem_cons h, List.take_succ_cons, List.take_zero]
  unfold byt
  rw [e]
  simp [num]
theorem drop20 (S : List UInt8) (i k : Nat) (h : i + k ≤ 20) : ((S.take 20).drop i).take k = (S.drop i).take k := by
  rw [List.drop_take, List.take_take]
  congr 1
  omega
/-- The values of a whole start. -/
def StartV (S : List UInt8) (c0 tos tot id wd ttl pr : Nat) (T1 T2 : List UInt8) : Prop :=
  c0 = byt S 0 ∧ tos = byt S 1 ∧ tot = nm2 S 2 ∧ id = nm2 S 4 ∧ wd = nm2 S 6 ∧ ttl = byt S 8 ∧ pr = byt S 9 ∧ T1.length = 4 ∧ num T1 = nm4 S 12 ∧ T2.length = 4 ∧ num T2 = nm4 S 16
theorem start_fin {S l1 l2 l3 l4 l5 l6 l7 l8 l9 l10 T1 T2 : List UInt8} {c0 tos tot id wd ttl pr ck e1 e2 e3 e4 e5 e6 e7 e8 e9 e10 : Nat}
    (h1 : rdI (S.take 20) 0 1 = (c0, l1, e1)) (h2 : rdI l1 e1 1 = (tos, l2, e2)) (h3 : rdI l2 e2 2 = (tot, l3, e3)) (h4 : rdI l3 e3 2 = (id, l4, e4)) (h5 : rdI l4 e4 2 = (wd, l5, e5)) (h6 : rdI l5 e5 1 = (ttl, l6, e6)) (h7 : rdI l6 e6 1 = (pr, l7, e7)) (h8 : rdI l7 e7 2 = (ck, l8, e8))
    (h9 : rdT l8 e8 4 = (T1, l9, e9)) (h10 : rdT l9 e9 4 = (T2, l10, e10)) : (S.length < 20 ∧ e10 = 1) ∨ (20 ≤ S.length ∧ e10 = 0 ∧ StartV S c0 tos tot id wd ttl pr T1 T2) := by
  by_cases hs : S.length < 20
  · refine .inl ⟨hs, ?_⟩
    have a := rdT_step (rdT_step (rdI_step (rdI_step (rdI_step (rdI_step (rdI_step (rdI_step (rdI_step (rdI_step (N := (S.take 20).length) (pos := 0) (.inr ⟨rfl, rfl⟩) h1) h2) h3) h4) h5) h6) h7) h8) h9) h10
    rcases a with a | ⟨_, a⟩
    · exact a
    · rw [List.length_take] at a
      omega
  · refine .inr ⟨by omega, ?_⟩
    have hl : (S.take 20).length = 20 := by rw [List.length_take]; omega
    rw [rdI_ok11 (by omega)] at h1
    obtain ⟨rfl, rfl, rfl⟩ := (by simpa only [Prod.mk.injEq] using h1 : _ ∧ _ ∧ _)
    rw [rdI_ok11 (by simp only [List.length_drop]; omega)] at h2
    obtain ⟨rfl, rfl, rfl⟩ := (by simpa only [Prod.mk.injEq] using h2 : _ ∧ _ ∧ _)
    rw [rdI_ok11 (by simp only [List.length_drop]; omega)] at h3
    obtain ⟨rfl, rfl, rfl⟩ := (by simpa only [Prod.mk.injEq] using h3 : _ ∧ _ ∧ _)
    rw [rdI_ok11 (by simp only [List.length_drop]; omega)] at h4
    obtain ⟨rfl, rfl, rfl⟩ := (by simpa only [Prod.mk.injEq] using h4 : _ ∧ _ ∧ _)
    rw [rdI_ok11 (by simp only [List.length_drop]; omega)] at h5
    obtain ⟨rfl, rfl, rfl⟩ := (by simpa only [Prod.mk.injEq] using h5 : _ ∧ _ ∧ _)
    rw [rdI_ok11 (by simp only [List.length_drop]; omega)] at h6
    obtain ⟨rfl, rfl, rfl⟩ := (by simpa only [Prod.mk.injEq] using h6 : _ ∧ _ ∧ _)
    rw [rdI_ok11 (by simp only [List.length_drop]; omega)] at h7
    obtain ⟨rfl, rfl, rfl⟩ := (by simpa only [Prod.mk.injEq] using h7 : _ ∧ _ ∧ _)
    rw [rdI_ok11 (by simp only [List.length_drop]; omega)] at h8
    obtain ⟨rfl, rfl, rfl⟩ := (by simpa only [Prod.mk.injEq] using h8 : _ ∧ _ ∧ _)
    rw [rdT_ok11 (by simp only [List.length_drop]; omega)] at h9
    obtain ⟨rfl, rfl, rfl⟩ := (by simpa only [Prod.mk.injEq] using h9 : _ ∧ _ ∧ _)
    rw [rdT_ok11 (by simp only [List.length_drop]; omega)] at h10
    obtain ⟨rfl, rfl, rfl⟩ := (by simpa only [Prod.mk.injEq] using h10 : _ ∧ _ ∧ _)
    refine ⟨rfl, ?_⟩
    unfold StartV
    simp only [List.drop_drop]
    refine ⟨?_, ?_, ?_, ?_, ?_, ?_, ?_, ?_, ?_, ?_, ?_⟩
    · exact (congrArg num (drop20 S 0 1 (by omega))).trans (num_byt S 0 (by omega))
    · exact (congrArg num (drop20 S 1 1 (by omega))).trans (num_byt S 1 (by omega))
    · exact congrArg num (drop20 S 2 2 (by omega))
    · exact congrArg num (drop20 S 4 2 (by omega))
    · exact congrArg num (drop20 S 6 2 (by omega))
    · exact (congrArg num (drop20 S 8 1 (by omega))).trans (num_byt S 8 (by omega))
    · exact (congrArg num (drop20 S 9 1 (by omega))).trans (num_byt S 9 (by omega))
    · simp only [List.length_take, List.length_drop]; omega
    · exact congrArg num (drop20 S 12 4 (by omega))
    · simp only [List.length_take, List.length_drop]; omega
    · exact congrArg num (drop20 S 16 4 (by omega))
/-! ### Take and FromBytes -/
set_option maxHeartbeats 2000000 in
theorem takeB_any (B p n : Nat) (N : Int) (hN : (n : Int) = N) (l : List UInt8) (err : Nat) (w : World) (h : RdB w B p l (err : Int)) (hm : l.length ≤ 9223372036854775807) :
    Calls Try.prog 45 #[.pointer (some ⟨p, 0, none⟩), .int .i64 N] w fun e w' => e = .returned (.string (str (rdT l err n).1)) ∧ RdB w' B p (rdT l err n).2.1 ((rdT l err n).2.2 : Int) ∧ w.grownBy w' (some p) := by
  subst hN
  have hd : decide (0 ≤ (n : Int)) = true := by simp
  unfold rdT
  by_cases he : err ≠ 0
  · rw [if_pos he]
    have HNX := Lib.hid (fun (W : World) (hh : Rd W p l (err : Int)) => next_err p l (err : Int) (n : Int) true W hh (by omega))
    have HR := Lib.hid h
    have hcv := bs_string (l := []) (A := none) (cap := 0) (bs_nil w 0)
    simp only [List.length_nil] at hcv
    clear h he
    go_enter Try.func45, Try.ntmps45
    go_wp2_with fail
    refine (HNX.out _ HR.out.rd).mono ?_
    rintro e w1 ⟨rfl, rfl⟩
    go_wp2_with fail
    go_ret
    exact ⟨rfl, HR.out, only_refl ..⟩
  · obtain rfl : err = 0 := by omega
    rw [if_neg (by simp)]
    by_cases hs : l.length < n
    · rw [if_pos hs]
      go_enter Try.func45, Try.ntmps45
      go_wp2_with fail
      refine (nextB_short B p l n _ h hm (by omega)).mono ?_
      rintro e w1 ⟨rfl, h1, hg1⟩
      have hcv := bs_string (l := []) (A := none) (cap := 0) (bs_nil w1 0)
      simp only [List.length_nil] at hcv
      go_wp2_with fail
      go_ret
      exact ⟨rfl, h1, hg1⟩
    · rw [if_neg hs]
      have hlen : (l.take n).length = n := by rw [List.length_take]; omega
      have HL := Lib.hid hlen
      clear hlen
      have hn : n ≤ l.length := by omega
      clear hs
      go_enter Try.func45, Try.ntmps45
      go_wp2_with fail
      refine (nextB_ok B p l n _ h hm hn).mono ?_
      rintro e w1 ⟨A, rfl, hbs, h2, hg1⟩
      have hcv := bs_string (l := l.take n) (A := A) (cap := n) (w := w1) (base := 0) (by rw [HL.out]; exact hbs)
      rw [HL.out] at hcv
      go_wp2_with fail
      go_ret
      exact ⟨rfl, h2, hg1⟩
def adN (L : List UInt8) : Nat × Nat := if L.length = 4 then (num L, 0) else (0, 2)
theorem adN_lt (L : List UInt8) : (adN L).1 < 4294967296 := by
  unfold adN
  split
  · next h => have := num_lt L; rw [h] at this; exact this
  · decide
theorem from11_any (D : ByteArray) (L : List UInt8) (h : D = str L) (hl : L.length = 4 ∨ L.length = 0) (w : World) :
    Calls Try.prog 44 #[.string D] w fun e w' => e = .returned (.tuple #[.agg #[.bool false, .int .u64 0, .int .u64 ((adN L).1 : Int)], .int .i64 ((adN L).2 : Int)]) ∧ Below w.heap.size w w' := by
  subst h
  refine (qfrom_any (str L) w (by rw [str_size]; omega)).mono ?_
  rintro e w' ⟨rfl, hb⟩
  refine ⟨?_, hb⟩
  rw [str_toList]
  unfold fbRes adN
  rcases hl with h | h
  · rw [if_pos h, if_pos h]; rfl
  · rw [if_neg (by omega), if_neg (by omega), if_neg (by omega)]; rfl
/-! ### The state in memory -/
def zS : Array Value := #[.int .i64 0, .int .i64 0, .int .i64 0, .bool false, .int .i64 0, .int .i64 0, .int .i64 0, .int .i64 0, .bool false, .bool false, .int .i64 0, .bool false, .int .u64 0, .int .u64 0, .bool false, .int .u64 0, .int .u64 0, .slice none 0 0, .string ⟨#[]⟩]
variable {wb W W' : World} {g0 gx p err : Nat} {cs : Array Value} {l l' : List UInt8}
/-! ### Bits -/
theorem and_pow (n k : Nat) (h : n < 2 ^ 63) (hk : k ≤ 60) : bits .and .i64 (n : Int) ((2 ^ k : Nat) : Int) = ((n / 2 ^ k % 2 * 2 ^ k : Nat) : Int) := by
  have hk63 : 2 ^ k ≤ 2 ^ 60 := Nat.pow_le_pow_right (by decide) hk
  have e : n &&& 2 ^ k = n / 2 ^ k % 2 * 2 ^ k := by
    apply Nat.eq_of_testBit_eq
    intro j
    rw [Nat.testBit_and, Nat.testBit_two_pow, Nat.testBit_mul_two_pow]
    by_cases hj : k = j
    · subst hj
      simp [Nat.testBit_eq_decide_div_mod_eq]
    · rw [decide_eq_false hj, Bool.and_false]
      by_cases hjk : k ≤ j
      · have : (n / 2 ^ k % 2).testBit (j - k) = false := Nat.testBit_lt_two_pow (Nat.lt_of_lt_of_le (Nat.mod_lt _ (by decide)) (by
          have : 2 ^ 1 ≤ 2 ^ (j - k) := Nat.pow_le_pow_right (by decide) (by omega)
          exact this))
        rw [this, Bool.and_false]
      · rw [decide_eq_false hjk, Bool.false_and]
  have ht : (2 : Nat) ^ IntKind.i64.bits = 18446744073709551616 := by decide
  show IntKind.i64.wrap (((((n : Int) % ((2 : Nat) ^ IntKind.i64.bits : Nat)).toNat &&& (((2 ^ k : Nat) : Int) % ((2 : Nat) ^ IntKind.i64.bits : Nat)).toNat) : Nat) : Int) = _
  rw [ht]
  have hle : n / 2 ^ k % 2 * 2 ^ k ≤ 2 ^ 60 := by
    have : n / 2 ^ k % 2 ≤ 1 := by omega
    calc n / 2 ^ k % 2 * 2 ^ k ≤ 1 * 2 ^ k := Nat.mul_le_mul_right _ this
      _ ≤ 2 ^ 60 := by omega
  generalize n / 2 ^ k % 2 * 2 ^ k = X at *
  generalize 2 ^ k = P at *
  have e1 : ((n : Int) % (18446744073709551616 : Nat)).toNat = n := by omega
  have e2 : ((P : Int) % (18446744073709551616 : Nat)).toNat = P := by omega
  rw [e1, e2, e]
  exact IntWalk.i64_in _ (by omega)
theorem and_bit (n k : Nat) (h : n < 2 ^ 63) (hk : k ≤ 60) : (bits .and .i64 (n : Int) ((2 ^ k : Nat) : Int) != 0) = decide (n / 2 ^ k % 2 = 1) := by
  rw [and_pow n k h hk]
  have hp : 0 < 2 ^ k := Nat.pow_pos (by decide)
  by_cases hb : n / 2 ^ k % 2 = 1
  · rw [hb, decide_eq_true rfl, bne_iff_ne]
    omega
  · rw [decide_eq_false hb, show n / 2 ^ k % 2 = 0 by omega]
    simp
theorem and15_i64 (n : Nat) (h : n < 2 ^ 63) : bits .and .i64 (n : Int) 15 = ((n % 16 : Nat) : Int) := by
  have ht : (2 : Nat) ^ IntKind.i64.bits = 18446744073709551616 := by decide
  show IntKind.i64.wrap (((((n : Int) % ((2 : Nat) ^ IntKind.i64.bits : Nat)).toNat &&& ((15 : Int) % ((2 : Nat) ^ IntKind.i64.bits : Nat)).toNat) : Nat) : Int) = _
  rw [ht]
  have e1 : ((n : Int) % (18446744073709551616 : Nat)).toNat = n := by omega
  have e2 : ((15 : Int) % (18446744073709551616 : Nat)).toNat = 2 ^ 4 - 1 := by decide
  rw [e1, e2, Nat.and_two_pow_sub_one_eq_mod]
  exact IntWalk.i64_in _ (by omega)
end Go.Proofs.Ytjjldolafnfpoaa
