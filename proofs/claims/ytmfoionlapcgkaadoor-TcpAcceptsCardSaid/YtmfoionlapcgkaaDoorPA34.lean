/- Contracts of the functions, part 34: TcpUtf, TcpPCh, TcpPRo. -/
import Derived.Laws.Cover4
import Derived.Laws.RangeAny
import Derived.Lib.OthersKept
import Derived.Deep.Cut
import Derived.Laws.OwnMore
import Derived.Test.YtmfoionlapcgkaaDoorPA6
import Derived.Test.YtmfoionlapcgkaaDoorPA12
import Derived.Test.YtmfoionlapcgkaaDoorPA18
import Derived.Test.YtmfoionlapcgkaaDoorPA19
import Derived.Test.YtmfoionlapcgkaaDoorPA21
import Derived.Test.YtmfoionlapcgkaaDoorPA22
/- Plain mathematics: the characters of a string of bytes (one character for each byte) as UTF-8, and how a range over them reads; how the program's readOptions goes through the bytes of options. -/
namespace Go.Proofs.YtmfoionlapcgkaaDoor
open Go.ChangeShapes Go.WideShapes Go.ChangeAt Go.RowKit
set_option linter.unusedVariables false
set_option maxRecDepth 100000

/-- One character's bytes. -/
def ut1 (c : UInt8) : List UInt8 := if c.toNat < 128 then [c] else [UInt8.ofNat (192 + c.toNat / 64), UInt8.ofNat (128 + c.toNat % 64)]
def utL (S : List UInt8) : List UInt8 := S.flatMap ut1
theorem ut1_enc (c : UInt8) : Utf8.encode (c.toNat : Int) = str (ut1 c) := by
  have hc := u8_lt c
  have hv : Utf8.valid (c.toNat : Int) = true := by unfold Utf8.valid; simp; omega
  unfold Utf8.encode ut1
  simp only [hv, if_true, Int.toNat_natCast]
  split
  · simp [str]
  · rename_i h
    rw [if_pos (by omega)]
    rfl
theorem runes_fold (S : List UInt8) : ∀ A : List UInt8, (S.map fun c => (c.toNat : Int)).foldl (fun r n => r ++ Utf8.encode n) (str A) = str (A ++ utL S) := by
  induction S with
  | nil => intro A; simp [utL]
  | cons c r ih =>
    intro A
    rw [List.map_cons, List.foldl_cons, ut1_enc, str_append, ih]
    unfold utL
    simp
theorem runes_str (S : List UInt8) : runesBytes (S.map fun c => (c.toNat : Int)) = str (utL S) := by
  unfold runesBytes
  have := runes_fold S []
  rwa [List.nil_append] at this
/-- Where character k begins. -/
def utp (S : List UInt8) (k : Nat) : Nat := (utL (S.take k)).length
theorem utp_zero (S : List UInt8) : utp S 0 = 0 := by simp [utp, utL]
theorem utp_end (S : List UInt8) : utp S S.length = (str (utL S)).size := by unfold utp; rw [List.take_length, str_size]
theorem ut1_pos (c : UInt8) : 1 ≤ (ut1 c).length ∧ (ut1 c).length ≤ 2 := by unfold ut1; split <;> simp
theorem utp_next {S : List UInt8} {k : Nat} (h : k < S.length) : utp S (k + 1) = utp S k + (ut1 S[k]).length := by
  unfold utp utL
  rw [List.take_succ_eq_append_getElem h, List.flatMap_append, List.length_append]
  simp
theorem utL_split {S : List UInt8} {k : Nat} (h : k < S.length) : utL S = utL (S.take k) ++ (ut1 S[k] ++ utL (S.drop (k + 1))) := by
  have e : S = S.take k ++ S[k] :: S.drop (k + 1) := by rw [← List.drop_eq_getElem_cons h, List.take_append_drop]
  exact (congrArg (List.flatMap ut1) e).trans (by rw [List.flatMap_append, List.flatMap_cons]; rfl)
theorem utp_lt {S : List UInt8} {k : Nat} (h : k < S.length) : utp S k < (str (utL S)).size := by
  rw [str_size, utL_split h, List.length_append, List.length_append]
  have := (ut1_pos S[k]).1
  show (utL (S.take k)).length < _
  omega
theorem str_getE (L : List UInt8) (i : Nat) (h : i < L.length) (h2 : i < (str L).size) : (str L)[i]'h2 = L[i] := by
  exact (show (str L)[i]'h2 = L.toArray[i]'(by simpa using h) from rfl).trans (List.getElem_toArray _)
/-- What a range over the characters reads at the k-th. -/
theorem utf_next {S : List UInt8} {k : Nat} (h : k < S.length) : Utf8.decode (str (utL S)) (utp S k) = (S[k].toNat, (ut1 S[k]).length) := by
  have hlt := utp_lt h
  have hc := u8_lt S[k]
  have hsp := utL_split h
  have hp : utp S k = (utL (S.take k)).length := rfl
  have hsz := str_size (utL S)
  have hlen : (utL S).length = (utL (S.take k)).length + ((ut1 S[k]).length + (utL (S.drop (k + 1))).length) := by rw [hsp, List.length_append, List.length_append]
  by_cases ha : S[k].toNat < 128
  · have e1 : ut1 S[k] = [S[k]] := by unfold ut1; rw [if_pos ha]
    have g0 : (str (utL S))[utp S k]'hlt = S[k] := by
      rw [str_getE _ _ (by omega)]
      have : (utL S)[utp S k]? = some S[k] := by rw [hsp, e1, hp, List.getElem?_append_right (Nat.le_refl _)]; simp
      obtain ⟨_, e⟩ := List.getElem?_eq_some_iff.1 this
      exact e
    rw [decode_ascii _ _ hlt (by rw [g0]; exact ha), g0, e1]
    rfl
  · have e1 : ut1 S[k] = [UInt8.ofNat (192 + S[k].toNat / 64), UInt8.ofNat (128 + S[k].toNat % 64)] := by unfold ut1; rw [if_neg ha]
    rw [e1] at hlen
    simp only [List.length_cons, List.length_nil] at hlen
    have hlt1 : utp S k + 1 < (str (utL S)).size := by omega
    have g0 : ((str (utL S))[utp S k]'hlt).toNat = 192 + S[k].toNat / 64 := by
      rw [str_getE _ _ (by omega)]
      have : (utL S)[utp S k]? = some (UInt8.ofNat (192 + S[k].toNat / 64)) := by rw [hsp, e1, hp, List.getElem?_append_right (Nat.le_refl _)]; simp
      obtain ⟨_, e⟩ := List.getElem?_eq_some_iff.1 this
      exact (congrArg UInt8.toNat e).trans (u8n (by omega))
    have g1 : ((str (utL S))[utp S k + 1]'hlt1).toNat = 128 + S[k].toNat % 64 := by
      rw [str_getE _ _ (by omega)]
      have : (utL S)[utp S k + 1]? = some (UInt8.ofNat (128 + S[k].toNat % 64)) := by rw [hsp, e1, hp, List.getElem?_append_right (by omega), show (utL (S.take k)).length + 1 - (utL (S.take k)).length = 1 by omega]; simp
      obtain ⟨_, e⟩ := List.getElem?_eq_some_iff.1 this
      exact (congrArg UInt8.toNat e).trans (u8n (by omega))
    generalize hT : str (utL S) = T at *
    generalize utp S k = p at *
    generalize hx : S[k].toNat = x at *
    have q0 : (T.get! (p + 0)).toNat = 192 + x / 64 := by rw [get_at T p hlt, g0]
    have q1 : (T.get! (p + 1)).toNat = 128 + x % 64 := by
      rw [← g1, show T.get! (p + 1) = T.get! (p + 1 + 0) from rfl, get_at T (p + 1) hlt1]
    unfold Utf8.decode
    simp only [q0, q1]
    rw [if_neg (by omega)]
    have k1 : ((192 + x / 64) / 32 == 6) = true := by rw [beq_iff_eq]; omega
    have k2 : ((128 + x % 64) / 64 == 2) = true := by rw [beq_iff_eq]; omega
    have k3 : decide (p + 1 < T.size) = true := decide_eq_true hlt1
    simp only [k1, k2, k3, Bool.and_self, if_true]
    rw [if_pos (by omega), e1]
    congr 1
    omega

/-! ### How readOptions goes through the bytes -/
/-- Where readOptions stands: R = what it will answer, i = how far it is, kd = the kind whose length comes next, m = how many bytes the last option lacks, out = the options so far. -/
inductive InvO (S : List UInt8) (R : Option (List OpR)) : Nat → Nat → Nat → List OpR → Prop
  | free (i : Nat) (out : List OpR) (h : R = (optsD (S.drop i)).map (out ++ ·)) : InvO S R i 0 0 out
  | kind (i kd : Nat) (out : List OpR) (hi : i < S.length) (hk : S[i].toNat = kd) (h2 : 2 ≤ kd) (h : R = (optsD (S.drop i)).map (out ++ ·)) : InvO S R (i + 1) kd 0 out
  | data (j m x n : Nat) (out : List OpR) (hj : j + 1 < S.length) (hx : S[j].toNat = x) (h2 : 2 ≤ x) (hl : S[j + 1].toNat = 2 + n + m) (hm : 0 < m) (h : R = (optsD (S.drop j)).map (out ++ ·)) :
      InvO S R (j + 2 + n) 0 m (out ++ [⟨(x : Int), (S.drop (j + 2)).take n⟩])
theorem optsD_map {S : List UInt8} {i : Nat} (h : i + 1 < S.length) (h0 : 2 ≤ S[i].toNat) (hb : 2 ≤ S[i + 1].toNat) (hc : i + S[i + 1].toNat ≤ S.length) (out : List OpR) :
    (optsD (S.drop i)).map (out ++ ·) = (optsD (S.drop (i + S[i + 1].toNat))).map ((out ++ [⟨(S[i].toNat : Int), (S.drop (i + 2)).take (S[i + 1].toNat - 2)⟩]) ++ ·) := by
  rw [optsD_opt h (by omega) (by omega) hb hc, Option.map_map]
  congr 1
  funext l
  simp
theorem InvO.lack {S : List UInt8} {R : Option (List OpR)} {i kd m : Nat} {out : List OpR} (h : InvO S R i kd m out) (hm : 0 < m) : kd = 0 ∧ ∃ out0 x D, out = out0 ++ [⟨x, D⟩] := by
  cases h with
  | free => omega
  | kind => omega
  | data j m x n out => exact ⟨rfl, _, _, _, rfl⟩
theorem InvO.stepData {S : List UInt8} {R : Option (List OpR)} {i kd m : Nat} {x : Int} {D : List UInt8} {out : List OpR} (h : InvO S R i kd m (out ++ [⟨x, D⟩])) (hm : 0 < m) (hi : i < S.length) : InvO S R (i + 1) 0 (m - 1) (out ++ [⟨x, D ++ [S[i]]⟩]) := by
  generalize ho : out ++ [⟨x, D⟩] = o at h
  cases h with
  | free => omega
  | kind => omega
  | data j m y n out0 hj hx h2 hl _ h =>
    obtain ⟨rfl, e⟩ := List.append_inj' ho rfl
    obtain ⟨rfl, rfl⟩ := (by simpa using e : x = (y : Int) ∧ D = (S.drop (j + 2)).take n)
    have e3 : (S.drop (j + 2)).take n ++ [S[j + 2 + n]] = (S.drop (j + 2)).take (n + 1) := by
      rw [List.take_succ_eq_append_getElem (by rw [List.length_drop]; omega)]
      simp
    rw [e3]
    by_cases h1 : m = 1
    · subst h1
      have := optsD_map hj (by omega) (by omega) (by omega) out
      rw [hl] at this
      rw [show j + 2 + n + 1 = j + (2 + n + 1) by omega]
      refine InvO.free _ _ ?_
      rw [h, this, hx, show 2 + n + 1 - 2 = n + 1 by omega]
    · rw [show j + 2 + n + 1 = j + 2 + (n + 1) by omega]
      exact InvO.data j (m - 1) y (n + 1) out hj hx h2 (by omega) (by omega) h
theorem InvO.badLen {S : List UInt8} {R : Option (List OpR)} {i kd : Nat} {out : List OpR} (h : InvO S R i kd 0 out) (hk : kd ≠ 0) (hi : i < S.length) (hc : S[i].toNat < 2) : R = none := by
  cases h with
  | free => omega
  | kind j kd out hj hx h2 h =>
    rw [h, optsD_bad hi (by omega) (by omega) (.inl hc)]
    rfl
  | data => omega
theorem InvO.stepLen {S : List UInt8} {R : Option (List OpR)} {i kd : Nat} {out : List OpR} (h : InvO S R i kd 0 out) (hk : kd ≠ 0) (hi : i < S.length) (hc : 2 ≤ S[i].toNat) : InvO S R (i + 1) 0 (S[i].toNat - 2) (out ++ [⟨(kd : Int), []⟩]) := by
  cases h with
  | free => omega
  | kind j kd out hj hx h2 h =>
    by_cases h1 : S[j + 1].toNat = 2
    · rw [h1]
      refine InvO.free _ _ ?_
      have := optsD_map hi (by omega) (by omega) (by omega) out
      rw [h1] at this
      rw [h, this, hx]
      simp
    · exact InvO.data j _ kd 0 out hi hx h2 (by omega) (by omega) h
  | data => omega
theorem InvO.stop {S : List UInt8} {R : Option (List OpR)} {i : Nat} {out : List OpR} (h : InvO S R i 0 0 out) (hi : i < S.length) (hc : S[i].toNat = 0) : R = some out := by
  generalize hz : 0 = z at h
  cases h with
  | free _ _ h => rw [h, optsD_zero hi hc]; simp
  | kind => omega
  | data => omega
theorem InvO.skip {S : List UInt8} {R : Option (List OpR)} {i : Nat} {out : List OpR} (h : InvO S R i 0 0 out) (hi : i < S.length) (hc : S[i].toNat = 1) : InvO S R (i + 1) 0 0 out := by
  generalize hz : 0 = z at h
  cases h with
  | free _ _ h => exact InvO.free _ _ (by rw [h, optsD_one hi hc])
  | kind => omega
  | data => omega
theorem InvO.stepKind {S : List UInt8} {R : Option (List OpR)} {i : Nat} {out : List OpR} (h : InvO S R i 0 0 out) (hi : i < S.length) (hc : 2 ≤ S[i].toNat) : InvO S R (i + 1) S[i].toNat 0 out := by
  generalize hz : 0 = z at h
  cases h with
  | free _ _ h => exact InvO.kind i _ out hi rfl hc h
  | kind => omega
  | data => omega
theorem InvO.endOk {S : List UInt8} {R : Option (List OpR)} {i : Nat} {out : List OpR} (h : InvO S R i 0 0 out) (hi : S.length ≤ i) : R = some out := by
  generalize hz : 0 = z at h
  cases h with
  | free _ _ h => rw [h, optsD_end S i hi]; simp
  | kind => omega
  | data => omega
theorem InvO.endBad {S : List UInt8} {R : Option (List OpR)} {i kd m : Nat} {out : List OpR} (h : InvO S R i kd m out) (hi : S.length ≤ i) (hb : kd ≠ 0 ∨ 0 < m) : R = none := by
  cases h with
  | free => omega
  | kind j kd out hj hx h2 h =>
    rw [h, optsD_last hj (by omega) (by omega) hi]
    rfl
  | data j m x n out hj hx h2 hl hm h =>
    rw [h, optsD_bad hj (by omega) (by omega) (.inr (by omega))]
    rfl
end Go.Proofs.YtmfoionlapcgkaaDoor

/- Contract of the program of layer 14: characters (one character for each byte). -/
namespace Go.Proofs.YtmfoionlapcgkaaDoor
open Go.ChangeShapes Go.WideShapes Go.ChangeAt Go.RowKit
set_option linter.unusedVariables false
set_option maxRecDepth 100000

/-- Bytes as characters. -/
def E32 : Enc UInt8 := ⟨1, by decide, fun x => [.int .i32 (x.toNat : Int)], fun _ => rfl, fun s v hv => by
  simp only [List.mem_cons, List.not_mem_nil, or_false] at hv
  subst hv
  rfl⟩
theorem info_r32 : (Tryd.prog.info? 21).map (fun i => (i.zero, i.size, i.bytes)) = some (some (.int .i32 0), 1, 4) := by kernel_rfl
theorem r32Ty : ElemTy 94 21 1 4 :=
  ⟨Tryd.underlying94, by
    obtain ⟨i, h1, h2, h3, h4⟩ := info_parts info_r32
    exact ⟨i, _, h1, h2, h3, h4, rfl⟩⟩
theorem e32_cells (l : List UInt8) : E32.cells l = l.map (fun c => Value.int .i32 (c.toNat : Int)) := by
  induction l with
  | nil => rfl
  | cons a r ih => rw [Enc.cells_cons, ih]; rfl
/-- 'string(l)' of such characters. -/
theorem own_runes {w : World} {base n c : Nat} {A : Option Addr} {l : List UInt8} (h : w.ownsRow base 21 1 (.slice A n c) n (E32.cells l)) (hn : n = l.length) : (convert 94 9 (.slice A n c)).run Tryd.prog w = .ok (.string (str (utL l))) w := by
  cases A with
  | none =>
    have hn0 := (own_none h).1
    rw [run_convert_runes_nil w 94 9 21 n c Tryd.underlying94 Tryd.underlying21 Tryd.underlying9]
    have : l = [] := List.eq_nil_of_length_eq_zero (by omega)
    subst this
    rfl
  | some a =>
    obtain ⟨ab, ao, ap⟩ := a
    have hs : ao = 0 ∧ ap = none := by
      rcases h.2 with ⟨e, _⟩ | ⟨g', cap', cur, e, _⟩
      · simp at e
      · simp at e
        exact ⟨e.1.2.1, e.1.2.2⟩
    obtain ⟨rfl, rfl⟩ := hs
    rw [run_convert_runes w 94 9 21 ⟨ab, 0, none⟩ n c (l.map fun c => (c.toNat : Int)) (by simp; omega) Tryd.underlying94 Tryd.underlying21 Tryd.underlying9 (fun j hj => ?_)]
    · rw [List.take_of_length_le (by simp; omega), runes_str]
    · rw [List.length_map] at hj
      have := h.cellAt j (by omega)
      rw [e32_cells] at this
      unfold Addr.add
      rw [show (if j = 0 then (⟨ab, 0, none⟩ : Addr) else ⟨ab, 0 + j, none⟩) = ⟨ab, j, none⟩ by split <;> simp_all]
      rw [this, List.getElem?_map, List.getElem?_eq_getElem hj]
      simp [List.getD, List.getElem?_eq_getElem hj]
set_option maxHeartbeats 4000000 in
theorem pchars14_any (S : List UInt8) (w : World) (hs : S.length ≤ 100000) :
    Calls Tryd.prog 56 #[.string (str S)] w fun e w' => e = .returned (.string (str (utL S))) ∧ Below w.heap.size w w' := by
  obtain ⟨s, hS⟩ : ∃ s, s = str S := ⟨_, rfl⟩
  have hsz : s.size = S.length := by rw [hS, str_size]
  obtain ⟨n, hn⟩ : ∃ n, n = s.size := ⟨_, rfl⟩
  have hn1 : n ≤ 100000 := by omega
  have HN := Lib.hid (show n = S.length by omega)
  have HAT := Lib.hid (fun (k : Nat) (hk : k < S.length) (h2 : k < s.size) => show s[k]'h2 = S[k] from by subst hS; exact str_getE S k hk h2)
  have HO0 := Lib.hid (show w.ownsRow w.heap.size 21 1 (.slice none 0 0) 0 (E32.cells []) from World.ownsRow_nil w w.heap.size 21 1)
  have hns : s.size = n := hn.symm
  rw [← hS]
  clear hS hsz hn hs
  go_enter Tryd.func56, Tryd.ntmps56
  go_wp2_with fail
  go_loopw [3, 7] (fun v3 v7 wr => ∃ (k : Nat) (A : Option Addr) (c : Nat), v3 = .slice A k c ∧ v7 = .int .i64 (k : Int) ∧ k ≤ n ∧ Hid (wr.ownsRow w.heap.size 21 1 (.slice A k c) k (E32.cells (S.take k))) ∧ Hid (Below w.heap.size w wr)) (fun _ v7 _ => n - (intOf v7).toNat)
  case atStart => exact ⟨0, none, 0, rfl, rfl, Nat.zero_le _, HO0, Lib.hid (Below.refl _ _)⟩
  case round =>
    clear HO0
    obtain ⟨k, A, c, rfl, rfl, hk, HO, HB⟩ := hrel
    by_cases hlt : k < n
    · have hki : (k : Int) < (n : Int) := by omega
      have dlt : decide ((k : Int) < (n : Int)) = true := by simp; omega
      have hks : k < s.size := by omega
      have hx := HAT.out k (by have := HN.out; omega) hks
      obtain ⟨x, hxx⟩ : ∃ x, x = S[k]'(by have := HN.out; omega) := ⟨_, rfl⟩
      rw [← hxx] at hx
      obtain ⟨b, hb⟩ : ∃ b, b = x.toNat := ⟨_, rfl⟩
      have hbl : b < 256 := by rw [hb]; exact u8_lt x
      have hxb : (((s[k]'hks).toNat : Nat) : Int) = (b : Int) := by rw [hx, hb]
      have wb : IntKind.i32.wrap (b : Int) = (b : Int) := by rw [IntKind.wrap_i32]; omega
      have HTK := Lib.hid (show S.take (k + 1) = S.take k ++ [x] by rw [List.take_succ_eq_append_getElem (by have := HN.out; omega), hxx])
      have HEC := Lib.hid (show E32.cells [x] = [.int .i32 (b : Int)] by rw [e32_cells, hb]; rfl)
      have hbw := HB.out.size
      have HBW := Lib.hid hbw
      clear hx hxx hb
      go_wp2_with (at_builtin; refine wpList_push (E := E32) r32Ty (by rfl) _ _ (by rfl) w.heap.size _ k (S.take k) [x] (by rfl) (HO.out.alloc _) _ 1 1 #[.int .i32 (b : Int)] (0, 0) (by rfl) (heap_alloc_new _ _) HEC.out.symm rfl (by omega) (by omega) (by decide) ?hb ?_)
      case hb => have := HBW.out; simp; omega
      intro g2 cap2 w9 hown hgrow hat hlt2
      have HB9 := Lib.hid ((HB.out.alloc HB.out.size (.cells #[.int .i32 (b : Int)] 21)).grown hgrow (by have := HBW.out; simp; omega) (fun j hj => (own_blk_in HO.out _ hj).1))
      have HO9 := Lib.hid (show w9.ownsRow w.heap.size 21 1 (.slice (some ⟨g2, 0, none⟩) (k + 1) cap2) (k + 1) (E32.cells (S.take (k + 1))) by rw [HTK.out]; exact hown)
      clear hown hgrow hat hlt2 HB HO
      go_wp2_with fail
      go_roundw
      case rel => exact ⟨k + 1, _, cap2, rfl, by go_num, by omega, HO9, HB9⟩
      case measure => simp [intOf]; omega
    · obtain rfl : k = n := by omega
      have dlt : decide ((k : Int) < (k : Int)) = false := by simp
      have nlt : ¬ (k : Int) < (k : Int) := by omega
      have hown := HO.out
      rw [HN.out, List.take_length] at hown
      have hcv := own_runes hown rfl
      rw [← HN.out] at hcv
      clear hown
      go_wp2_with fail
      go_ret
      exact ⟨rfl, HB.out⟩
end Go.Proofs.YtmfoionlapcgkaaDoor

/- Contract of the program of layer 14: readOptions. -/
namespace Go.Proofs.YtmfoionlapcgkaaDoor
open Go.ChangeShapes Go.WideShapes Go.ChangeAt Go.RowKit
set_option linter.unusedVariables false
set_option maxRecDepth 100000

theorem InvO.datLen {S : List UInt8} {R : Option (List OpR)} {i kd m : Nat} {x : Int} {D : List UInt8} {out : List OpR} (h : InvO S R i kd m (out ++ [⟨x, D⟩])) (hm : 0 < m) : D.length ≤ S.length := by
  generalize ho : out ++ [⟨x, D⟩] = o at h
  cases h with
  | free => omega
  | kind => omega
  | data j m y n out0 hj hx h2 hl _ h =>
    obtain ⟨rfl, e⟩ := List.append_inj' ho rfl
    obtain ⟨rfl, rfl⟩ := (by simpa using e : x = (y : Int) ∧ D = (S.drop (j + 2)).take n)
    rw [List.length_take, List.length_drop]
    omega
theorem one_str14 (W : World) (g b : Nat) (hb : b < 256) (h : W.heap[g]? = some (.cells #[.int .u8 (b : Int)] 5 (0, 0))) : (convert 48 9 (.slice (some ⟨g, 0, none⟩) 1 1)).run Tryd.prog W = .ok (.string (str [UInt8.ofNat b])) W := by
  have hla : (UInt8.ofNat b).toNat = b := by rw [UInt8.toNat_ofNat']; omega
  have hbs : BS W 0 (.slice (some ⟨g, 0, none⟩) [UInt8.ofNat b].length 1) [UInt8.ofNat b] := by
    refine ⟨some ⟨g, 0, none⟩, 1, rfl, Nat.le_refl _, fun _ => ⟨g, 0, rfl, Nat.zero_le _, (Array.getElem?_eq_some_iff.1 h).1, fun j hj => ?_⟩⟩
    have hj2 : j = 0 := by simp at hj; omega
    subst hj2
    simp [World.cell?, World.frozen?, h, hla]
  exact bs_string hbs
theorem own_iter {w : World} {base k pos : Nat} {s : ByteArray} {e : TypeId} {size n : Nat} {v : Value} {xs : List Value} (h : w.ownsRow base e size v n xs) (hk : k < base) : (w.iterAt k s pos).ownsRow base e size v n xs := by
  refine ⟨h.1, ?_⟩
  rcases h.2 with hn | ⟨g, cap, cur, hv, hbg, hg, rest⟩
  · exact .inl hn
  · exact .inr ⟨g, cap, cur, hv, hbg, (Lib.iterAt_other w k g s pos (by omega)).trans hg, rest⟩
theorem opt_set (out : List OpR) (x : Int) (D : List UInt8) (c : UInt8) : (EOpt.cells (out ++ [⟨x, D⟩])).set (out.length * 2 + 1) (.string (str D ++ str [c])) = EOpt.cells (out ++ [⟨x, D ++ [c]⟩]) := by
  rw [Enc.cells_append, Enc.cells_append, List.set_append_right _ _ (by rw [EOpt.cells_length]; show out.length * 2 ≤ _; omega), EOpt.cells_length, show out.length * 2 + 1 - out.length * EOpt.k = 1 by show out.length * 2 + 1 - out.length * 2 = 1; omega, str_append]
  rfl
theorem opt_get (out : List OpR) (x : Int) (D : List UInt8) : (EOpt.cells (out ++ [⟨x, D⟩]))[out.length * 2 + 1]? = some (.string (str D)) := by
  rw [Enc.cells_append, List.getElem?_append_right (by rw [EOpt.cells_length]; show out.length * 2 ≤ _; omega), EOpt.cells_length, show out.length * 2 + 1 - out.length * EOpt.k = 1 by show out.length * 2 + 1 - out.length * 2 = 1; omega]
  rfl
/-- What readOptions answers. -/
def OptPT (w : World) (r : Option (List OpR)) (e : Ending) (w' : World) : Prop :=
  match r with
  | none => e = .returned (.tuple #[.slice none 0 0, .bool false]) ∧ Below w.heap.size w w'
  | some l => ∃ A c, e = .returned (.tuple #[.slice A l.length c, .bool true]) ∧ RowL EOpt w' A l ∧ (A = none → c = 0) ∧ (∀ a, A = some a → w.heap.size ≤ a.block) ∧ Below w.heap.size w w'
set_option maxHeartbeats 8000000 in
set_option maxRecDepth 100000 in
theorem props14_any (S : List UInt8) (w : World) (hs : S.length ≤ 1000) :
    Calls Tryd.prog 29 #[.string (str S)] w (OptPT w (optsD S)) := by
  obtain ⟨N, hN⟩ : ∃ N, N = S.length := ⟨_, rfl⟩
  obtain ⟨R, hR⟩ : ∃ R, R = optsD S := ⟨_, rfl⟩
  rw [← hR]
  have HI0 := Lib.hid (show InvO S R 0 0 0 [] from InvO.free 0 [] (by rw [hR, List.drop_zero]; cases optsD S <;> rfl))
  obtain ⟨T, hT⟩ : ∃ T, T = str (utL S) := ⟨_, rfl⟩
  have HCH := Lib.hid (fun (W : World) => show Calls Tryd.prog 56 #[.string (str S)] W fun e w' => e = .returned (.string T) ∧ Below W.heap.size W w' from by rw [hT]; exact pchars14_any S W (by omega))
  have HNX := Lib.hid (fun (i : Nat) (hi : i < S.length) => show Utf8.decode T (utp S i) = (S[i].toNat, utp S (i + 1) - utp S i) ∧ utp S i < T.size ∧ utp S i < utp S (i + 1) from by
    rw [hT]
    refine ⟨?_, utp_lt hi, ?_⟩
    · rw [utf_next hi, utp_next hi, Nat.add_sub_cancel_left]
    · rw [utp_next hi]; have := (ut1_pos S[i]).1; omega)
  have HEND := Lib.hid (show utp S S.length = T.size from by rw [hT]; exact utp_end S)
  have HZ := Lib.hid (utp_zero S)
  rw [← hN] at hs
  have HN := Lib.hid hN
  clear hR hT hN
  go_enter Tryd.func29, Tryd.ntmps29
  go_wp2_with fail
  refine (HCH.out _).mono ?_
  rintro e w1 ⟨rfl, hb1⟩
  obtain ⟨kb, hkb⟩ : ∃ k, k = w1.heap.size := ⟨_, rfl⟩
  obtain ⟨W2, hW2⟩ : ∃ W, W = w1.alloc (.stringIter T 0) := ⟨_, rfl⟩
  have HIT0 := Lib.hid (show W2.heap[kb]? = some (.stringIter T 0) from by rw [hW2, hkb]; exact heap_alloc_new w1 _)
  have HB0 := Lib.hid (show Below w.heap.size w W2 from by rw [hW2]; exact hb1.trans ((below_alloc6 w1 _).mono hb1.size))
  have hwk : w.heap.size ≤ kb := by rw [hkb]; exact hb1.size
  have HWK := Lib.hid hwk
  have HO0 := Lib.hid (show W2.ownsRow (kb + 1) 51 2 (.slice none 0 0) 0 (EOpt.cells []) from World.ownsRow_nil W2 (kb + 1) 51 2)
  have hit : w1.iter T 0 = W2 := hW2.symm
  clear hb1 HCH hwk
  go_wp2_with fail
  rw [← hkb]
  try rw [← hW2]
  clear hkb hW2 hit
  go_loopw [4, 5, 6] (fun v4 v5 v6 wr => ∃ (i kd m n : Nat) (A : Option Addr) (c : Nat) (out : List OpR), v4 = .slice A n c ∧ v5 = .int .i64 (kd : Int) ∧ v6 = .int .i64 (m : Int) ∧ i ≤ N ∧ kd < 256 ∧ m < 256 ∧ n ≤ N ∧ Hid (wr.heap[kb]? = some (.stringIter T (utp S i))) ∧ Hid (InvO S R i kd m out) ∧ Hid (n = out.length ∧ n ≤ i) ∧ Hid (wr.ownsRow (kb + 1) 51 2 (.slice A n c) n (EOpt.cells out)) ∧ Hid (Below w.heap.size w wr)) (fun _ _ _ wr => T.size - wr.iterPos kb)
  case atStart => exact ⟨0, 0, 0, 0, none, 0, [], rfl, rfl, rfl, Nat.zero_le _, by decide, by decide, Nat.zero_le _, Lib.hid (by rw [HZ.out]; exact HIT0.out), HI0, Lib.hid ⟨rfl, Nat.le_refl _⟩, HO0, HB0⟩
  case round =>
    clear HO0 HI0 HIT0 HB0 HZ
    obtain ⟨i, kd, m, n, A, c, out, rfl, rfl, rfl, hi, hkd, hm, hnN, HIT, HI, HNL, HO, HB⟩ := hrel
    by_cases hlt : i < N
    · have hiS : i < S.length := by have := HN.out; omega
      obtain ⟨hdec, hlt1, hlt2⟩ := HNX.out i hiS
      obtain ⟨U, hU⟩ : ∃ U, U = wr.iterAt kb T (utp S (i + 1)) := ⟨_, rfl⟩
      obtain ⟨x, hx⟩ : ∃ x, x = S[i] := ⟨_, rfl⟩
      obtain ⟨b, hb⟩ : ∃ b, b = x.toNat := ⟨_, rfl⟩
      have hbl : b < 256 := by rw [hb]; exact u8_lt x
      obtain ⟨p0, hp0⟩ : ∃ p, p = utp S i := ⟨_, rfl⟩
      have hnx : ∀ ty, (Instr.next (.pointer (some ⟨kb, 0, none⟩)) true ty).run Tryd.prog wr = .ok (.tuple #[.bool true, .int .i64 (p0 : Int), .int .i32 (b : Int)]) U := fun ty => by
        rw [Lib.run_next_any_at wr kb T (utp S i) ty HIT.out hlt1, hdec, hU, hb, hx, hp0]
        dsimp only
        rw [show utp S i + (utp S (i + 1) - utp S i) = utp S (i + 1) by omega]
      have HITU := Lib.hid (show U.heap[kb]? = some (.stringIter T (utp S (i + 1))) from by rw [hU]; exact Lib.iterAt_heap wr kb T _ _ HIT.out)
      have HOU := Lib.hid (show U.ownsRow (kb + 1) 51 2 (.slice A n c) n (EOpt.cells out) from by rw [hU]; exact own_iter HO.out (by omega))
      have HBU := Lib.hid (show Below w.heap.size w U from by rw [hU]; exact Lib.below_iterAt HB.out HWK.out _ _)
      have HKU := Lib.hid (show kb < U.heap.size from (Array.getElem?_eq_some_iff.1 HITU.out).1)
      have HME := Lib.hid (fun (Z : World) (hz : Z.heap[kb]? = some (.stringIter T (utp S (i + 1)))) => show T.size - Z.iterPos kb < T.size - wr.iterPos kb from by
        unfold World.iterPos
        rw [hz, HIT.out]
        dsimp only
        omega)
      have HX := Lib.hid (show x = S[i] from hx)
      have HBX := Lib.hid hb
      clear hU hdec hlt1 hlt2 hp0 hx hb HIT HO HB
      by_cases hm0 : 0 < m
      · have dm : decide ((0 : Int) < (m : Int)) = true := by simp; omega
        obtain ⟨hk0, out0, xk, D, rfl⟩ := HI.out.lack hm0
        subst hk0
        have HI2 := Lib.hid (show InvO S R (i + 1) 0 (m - 1) (out0 ++ [⟨xk, D ++ [x]⟩]) from by rw [HX.out]; exact HI.out.stepData hm0 hiS)
        obtain ⟨n1, hn1⟩ : ∃ n1, n1 = out0.length := ⟨_, rfl⟩
        have hnn : n = n1 + 1 := by rw [HNL.out.1, hn1]; simp
        obtain ⟨g, rfl⟩ : ∃ g, A = some ⟨g, 0, none⟩ := by
          rcases HOU.out.2 with ⟨e, e2⟩ | ⟨g', cap', cur, e, _⟩
          · omega
          · simp at e
            exact ⟨g', e.1⟩
        have hgk : kb + 1 ≤ g ∧ g < U.heap.size := own_blk_in HOU.out g rfl
        have HGK := Lib.hid hgk
        have HCE := Lib.hid (fun (W : World) (hbW : Below U.heap.size U W) => show W.cell? ⟨g, n1 * 2 + 1, none⟩ = some (Value.string (str D)) from (hbW.cell (p := ⟨g, n1 * 2 + 1, none⟩) HGK.out.2).trans ((HOU.out.cellAt (n1 * 2 + 1) (by omega)).trans (by rw [hn1]; exact opt_get out0 xk D)))
        have HFZ := Lib.hid (fun (W : World) (hbW : Below U.heap.size U W) => show W.frozen? ⟨g, n1 * 2 + 1, none⟩ = false from ((own_kept HOU.out hbW (Nat.le_refl _)).frozenAt _))
        have hni : (n1 : Int) < (n : Int) := by omega
        have hni0 : (0 : Int) ≤ (n1 : Int) := by omega
        have hsub : (n : Int) - 1 = (n1 : Int) := by omega
        have hmsub : (m : Int) - 1 = ((m - 1 : Nat) : Int) := by omega
        have wn1 : IntKind.i64.wrap (n1 : Int) = (n1 : Int) := by rw [IntKind.wrap_i64]; omega
        have ub : IntKind.u8.wrap (b : Int) = (b : Int) := by rw [IntKind.wrap_u8]; omega
        have HUX := Lib.hid (show UInt8.ofNat b = x from by rw [HBX.out]; exact UInt8.ofNat_toNat)
        obtain ⟨P, hP⟩ : ∃ P, P = str D := ⟨_, rfl⟩
        have hPs : P.size ≤ 1000 := by
          rw [hP, str_size]
          have := HI.out
          exact Nat.le_trans (InvO.datLen this hm0) (by have := HN.out; omega)
        have HP1 := Lib.hid hP
        rw [← hP] at HCE
        obtain ⟨Q, hQ⟩ : ∃ Q, Q = str [x] := ⟨_, rfl⟩
        have hQs : Q.size = 1 := by rw [hQ, str_size]; rfl
        have HQ1 := Lib.hid hQ
        have r0 : (9223372036854775807 < P.size + Q.size) = False := by simp only [eq_iff_iff, iff_false]; omega
        have HN1 := Lib.hid hn1
        have HNN := Lib.hid hnn
        have HM0 := Lib.hid hm0
        have hm1l : m - 1 < 256 := by omega
        have HML := Lib.hid hm1l
        have hnle := Lib.hid HNL.out.2
        clear hP hQ hQs hPs hgk hn1 hm0 hm1l HNL HI hnn
        go_upto_region 7 with fail
        refine wp_region_specs_tail 14 [.val (Value.slice (some ⟨g, 0, none⟩) n c), .val (Value.slice (some ⟨g, 0, none⟩) n c), .val (Value.int .i64 (n : Int)), .val (Value.int .i64 (n1 : Int)), .val (Value.pointer (some ⟨g, n1 * 2, none⟩)), .val (Value.pointer (some ⟨g, n1 * 2 + 1, none⟩)), .val (Value.string P), .val (Value.int .i32 (b : Int)), .val (Value.int .u8 (b : Int)), .row #[Value.int .u8 (b : Int)] 5 1, .val (Value.string Q), .val (Value.string (P ++ Q)), .val (Value.pointer (some ⟨g, n1 * 2, none⟩)), .val (Value.pointer (some ⟨g, n1 * 2 + 1, none⟩))] (by kernel_rfl) (by kernel_rfl) (by kernel_rfl) (by kernel_rfl) (by kernel_rfl) (by kernel_rfl) (by kernel_rfl) (by kernel_rfl) ?_ ?_
        · refine ⟨⟨rfl, ?_⟩, ⟨rfl, ?_⟩, ⟨rfl, ?_⟩, ⟨rfl, ?_⟩, ⟨rfl, ?_⟩, ⟨rfl, ?_⟩, ⟨rfl, ?_⟩, ⟨rfl, ?_⟩, ⟨rfl, ?_⟩, ⟨rfl, ?_⟩, ⟨rfl, ?_⟩, ⟨rfl, ?_⟩, ⟨rfl, ?_⟩, ⟨rfl, ?_⟩, trivial⟩
          · intro a W hbW hk K hK
            have e4 := kvalT hk 4 (Value.slice (some ⟨g, 0, none⟩) n c) (by kernel_rfl)
            clear hk
            go_simp
            exact ⟨_, rfl, hK _ _ rfl (Below.refl _ _)⟩
          · intro a W hbW hk K hK
            have e4 := kvalT hk 4 (Value.slice (some ⟨g, 0, none⟩) n c) (by kernel_rfl)
            clear hk
            go_simp
            exact ⟨_, rfl, hK _ _ rfl (Below.refl _ _)⟩
          · intro a W hbW hk K hK
            have e19 := kvalT hk 19 (Value.slice (some ⟨g, 0, none⟩) n c) (by kernel_rfl)
            clear hk
            go_simp
            exact ⟨_, rfl, hK _ _ rfl (Below.refl _ _)⟩
          · intro a W hbW hk K hK
            have e20 := kvalT hk 20 (Value.int .i64 (n : Int)) (by kernel_rfl)
            clear hk
            go_simp
            exact ⟨_, rfl, hK _ _ rfl (Below.refl _ _)⟩
          · intro a W hbW hk K hK
            have e18 := kvalT hk 18 (Value.slice (some ⟨g, 0, none⟩) n c) (by kernel_rfl)
            have e21 := kvalT hk 21 (Value.int .i64 (n1 : Int)) (by kernel_rfl)
            clear hk
            go_simp
            exact ⟨_, rfl, hK _ _ rfl (Below.refl _ _)⟩
          · intro a W hbW hk K hK
            have e22 := kvalT hk 22 (Value.pointer (some ⟨g, n1 * 2, none⟩)) (by kernel_rfl)
            clear hk
            go_simp
            exact ⟨_, rfl, hK _ _ rfl (Below.refl _ _)⟩
          · intro a W hbW hk K hK
            have e23 := kvalT hk 23 (Value.pointer (some ⟨g, n1 * 2 + 1, none⟩)) (by kernel_rfl)
            clear hk
            have y2 := HCE.out _ hbW
            go_simp
            exact ⟨_, rfl, hK _ _ rfl (Below.refl _ _)⟩
          · intro a W hbW hk K hK
            have e8 := kvalT hk 8 (Value.int .i32 (b : Int)) (by kernel_rfl)
            clear hk
            go_simp
            exact ⟨_, rfl, hK _ _ rfl (Below.refl _ _)⟩
          · intro a W hbW hk K hK
            have e25 := kvalT hk 25 (Value.int .i32 (b : Int)) (by kernel_rfl)
            clear hk
            go_simp
            exact ⟨_, rfl, hK _ _ rfl (Below.refl _ _)⟩
          · intro a W hbW hk K hK
            have e26 := kvalT hk 26 (Value.int .u8 (b : Int)) (by kernel_rfl)
            clear hk
            go_simp
            exact ⟨_, rfl, hK _ _ ⟨W.heap.size, rfl, hbW.size, heap_alloc_new W _⟩ (below_alloc6 W _)⟩
          · intro a W hbW hk K hK
            obtain ⟨gr, er, _, hgr⟩ := krowT hk 27 #[Value.int .u8 (b : Int)] 5 1 (by kernel_rfl)
            clear hk
            have hcv := one_str14 W gr b hbl hgr
            rw [HUX.out, ← HQ1.out] at hcv
            go_simp
            exact ⟨_, rfl, hK _ _ rfl (Below.refl _ _)⟩
          · intro a W hbW hk K hK
            have e24 := kvalT hk 24 (Value.string P) (by kernel_rfl)
            have e28 := kvalT hk 28 (Value.string Q) (by kernel_rfl)
            clear hk
            go_simp
            exact ⟨_, rfl, hK _ _ rfl (Below.refl _ _)⟩
          · intro a W hbW hk K hK
            have e18 := kvalT hk 18 (Value.slice (some ⟨g, 0, none⟩) n c) (by kernel_rfl)
            have e21 := kvalT hk 21 (Value.int .i64 (n1 : Int)) (by kernel_rfl)
            clear hk
            go_simp
            exact ⟨_, rfl, hK _ _ rfl (Below.refl _ _)⟩
          · intro a W hbW hk K hK
            have e30 := kvalT hk 30 (Value.pointer (some ⟨g, n1 * 2, none⟩)) (by kernel_rfl)
            clear hk
            go_simp
            exact ⟨_, rfl, hK _ _ rfl (Below.refl _ _)⟩
        · intro W9 hb9
          simp only [List.take_succ_cons, List.take_zero, List.drop_succ_cons, List.drop_zero, endT]
          intro gr hgr1 hgr2
          have x0 := HCE.out _ hb9
          have z0 := HFZ.out _ hb9
          have hgl : g < W9.heap.size := Nat.lt_of_lt_of_le HGK.out.2 hb9.size
          have HO9 := Lib.hid (own_kept HOU.out hb9 (Nat.le_refl _))
          have HB9 := Lib.hid (HBU.out.trans (hb9.mono HBU.out.size))
          have HIT9 := Lib.hid (show W9.heap[kb]? = some (.stringIter T (utp S (i + 1))) from (hb9.block kb HKU.out).trans HITU.out)
          clear hb9 hgr1 hgr2 HCE HFZ HOU HBU HITU
          go_upto_region 8 with fail
          have hst := HO9.out.stored (n1 * 2 + 1) (.string (P ++ Q))
          have HOS := Lib.hid (show (W9.setCell ⟨g, n1 * 2 + 1, none⟩ (.string (P ++ Q))).ownsRow (kb + 1) 51 2 (.slice (some ⟨g, 0, none⟩) n c) n (EOpt.cells (out0 ++ [⟨xk, D ++ [x]⟩])) from by
            have := hst.1
            rw [HP1.out, HQ1.out] at this ⊢
            rw [HN1.out] at this ⊢
            rwa [opt_set] at this)
          have HBS := Lib.hid (show Below w.heap.size w (W9.setCell ⟨g, n1 * 2 + 1, none⟩ (.string (P ++ Q))) from HB9.out.setCell (p := ⟨g, n1 * 2 + 1, none⟩) (by have h1 := HGK.out.1; have h2 := HWK.out; simp only; omega) _)
          have HIS := Lib.hid (show (W9.setCell ⟨g, n1 * 2 + 1, none⟩ (.string (P ++ Q))).heap[kb]? = some (.stringIter T (utp S (i + 1))) from (Below.heap_setCell W9 ⟨g, n1 * 2 + 1, none⟩ _ kb (by have h1 := HGK.out.1; simp only; omega)).trans HIT9.out)
          generalize W9.setCell ⟨g, n1 * 2 + 1, none⟩ (.string (P ++ Q)) = V at *
          clear hst x0 z0 hgl HO9 HB9 HIT9
          have HNL2 := Lib.hid (show n = (out0 ++ [(⟨xk, D ++ [x]⟩ : OpR)]).length ∧ n ≤ i + 1 from ⟨by rw [HNN.out, HN1.out]; simp, by have := hnle.out; omega⟩)
          go_wp2_with fail
          go_roundw
          case rel => exact ⟨i + 1, 0, m - 1, n, _, c, _, rfl, rfl, by first | rfl | rw [hmsub], by omega, by decide, HML.out, hnN, HIS, HI2, HNL2, HOS, HBS⟩
          case measure => exact HME.out _ HIS.out
      · obtain rfl : m = 0 := by omega
        have dm : decide ((0 : Int) < ((0 : Nat) : Int)) = false := by simp
        have dm' : decide ((0 : Int) < (0 : Int)) = false := by simp
        have nm' : ¬ (0 : Int) < (0 : Int) := by omega
        by_cases hk0 : kd = 0
        · subst hk0
          by_cases hb0 : b = 0
          · subst hb0
            have HF := Lib.hid (show R = some out from HI.out.stop hiS (by rw [← HX.out, ← HBX.out]))
            have HOL := Lib.hid HNL.out.1
            clear HI HNL
            go_wp2_with fail
            (try rw [Exit.noGoto_ret])
            go_ret2
            rw [HF.out]
            exact ⟨A, c, by rw [← HOL.out]; rfl, rowl_of_own (E := EOpt) HOU.out HOL.out, fun hA => by subst hA; exact (own_none HOU.out).2, fun a ha => by have h1 := (own_blk_in HOU.out a.block (by rw [ha]; rfl)).1; have h2 := HWK.out; omega, HBU.out⟩
          · have d0 : ((b : Int) == 0) = false := by rw [beq_eq_false_iff_ne]; omega
            have n0 : ¬ (b : Int) = 0 := by omega
            by_cases hb1 : b = 1
            · subst hb1
              have HI2 := Lib.hid (show InvO S R (i + 1) 0 0 out from HI.out.skip hiS (by rw [← HX.out, ← HBX.out]))
              have HNL2 := Lib.hid (show n = out.length ∧ n ≤ i + 1 from ⟨HNL.out.1, by have := HNL.out.2; omega⟩)
              clear HI HNL hb0
              go_wp2_with fail
              go_roundw
              case rel => exact ⟨i + 1, 0, 0, n, A, c, out, rfl, rfl, rfl, by omega, by decide, by decide, hnN, HITU, HI2, HNL2, HOU, HBU⟩
              case measure => exact HME.out _ HITU.out
            · have d1 : ((b : Int) != 1) = true := by rw [bne_iff_ne]; omega
              have n1 : ¬ (b : Int) = 1 := by omega
              have wb : IntKind.i64.wrap (b : Int) = (b : Int) := by rw [IntKind.wrap_i64]; omega
              have HI2 := Lib.hid (show InvO S R (i + 1) b 0 out from by
                have := HI.out.stepKind hiS (by rw [← HX.out, ← HBX.out]; omega)
                rwa [← HX.out, ← HBX.out] at this)
              have HNL2 := Lib.hid (show n = out.length ∧ n ≤ i + 1 from ⟨HNL.out.1, by have := HNL.out.2; omega⟩)
              clear HI HNL hb0 hb1
              go_wp2_with fail
              go_roundw
              case rel => exact ⟨i + 1, b, 0, n, A, c, out, rfl, rfl, rfl, by omega, hbl, by decide, hnN, HITU, HI2, HNL2, HOU, HBU⟩
              case measure => exact HME.out _ HITU.out
        · have dk : ((kd : Int) != 0) = true := by rw [bne_iff_ne]; omega
          have nk : ¬ (kd : Int) = 0 := by omega
          by_cases hb2 : b < 2
          · have d2 : decide ((b : Int) < 2) = true := by simp; omega
            have n2 : (b : Int) < 2 := by omega
            have HF := Lib.hid (show R = none from HI.out.badLen hk0 hiS (by rw [← HX.out, ← HBX.out]; exact hb2))
            clear HI HNL hb2 hk0
            go_wp2_with fail
            (try rw [Exit.noGoto_ret])
            go_ret2
            rw [HF.out]
            exact ⟨rfl, HBU.out⟩
          · have d2 : decide ((b : Int) < 2) = false := by simp; omega
            have n2 : ¬ (b : Int) < 2 := by omega
            have wb : IntKind.i64.wrap (b : Int) = (b : Int) := by rw [IntKind.wrap_i64]; omega
            obtain ⟨m1, hm1⟩ : ∃ m1, m1 = b - 2 := ⟨_, rfl⟩
            have hsb : (b : Int) - 2 = (m1 : Int) := by omega
            have hm1l : m1 < 256 := by omega
            have HI2 := Lib.hid (show InvO S R (i + 1) 0 m1 (out ++ [⟨(kd : Int), []⟩]) from by
              have := HI.out.stepLen hk0 hiS (by rw [← HX.out, ← HBX.out]; omega)
              rwa [← HX.out, ← HBX.out, ← hm1] at this)
            have HNL2 := Lib.hid (show n + 1 = (out ++ [(⟨(kd : Int), []⟩ : OpR)]).length ∧ n + 1 ≤ i + 1 from ⟨by rw [HNL.out.1]; simp, by have := HNL.out.2; omega⟩)
            have hn9 : n + 1 ≤ N := by have := HNL.out.2; omega
            have HEC := Lib.hid (show EOpt.cells [⟨(kd : Int), []⟩] = [.int .i64 (kd : Int), .string ⟨#[]⟩] from rfl)
            have hbz : kb + 1 ≤ U.heap.size := HKU.out
            have HBZ := Lib.hid hbz
            clear HI HNL hb2 hk0 hm1
            go_wp2_with (at_builtin; refine wpList_push (E := EOpt) optTy (by rfl) _ _ (by rfl) (kb + 1) _ n out [⟨(kd : Int), []⟩] (by rfl) (HOU.out.alloc _) _ 1 1 #[.int .i64 (kd : Int), .string ⟨#[]⟩] (0, 0) (by rfl) (heap_alloc_new _ _) HEC.out.symm rfl (by omega) (by omega) (by decide) ?hb ?_)
            case hb => have := HBZ.out; simp; omega
            intro g2 cap2 w9 hown hgrow hat hlt2
            have HB9 := Lib.hid ((HBU.out.alloc HBU.out.size (.cells #[.int .i64 (kd : Int), .string ⟨#[]⟩] 51)).grown hgrow (by have := HBU.out.size; simp; omega) (fun j hj => by have := (own_blk_in HOU.out _ hj).1; have := HWK.out; omega))
            have HO9 := Lib.hid (show w9.ownsRow (kb + 1) 51 2 (.slice (some ⟨g2, 0, none⟩) (n + 1) cap2) (n + 1) (EOpt.cells (out ++ [⟨(kd : Int), []⟩])) from hown)
            have HIT9 := Lib.hid (show w9.heap[kb]? = some (.stringIter T (utp S (i + 1))) from (hgrow.block kb (by have := HKU.out; simp; omega) (fun e => by have := (own_blk_in HOU.out _ e.symm).1; omega)).trans ((heap_alloc_old U _ HKU.out).trans HITU.out))
            clear hown hgrow hat hlt2 HOU HBU HITU
            go_wp2_with fail
            go_roundw
            case rel => exact ⟨i + 1, 0, m1, n + 1, _, cap2, _, rfl, by rfl, by first | rfl | rw [hsb], by omega, by decide, hm1l, hn9, HIT9, HI2, HNL2, HO9, HB9⟩
            case measure => exact HME.out _ HIT9.out
    · obtain rfl : i = N := by omega
      have hnx : ∀ ty, (Instr.next (.pointer (some ⟨kb, 0, none⟩)) true ty).run Tryd.prog wr = .ok (.tuple #[.bool false]) wr := fun ty => Lib.run_next_end_at wr kb T (utp S i) ty HIT.out (by rw [HN.out, HEND.out]; omega)
      by_cases hk0 : kd = 0
      · subst hk0
        by_cases hm0 : 0 < m
        · have dm : decide ((0 : Int) < (m : Int)) = true := by simp; omega
          have HF := Lib.hid (show R = none from HI.out.endBad (by rw [HN.out]; omega) (.inr hm0))
          have hm0i : (0 : Int) < (m : Int) := by omega
          have dz : (((0 : Nat) : Int) != 0) = false := by simp
          have dz' : ((0 : Int) != 0) = false := by simp
          have dmn : decide (0 < m) = true := by simp; omega
          clear HI HNL
          go_wp2_with fail
          (try rw [Exit.noGoto_ret])
          go_ret2
          rw [HF.out]
          exact ⟨rfl, HB.out⟩
        · obtain rfl : m = 0 := by omega
          have HF := Lib.hid (show R = some out from HI.out.endOk (by rw [HN.out]; omega))
          have HOL := Lib.hid HNL.out.1
          clear HI HNL
          go_wp2_with fail
          (try rw [Exit.noGoto_ret])
          go_ret2
          rw [HF.out]
          exact ⟨A, c, by rw [← HOL.out]; rfl, rowl_of_own (E := EOpt) HO.out HOL.out, fun hA => by subst hA; exact (own_none HO.out).2, fun a ha => by have h1 := (own_blk_in HO.out a.block (by rw [ha]; rfl)).1; have h2 := HWK.out; omega, HB.out⟩
      · have dk : ((kd : Int) != 0) = true := by rw [bne_iff_ne]; omega
        have nk : ¬ (kd : Int) = 0 := by omega
        have HF := Lib.hid (show R = none from HI.out.endBad (by rw [HN.out]; omega) (.inl hk0))
        clear HI HNL hk0
        go_wp2_with fail
        (try rw [Exit.noGoto_ret])
        go_ret2
        rw [HF.out]
        exact ⟨rfl, HB.out⟩
end Go.Proofs.YtmfoionlapcgkaaDoor
