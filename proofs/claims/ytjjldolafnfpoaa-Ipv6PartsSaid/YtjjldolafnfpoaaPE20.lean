/- Contracts of the functions, part 20: Ip6Lst, P12, Ip6Ex. -/
import Derived.Test.YtjjldolafnfpoaaPE5
import Derived.Test.YtjjldolafnfpoaaPE10
import Derived.Test.YtjjldolafnfpoaaPE11
import Derived.Test.YtjjldolafnfpoaaPE19
/- Lists of IPv6 packets in memory; how far the splitting is. -/
namespace Go.Proofs.Ytjjldolafnfpoaa
open Go.ChangeShapes Go.WideShapes Go.ChangeAt Go.RowKit
set_option linter.unusedVariables false

/-- A packet as an element: with where its extension headers lie. -/
abbrev Ip6E := Ip6R × Option Addr × Nat
def EIp6 : Enc Ip6E := ⟨16, by decide, fun x => [.int .i64 x.1.cls, .int .i64 x.1.lab, .int .i64 x.1.hops, .int .i64 x.1.nxt, .bool x.1.src.v6, .int .u64 (x.1.src.hi : Int), .int .u64 (x.1.src.lo : Int), .bool x.1.dst.v6, .int .u64 (x.1.dst.hi : Int), .int .u64 (x.1.dst.lo : Int), .slice x.2.1 x.1.exts.length x.2.2, .bool x.1.frg, .int .i64 x.1.id, .int .i64 x.1.off, .bool x.1.more, .string (str x.1.pay)], fun _ => rfl, fun x v hv => by
  simp only [List.mem_cons, List.not_mem_nil, or_false] at hv
  rcases hv with rfl | rfl | rfl | rfl | rfl | rfl | rfl | rfl | rfl | rfl | rfl | rfl | rfl | rfl | rfl | rfl <;> rfl⟩
theorem info_ip6 : (Try.prog.info? 28).map (fun i => (i.zero, i.size, i.bytes)) = some (some (.agg #[.int .i64 0, .int .i64 0, .int .i64 0, .int .i64 0, .bool false, .int .u64 0, .int .u64 0, .bool false, .int .u64 0, .int .u64 0, .slice none 0 0, .bool false, .int .i64 0, .int .i64 0, .bool false, .string ⟨#[]⟩]), 16, 152) := by kernel_rfl
theorem ips6Ty : ElemTy 38 28 16 152 :=
  ⟨Try.underlying38, by
    obtain ⟨i, h1, h2, h3, h4⟩ := info_parts info_ip6
    exact ⟨i, _, h1, h2, h3, h4, rfl⟩⟩
/-- What Split leaves. -/
def SplP6 (w : World) (Q : List Ip6R × Nat) (e : Ending) (w' : World) : Prop :=
  ∃ A c es, e = .returned (.tuple #[.slice A Q.1.length c, .int .i64 (Q.2 : Int)]) ∧ es.map (·.1) = Q.1 ∧ RowL EIp6 w' A es ∧ (∀ x ∈ es, (x.2.1 = none → x.2.2 = 0) ∧ RowL EOpt w' x.2.1 x.1.exts) ∧ (A = none → c = 0) ∧ Below w.heap.size w w'
theorem SplP6.err {w w' : World} {Q : List Ip6R × Nat} {E : Int} {n : Nat} (h : Q = ([], n)) (hE : (n : Int) = E) (hb : Below w.heap.size w w') : SplP6 w Q (.returned (.tuple #[.slice none 0 0, .int .i64 E])) w' := by
  subst h hE
  exact ⟨none, 0, [], rfl, rfl, RowL.nil _ _, (fun x hx => by cases hx), (fun _ => rfl), hb⟩
/-- How far the splitting is. -/
def SplR (p : Ip6R) (size : Nat) (id : Int) (Q : List Ip6R × Nat) (es : List Ip6E) (a : Nat) : Prop :=
  ∃ f, p.pay.length < a + (f + 1) ∧ Q = if (partsX p size id (f + 1) a).2 ≠ 0 then ([], (partsX p size id (f + 1) a).2) else (es.map (·.1) ++ (partsX p size id (f + 1) a).1, 0)
def SplT (p : Ip6R) (size : Nat) (id : Int) (Q : List Ip6R × Nat) (es : List Ip6E) (a : Nat) : Prop :=
  ((a = 0 ∨ a < p.pay.length) → SplR p size id Q es a) ∧ (¬ (a = 0 ∨ a < p.pay.length) → Q = (es.map (·.1), 0))
def partA (p : Ip6R) (size : Nat) (id : Int) (a : Nat) : Ip6R := partX p ((p.pay.drop a).take size) a (decide (a + size < p.pay.length)) id
theorem SplT.err {p : Ip6R} {size : Nat} {id : Int} {Q : List Ip6R × Nat} {es : List Ip6E} {a : Nat} (h : SplT p size id Q es a) (ha : a = 0 ∨ a < p.pay.length) (he : (encX (partA p size id a)).2 ≠ 0) : Q = ([], (encX (partA p size id a)).2) := by
  obtain ⟨f, _, hQ⟩ := h.1 ha
  have e1 : partsX p size id (f + 1) a = ([], (encX (partA p size id a)).2) := by rw [partsX]; exact if_pos he
  rw [hQ, e1, if_pos he]
theorem SplT.next {p : Ip6R} {size : Nat} {id : Int} {Q : List Ip6R × Nat} {es : List Ip6E} {a : Nat} (h : SplT p size id Q es a) (ha : a = 0 ∨ a < p.pay.length) (he : (encX (partA p size id a)).2 = 0) (hs : 1 ≤ size) {x : Ip6E} (hx : x.1 = partA p size id a) : SplT p size id Q (es ++ [x]) (a + max (min size (p.pay.length - a)) 1) := by
  obtain ⟨f, hf, hQ⟩ := h.1 ha
  have hne : ¬ (encX (partX p ((p.pay.drop a).take size) a (decide (a + size < p.pay.length)) id)).2 ≠ 0 := fun e => e he
  by_cases hl : a + size < p.pay.length
  · have hm : max (min size (p.pay.length - a)) 1 = size := by omega
    rw [hm]
    cases f with
    | zero => omega
    | succ f =>
      refine ⟨fun _ => ⟨f, by omega, ?_⟩, fun hn => absurd (.inr hl) hn⟩
      rw [hQ]
      by_cases h2 : (partsX p size id (f + 1) (a + size)).2 ≠ 0
      · have e1 : partsX p size id (f + 1 + 1) a = ([], (partsX p size id (f + 1) (a + size)).2) := by
          rw [partsX, if_neg hne, if_pos hl, if_pos h2]
        rw [e1, if_pos h2, if_pos h2]
      · have e1 : partsX p size id (f + 1 + 1) a = (partA p size id a :: (partsX p size id (f + 1) (a + size)).1, 0) := by
          rw [partsX, if_neg hne, if_pos hl, if_neg h2]
          rfl
        rw [e1, if_neg (by simp), if_neg h2, List.map_append, List.map_singleton, hx]
        simp
  · refine ⟨fun hr => ?_, fun _ => ?_⟩
    · exfalso; omega
    · have e1 : partsX p size id (f + 1) a = ([partA p size id a], 0) := by
        rw [partsX, if_neg hne, if_neg hl]
        rfl
      rw [hQ, e1, if_neg (by simp), List.map_append, List.map_singleton, hx]
theorem SplT.start {p : Ip6R} {size id : Int} (h1 : (encX p).2 = 0) (h2 : ¬ (size < 1 ∨ size % 8 ≠ 0 ∨ id < 0 ∨ 4294967296 ≤ id)) (h3 : p.frg = false) : SplT p size.toNat id (splitX p size id) [] 0 := by
  refine ⟨fun _ => ⟨p.pay.length, by omega, ?_⟩, fun hn => absurd (.inl rfl) hn⟩
  unfold splitX
  rw [if_neg (fun e => e h1), if_neg h2, if_neg (by rw [h3]; simp)]
  split
  · rename_i h
    exact Prod.ext (parts6_bad _ _ h) rfl
  · rename_i h
    exact Prod.ext (by simp) (Classical.not_not.1 h)
end Go.Proofs.Ytjjldolafnfpoaa

/- What the laws of layer 12 use of the program: its five functions, as a bundle (T: what its tables hold, if it has any). -/
namespace Go.Proofs.Ytjjldolafnfpoaa
open Go.ChangeShapes Go.WideShapes Go.ChangeAt Go.RowKit
set_option linter.unusedVariables false

/-- A packet that a function may be given. -/
def ip6Ok (w : World) (p : Ip6R) (A : Option Addr) (c : Nat) : Prop := ip6Wf p ∧ RowL EOpt w A p.exts ∧ (A = none → c = 0) ∧ p.exts.length ≤ 1000 ∧ p.pay.length ≤ 900000
structure P12 (T : World → Prop) : Prop where
  keep : ∀ (w w' : World), T w → Below w.heap.size w w' → T w'
  enc : ∀ (p : Ip6R) (A : Option Addr) (c : Nat) (w : World), T w → ip6Ok w p A c →
    Calls Try.prog 15 #[.agg (ip6C p p.exts.length A c (str p.pay))] w fun e w' => e = .returned (.tuple #[.string (str (encX p).1), .int .i64 ((encX p).2 : Int)]) ∧ Below w.heap.size w w'
  dec : ∀ (S : List UInt8) (w : World), T w → S.length ≤ 1000000 → Calls Try.prog 11 #[.string (str S)] w (Dec6P w (decX S))
  spl : ∀ (p : Ip6R) (size id : Int) (A : Option Addr) (c : Nat) (w : World), T w → ip6Ok w p A c → (Lit.int .i64 size).wf = true → (Lit.int .i64 id).wf = true →
    Calls Try.prog 17 #[.agg (ip6C p p.exts.length A c (str p.pay)), .int .i64 size, .int .i64 id] w (SplP6 w (splitX p size id))
  frg : ∀ (p : Ip6R) (A : Option Addr) (c : Nat) (w : World), T w → ip6Ok w p A c →
    Calls Try.prog 20 #[.agg (ip6C p p.exts.length A c (str p.pay))] w fun e w' => e = .returned (.agg #[.bool p.src.v6, .int .u64 (p.src.hi : Int), .int .u64 (p.src.lo : Int), .bool p.dst.v6, .int .u64 (p.dst.hi : Int), .int .u64 (p.dst.lo : Int), .int .i64 p.nxt, .int .i64 p.id, .int .i64 p.hops, .int .i64 p.off, .bool p.more, .string (str p.pay)]) ∧ Below w.heap.size w w'
  rou : ∀ (p : Ip6R) (A : Option Addr) (c : Nat) (w : World), T w → ip6Ok w p A c →
    Calls Try.prog 22 #[.agg (ip6C p p.exts.length A c (str p.pay))] w fun e w' => e = .returned (.bool (routedX p)) ∧ Below w.heap.size w w'
end Go.Proofs.Ytjjldolafnfpoaa

/- The chapter's examples of layer 12, reckoned. -/
namespace Go.Proofs.Ytjjldolafnfpoaa
set_option linter.unusedVariables false

def exX : Ip6R := ⟨0, 0, 64, 17, ⟨true, 0, 1⟩, ⟨true, 0, 2⟩, [⟨60, [97, 98, 99, 100, 101, 102]⟩], false, 0, 0, false, [120, 121, 122]⟩
def exS6 : List UInt8 := [96, 0, 0, 0, 0, 11, 60, 64, 0, 0, 0, 0, 0, 0, 0, 0, 0, 0, 0, 0, 0, 0, 0, 1, 0, 0, 0, 0, 0, 0, 0, 0, 0, 0, 0, 0, 0, 0, 0, 2, 17, 0, 97, 98, 99, 100, 101, 102, 120, 121, 122]
def spX : Ip6R := ⟨0, 0, 0, 6, ⟨true, 0, 0⟩, ⟨true, 0, 0⟩, [], false, 0, 0, false, [97, 98, 99, 100, 101, 102, 103, 104, 105, 106, 107, 108, 109, 110, 111, 112, 113, 114, 115, 116]⟩
def sx0 : Ip6R := ⟨0, 0, 0, 6, ⟨true, 0, 0⟩, ⟨true, 0, 0⟩, [], true, 7, 0, true, [97, 98, 99, 100, 101, 102, 103, 104]⟩
def sx1 : Ip6R := ⟨0, 0, 0, 6, ⟨true, 0, 0⟩, ⟨true, 0, 0⟩, [], true, 7, 8, true, [105, 106, 107, 108, 109, 110, 111, 112]⟩
def sx2 : Ip6R := ⟨0, 0, 0, 6, ⟨true, 0, 0⟩, ⟨true, 0, 0⟩, [], true, 7, 16, false, [113, 114, 115, 116]⟩
set_option maxRecDepth 100000 in
theorem encX_ex : encX exX = (exS6, 0) := by kernel_rfl
set_option maxRecDepth 100000 in
theorem decX_ex : decX (exS6 ++ [33]) = (exX, 0) := by kernel_rfl
set_option maxRecDepth 100000 in
theorem splitX_sp : splitX spX 8 7 = ([sx0, sx1, sx2], 0) := by kernel_rfl
theorem routedX_ex : routedX exX = false := by kernel_rfl
end Go.Proofs.Ytjjldolafnfpoaa
