/- Contracts of the functions, part 43: Ip4Ex, P11. -/
import Derived.Test.YtimilcjlogcfhaaPE3
import Derived.Test.YtimilcjlogcfhaaPE29
import Derived.Test.YtimilcjlogcfhaaPE33
import Derived.Test.YtimilcjlogcfhaaPE41
import Derived.Test.YtimilcjlogcfhaaPE42
/- The chapter's examples of layer 11, reckoned. -/
namespace Go.Proofs.Ytimilcjlogcfhaa
set_option linter.unusedVariables false

def exS : List UInt8 := [69, 0, 0, 22, 0, 0, 0, 0, 64, 17, 102, 213, 10, 0, 0, 1, 10, 0, 0, 2, 97, 98]
def spI : Ip4R := ⟨0, 0, 0, 0, false, false, 0, ⟨false, 0, 167772161⟩, ⟨false, 0, 167772162⟩, [], [97, 97, 97, 97, 97, 97, 97, 97, 98, 98, 98, 98, 98, 98, 98, 98, 99, 99, 99, 99]⟩
def sp0 : Ip4R := { spI with more := true, pay := [97, 97, 97, 97, 97, 97, 97, 97] }
def sp1 : Ip4R := { spI with more := true, off := 8, pay := [98, 98, 98, 98, 98, 98, 98, 98] }
def sp2 : Ip4R := { spI with off := 16, pay := [99, 99, 99, 99] }
set_option maxRecDepth 100000 in
theorem encI_ex : encI exI = (exS, 0) := by kernel_rfl
set_option maxRecDepth 100000 in
theorem decI_ex : decI exS = (exI, 0) := by kernel_rfl
set_option maxRecDepth 100000 in
theorem splitI_sp : splitI spI 8 = ([sp0, sp1, sp2], 0) := by kernel_rfl
theorem routed_ex : routedI ⟨0, 0, 0, 0, false, false, 0, ⟨false, 0, 0⟩, ⟨false, 0, 0⟩, [⟨131, []⟩], []⟩ = true := by kernel_rfl
end Go.Proofs.Ytimilcjlogcfhaa

/- What the laws of layer 11 use of the program: its five functions, as a bundle (T: what its tables hold, if it has any). -/
namespace Go.Proofs.Ytimilcjlogcfhaa
open Go.ChangeShapes Go.WideShapes Go.ChangeAt Go.RowKit
set_option linter.unusedVariables false

/-- A packet that a function may be given. -/
def ipOk (w : World) (p : Ip4R) (A : Option Addr) : Prop := ipWf p ∧ RowL EOpt w A p.ops ∧ p.ops.length ≤ 1000 ∧ p.pay.length ≤ 1000000
structure P11 (T : World → Prop) : Prop where
  keep : ∀ (w w' : World), T w → Below w.heap.size w w' → T w'
  enc : ∀ (p : Ip4R) (A : Option Addr) (c : Nat) (w : World), T w → ipOk w p A →
    Calls Try.prog 15 #[.agg (ipC p p.ops.length A c (str p.pay))] w fun e w' => e = .returned (.tuple #[.string (str (encI p).1), .int .i64 ((encI p).2 : Int)]) ∧ Below w.heap.size w w'
  dec : ∀ (S : List UInt8) (w : World), T w → S.length ≤ 1000000 → Calls Try.prog 11 #[.string (str S)] w (Dec4P w (decI S))
  spl : ∀ (p : Ip4R) (size : Int) (A : Option Addr) (c : Nat) (w : World), T w → ipOk w p A → (Lit.int .i64 size).wf = true →
    Calls Try.prog 21 #[.agg (ipC p p.ops.length A c (str p.pay)), .int .i64 size] w (SplP w (splitI p size))
  frg : ∀ (p : Ip4R) (A : Option Addr) (c : Nat) (w : World), T w → ipOk w p A →
    Calls Try.prog 17 #[.agg (ipC p p.ops.length A c (str p.pay))] w fun e w' => e = .returned (.agg #[.bool p.src.v6, .int .u64 (p.src.hi : Int), .int .u64 (p.src.lo : Int), .bool p.dst.v6, .int .u64 (p.dst.hi : Int), .int .u64 (p.dst.lo : Int), .int .i64 p.proto, .int .i64 p.id, .int .i64 p.ttl, .int .i64 p.off, .bool p.more, .string (str p.pay)]) ∧ Below w.heap.size w w'
  rou : ∀ (p : Ip4R) (A : Option Addr) (c : Nat) (w : World), T w → ipOk w p A →
    Calls Try.prog 19 #[.agg (ipC p p.ops.length A c (str p.pay))] w fun e w' => e = .returned (.bool (routedI p)) ∧ Below w.heap.size w w'
end Go.Proofs.Ytimilcjlogcfhaa
