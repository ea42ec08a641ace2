/- Contracts of the functions, part 26: P14. -/
import Derived.Test.YtmfoionlapcgkaaDoorPA19
import Derived.Test.YtmfoionlapcgkaaDoorPA24
import Derived.Test.YtmfoionlapcgkaaDoorPA25
/- What the laws of layer 14 use of the program: its seven functions, as a bundle (T: what its tables hold). -/
namespace Go.Proofs.YtmfoionlapcgkaaDoor
open Go.ChangeShapes Go.WideShapes Go.ChangeAt Go.RowKit
set_option linter.unusedVariables false
set_option maxRecDepth 100000

/-- A segment that a function may be given. -/
def tcpOk (w : World) (t : TcpR) (A : Option Addr) (c : Nat) : Prop := tcpWf t ∧ RowL EOpt w A t.ops ∧ t.ops.length ≤ 1000 ∧ (A = none → c = 0)
theorem tcpOk.kept {w w' : World} {t : TcpR} {A : Option Addr} {c : Nat} (h : tcpOk w t A c) (hb : Below w.heap.size w w') : tcpOk w' t A c := ⟨h.1, h.2.1.kept hb, h.2.2.1, h.2.2.2⟩
structure P14 (T : World → Prop) : Prop where
  keep : ∀ (w w' : World), T w → Below w.heap.size w w' → T w'
  enc : ∀ (v1 v2 : Bool) (h1 l1 h2 l2 : Nat) (t : TcpR) (A : Option Addr) (c : Nat) (w : World), T w → fits13 ⟨v1, h1, l1⟩ → fits13 ⟨v2, h2, l2⟩ → tcpOk w t A c → t.pay.length ≤ 1000000 →
    Calls Tryd.prog 14 #[.agg #[.bool v1, .int .u64 (h1 : Int), .int .u64 (l1 : Int)], .agg #[.bool v2, .int .u64 (h2 : Int), .int .u64 (l2 : Int)], .agg (tcC t A c (str t.pay))] w fun e w' => e = .returned (.tuple #[.string (str (encT ⟨v1, h1, l1⟩ ⟨v2, h2, l2⟩ t).1), .int .i64 ((encT ⟨v1, h1, l1⟩ ⟨v2, h2, l2⟩ t).2 : Int)]) ∧ Below w.heap.size w w'
  dec : ∀ (v1 v2 : Bool) (h1 l1 h2 l2 : Nat) (S : List UInt8) (w : World), T w → fits13 ⟨v1, h1, l1⟩ → fits13 ⟨v2, h2, l2⟩ → S.length ≤ 1000000 →
    Calls Tryd.prog 10 #[.agg #[.bool v1, .int .u64 (h1 : Int), .int .u64 (l1 : Int)], .agg #[.bool v2, .int .u64 (h2 : Int), .int .u64 (l2 : Int)], .string (str S)] w (DecTP w (decT ⟨v1, h1, l1⟩ ⟨v2, h2, l2⟩ S))
  len : ∀ (t : TcpR) (A : Option Addr) (c : Nat) (w : World), T w → tcpOk w t A c → Calls Tryd.prog 20 #[.agg (tcC t A c (str t.pay))] w fun e w' => e = .returned (.int .i64 (lenT t : Int)) ∧ Below w.heap.size w w'
  sca : ∀ (t : TcpR) (A : Option Addr) (c : Nat) (w : World), T w → tcpOk w t A c → Calls Tryd.prog 16 #[.agg (tcC t A c (str t.pay))] w fun e w' => e = .returned (.tuple #[.int .i64 ((scaT t).1 : Int), .bool (scaT t).2]) ∧ Below w.heap.size w w'
  sta : ∀ (t : TcpR) (A : Option Addr) (c : Nat) (w : World), T w → tcpOk w t A c → Calls Tryd.prog 18 #[.agg (tcC t A c (str t.pay))] w fun e w' => e = .returned (.tuple #[.int .u32 ((staT t).1 : Int), .int .u32 ((staT t).2.1 : Int), .bool (staT t).2.2]) ∧ Below w.heap.size w w'
  dif : ∀ (w : World), T w → Calls Tryd.prog 24 #[.int .u32 1, .int .u32 4294967295] w fun e w' => e = .returned (.int .i64 2) ∧ Below w.heap.size w w'
  bef : ∀ (w : World), T w → Calls Tryd.prog 25 #[.int .u32 4294967295, .int .u32 1] w fun e w' => e = .returned (.bool true) ∧ Below w.heap.size w w'
end Go.Proofs.YtmfoionlapcgkaaDoor
