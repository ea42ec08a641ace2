/- Contracts of the functions, part 38: Prog14, Tied14. -/
import Derived.Test.YtmfoionlapcgkaaDoorTie
import Derived.ProofKit
import Derived.LaidMore
import Derived.OpenShut
import Derived.Stop.Joined
import Derived.Lib.LaidTab
import Derived.SevenTiedAt
import Derived.Stop.LaidErr
import Derived.Test.YtmfoionlapcgkaaDoorPA26
import Derived.Test.YtmfoionlapcgkaaDoorPA35
import Derived.Test.YtmfoionlapcgkaaDoorPA37
/- The program's functions of layer 14, as the bundle that the laws are walked over. -/
namespace Go.Proofs.YtmfoionlapcgkaaDoor
open Go.ChangeShapes Go.WideShapes Go.ChangeAt Go.RowKit
set_option linter.unusedVariables false
set_option maxRecDepth 100000

/-- What the two tables hold: the shifts of layer 2, the bits that count. -/
structure TK (w : World) : Prop where
  sh : Sh w
  tc : TCt w
theorem TK.kept {w w' : World} (h : TK w) (hb : Below w.heap.size w w') : TK w' := ⟨h.sh.kept hb, h.tc.kept hb⟩
theorem tcpOk.dats {w : World} {t : TcpR} {A : Option Addr} {c : Nat} (h : tcpOk w t A c) : ∀ x ∈ t.ops, x.dat.length ≤ 281474976710656 := fun x hx => (h.1.2.2.2.2 x hx).2
theorem prog14 : P14 TK where
  keep := fun w w' h hb => h.kept hb
  enc := fun v1 v2 h1 l1 h2 l2 t A c w hT ha hb hok hp => by
    have hd := hok.dats
    obtain ⟨src, dst, seq, ack, fl, win, urg, l, pay⟩ := t
    exact penc14_any v1 v2 h1 l1 h2 l2 src dst fl win urg seq ack l pay A c w ha hb hok.2.1 hok.2.2.1 hd hp hok.1.2.1.1 hok.1.2.1.2 hT.sh
  dec := fun v1 v2 h1 l1 h2 l2 S w hT ha hb hs => pdec14_any v1 v2 h1 l1 h2 l2 S w ha hb hs hT.sh hT.tc
  len := fun t A c w hT hok => plen14_any t A c (str t.pay) w rfl (by have := hok.1.2.2.1; omega)
  sca := fun t A c w hT hok => pscale14_any t A c (str t.pay) w hok.2.1 (by have := hok.2.2.1; omega) hok.dats
  sta := fun t A c w hT hok => pstamps14_any t A c (str t.pay) w hok.2.1 (by have := hok.2.2.1; omega) hok.dats
  dif := fun w hT => (pdiff14_any 1 4294967295 w (by decide) (by decide)).mono fun e w' ⟨h, hw⟩ => ⟨h, hw ▸ Below.refl _ _⟩
  bef := fun w hT => (pbefore14_any 4294967295 1 w (by decide) (by decide)).mono fun e w' ⟨h, hw⟩ => ⟨h, hw ▸ Below.refl _ _⟩
end Go.Proofs.YtmfoionlapcgkaaDoor

/- The listed variables of layer 14: the table of shifts, the table of the bits that count; from the row's condition to what the walks ask. -/
namespace Go.Proofs.YtmfoionlapcgkaaDoor
open Go.ChangeShapes Go.WideShapes Go.ChangeAt Go.RowKit
set_option linter.unusedVariables false
set_option maxRecDepth 100000

/-- What the rows list. -/
def laidL : List (String × DataW Unit) := [("intrusion/checksum.shifts", Rows.laid_intrusion_checksum_shifts), ("intrusion/tcp.counted", Rows.laid_intrusion_tcp_counted)]
theorem gShifts : Tryd.prog.globalNamed "intrusion/checksum.shifts" = some 1 := by kernel_rfl
theorem tShifts : (Tryd.prog.globals[1]?).map (·.type) = some 109 := by kernel_rfl
theorem cShift : Tryd.prog.cellsOf 92 = 1 := by kernel_rfl
theorem cShifts : Tryd.prog.cellsOf 109 = 8 := by kernel_rfl
theorem gCounted : Tryd.prog.globalNamed "intrusion/tcp.counted" = some 0 := by kernel_rfl
theorem tCounted : (Tryd.prog.globals[0]?).map (·.type) = some 77 := by kernel_rfl
theorem cInt14 : Tryd.prog.cellsOf 3 = 1 := by kernel_rfl
theorem cCounted : Tryd.prog.cellsOf 77 = 2 := by kernel_rfl
/-- The door's own heap meets the condition. -/
theorem door_met (os : Os) (args : Array Value) : laidMetH Tryd.prog laidL ((World.doorLaid Tryd.prog 400 os).forCall (fun _ _ => 0) ⟨#[], args, []⟩).memory :=
  laidMetH_of_parts3 (fuel := 8) (laidMet_of_run' 8 (by kernel_rfl) (by kernel_rfl)) (by kernel_rfl) (by kernel_rfl)

/-- What the walks ask of memory. -/
abbrev TiedW (w : World) : Prop := TK w
theorem tiedSh (W : World) (h : TK W) : Sh W := h.sh
theorem tied_of_laid {W : World} (h : laidMetH Tryd.prog laidL W) : TiedW W := by
  rw [MakeChecks.laidMetH_plain _ _ _ (by kernel_rfl)] at h
  have h2 := laidMet.tail h
  have hT := Lib.tabIs_of_head (zs := [56, 48, 40, 32, 24, 16, 8, 0]) (k := .u64) gShifts tShifts Tryd.underlying109 Tryd.underlying92 cShift cShifts h
  have hC := Lib.tabIs_of_head (zs := [240, 63]) (rest := []) (k := .i64) gCounted tCounted Tryd.underlying77 Tryd.underlying3 cInt14 cCounted h2
  refine ⟨?_, Lib.TabIs.cell hC gCounted 0 (by decide), Lib.TabIs.cell hC gCounted 1 (by decide)⟩
  unfold Lib.TabIs World.var? at hT
  rw [gShifts] at hT
  simp only [Option.bind_some] at hT
  cases hg : W.heap[1]? with
  | none => rw [hg] at hT; cases hT
  | some o =>
    rw [hg] at hT
    cases o with
    | cells cs t fr =>
      obtain rfl := Option.some.inj hT
      exact ⟨t, fr, hg⟩
    | _ => cases hT
end Go.Proofs.YtmfoionlapcgkaaDoor
