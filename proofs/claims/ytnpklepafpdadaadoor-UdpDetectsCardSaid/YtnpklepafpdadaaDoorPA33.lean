/- Contracts of the functions, part 33: Prog13, Tied02. -/
import Derived.Test.YtnpklepafpdadaaDoorTie
import Derived.ProofKit
import Derived.LaidMore
import Derived.OpenShut
import Derived.Stop.Joined
import Derived.Lib.LaidTab
import Derived.SevenTiedAt
import Derived.Test.YtnpklepafpdadaaDoorPA8
import Derived.Test.YtnpklepafpdadaaDoorPA27
import Derived.Test.YtnpklepafpdadaaDoorPA32
/- The program's functions of layer 13, as the bundle that the laws are walked over. -/
namespace Go.Proofs.YtnpklepafpdadaaDoor
open Go.ChangeShapes Go.WideShapes Go.ChangeAt Go.RowKit
set_option linter.unusedVariables false

theorem prog13 : P13 Sh where
  keep := fun w w' h hb => h.kept hb
  enc := fun v1 v2 h1 l1 h2 l2 src dst pay w hT ha hb hu => penc13_any v1 v2 h1 l1 h2 l2 src dst pay w ha hb hu.2.2 hT
  dec := fun v1 v2 h1 l1 h2 l2 S w hT ha hb hs => pdec13_any v1 v2 h1 l1 h2 l2 S w ha hb hs hT
end Go.Proofs.YtnpklepafpdadaaDoor

/- The listed variable of layer 2: the table of shifts; from the row's condition to what the walks ask. -/
namespace Go.Proofs.YtnpklepafpdadaaDoor
open Go.ChangeShapes Go.WideShapes Go.ChangeAt Go.RowKit

/-- What the rows list. -/
def laidL : List (String × DataW Unit) := [("intrusion/checksum.shifts", Rows.laid_intrusion_checksum_shifts)]
theorem gShifts : Tryd.prog.globalNamed "intrusion/checksum.shifts" = some 0 := by kernel_rfl
theorem tShifts : (Tryd.prog.globals[0]?).map (·.type) = some 70 := by kernel_rfl
theorem cShift : Tryd.prog.cellsOf 68 = 1 := by kernel_rfl
theorem cShifts : Tryd.prog.cellsOf 70 = 8 := by kernel_rfl
/-- The door's own heap meets the condition. -/
theorem door_met (os : Os) (args : Array Value) : laidMetH Tryd.prog laidL ((World.doorLaid Tryd.prog 400 os).forCall (fun _ _ => 0) ⟨#[], args, []⟩).memory :=
  laidMetH_of_parts3 (fuel := 8) (laidMet_of_run' 8 (by kernel_rfl) (by kernel_rfl)) (by kernel_rfl) (by kernel_rfl)

/-- What the walks ask of memory. -/
abbrev TiedW (w : World) : Prop := Sh w
theorem tied_of_laid {W : World} (h : laidMetH Tryd.prog laidL W) : TiedW W := by
  rw [MakeChecks.laidMetH_plain _ _ _ (by kernel_rfl)] at h
  have hT := Lib.tabIs_of_head (zs := [56, 48, 40, 32, 24, 16, 8, 0]) (rest := []) (k := .u64) gShifts tShifts Tryd.underlying70 Tryd.underlying68 cShift cShifts h
  unfold Lib.TabIs World.var? at hT
  rw [gShifts] at hT
  simp only [Option.bind_some] at hT
  cases hg : W.heap[0]? with
  | none => rw [hg] at hT; cases hT
  | some o =>
    rw [hg] at hT
    cases o with
    | cells cs t fr =>
      obtain rfl := Option.some.inj hT
      exact ⟨t, fr, hg⟩
    | _ => cases hT
end Go.Proofs.YtnpklepafpdadaaDoor
