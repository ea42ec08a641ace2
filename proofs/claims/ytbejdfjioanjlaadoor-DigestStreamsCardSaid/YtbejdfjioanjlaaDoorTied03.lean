/- The listed variable of layer 3: the constants; from the row's condition to what the walks ask. -/
import Derived.Test.YtbejdfjioanjlaaDoorTie
import Derived.Test.YtbejdfjioanjlaaDoorShaObj
import Derived.ProofKit
import Derived.LaidMore
import Derived.OpenShut
import Derived.Stop.Joined
import Derived.Lib.LaidTab
import Derived.SevenTiedAt
namespace Go.Proofs.YtbejdfjioanjlaaDoor
open Go.ChangeShapes Go.WideShapes Go.ChangeAt Go.RowKit

/-- What the rows list. -/
def laidL : List (String × DataW Unit) := [("intrusion/digest.constants", Rows.laid_intrusion_digest_constants)]
theorem gConst : Tryd.prog.globalNamed "intrusion/digest.constants" = some 0 := by kernel_rfl
theorem tConst : (Tryd.prog.globals[0]?).map (·.type) = some 52 := by kernel_rfl
theorem cWord : Tryd.prog.cellsOf 35 = 1 := by kernel_rfl
theorem cWords : Tryd.prog.cellsOf 52 = 64 := by kernel_rfl
/-- The door's own heap meets the condition. -/
theorem door_met (os : Os) (args : Array Value) : laidMetH Tryd.prog laidL ((World.doorLaid Tryd.prog 400 os).forCall (fun _ _ => 0) ⟨#[], args, []⟩).memory :=
  laidMetH_of_parts3 (fuel := 8) (laidMet_of_run' 8 (by kernel_rfl) (by kernel_rfl)) (by kernel_rfl) (by kernel_rfl)

/-- What the walks ask of memory. -/
abbrev TiedW (w : World) : Prop := Kt w
theorem tied_of_laid {W : World} (h : laidMetH Tryd.prog laidL W) : TiedW W := by
  rw [MakeChecks.laidMetH_plain _ _ _ (by kernel_rfl)] at h
  have hT := Lib.tabIs_of_head (zs := KL.map (fun n : Nat => (n : Int))) (rest := []) (k := .u32) gConst tConst Tryd.underlying52 Tryd.underlying35 cWord cWords h
  unfold Lib.TabIs World.var? at hT
  rw [gConst] at hT
  simp only [Option.bind_some] at hT
  cases hg : W.heap[0]? with
  | none => rw [hg] at hT; cases hT
  | some o =>
    rw [hg] at hT
    cases o with
    | cells cs t fr =>
      obtain rfl := Option.some.inj hT
      refine ⟨_, t, fr, hg, fun x hx => ?_⟩
      simp only [List.getElem?_toArray, List.getElem?_map]
      rw [List.getD_eq_getElem?_getD, List.getElem?_eq_getElem (show x < KL.length from hx)]
      rfl
    | _ => cases hT
end Go.Proofs.YtbejdfjioanjlaaDoor
