/- Contracts of the functions, part 11: AdrNum, AdrDec. -/
import Derived.Deep.QuietTactic
import Derived.OwnWalk
import Derived.Test.YtimilcjlogcfhaaPE1
import Derived.Test.YtimilcjlogcfhaaPE5
import Derived.Test.YtimilcjlogcfhaaPE7
/- Contracts of the reference of layer 6: Number, hex, Decimal, group. -/
namespace Go.Proofs.Ytimilcjlogcfhaa
open Go.ChangeShapes Go.WideShapes Go.ChangeAt Go.RowKit
set_option linter.unusedVariables false

end Go.Proofs.Ytimilcjlogcfhaa

/- Contract of the reference of layer 6: Decimal. -/
namespace Go.Proofs.Ytimilcjlogcfhaa
open Go.ChangeShapes Go.WideShapes Go.ChangeAt Go.RowKit
set_option linter.unusedVariables false

theorem drop_at6 (s : ByteArray) (k : Nat) (h : k < s.size) : s.data.toList.drop k = s[k] :: s.data.toList.drop (k + 1) := by
  rw [List.drop_eq_getElem_cons (by simpa using h)]; rfl
end Go.Proofs.Ytimilcjlogcfhaa
