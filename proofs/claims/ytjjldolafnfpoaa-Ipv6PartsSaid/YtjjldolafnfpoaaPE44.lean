/- Contracts of the functions, part 44: Prog12. -/
import Derived.Test.YtjjldolafnfpoaaPE31
import Derived.Test.YtjjldolafnfpoaaPE38
import Derived.Test.YtjjldolafnfpoaaPE42
import Derived.Test.YtjjldolafnfpoaaPE43
/- The program of layer 12: its five functions as the laws want them. -/
namespace Go.Proofs.Ytjjldolafnfpoaa
open Go.ChangeShapes Go.WideShapes Go.ChangeAt Go.RowKit
set_option linter.unusedVariables false

theorem prog12 : P12 (fun _ => True) where
  keep := fun _ _ _ _ => trivial
  enc := fun p A c w _ h => by
    obtain ⟨hw, hr, -, hl, hp⟩ := h
    exact penc12_any p A c w hr (fun x hx => by have := (hw.2.2.2.2.2 x hx).2; omega) hl (by omega) hw.2.1 hw.2.2.1
  dec := fun S w _ hS => pdec12_any S w hS
  spl := fun p size id A c w _ h hs hi => by
    obtain ⟨hw, hr, -, hl, hp⟩ := h
    have h2 := (wf_i64_12 hs).2
    obtain ⟨cls, lab, hops, nxt, ⟨sv, sh, sl⟩, ⟨dv, dh, dl⟩, l, frg, id0, off, more, pay⟩ := p
    exact psplit12_any cls lab hops nxt id0 off sv dv frg more sh sl dh dl l pay size id A c w hr hl (fun x hx => by have := (hw.2.2.2.2.2 x hx).2; omega) hp h2
  frg := fun p A c w _ h => pfragment12_any p.cls p.lab p.hops p.nxt p.id p.off p.src.v6 p.dst.v6 p.frg p.more p.src.hi p.src.lo p.dst.hi p.dst.lo p.exts.length A c (str p.pay) w
  rou := fun p A c w _ h => by
    obtain ⟨hw, hr, -, hl, hp⟩ := h
    exact prouted12_any p.cls p.lab p.hops p.nxt p.id p.off p.src.v6 p.dst.v6 p.frg p.more p.src.hi p.src.lo p.dst.hi p.dst.lo p.exts A c (str p.pay) w hr (by omega)
theorem lv12 (w : World) : Calls Try.prog 10 #[] w fun e w' => e = .returned (.bool true) ∧ Below w.heap.size w w' := lives12_any _ prog12 w trivial
end Go.Proofs.Ytjjldolafnfpoaa
