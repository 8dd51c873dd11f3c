/- Contracts of functions of the program, by a machine over abstract values; part 11. No condition beyond those of each theorem. -/
import Derived.Test.YtfpejlbfdpeofaaGreatDoorSm9
set_option linter.unusedVariables false
set_option linter.unusedSimpArgs false
namespace Go.Proofs.Yt
open Go Go.FA Go.Proofs Go.RowKit
set_option linter.unusedSimpArgs false
set_option maxRecDepth 100000
def Hid (p : Prop) : Prop := p
theorem QaR {f : FuncId} {fn : Func} {t : Nat} (hf : Tryz.prog.funcs[f]? = some fn) (hr : fn.results.toList = [.tmp t]) (b : Bool) {a : Nat → DV} {σ : St} (h : a t = .lit (.bool b)) : Q4 Tryz.prog fn.results Enc.bool b Ex.ret a σ := by
  refine ⟨.inr rfl, .lit (.bool b), ?_, by simp [Q4, QH, QX, frz, Q0, QY, Enc.bool]⟩
  rw [hr]; simp [QH, QX, h]
end Go.Proofs.Yt
