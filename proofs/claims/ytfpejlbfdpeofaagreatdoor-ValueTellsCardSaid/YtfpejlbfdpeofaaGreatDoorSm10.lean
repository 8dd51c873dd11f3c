/- Contracts of functions of the program, by a machine over abstract values; part 11. No condition beyond those of each theorem. -/
import Derived.Test.YtfpejlbfdpeofaaGreatDoorSm9
namespace Go.Proofs.Yt
open Go Go.FA Go.Proofs Go.RowKit Go.Proofs.Y
set_option maxRecDepth 1000000
theorem T1ok : TabOk Tryz.prog T1 := TabOk.cons e237 (TabOk.cons e285i (TabOk.cons e296 TabOk.nil))
/-- a closed call that the kernel finds true -/
theorem hcTrue {f g : Nat} {xs : List DV} (h : isB (call f g xs) = true) : HC Tryz.prog g xs σ0 (fun d _ => d = .lit (.bool true)) := by
  unfold isB at h
  split at h
  · next b s' hc =>
    have := HC.of_ev mixed T1ok H1ok unnamed f hc
    rw [st0] at this
    exact this.mono fun d σ' ⟨q, _⟩ => by rw [q, h]
  · simp at h
def s56 : Sp := fun xs => match xs with
  | [] => some (.lit (.bool true))
  | _ => none
theorem e56 : Go.FA.Good Tryz.prog (56, s56) := by
  refine ⟨CallSound.of_pure fun xs r hr => ?_, Tryz.f56, _, Tryz.func56, rfl, by decide⟩
  simp only [s56] at hr
  split at hr
  · simp only [Option.some.injEq] at hr; subst hr
    exact ⟨rfl, rfl, 0, hcTrue EC⟩
  · simp at hr
noncomputable def T2 : Tab := tabOf [(56, s56), (237, s237), (285, s285i), (296, s296)]
theorem T2ok : TabOk Tryz.prog T2 := TabOk.cons e56 (TabOk.cons e237 (TabOk.cons e285i (TabOk.cons e296 TabOk.nil)))
noncomputable def call2 (f : Nat) (g : Nat) (xs : List DV) : Option (DV × EvS) := evC Tryz.prog T2 H1 L1 M1 (ev Tryz.prog T2 H1 L1 M1 f) g xs ⟨0, .leaf, .leaf⟩
theorem hcTrue2 {f g : Nat} {xs : List DV} (h : isB (call2 f g xs) = true) : HC Tryz.prog g xs σ0 (fun d _ => d = .lit (.bool true)) := by
  unfold isB at h
  split at h
  · next b s' hc =>
    have := HC.of_ev mixed T2ok H1ok unnamed f hc
    rw [st0] at this
    exact this.mono fun d σ' ⟨q, _⟩ => by rw [q, h]
  · simp at h
end Go.Proofs.Yt
