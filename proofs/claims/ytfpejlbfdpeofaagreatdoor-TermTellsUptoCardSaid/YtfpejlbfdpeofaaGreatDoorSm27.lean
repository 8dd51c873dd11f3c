/- Contracts of functions of the program, by a machine over abstract values; part 28. No condition beyond those of each theorem. -/
import Derived.Test.YtfpejlbfdpeofaaGreatDoorSm26
set_option linter.unusedVariables false
set_option linter.unusedSimpArgs false
namespace Go.Proofs.Yt
open Go Go.FA Go.Proofs Go.RowKit Go.Proofs.Y
set_option maxRecDepth 1000000
theorem c_at {β : Type} {B : Enc β} {q : β → Bool} {y : β} {g : Nat} {t0 : Tm} (heq : ∀ a, q a = true → a = y) (h : Qjq B q (call8 1000 g (argT t0)) = true) :
    Qb Tryz.prog g (sp (Ql.one Enc.tm) B (fun t => if QkU t t0 then some y else none)) := by
  refine Qb.of_hc fun x z hz => ?_
  split at hz
  · next ht =>
    have := QdB _ _ ht; subst this
    simp only [Option.some.injEq] at hz; subst hz
    exact hc_dec heq h
  · simp at hz
def s37x : Sp := sp (Ql.one Enc.tm) Enc.intErr (fun t => if QkU t t0T then some (5, 0) else none)
def s39x : Sp := sp (Ql.one Enc.tm) Enc.intErr (fun t => if QkU t t0T then some (3, 0) else none)
def s41x : Sp := sp (Ql.one Enc.tm) Enc.strsErr (fun t => if QkU t t0T then some ([⟨#[76]⟩, ⟨#[88]⟩], 0) else none)
theorem c37x : Qb Tryz.prog 37 s37x := c_at QhU k37
theorem c39x : Qb Tryz.prog 39 s39x := c_at QhU k39
theorem c41x : Qb Tryz.prog 41 s41x := c_at eqLE_spec k41
noncomputable def T10 : Tab := Qf [(37, s37x), (39, s39x), (41, s41x), (25, s25x), (27, s27x), (29, s29x), (31, s31x), (43, s43), (163, s163), (237, s237), (285, Qh9), (296, s296)]
theorem T10ok : QH Tryz.prog T10 := QH.cons ⟨c37x, Tryz.f37, _, Tryz.func37, rfl, by decide⟩ (QH.cons ⟨c39x, Tryz.f39, _, Tryz.func39, rfl, by decide⟩ (QH.cons ⟨c41x, Tryz.f41, _, Tryz.func41, rfl, by decide⟩
  (QH.cons ⟨c25x, Tryz.f25, _, Tryz.func25, rfl, by decide⟩ (QH.cons ⟨c27x, Tryz.f27, _, Tryz.func27, rfl, by decide⟩ (QH.cons ⟨c29x, Tryz.f29, _, Tryz.func29, rfl, by decide⟩ (QH.cons ⟨c31x, Tryz.f31, _, Tryz.func31, rfl, by decide⟩
  (QH.cons ⟨c43, Tryz.f43, _, Tryz.func43, rfl, by decide⟩ (QH.cons ⟨c163, Tryz.f163, _, Tryz.func163, rfl, by decide⟩ (QH.cons e237 (QH.cons e285i (QH.cons e296 QH.nil)))))))))))
noncomputable def call10 (f : Nat) (g : Nat) (xs : List DV) : Option (DV × EvS) := evC Tryz.prog T10 H7 L1 M7 (ev Tryz.prog T10 H7 L1 M7 f) g xs ⟨0, .leaf, .leaf⟩
theorem hcTrue10 {f g : Nat} {xs : List DV} (h : isB (call10 f g xs) = true) : HC Tryz.prog g xs σ0 (fun d _ => d = .lit (.bool true)) := by
  unfold isB at h
  split at h
  · next b s' hc =>
    have := HC.of_ev mixed T10ok H7ok unnamed f hc
    rw [st0] at this
    exact this.mono fun d σ' ⟨q, _⟩ => by rw [q, h]
  · simp at h
end Go.Proofs.Yt
