/- Contracts of functions of the program, by a machine over abstract values; part 23. No condition beyond those of each theorem. -/
import Derived.Test.YtfpejlbfdpeofaaGreatDoorSm21
set_option linter.unusedVariables false
set_option linter.unusedSimpArgs false
namespace Go.FA
open Go.RowKit
variable {P : Program}
theorem Qb.of_hc {α β : Type} {A : Ql α} {B : Enc β} {g : α → Option β} {f : FuncId}
    (h : ∀ x y, g x = some y → HC P f (A.enc x) σ0 (fun d σ' => B.dec (frz σ' d) = some y)) : Qb P f (sp A B g) := by
  intro args r hr
  simp only [sp, Option.bind_eq_some_iff, Option.map_eq_some_iff] at hr
  obtain ⟨x, hx, y, hy, rfl⟩ := hr
  refine .inl ⟨QeR (B.pure y), fun C w cargs hgl hpc hpm hl1 => ?_⟩
  have hl : QP C w (A.enc x) cargs := Qbk (A.le _ _ hx) hl1
  obtain ⟨hsz, C0, hg, hs0⟩ := QdK (n := (A.enc x).length) hgl hpc hpm (A.pure x) hl (Nat.le_refl _)
  have hl0 : QP C0 w (A.enc x) cargs := QS hg.le hg.st _ _ (Qbb (C := C) (C' := ⟨fun _ => none, fun _ => none, C.pc, C.pm, w.heap.size⟩) (fun _ _ p => p) (fun _ p => p) _ _ (A.pure x) hl)
  refine ((h x y hy).2 _ C0 w cargs hl0 hs0).mono fun e w' ⟨v, he, d, σ', hdec, C', r1, r2, r3, r4⟩ => ?_
  exact ⟨v, he, r4.below, Qcl (C := { C' with pm := fun b => C'.pm b ∨ (w.heap.size ≤ b ∧ b < w'.heap.size) }) (fun b o p => r4.psub b o p) (fun b p => Or.elim p (fun q => r4.msub b q) (fun q => Or.inr q)) _ _ (B.pure y) (B.le _ _ hdec _ _ _ (QjY r4 r3))⟩
end Go.FA
