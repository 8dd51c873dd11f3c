/- Contracts of functions of the program, by a machine over abstract values; part 27. No condition beyond those of each theorem. -/
import Derived.Test.YtfpejlbfdpeofaaGreatDoorSm25
set_option linter.unusedVariables false
set_option linter.unusedSimpArgs false
namespace Go.Proofs.Yt
open Go Go.FA Go.Proofs Go.RowKit
set_option linter.unusedSimpArgs false
set_option maxRecDepth 100000
theorem QhV : ∀ n : Nat, Qy Tryz.prog 106 (QdS n)
  | 0 => by
    refine Qy.of_sp (T := QD []) Tryz.func106 rfl (Nat.le_of_ble_eq_true rfl) fun E xx y hy => ?_
    split at hy
    case isFalse => cases hy
    next hlim => exact absurd hlim.1 (by have := Qeo xx.2; omega)
  | n + 1 => c106 n (c172 n (QhV n))
theorem e106 (n : Nat) : Go.FA.Good Tryz.prog (106, QdS n) := ⟨QhV n, Tryz.f106, _, Tryz.func106, rfl, by decide⟩
theorem Qf4 (z0 z1 z2 z3 z4 z5 : DV) (t : Tm) : setAt [z0, z1, z2, z3, z4, z5] 0 t.cells = t.cells := by cases t; rfl
def QjK (t : Tm) (a b : ByteArray) : Tm × Int := if QaD t = true ∧ QP a = true ∧ QP b = true then (Qc8 a b t, 0) else (.mk 0 0 ⟨#[]⟩ ⟨#[]⟩ [] [], 2)
def Enc.tmI : Enc (Tm × Int) := Enc.tup (QR Enc.tm Enc.i64)
open Classical in
noncomputable def sT50 : Sp := sp (Q0 Enc.tm Enc.str Enc.str) Enc.tmI (fun x => if okT x.1 ∧ tsz x.1 ≤ tlim then some (QjK x.1 x.2.1 x.2.2) else none)
set_option maxHeartbeats 4000000 in
theorem c50 : Qy Tryz.prog 50 sT50 := by
  refine Qy.of_sp (T := QD [(23, s23), (105, s105), (106, QdS tlim)]) Tryz.func50 rfl (Nat.le_of_ble_eq_true rfl) fun E xx y hy => ?_
  obtain ⟨t, a, b⟩ := xx
  simp only [] at hy
  split at hy
  case isFalse => cases hy
  next hlim =>
  obtain ⟨hok, hl⟩ := hlim
  cases hy
  have tT : QO Tryz.prog (QD [(23, s23), (105, s105), (106, QdS tlim)]) := .cons e23 (.cons QjI (.cons (e106 tlim) .nil))
  have g1 := call23 (QD [(23, s23), (105, s105), (106, QdS tlim)]) rfl t hok hl
  have g2 := QbG (QD [(23, s23), (105, s105), (106, QdS tlim)]) rfl
  have g3 := fun h1 h2 => Qi3 (QD [(23, s23), (105, s105), (106, QdS tlim)]) rfl a b t ⟨hl, hok, h1, h2⟩
  generalize QD [(23, s23), (105, s105), (106, QdS tlim)] = T at *
  have c6 := Q6 t
  refine Dwp.step tT rfl fun K hK => ?_
  simp [QB, QE, Qk, QJ, own, Ql, dop, QI, eval, Qx, QF, Ex.then, Ex.inBlock, upd, QK, Tag.isNN, Qm, intCmp, Qz, QA, TyI.agg, Qb, Qs, Qd, Qq, QL, QC, Qo, mapOf, Qw, Qn, Qe, Qh, Qf, Qt, DV.cells, Qr, Qg, Qp, Qu, rowsOf, Qv, growLimit, Qa, Qa.go, Qi, Qj, Qc, goInt, init, Q0, QR, QS, QH.and, QH.one, Enc.tm, Enc.str, Enc.agg, QH.tm, Tm.cells_len, Q6, Qaf]
  refine hK _ _ ?_ rfl; clear hK K
  refine Dwp.seq ?_
  refine Dwp.step tT rfl fun K hK => ?_
  rcases hv : QaD t with _ | _ <;> rcases ha : QP a with _ | _ <;> rcases hb : QP b with _ | _
  all_goals
    simp [QB, QE, Qk, QJ, own, Ql, dop, QI, eval, Qx, QF, Ex.then, Ex.inBlock, upd, QK, Tag.isNN, Qm, intCmp, Qz, QA, TyI.agg, Qb, Qs, Qd, Qq, QL, QC, Qo, mapOf, Qw, Qn, Qe, Qh, Qf, Qt, DV.cells, Qr, Qg, Qp, Qu, rowsOf, Qv, growLimit, Qa, Qa.go, Qi, Qj, Qc, goInt, init, Qaf, Tm.cells_len, Q6, g1, g2, hv, ha, hb]
    refine hK _ _ ?_ rfl; clear hK K
  iterate 7
    · refine Dwp.condT (by simp [eval, upd]) ?_
      refine Dwp.step tT rfl fun K hK => ?_
      simp [QB, QE, Qk, QJ, own, Ql, dop, QI, eval, Qx, QF, Ex.then, Ex.inBlock, upd, QK, Tag.isNN, Qm, intCmp, Qz, QA, TyI.agg, Qb, Qs, Qd, Qq, QL, QC, Qo, mapOf, Qw, Qn, Qe, Qh, Qf, Qt, DV.cells, Qr, Qg, Qp, Qu, rowsOf, Qv, growLimit, Qa, Qa.go, Qi, Qj, Qc, goInt, init, Qaf, setAt]
      refine hK _ _ (Dwp.ret ?_) rfl
      simp [Q1, QG, QY, frz, QW, QX, Ex.then, upd, Qz, Qaf, QA, TyI.agg, Enc.tmI, Enc.tup, QR, QH.and, QH.one, Enc.i64, Enc.int, Enc.tm, Enc.agg, QH.tm, Tm.decL, Tm.decC, QjK, setAt, hv, ha, hb]
  · have h1 := Qaq ha
    have h2 := Qaq hb
    have g3' := g3 (by unfold lim; omega) (by unfold lim; omega)
    refine Dwp.condF (by simp [eval, upd]) (Dwp.skip ?_)
    show Dwp _ _ _ _ _ _ _ _
    refine Dwp.step tT rfl fun K hK => ?_
    simp [QB, QE, Qk, QJ, own, Ql, dop, QI, eval, Qx, QF, Ex.then, Ex.inBlock, upd, QK, Tag.isNN, Qm, intCmp, Qz, QA, TyI.agg, Qb, Qs, Qd, Qq, QL, QC, Qo, mapOf, Qw, Qn, Qe, Qh, Qf, Qt, DV.cells, Qr, Qg, Qp, Qu, rowsOf, Qv, growLimit, Qa, Qa.go, Qi, Qj, Qc, goInt, init, ty9, Qaf, Qdi, Tm.cells_len, Q6, g3', setAt]
    refine hK _ _ (Dwp.ret ?_) rfl
    have hf : QjK t a b = (Qc8 a b t, 0) := by simp [QjK, hv, ha, hb]
    rw [hf]
    generalize Qc8 a b t = u
    have hz : ∀ τ : St, u.cells.map (QW τ) = u.cells := fun τ => by cases u; simp [Tm.cells, QW, frz]
    simp [Q1, QG, QY, frz, QW, QX, Ex.then, upd, Qz, Qaf, QA, TyI.agg, Enc.tmI, Enc.tup, QR, QH.and, QH.one, Enc.i64, Enc.int, Enc.tm, Enc.agg, QH.tm, Qf4, Tm.cells_len, Q6, hz, Tm.dec_cells]
theorem e50 : Go.FA.Good Tryz.prog (50, sT50) := ⟨c50, Tryz.f50, _, Tryz.func50, rfl, by decide⟩
def Enc.sz2 : Enc (Int × Int) := Enc.tup (QR Enc.i64 Enc.i64)
open Classical in
noncomputable def sT37 : Sp := sp (QS Enc.tm) Enc.sz2 (fun t => if okT t ∧ tsz t ≤ tlim then some ((Qb3 t).1, (Qb3 t).2.2) else none)
open Classical in
noncomputable def sT39 : Sp := sp (QS Enc.tm) Enc.sz2 (fun t => if okT t ∧ tsz t ≤ tlim then some ((Qb3 t).2.1, (Qb3 t).2.2) else none)
theorem c37 : Qy Tryz.prog 37 sT37 := by
  refine Qy.of_sp (T := QD [(76, s76)]) Tryz.func37 rfl (Nat.le_of_ble_eq_true rfl) fun E t y hy => ?_
  split at hy
  case isFalse => cases hy
  next hlim =>
  obtain ⟨hok, hl⟩ := hlim
  cases hy
  have tT : QO Tryz.prog (QD [(76, s76)]) := .cons e76 .nil
  have g := QiS (QD [(76, s76)]) rfl t hok hl
  generalize QD [(76, s76)] = T at *
  refine Dwp.step tT rfl fun K hK => ?_
  simp [QB, QE, Qk, QJ, own, Ql, dop, QI, eval, Qx, QF, Ex.then, Ex.inBlock, upd, QK, Tag.isNN, Qm, intCmp, Qz, QA, TyI.agg, Qb, Qs, Qd, Qq, QL, QC, Qo, mapOf, Qw, Qn, Qe, Qh, Qf, Qt, DV.cells, Qr, Qg, Qp, Qu, rowsOf, Qv, growLimit, Qa, Qa.go, Qi, Qj, Qc, goInt, init, QS, QH.one, Enc.tm, Enc.agg, QH.tm, Tm.cells_len, Q6]
  refine hK _ _ ?_ rfl; clear hK K
  refine Dwp.step tT rfl fun K hK => ?_
  simp [QB, QE, Qk, QJ, own, Ql, dop, QI, eval, Qx, QF, Ex.then, Ex.inBlock, upd, QK, Tag.isNN, Qm, intCmp, Qz, QA, TyI.agg, Qb, Qs, Qd, Qq, QL, QC, Qo, mapOf, Qw, Qn, Qe, Qh, Qf, Qt, DV.cells, Qr, Qg, Qp, Qu, rowsOf, Qv, growLimit, Qa, Qa.go, Qi, Qj, Qc, goInt, init, Qaf, Tm.cells_len, Q6, g]
  refine hK _ _ ?_ rfl; clear hK K
  refine Dwp.step tT rfl fun K hK => ?_
  simp [QB, QE, Qk, QJ, own, Ql, dop, QI, eval, Qx, QF, Ex.then, Ex.inBlock, upd, QK, Tag.isNN, Qm, intCmp, Qz, QA, TyI.agg, Qb, Qs, Qd, Qq, QL, QC, Qo, mapOf, Qw, Qn, Qe, Qh, Qf, Qt, DV.cells, Qr, Qg, Qp, Qu, rowsOf, Qv, growLimit, Qa, Qa.go, Qi, Qj, Qc, goInt, init]
  refine hK _ _ (Dwp.ret ?_) rfl
  simp [Q1, QG, QY, frz, QW, QX, Ex.then, upd, Enc.sz2, Enc.tup, QR, QH.and, QH.one, Enc.i64, Enc.int]
theorem e37 : Go.FA.Good Tryz.prog (37, sT37) := ⟨c37, Tryz.f37, _, Tryz.func37, rfl, by decide⟩
theorem c39 : Qy Tryz.prog 39 sT39 := by
  refine Qy.of_sp (T := QD [(76, s76)]) Tryz.func39 rfl (Nat.le_of_ble_eq_true rfl) fun E t y hy => ?_
  split at hy
  case isFalse => cases hy
  next hlim =>
  obtain ⟨hok, hl⟩ := hlim
  cases hy
  have tT : QO Tryz.prog (QD [(76, s76)]) := .cons e76 .nil
  have g := QiS (QD [(76, s76)]) rfl t hok hl
  generalize QD [(76, s76)] = T at *
  refine Dwp.step tT rfl fun K hK => ?_
  simp [QB, QE, Qk, QJ, own, Ql, dop, QI, eval, Qx, QF, Ex.then, Ex.inBlock, upd, QK, Tag.isNN, Qm, intCmp, Qz, QA, TyI.agg, Qb, Qs, Qd, Qq, QL, QC, Qo, mapOf, Qw, Qn, Qe, Qh, Qf, Qt, DV.cells, Qr, Qg, Qp, Qu, rowsOf, Qv, growLimit, Qa, Qa.go, Qi, Qj, Qc, goInt, init, QS, QH.one, Enc.tm, Enc.agg, QH.tm, Tm.cells_len, Q6]
  refine hK _ _ ?_ rfl; clear hK K
  refine Dwp.step tT rfl fun K hK => ?_
  simp [QB, QE, Qk, QJ, own, Ql, dop, QI, eval, Qx, QF, Ex.then, Ex.inBlock, upd, QK, Tag.isNN, Qm, intCmp, Qz, QA, TyI.agg, Qb, Qs, Qd, Qq, QL, QC, Qo, mapOf, Qw, Qn, Qe, Qh, Qf, Qt, DV.cells, Qr, Qg, Qp, Qu, rowsOf, Qv, growLimit, Qa, Qa.go, Qi, Qj, Qc, goInt, init, Qaf, Tm.cells_len, Q6, g]
  refine hK _ _ ?_ rfl; clear hK K
  refine Dwp.step tT rfl fun K hK => ?_
  simp [QB, QE, Qk, QJ, own, Ql, dop, QI, eval, Qx, QF, Ex.then, Ex.inBlock, upd, QK, Tag.isNN, Qm, intCmp, Qz, QA, TyI.agg, Qb, Qs, Qd, Qq, QL, QC, Qo, mapOf, Qw, Qn, Qe, Qh, Qf, Qt, DV.cells, Qr, Qg, Qp, Qu, rowsOf, Qv, growLimit, Qa, Qa.go, Qi, Qj, Qc, goInt, init]
  refine hK _ _ (Dwp.ret ?_) rfl
  simp [Q1, QG, QY, frz, QW, QX, Ex.then, upd, Enc.sz2, Enc.tup, QR, QH.and, QH.one, Enc.i64, Enc.int]
theorem e39 : Go.FA.Good Tryz.prog (39, sT39) := ⟨c39, Tryz.f39, _, Tryz.func39, rfl, by decide⟩
end Go.Proofs.Yt
