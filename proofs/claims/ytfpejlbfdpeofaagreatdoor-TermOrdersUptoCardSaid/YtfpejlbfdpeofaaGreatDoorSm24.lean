/- Contracts of functions of the program, by a machine over abstract values; part 25. No condition beyond those of each theorem. -/
import Derived.Test.YtfpejlbfdpeofaaGreatDoorSm23
set_option linter.unusedVariables false
set_option linter.unusedSimpArgs false
namespace Go.Proofs.Yt
open Go Go.FA Go.Proofs Go.RowKit
set_option linter.unusedSimpArgs false
set_option maxRecDepth 100000
def Qjt (t u : Tm) : Int × Int := if Qav t = true ∧ Qav u = true then (Qhz t u, 0) else (0, 2)
theorem cmpE_ordE (t u : Tm) : Qjx t u = Qjt t u := by
  unfold Qjx Qjt
  split
  · next h => rw [Qi7 t u (Qgz h.1) (Qgz h.2)]
  · rfl
open Classical in
noncomputable def sT34 : Sp := sp (QS Enc.tm Enc.tm) Enc.i2 (fun x => if (okT x.1 ∧ tsz x.1 ≤ tlim) ∧ okT x.2 ∧ tsz x.2 ≤ tlim then some (Qjt x.1 x.2) else none)
set_option maxHeartbeats 2000000 in
theorem c34 : QC Tryz.prog 34 sT34 := by
  refine QC.of_sp (T := QG [(24, sT24), (89, s89 tlim)]) Tryz.func34 rfl (Nat.le_of_ble_eq_true rfl) fun E xx y hy => ?_
  obtain ⟨t, u⟩ := xx
  simp only [] at hy
  split at hy
  case isFalse => cases hy
  next hlim =>
  obtain ⟨⟨ho1, hl1⟩, ho2, hl2⟩ := hlim
  cases hy
  have tT : QP Tryz.prog (QG [(24, sT24), (89, s89 tlim)]) := .cons e24 (.cons e89 .nil)
  have g1 := Qj7 (QG [(24, sT24), (89, s89 tlim)]) rfl t ho1 hl1
  have g2 := Qj7 (QG [(24, sT24), (89, s89 tlim)]) rfl u ho2 hl2
  have g3 := QjZ (QG [(24, sT24), (89, s89 tlim)]) rfl t u hl1 hl1 hl2
  generalize QG [(24, sT24), (89, s89 tlim)] = T at *
  have fin : ∀ (x : Int × Int) (a : Nat → DV) (σ : St), a 4 = .lit (.int .i64 x.1) → a 5 = .lit (.int .i64 x.2) → QZ Tryz.prog Tryz.f34.results Enc.i2 x Ex.ret a σ := by
    intro x a σ h4 h5
    refine ⟨.inr rfl, .tuple [.lit (.int .i64 x.1), .lit (.int .i64 x.2)], ?_, by simp [QZ, QH, QV, frz, QX, QW, Enc.i2, Enc.tup, QS, QM.and, QM.one, Enc.i64, Enc.int]⟩
    show QH Tryz.prog σ a [ResultVar.tmp 4, ResultVar.tmp 5] = _
    simp [QH, QV, h4, h5]
  clear ho1 hl1 ho2 hl2
  refine Dwp.step tT rfl fun K hK => ?_
  simp [QD, QE, Qn, QI, own, Ql, dop, QJ, eval, Qy, QF, Ex.then, Ex.inBlock, upd, QK, Tag.isNN, Qm, intCmp, Qz, QA, TyI.agg, Qb, Qs, Qd, Qr, QL, QB, Qp, mapOf, Qx, Qo, Qf, Qi, Qg, Qu, DV.cells, Qt, Qh, Qq, Qv, rowsOf, Qw, Qe, Qa, Qa.go, Qj, Qk, Qc, goInt, init, QS, QM.one, QM.and, Enc.tm, Enc.agg, QM.tm, Tm.cells_len, Q8]
  refine hK _ _ ?_ rfl; clear hK K
  refine Dwp.seq ?_
  refine Dwp.step tT rfl fun K hK => ?_
  have bad : ∀ a' σ', a' 13 = .lit (.bool true) → Qjt t u = (0, 2) → σ'.n = σ0.n + 4 → K a' σ' := by
    intro a' σ' h13 hc hn
    refine hK _ _ ?_ hn
    refine Dwp.condT (by simp [eval, h13]) ?_
    refine Dwp.step tT rfl fun K hK => ?_
    simp [QD, QE, Qn, QI, own, Ql, dop, QJ, eval, Qy, QF, Ex.then, Ex.inBlock, upd, QK, Tag.isNN, Qm, intCmp, Qz, QA, TyI.agg, Qb, Qs, Qd, Qr, QL, QB, Qp, mapOf, Qx, Qo, Qf, Qi, Qg, Qu, DV.cells, Qt, Qh, Qq, Qv, rowsOf, Qw, Qe, Qa, Qa.go, Qj, Qk, Qc, goInt]
    refine hK _ _ (Dwp.ret ?_) rfl
    rw [hc]
    exact fin (0, 2) _ _ (by simp [upd]) (by simp [upd])
  rcases h1 : Qav t with _ | _
  · rw [h1] at g1
    repeat' ((first | refine QF.stepD rfl rfl ?_ | refine QF.stepG rfl rfl rfl ?_ | refine QF.stepN rfl rfl ?_ | refine QF.stepGN rfl rfl rfl ?_); intro K1 hK1; simp [*, QQ, QN, QI, dop, eval, Qy, upd, Qb, Qs, Qz, QA, TyI.agg, Qd, Qr, Qi, Qg, QB, QL, goInt, QK, intCmp, Qm, Tag.isNN, Qc, DV.cells, Qe, Qt, Qh, init, Qaa, ty3, ty9, Q9, Qab, Ql, Tm.cells_len, Q8]; (first | (refine hK1 _ _ ?_; clear hK1 K1) | (split <;> (rename_i hsp; (try simp only [beq_iff_eq, beq_eq_false_iff_ne, ne_eq, decide_eq_true_eq, decide_eq_false_iff_not] at hsp); (try (first | have hsq := Int.not_le.2 hsp | have hsq := Int.not_lt.2 hsp | have hsq := Int.not_le.1 hsp | have hsq := Int.not_lt.1 hsp)); (try subst hsp); (try simp only [hsp])) <;> (refine hK1 _ _ ?_; clear hK1 K1))))
    exact QF.done (bad _ _ (by simp [upd]) (by simp [Qjt, h1]) rfl)
  rcases h2 : Qav u with _ | _
  · rw [h1] at g1
    rw [h2] at g2
    repeat' ((first | refine QF.stepD rfl rfl ?_ | refine QF.stepG rfl rfl rfl ?_ | refine QF.stepN rfl rfl ?_ | refine QF.stepGN rfl rfl rfl ?_); intro K1 hK1; simp [*, QQ, QN, QI, dop, eval, Qy, upd, Qb, Qs, Qz, QA, TyI.agg, Qd, Qr, Qi, Qg, QB, QL, goInt, QK, intCmp, Qm, Tag.isNN, Qc, DV.cells, Qe, Qt, Qh, init, Qaa, ty3, ty9, Q9, Qab, Ql, Tm.cells_len, Q8]; (first | (refine hK1 _ _ ?_; clear hK1 K1) | (split <;> (rename_i hsp; (try simp only [beq_iff_eq, beq_eq_false_iff_ne, ne_eq, decide_eq_true_eq, decide_eq_false_iff_not] at hsp); (try (first | have hsq := Int.not_le.2 hsp | have hsq := Int.not_lt.2 hsp | have hsq := Int.not_le.1 hsp | have hsq := Int.not_lt.1 hsp)); (try subst hsp); (try simp only [hsp])) <;> (refine hK1 _ _ ?_; clear hK1 K1))))
    exact QF.done (bad _ _ (by simp [upd]) (by simp [Qjt, h1, h2]) rfl)
  clear bad
  rw [h1] at g1
  rw [h2] at g2
  repeat' ((first | refine QF.stepD rfl rfl ?_ | refine QF.stepG rfl rfl rfl ?_ | refine QF.stepN rfl rfl ?_ | refine QF.stepGN rfl rfl rfl ?_); intro K1 hK1; simp [*, QQ, QN, QI, dop, eval, Qy, upd, Qb, Qs, Qz, QA, TyI.agg, Qd, Qr, Qi, Qg, QB, QL, goInt, QK, intCmp, Qm, Tag.isNN, Qc, DV.cells, Qe, Qt, Qh, init, Qaa, ty3, ty9, Q9, Qab, Ql, Tm.cells_len, Q8]; (first | (refine hK1 _ _ ?_; clear hK1 K1) | (split <;> (rename_i hsp; (try simp only [beq_iff_eq, beq_eq_false_iff_ne, ne_eq, decide_eq_true_eq, decide_eq_false_iff_not] at hsp); (try (first | have hsq := Int.not_le.2 hsp | have hsq := Int.not_lt.2 hsp | have hsq := Int.not_le.1 hsp | have hsq := Int.not_lt.1 hsp)); (try subst hsp); (try simp only [hsp])) <;> (refine hK1 _ _ ?_; clear hK1 K1))))
  refine QF.done (hK _ _ ?_ rfl)
  refine Dwp.condF (by simp [eval, upd]) (Dwp.skip ?_)
  refine Dwp.step tT rfl fun K hK => ?_
  simp [QD, QE, Qn, QI, own, Ql, dop, QJ, eval, Qy, QF, Ex.then, Ex.inBlock, upd, QK, Tag.isNN, Qm, intCmp, Qz, QA, TyI.agg, Qb, Qs, Qd, Qr, QL, QB, Qp, mapOf, Qx, Qo, Qf, Qi, Qg, Qu, DV.cells, Qt, Qh, Qq, Qv, rowsOf, Qw, Qe, Qa, Qa.go, Qj, Qk, Qc, goInt, init, Qab, Tm.cells_len, Q8, g3]
  refine hK _ _ (Dwp.ret ?_) rfl
  have hc : Qjt t u = (Qhz t u, 0) := by simp [Qjt, h1, h2]
  rw [hc]
  exact fin (Qhz t u, 0) _ _ (by simp [upd]) (by simp [upd])
theorem e34 : Go.FA.Good Tryz.prog (34, sT34) := ⟨c34, Tryz.f34, _, Tryz.func34, rfl, by decide⟩
open Classical in
theorem call33 (T : Tab) (hT : T 33 = some sT33) (t u : Tm) (h : okT t ∧ tsz t ≤ tlim) (h2 : okT u ∧ tsz u ≤ tlim) : dcall T 33 [.agg t.cells, .agg u.cells] = some (.tuple [.lit (.int .i64 (Qjx t u).1), .lit (.int .i64 (Qjx t u).2)]) :=
  QaL (A := Enc.tm) (B := Enc.tm) (C := Enc.i2) hT (if_pos ⟨h, h2⟩)
open Classical in
theorem call34 (T : Tab) (hT : T 34 = some sT34) (t u : Tm) (h : okT t ∧ tsz t ≤ tlim) (h2 : okT u ∧ tsz u ≤ tlim) : dcall T 34 [.agg t.cells, .agg u.cells] = some (.tuple [.lit (.int .i64 (Qjt t u).1), .lit (.int .i64 (Qjt t u).2)]) :=
  QaL (A := Enc.tm) (B := Enc.tm) (C := Enc.i2) hT (if_pos ⟨h, h2⟩)
theorem call22 (T : Tab) (hT : T 22 = some s22x) : dcall T 22 [] = some (.lit (.bool true)) := by
  simp [dcall, hT, s22x]
open Classical in
noncomputable def sT4 : Sp := sp (QS Enc.tm Enc.tm) Enc.bool (fun x => if (okT x.1 ∧ tsz x.1 ≤ tlim) ∧ okT x.2 ∧ tsz x.2 ≤ tlim then some true else none)
noncomputable abbrev TL4 : Tab := QG [(21, s21), (22, s22x), (33, sT33), (34, sT34), (35, s35 tlim), (36, s36 tlim)]
theorem tabL4 : QP Tryz.prog TL4 := .cons e21 (.cons e22x (.cons e33 (.cons e34 (.cons e35 (.cons e36 .nil)))))
set_option maxHeartbeats 2000000 in
theorem cL4 : QC Tryz.prog 4 sT4 := by
  refine QC.of_sp (T := TL4) Tryz.func4 rfl (Nat.le_of_ble_eq_true rfl) fun E xx y hy => ?_
  obtain ⟨t, u⟩ := xx
  simp only [] at hy
  split at hy
  case isFalse => cases hy
  next hlim =>
  obtain ⟨h1, h2⟩ := hlim
  cases hy
  have tT := tabL4
  have g1 := Qj9 TL4 rfl t h1.1
  have g2 := Qj9 TL4 rfl u h2.1
  have g3 := call22 TL4 rfl
  have g4 := call33 TL4 rfl t u h1 h2
  have g5 := call34 TL4 rfl t u h1 h2
  have g6 := QiN TL4 rfl t u h1.2 h1.2 h2.2
  have g7 := QjT TL4 rfl t u h1.2 h1.2 h2.2
  have g8 := QiN TL4 rfl t t h1.2 h1.2 h1.2
  rw [Qfl] at g8
  rw [cmpE_ordE] at g4
  generalize TL4 = T at *
  clear h1 h2
  refine Dwp.step tT rfl fun K hK => ?_
  simp [QD, QE, Qn, QI, own, Ql, dop, QJ, eval, Qy, QF, Ex.then, Ex.inBlock, upd, QK, Tag.isNN, Qm, intCmp, Qz, QA, TyI.agg, Qb, Qs, Qd, Qr, QL, QB, Qp, mapOf, Qx, Qo, Qf, Qi, Qg, Qu, DV.cells, Qt, Qh, Qq, Qv, rowsOf, Qw, Qe, Qa, Qa.go, Qj, Qk, Qc, goInt, init, QS, QM.one, QM.and, Enc.tm, Enc.agg, QM.tm, Tm.cells_len, Q8]
  refine hK _ _ ?_ rfl; clear hK K
  refine Dwp.seq ?_
  refine Dwp.step tT rfl fun K hK => ?_
  have bad : ∀ a' σ', a' 18 = .lit (.bool true) → σ'.n = σ0.n + 3 → K a' σ' := by
    intro a' σ' h13 hn
    refine hK _ _ ?_ hn
    refine Dwp.condT (by simp [eval, h13]) ?_
    refine Dwp.step tT rfl fun K hK => ?_
    simp [QD, QE, Qn, QI, own, Ql, dop, QJ, eval, Qy, QF, Ex.then, Ex.inBlock, upd, QK, Tag.isNN, Qm, intCmp, Qz, QA, TyI.agg, Qb, Qs, Qd, Qr, QL, QB, Qp, mapOf, Qx, Qo, Qf, Qi, Qg, Qu, DV.cells, Qt, Qh, Qq, Qv, rowsOf, Qw, Qe, Qa, Qa.go, Qj, Qk, Qc, goInt, g3]
    refine hK _ _ (Dwp.ret ?_) rfl
    exact Qay Tryz.func4 rfl _ (by simp [upd])
  generalize decide (0 ≤ QaA [t] 2600 0) = b1 at *
  generalize decide (0 ≤ QaA [u] 2600 0) = b2 at *
  cases b1
  ·
    repeat' ((first | refine QF.stepD rfl rfl ?_ | refine QF.stepG rfl rfl rfl ?_ | refine QF.stepN rfl rfl ?_ | refine QF.stepGN rfl rfl rfl ?_); intro K1 hK1; simp [*, QQ, QN, QI, dop, eval, Qy, upd, Qb, Qs, Qz, QA, TyI.agg, Qd, Qr, Qi, Qg, QB, QL, goInt, QK, intCmp, Qm, Tag.isNN, Qc, DV.cells, Qe, Qt, Qh, init, Qaa, ty3, ty9, Q9, Qab, Ql, Tm.cells_len, Q8]; (first | (refine hK1 _ _ ?_; clear hK1 K1) | (split <;> (rename_i hsp; (try simp only [beq_iff_eq, beq_eq_false_iff_ne, ne_eq, decide_eq_true_eq, decide_eq_false_iff_not] at hsp); (try (first | have hsq := Int.not_le.2 hsp | have hsq := Int.not_lt.2 hsp | have hsq := Int.not_le.1 hsp | have hsq := Int.not_lt.1 hsp)); (try subst hsp); (try simp only [hsp])) <;> (refine hK1 _ _ ?_; clear hK1 K1))))
    exact QF.done (bad _ _ (by simp [upd]) rfl)
  cases b2
  ·
    repeat' ((first | refine QF.stepD rfl rfl ?_ | refine QF.stepG rfl rfl rfl ?_ | refine QF.stepN rfl rfl ?_ | refine QF.stepGN rfl rfl rfl ?_); intro K1 hK1; simp [*, QQ, QN, QI, dop, eval, Qy, upd, Qb, Qs, Qz, QA, TyI.agg, Qd, Qr, Qi, Qg, QB, QL, goInt, QK, intCmp, Qm, Tag.isNN, Qc, DV.cells, Qe, Qt, Qh, init, Qaa, ty3, ty9, Q9, Qab, Ql, Tm.cells_len, Q8]; (first | (refine hK1 _ _ ?_; clear hK1 K1) | (split <;> (rename_i hsp; (try simp only [beq_iff_eq, beq_eq_false_iff_ne, ne_eq, decide_eq_true_eq, decide_eq_false_iff_not] at hsp); (try (first | have hsq := Int.not_le.2 hsp | have hsq := Int.not_lt.2 hsp | have hsq := Int.not_le.1 hsp | have hsq := Int.not_lt.1 hsp)); (try subst hsp); (try simp only [hsp])) <;> (refine hK1 _ _ ?_; clear hK1 K1))))
    exact QF.done (bad _ _ (by simp [upd]) rfl)
  clear bad
  repeat' ((first | refine QF.stepD rfl rfl ?_ | refine QF.stepG rfl rfl rfl ?_ | refine QF.stepN rfl rfl ?_ | refine QF.stepGN rfl rfl rfl ?_); intro K1 hK1; simp [*, QQ, QN, QI, dop, eval, Qy, upd, Qb, Qs, Qz, QA, TyI.agg, Qd, Qr, Qi, Qg, QB, QL, goInt, QK, intCmp, Qm, Tag.isNN, Qc, DV.cells, Qe, Qt, Qh, init, Qaa, ty3, ty9, Q9, Qab, Ql, Tm.cells_len, Q8]; (first | (refine hK1 _ _ ?_; clear hK1 K1) | (split <;> (rename_i hsp; (try simp only [beq_iff_eq, beq_eq_false_iff_ne, ne_eq, decide_eq_true_eq, decide_eq_false_iff_not] at hsp); (try (first | have hsq := Int.not_le.2 hsp | have hsq := Int.not_lt.2 hsp | have hsq := Int.not_le.1 hsp | have hsq := Int.not_lt.1 hsp)); (try subst hsp); (try simp only [hsp])) <;> (refine hK1 _ _ ?_; clear hK1 K1))))
  refine QF.done (hK _ _ ?_ rfl)
  refine Dwp.condF (by simp [eval, upd]) (Dwp.skip ?_)
  refine Dwp.step tT rfl fun K hK => ?_
  simp [QD, QE, Qn, QI, own, Ql, dop, QJ, eval, Qy, QF, Ex.then, Ex.inBlock, upd, QK, Tag.isNN, Qm, intCmp, Qz, QA, TyI.agg, Qb, Qs, Qd, Qr, QL, QB, Qp, mapOf, Qx, Qo, Qf, Qi, Qg, Qu, DV.cells, Qt, Qh, Qq, Qv, rowsOf, Qw, Qe, Qa, Qa.go, Qj, Qk, Qc, goInt, init, Qab, Tm.cells_len, Q8, g4]
  refine hK _ _ ?_ rfl; clear hK K
  refine Dwp.step tT rfl fun K hK => ?_
  simp [QD, QE, Qn, QI, own, Ql, dop, QJ, eval, Qy, QF, Ex.then, Ex.inBlock, upd, QK, Tag.isNN, Qm, intCmp, Qz, QA, TyI.agg, Qb, Qs, Qd, Qr, QL, QB, Qp, mapOf, Qx, Qo, Qf, Qi, Qg, Qu, DV.cells, Qt, Qh, Qq, Qv, rowsOf, Qw, Qe, Qa, Qa.go, Qj, Qk, Qc, goInt, init, Qab, Tm.cells_len, Q8, g5]
  refine hK _ _ ?_ rfl; clear hK K
  refine Dwp.drawStep [] mixed tT rfl rfl fun K hK => ?_
  simp [Qbj, touch, QaE, Qck, QD, QE, Qn, QI, own, Ql, dop, QJ, eval, Qy, QF, Ex.then, Ex.inBlock, upd, QK, Tag.isNN, Qm, intCmp, Qz, QA, TyI.agg, Qb, Qs, Qd, Qr, QL, QB, Qp, mapOf, Qx, Qo, Qf, Qi, Qg, Qu, DV.cells, Qt, Qh, Qq, Qv, rowsOf, Qw, Qe, Qa, Qa.go, Qj, Qk, Qc, goInt, init, Qab, Tm.cells_len, Q8, g3, g6, g7, g8]
  refine hK _ _ (Dwp.ret ?_) rfl
  exact Qay Tryz.func4 rfl _ (by simp [upd])
end Go.Proofs.Yt
