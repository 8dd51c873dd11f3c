/- Contracts of functions of the program, by a machine over abstract values; part 16. No condition beyond those of each theorem. -/
import Derived.Test.YtfpejlbfdpeofaaGreatDoorSm14
set_option linter.unusedVariables false
set_option linter.unusedSimpArgs false
namespace Go.Proofs.Yt
open Go Go.FA Go.Proofs Go.RowKit
set_option linter.unusedSimpArgs false
set_option maxRecDepth 100000
def Qas : Tm → Bool
  | .mk k n x s ks r =>
    if k = 1 then decide (-2147483647 ≤ n) && (decide (n ≤ 2147483647) && (decide (x = ⟨#[]⟩) && (decide (s = ⟨#[]⟩) && Qfe (.mk k n x s ks r))))
    else if k = 2 then (decide (n = 0) || decide (n = 1)) && (decide (x = ⟨#[]⟩) && (decide (s = ⟨#[]⟩) && Qfe (.mk k n x s ks r)))
    else if k = 3 then decide (n = 0) && (Qc1 x && (decide (s = ⟨#[]⟩) && Qfe (.mk k n x s ks r)))
    else if k = 4 then decide (n = 0) && (idB x && (decide (s = ⟨#[]⟩) && Qfe (.mk k n x s ks r)))
    else if k = 5 then decide (n = 0) && (Qh7 x && (decide (s = ⟨#[]⟩) && (decide (ks.length ≤ 8) && r.isEmpty)))
    else if k = 6 then decide (n = 0) && (Qjy x s && Qfe (.mk k n x s ks r))
    else if k = 7 then decide (n = 0) && (decide (x = ⟨#[]⟩) && (decide (s = ⟨#[]⟩) && QcG ⟨#[76, 105, 115, 116]⟩ r))
    else if k = 8 then decide (n = 0) && (decide (x = ⟨#[]⟩) && (decide (s = ⟨#[]⟩) && (decide (ks.length % 2 = 0) && QcG ⟨#[77, 97, 112]⟩ r)))
    else false
open Classical in
noncomputable def s125 : Sp := sp (QS Enc.tm) Enc.bool (fun t => if okT t then some (Qas t) else none)
theorem call125 (T : Tab) (hT : T 125 = some s125) (t : Tm) (h : okT t) : dcall T 125 [.agg t.cells] = some (.lit (.bool (Qas t))) :=
  QaN (A := Enc.tm) (B := Enc.bool) hT (if_pos h)
abbrev T125 : Tab := QF [(226, s226), (227, s227), (228, s228), (229, s229), (230, s230), (231, s231)]
theorem tab125 : QP Tryz.prog T125 := .cons e226 (.cons e227 (.cons e228 (.cons e229 (.cons e230 (.cons e231 .nil)))))
theorem len8 (ks : List Tm) : ((ks.length : Int) ≤ 8) ↔ (ks.length ≤ 8) := by omega
set_option maxHeartbeats 16000000 in
theorem c125 : QD Tryz.prog 125 s125 := by
  refine QD.of_sp (T := T125) Tryz.func125 rfl (Nat.le_of_ble_eq_true rfl) fun E t y hy => ?_
  split at hy
  case isFalse => cases hy
  next hok =>
  obtain ⟨k, nn, x, s, ks, r⟩ := t
  cases hy
  have tT := tab125
  have hok2 := hok
  rw [okT] at hok2
  have hx : x.size ≤ lim := hok2.1
  have hs : s.size ≤ lim := hok2.2.1
  have hr : r.length ≤ 16777216 := hok2.2.2.2.1
  have z1 := call226 T125 rfl (.mk k nn x s ks r)
  have g3 := call227 T125 rfl x hx
  have g4 := call228 T125 rfl x hx
  have g5 := call229 T125 rfl x hx
  have g6 := call230 T125 rfl x s
  have g8 := Qiw T125 rfl r ⟨#[76, 105, 115, 116]⟩ hr
  have g9 := Qiw T125 rfl r ⟨#[77, 97, 112]⟩ hr
  obtain ⟨m, hm⟩ : ∃ m : Nat, m = ks.length % 2 := ⟨_, rfl⟩
  have hkl : (ks.length : Int).tmod 2 = (m : Int) := by rw [hm]; rw [Int.tmod_eq_emod_of_nonneg (by omega)]; omega
  change Hid _ at hm
  clear hok2 hx hs hr
  generalize T125 = T at *
  simp only [QS, QI.one, tmC, Q5] at *
  refine Dwp.step tT rfl fun K hK => ?_
  simp [QB, QE, Ql, QK, own, Qm, dop, QJ, eval, Qy, QG, Ex.then, Ex.inBlock, upd, QL, Tag.isNN, Qn, intCmp, Qz, QA, TyI.agg, Qb, Qs, Qd, Qr, QM, QC, Qp, mapOf, Qx, Qo, Qe, Qk, Qg, Qu, DV.cells, Qt, Qh, Qq, Qv, rowsOf, Qw, Qf, Qa, Qa.go, Qi, Qj, Qc, goInt, init, Q5]
  refine hK _ _ ?_ rfl; clear hK K
  refine Dwp.seq ?_
  refine Dwp.step tT rfl fun K hK => ?_
  simp [QB, QE, Ql, QK, own, Qm, dop, QJ, eval, Qy, QG, Ex.then, Ex.inBlock, upd, QL, Tag.isNN, Qn, intCmp, Qz, QA, TyI.agg, Qb, Qs, Qd, Qr, QM, QC, Qp, mapOf, Qx, Qo, Qe, Qk, Qg, Qu, DV.cells, Qt, Qh, Qq, Qv, rowsOf, Qw, Qf, Qa, Qa.go, Qi, Qj, Qc, goInt, init, Qbp]
  refine hK _ _ ?_ rfl; clear hK K
  refine Dwp.block ?_
  refine Dwp.step tT rfl fun K hK => ?_
  by_cases hk1 : k = 1
  · subst hk1
    simp [QB, QE, Ql, QK, own, Qm, dop, QJ, eval, Qy, QG, Ex.then, Ex.inBlock, upd, QL, Tag.isNN, Qn, intCmp, Qz, QA, TyI.agg, Qb, Qs, Qd, Qr, QM, QC, Qp, mapOf, Qx, Qo, Qe, Qk, Qg, Qu, DV.cells, Qt, Qh, Qq, Qv, rowsOf, Qw, Qf, Qa, Qa.go, Qi, Qj, Qc, goInt, init, Qbp]
    refine hK _ _ ?_ rfl; clear hK K
    refine Dwp.condT (by simp [eval, upd]) ?_
    refine Dwp.step tT rfl fun K hK => ?_
    repeat' ((first | refine QG.stepD rfl rfl ?_ | refine QG.stepG rfl rfl rfl ?_ | refine QG.stepN rfl rfl ?_ | refine QG.stepGN rfl rfl rfl ?_); intro K1 hK1; simp [*, QW, QO, QK, dop, eval, Qy, upd, Qb, Qs, Qz, QA, TyI.agg, Qd, Qr, Qk, Qg, QC, QM, goInt, QL, intCmp, Qn, Tag.isNN, Qc, DV.cells, Qf, Qt, Qh, init, Qbp, ty3, ty9, QaL, Qar, Q5, Qm, len8, QjE]; (first | (refine hK1 _ _ ?_; clear hK1 K1) | (split <;> (rename_i hsp; (try simp only [beq_iff_eq, beq_eq_false_iff_ne, ne_eq, decide_eq_true_eq, decide_eq_false_iff_not] at hsp); (try (first | have hsq := Int.not_le.2 hsp | have hsq := Int.not_lt.2 hsp | have hsq := Int.not_le.1 hsp | have hsq := Int.not_lt.1 hsp)); (try subst hsp); (try simp only [hsp])) <;> (refine hK1 _ _ ?_; clear hK1 K1))))
    all_goals refine QG.done (hK _ _ (Dwp.ret ?_) rfl)
    all_goals refine QaR Tryz.func125 rfl _ ?_
    all_goals (have hm2 := hm; unfold Hid at hm2; clear hm; replace hm2 := hm2.symm; simp [upd, Qas, *])
  have hk1f : (k == 1) = false := by simpa using hk1
  simp [QB, QE, Ql, QK, own, Qm, dop, QJ, eval, Qy, QG, Ex.then, Ex.inBlock, upd, QL, Tag.isNN, Qn, intCmp, Qz, QA, TyI.agg, Qb, Qs, Qd, Qr, QM, QC, Qp, mapOf, Qx, Qo, Qe, Qk, Qg, Qu, DV.cells, Qt, Qh, Qq, Qv, rowsOf, Qw, Qf, Qa, Qa.go, Qi, Qj, Qc, goInt, init, Qbp, hk1f]
  refine hK _ _ ?_ rfl; clear hK K
  refine Dwp.condF (by simp [eval, upd, hk1]) ?_
  refine Dwp.step tT rfl fun K hK => ?_
  by_cases hk2 : k = 2
  · subst hk2
    simp [QB, QE, Ql, QK, own, Qm, dop, QJ, eval, Qy, QG, Ex.then, Ex.inBlock, upd, QL, Tag.isNN, Qn, intCmp, Qz, QA, TyI.agg, Qb, Qs, Qd, Qr, QM, QC, Qp, mapOf, Qx, Qo, Qe, Qk, Qg, Qu, DV.cells, Qt, Qh, Qq, Qv, rowsOf, Qw, Qf, Qa, Qa.go, Qi, Qj, Qc, goInt, init, Qbp]
    refine hK _ _ ?_ rfl; clear hK K
    refine Dwp.condT (by simp [eval, upd]) ?_
    refine Dwp.step tT rfl fun K hK => ?_
    repeat' ((first | refine QG.stepD rfl rfl ?_ | refine QG.stepG rfl rfl rfl ?_ | refine QG.stepN rfl rfl ?_ | refine QG.stepGN rfl rfl rfl ?_); intro K1 hK1; simp [*, QW, QO, QK, dop, eval, Qy, upd, Qb, Qs, Qz, QA, TyI.agg, Qd, Qr, Qk, Qg, QC, QM, goInt, QL, intCmp, Qn, Tag.isNN, Qc, DV.cells, Qf, Qt, Qh, init, Qbp, ty3, ty9, QaL, Qar, Q5, Qm, len8, QjE]; (first | (refine hK1 _ _ ?_; clear hK1 K1) | (split <;> (rename_i hsp; (try simp only [beq_iff_eq, beq_eq_false_iff_ne, ne_eq, decide_eq_true_eq, decide_eq_false_iff_not] at hsp); (try (first | have hsq := Int.not_le.2 hsp | have hsq := Int.not_lt.2 hsp | have hsq := Int.not_le.1 hsp | have hsq := Int.not_lt.1 hsp)); (try subst hsp); (try simp only [hsp])) <;> (refine hK1 _ _ ?_; clear hK1 K1))))
    all_goals refine QG.done (hK _ _ (Dwp.ret ?_) rfl)
    all_goals refine QaR Tryz.func125 rfl _ ?_
    all_goals (have hm2 := hm; unfold Hid at hm2; clear hm; replace hm2 := hm2.symm; simp [upd, Qas, *])
  have hk2f : (k == 2) = false := by simpa using hk2
  simp [QB, QE, Ql, QK, own, Qm, dop, QJ, eval, Qy, QG, Ex.then, Ex.inBlock, upd, QL, Tag.isNN, Qn, intCmp, Qz, QA, TyI.agg, Qb, Qs, Qd, Qr, QM, QC, Qp, mapOf, Qx, Qo, Qe, Qk, Qg, Qu, DV.cells, Qt, Qh, Qq, Qv, rowsOf, Qw, Qf, Qa, Qa.go, Qi, Qj, Qc, goInt, init, Qbp, hk2f]
  refine hK _ _ ?_ rfl; clear hK K
  refine Dwp.condF (by simp [eval, upd, hk2]) ?_
  refine Dwp.step tT rfl fun K hK => ?_
  by_cases hk3 : k = 3
  · subst hk3
    simp [QB, QE, Ql, QK, own, Qm, dop, QJ, eval, Qy, QG, Ex.then, Ex.inBlock, upd, QL, Tag.isNN, Qn, intCmp, Qz, QA, TyI.agg, Qb, Qs, Qd, Qr, QM, QC, Qp, mapOf, Qx, Qo, Qe, Qk, Qg, Qu, DV.cells, Qt, Qh, Qq, Qv, rowsOf, Qw, Qf, Qa, Qa.go, Qi, Qj, Qc, goInt, init, Qbp]
    refine hK _ _ ?_ rfl; clear hK K
    refine Dwp.condT (by simp [eval, upd]) ?_
    refine Dwp.step tT rfl fun K hK => ?_
    repeat' ((first | refine QG.stepD rfl rfl ?_ | refine QG.stepG rfl rfl rfl ?_ | refine QG.stepN rfl rfl ?_ | refine QG.stepGN rfl rfl rfl ?_); intro K1 hK1; simp [*, QW, QO, QK, dop, eval, Qy, upd, Qb, Qs, Qz, QA, TyI.agg, Qd, Qr, Qk, Qg, QC, QM, goInt, QL, intCmp, Qn, Tag.isNN, Qc, DV.cells, Qf, Qt, Qh, init, Qbp, ty3, ty9, QaL, Qar, Q5, Qm, len8, QjE]; (first | (refine hK1 _ _ ?_; clear hK1 K1) | (split <;> (rename_i hsp; (try simp only [beq_iff_eq, beq_eq_false_iff_ne, ne_eq, decide_eq_true_eq, decide_eq_false_iff_not] at hsp); (try (first | have hsq := Int.not_le.2 hsp | have hsq := Int.not_lt.2 hsp | have hsq := Int.not_le.1 hsp | have hsq := Int.not_lt.1 hsp)); (try subst hsp); (try simp only [hsp])) <;> (refine hK1 _ _ ?_; clear hK1 K1))))
    all_goals refine QG.done (hK _ _ (Dwp.ret ?_) rfl)
    all_goals refine QaR Tryz.func125 rfl _ ?_
    all_goals (have hm2 := hm; unfold Hid at hm2; clear hm; replace hm2 := hm2.symm; simp [upd, Qas, *])
  have hk3f : (k == 3) = false := by simpa using hk3
  simp [QB, QE, Ql, QK, own, Qm, dop, QJ, eval, Qy, QG, Ex.then, Ex.inBlock, upd, QL, Tag.isNN, Qn, intCmp, Qz, QA, TyI.agg, Qb, Qs, Qd, Qr, QM, QC, Qp, mapOf, Qx, Qo, Qe, Qk, Qg, Qu, DV.cells, Qt, Qh, Qq, Qv, rowsOf, Qw, Qf, Qa, Qa.go, Qi, Qj, Qc, goInt, init, Qbp, hk3f]
  refine hK _ _ ?_ rfl; clear hK K
  refine Dwp.condF (by simp [eval, upd, hk3]) ?_
  refine Dwp.step tT rfl fun K hK => ?_
  by_cases hk4 : k = 4
  · subst hk4
    simp [QB, QE, Ql, QK, own, Qm, dop, QJ, eval, Qy, QG, Ex.then, Ex.inBlock, upd, QL, Tag.isNN, Qn, intCmp, Qz, QA, TyI.agg, Qb, Qs, Qd, Qr, QM, QC, Qp, mapOf, Qx, Qo, Qe, Qk, Qg, Qu, DV.cells, Qt, Qh, Qq, Qv, rowsOf, Qw, Qf, Qa, Qa.go, Qi, Qj, Qc, goInt, init, Qbp]
    refine hK _ _ ?_ rfl; clear hK K
    refine Dwp.condT (by simp [eval, upd]) ?_
    refine Dwp.step tT rfl fun K hK => ?_
    repeat' ((first | refine QG.stepD rfl rfl ?_ | refine QG.stepG rfl rfl rfl ?_ | refine QG.stepN rfl rfl ?_ | refine QG.stepGN rfl rfl rfl ?_); intro K1 hK1; simp [*, QW, QO, QK, dop, eval, Qy, upd, Qb, Qs, Qz, QA, TyI.agg, Qd, Qr, Qk, Qg, QC, QM, goInt, QL, intCmp, Qn, Tag.isNN, Qc, DV.cells, Qf, Qt, Qh, init, Qbp, ty3, ty9, QaL, Qar, Q5, Qm, len8, QjE]; (first | (refine hK1 _ _ ?_; clear hK1 K1) | (split <;> (rename_i hsp; (try simp only [beq_iff_eq, beq_eq_false_iff_ne, ne_eq, decide_eq_true_eq, decide_eq_false_iff_not] at hsp); (try (first | have hsq := Int.not_le.2 hsp | have hsq := Int.not_lt.2 hsp | have hsq := Int.not_le.1 hsp | have hsq := Int.not_lt.1 hsp)); (try subst hsp); (try simp only [hsp])) <;> (refine hK1 _ _ ?_; clear hK1 K1))))
    all_goals refine QG.done (hK _ _ (Dwp.ret ?_) rfl)
    all_goals refine QaR Tryz.func125 rfl _ ?_
    all_goals (have hm2 := hm; unfold Hid at hm2; clear hm; replace hm2 := hm2.symm; simp [upd, Qas, *])
  have hk4f : (k == 4) = false := by simpa using hk4
  simp [QB, QE, Ql, QK, own, Qm, dop, QJ, eval, Qy, QG, Ex.then, Ex.inBlock, upd, QL, Tag.isNN, Qn, intCmp, Qz, QA, TyI.agg, Qb, Qs, Qd, Qr, QM, QC, Qp, mapOf, Qx, Qo, Qe, Qk, Qg, Qu, DV.cells, Qt, Qh, Qq, Qv, rowsOf, Qw, Qf, Qa, Qa.go, Qi, Qj, Qc, goInt, init, Qbp, hk4f]
  refine hK _ _ ?_ rfl; clear hK K
  refine Dwp.condF (by simp [eval, upd, hk4]) ?_
  refine Dwp.step tT rfl fun K hK => ?_
  by_cases hk5 : k = 5
  · subst hk5
    simp [QB, QE, Ql, QK, own, Qm, dop, QJ, eval, Qy, QG, Ex.then, Ex.inBlock, upd, QL, Tag.isNN, Qn, intCmp, Qz, QA, TyI.agg, Qb, Qs, Qd, Qr, QM, QC, Qp, mapOf, Qx, Qo, Qe, Qk, Qg, Qu, DV.cells, Qt, Qh, Qq, Qv, rowsOf, Qw, Qf, Qa, Qa.go, Qi, Qj, Qc, goInt, init, Qbp]
    refine hK _ _ ?_ rfl; clear hK K
    refine Dwp.condT (by simp [eval, upd]) ?_
    refine Dwp.step tT rfl fun K hK => ?_
    repeat' ((first | refine QG.stepD rfl rfl ?_ | refine QG.stepG rfl rfl rfl ?_ | refine QG.stepN rfl rfl ?_ | refine QG.stepGN rfl rfl rfl ?_); intro K1 hK1; simp [*, QW, QO, QK, dop, eval, Qy, upd, Qb, Qs, Qz, QA, TyI.agg, Qd, Qr, Qk, Qg, QC, QM, goInt, QL, intCmp, Qn, Tag.isNN, Qc, DV.cells, Qf, Qt, Qh, init, Qbp, ty3, ty9, QaL, Qar, Q5, Qm, len8, QjE]; (first | (refine hK1 _ _ ?_; clear hK1 K1) | (split <;> (rename_i hsp; (try simp only [beq_iff_eq, beq_eq_false_iff_ne, ne_eq, decide_eq_true_eq, decide_eq_false_iff_not] at hsp); (try (first | have hsq := Int.not_le.2 hsp | have hsq := Int.not_lt.2 hsp | have hsq := Int.not_le.1 hsp | have hsq := Int.not_lt.1 hsp)); (try subst hsp); (try simp only [hsp])) <;> (refine hK1 _ _ ?_; clear hK1 K1))))
    all_goals refine QG.done (hK _ _ (Dwp.ret ?_) rfl)
    all_goals refine QaR Tryz.func125 rfl _ ?_
    all_goals (have hm2 := hm; unfold Hid at hm2; clear hm; replace hm2 := hm2.symm; simp [upd, Qas, *])
  have hk5f : (k == 5) = false := by simpa using hk5
  simp [QB, QE, Ql, QK, own, Qm, dop, QJ, eval, Qy, QG, Ex.then, Ex.inBlock, upd, QL, Tag.isNN, Qn, intCmp, Qz, QA, TyI.agg, Qb, Qs, Qd, Qr, QM, QC, Qp, mapOf, Qx, Qo, Qe, Qk, Qg, Qu, DV.cells, Qt, Qh, Qq, Qv, rowsOf, Qw, Qf, Qa, Qa.go, Qi, Qj, Qc, goInt, init, Qbp, hk5f]
  refine hK _ _ ?_ rfl; clear hK K
  refine Dwp.condF (by simp [eval, upd, hk5]) ?_
  refine Dwp.step tT rfl fun K hK => ?_
  by_cases hk6 : k = 6
  · subst hk6
    simp [QB, QE, Ql, QK, own, Qm, dop, QJ, eval, Qy, QG, Ex.then, Ex.inBlock, upd, QL, Tag.isNN, Qn, intCmp, Qz, QA, TyI.agg, Qb, Qs, Qd, Qr, QM, QC, Qp, mapOf, Qx, Qo, Qe, Qk, Qg, Qu, DV.cells, Qt, Qh, Qq, Qv, rowsOf, Qw, Qf, Qa, Qa.go, Qi, Qj, Qc, goInt, init, Qbp]
    refine hK _ _ ?_ rfl; clear hK K
    refine Dwp.condT (by simp [eval, upd]) ?_
    refine Dwp.step tT rfl fun K hK => ?_
    repeat' ((first | refine QG.stepD rfl rfl ?_ | refine QG.stepG rfl rfl rfl ?_ | refine QG.stepN rfl rfl ?_ | refine QG.stepGN rfl rfl rfl ?_); intro K1 hK1; simp [*, QW, QO, QK, dop, eval, Qy, upd, Qb, Qs, Qz, QA, TyI.agg, Qd, Qr, Qk, Qg, QC, QM, goInt, QL, intCmp, Qn, Tag.isNN, Qc, DV.cells, Qf, Qt, Qh, init, Qbp, ty3, ty9, QaL, Qar, Q5, Qm, len8, QjE]; (first | (refine hK1 _ _ ?_; clear hK1 K1) | (split <;> (rename_i hsp; (try simp only [beq_iff_eq, beq_eq_false_iff_ne, ne_eq, decide_eq_true_eq, decide_eq_false_iff_not] at hsp); (try (first | have hsq := Int.not_le.2 hsp | have hsq := Int.not_lt.2 hsp | have hsq := Int.not_le.1 hsp | have hsq := Int.not_lt.1 hsp)); (try subst hsp); (try simp only [hsp])) <;> (refine hK1 _ _ ?_; clear hK1 K1))))
    all_goals refine QG.done (hK _ _ (Dwp.ret ?_) rfl)
    all_goals refine QaR Tryz.func125 rfl _ ?_
    all_goals (have hm2 := hm; unfold Hid at hm2; clear hm; replace hm2 := hm2.symm; simp [upd, Qas, *])
  have hk6f : (k == 6) = false := by simpa using hk6
  simp [QB, QE, Ql, QK, own, Qm, dop, QJ, eval, Qy, QG, Ex.then, Ex.inBlock, upd, QL, Tag.isNN, Qn, intCmp, Qz, QA, TyI.agg, Qb, Qs, Qd, Qr, QM, QC, Qp, mapOf, Qx, Qo, Qe, Qk, Qg, Qu, DV.cells, Qt, Qh, Qq, Qv, rowsOf, Qw, Qf, Qa, Qa.go, Qi, Qj, Qc, goInt, init, Qbp, hk6f]
  refine hK _ _ ?_ rfl; clear hK K
  refine Dwp.condF (by simp [eval, upd, hk6]) ?_
  refine Dwp.step tT rfl fun K hK => ?_
  by_cases hk7 : k = 7
  · subst hk7
    simp [QB, QE, Ql, QK, own, Qm, dop, QJ, eval, Qy, QG, Ex.then, Ex.inBlock, upd, QL, Tag.isNN, Qn, intCmp, Qz, QA, TyI.agg, Qb, Qs, Qd, Qr, QM, QC, Qp, mapOf, Qx, Qo, Qe, Qk, Qg, Qu, DV.cells, Qt, Qh, Qq, Qv, rowsOf, Qw, Qf, Qa, Qa.go, Qi, Qj, Qc, goInt, init, Qbp]
    refine hK _ _ ?_ rfl; clear hK K
    refine Dwp.condT (by simp [eval, upd]) ?_
    refine Dwp.step tT rfl fun K hK => ?_
    repeat' ((first | refine QG.stepD rfl rfl ?_ | refine QG.stepG rfl rfl rfl ?_ | refine QG.stepN rfl rfl ?_ | refine QG.stepGN rfl rfl rfl ?_); intro K1 hK1; simp [*, QW, QO, QK, dop, eval, Qy, upd, Qb, Qs, Qz, QA, TyI.agg, Qd, Qr, Qk, Qg, QC, QM, goInt, QL, intCmp, Qn, Tag.isNN, Qc, DV.cells, Qf, Qt, Qh, init, Qbp, ty3, ty9, QaL, Qar, Q5, Qm, len8, QjE]; (first | (refine hK1 _ _ ?_; clear hK1 K1) | (split <;> (rename_i hsp; (try simp only [beq_iff_eq, beq_eq_false_iff_ne, ne_eq, decide_eq_true_eq, decide_eq_false_iff_not] at hsp); (try (first | have hsq := Int.not_le.2 hsp | have hsq := Int.not_lt.2 hsp | have hsq := Int.not_le.1 hsp | have hsq := Int.not_lt.1 hsp)); (try subst hsp); (try simp only [hsp])) <;> (refine hK1 _ _ ?_; clear hK1 K1))))
    all_goals refine QG.done (hK _ _ (Dwp.ret ?_) rfl)
    all_goals refine QaR Tryz.func125 rfl _ ?_
    all_goals (have hm2 := hm; unfold Hid at hm2; clear hm; replace hm2 := hm2.symm; simp [upd, Qas, *])
  have hk7f : (k == 7) = false := by simpa using hk7
  simp [QB, QE, Ql, QK, own, Qm, dop, QJ, eval, Qy, QG, Ex.then, Ex.inBlock, upd, QL, Tag.isNN, Qn, intCmp, Qz, QA, TyI.agg, Qb, Qs, Qd, Qr, QM, QC, Qp, mapOf, Qx, Qo, Qe, Qk, Qg, Qu, DV.cells, Qt, Qh, Qq, Qv, rowsOf, Qw, Qf, Qa, Qa.go, Qi, Qj, Qc, goInt, init, Qbp, hk7f]
  refine hK _ _ ?_ rfl; clear hK K
  refine Dwp.condF (by simp [eval, upd, hk7]) ?_
  refine Dwp.step tT rfl fun K hK => ?_
  by_cases hk8 : k = 8
  · subst hk8
    simp [QB, QE, Ql, QK, own, Qm, dop, QJ, eval, Qy, QG, Ex.then, Ex.inBlock, upd, QL, Tag.isNN, Qn, intCmp, Qz, QA, TyI.agg, Qb, Qs, Qd, Qr, QM, QC, Qp, mapOf, Qx, Qo, Qe, Qk, Qg, Qu, DV.cells, Qt, Qh, Qq, Qv, rowsOf, Qw, Qf, Qa, Qa.go, Qi, Qj, Qc, goInt, init, Qbp]
    refine hK _ _ ?_ rfl; clear hK K
    refine Dwp.condT (by simp [eval, upd]) ?_
    refine Dwp.step tT rfl fun K hK => ?_
    repeat' ((first | refine QG.stepD rfl rfl ?_ | refine QG.stepG rfl rfl rfl ?_ | refine QG.stepN rfl rfl ?_ | refine QG.stepGN rfl rfl rfl ?_); intro K1 hK1; simp [*, QW, QO, QK, dop, eval, Qy, upd, Qb, Qs, Qz, QA, TyI.agg, Qd, Qr, Qk, Qg, QC, QM, goInt, QL, intCmp, Qn, Tag.isNN, Qc, DV.cells, Qf, Qt, Qh, init, Qbp, ty3, ty9, QaL, Qar, Q5, Qm, len8, QjE]; (first | (refine hK1 _ _ ?_; clear hK1 K1) | (split <;> (rename_i hsp; (try simp only [beq_iff_eq, beq_eq_false_iff_ne, ne_eq, decide_eq_true_eq, decide_eq_false_iff_not] at hsp); (try (first | have hsq := Int.not_le.2 hsp | have hsq := Int.not_lt.2 hsp | have hsq := Int.not_le.1 hsp | have hsq := Int.not_lt.1 hsp)); (try subst hsp); (try simp only [hsp])) <;> (refine hK1 _ _ ?_; clear hK1 K1))))
    all_goals refine QG.done (hK _ _ (Dwp.ret ?_) rfl)
    all_goals refine QaR Tryz.func125 rfl _ ?_
    all_goals (have hm2 := hm; unfold Hid at hm2; clear hm; replace hm2 := hm2.symm; simp [upd, Qas, *])
  have hk8f : (k == 8) = false := by simpa using hk8
  simp [QB, QE, Ql, QK, own, Qm, dop, QJ, eval, Qy, QG, Ex.then, Ex.inBlock, upd, QL, Tag.isNN, Qn, intCmp, Qz, QA, TyI.agg, Qb, Qs, Qd, Qr, QM, QC, Qp, mapOf, Qx, Qo, Qe, Qk, Qg, Qu, DV.cells, Qt, Qh, Qq, Qv, rowsOf, Qw, Qf, Qa, Qa.go, Qi, Qj, Qc, goInt, init, Qbp, hk8f]
  refine hK _ _ ?_ rfl; clear hK K
  refine Dwp.condF (by simp [eval, upd, hk8]) (Dwp.skip ?_)
  refine Dwp.step tT rfl fun K hK => ?_
  simp [QB, QE, Ql, QK, own, Qm, dop, QJ, eval, Qy, QG, Ex.then, Ex.inBlock, upd, QL, Tag.isNN, Qn, intCmp, Qz, QA, TyI.agg, Qb, Qs, Qd, Qr, QM, QC, Qp, mapOf, Qx, Qo, Qe, Qk, Qg, Qu, DV.cells, Qt, Qh, Qq, Qv, rowsOf, Qw, Qf, Qa, Qa.go, Qi, Qj, Qc, goInt]
  refine hK _ _ (Dwp.ret ?_) rfl
  refine QaR Tryz.func125 rfl _ ?_
  simp [upd, Qas, *]
theorem e125 : Go.FA.Good Tryz.prog (125, s125) := ⟨c125, Tryz.f125, _, Tryz.func125, rfl, by decide⟩
end Go.Proofs.Yt
