/- Contracts of functions of the program, by a machine over abstract values; part 13. No condition beyond those of each theorem. -/
import Derived.Test.YtfpejlbfdpeofaaGreatDoorSm11
set_option linter.unusedVariables false
set_option linter.unusedSimpArgs false
namespace Go.Proofs.Yt
open Go Go.FA Go.Proofs Go.RowKit
set_option linter.unusedSimpArgs false
set_option maxRecDepth 100000
def Qau : Tm → Bool
  | .mk k n x s ks r =>
    if k = 1 then decide (-2147483647 ≤ n) && (decide (n ≤ 2147483647) && (decide (x = ⟨#[]⟩) && (decide (s = ⟨#[]⟩) && QcM (.mk k n x s ks r))))
    else if k = 2 then (decide (n = 0) || decide (n = 1)) && (decide (x = ⟨#[]⟩) && (decide (s = ⟨#[]⟩) && QcM (.mk k n x s ks r)))
    else if k = 3 then decide (n = 0) && (Qfi x && (decide (s = ⟨#[]⟩) && QcM (.mk k n x s ks r)))
    else if k = 4 then decide (n = 0) && (idB x && (decide (s = ⟨#[]⟩) && QcM (.mk k n x s ks r)))
    else if k = 5 then decide (n = 0) && (QhY x && (decide (s = ⟨#[]⟩) && (decide (ks.length ≤ 8) && r.isEmpty)))
    else if k = 6 then decide (n = 0) && (Qjc x s && QcM (.mk k n x s ks r))
    else if k = 7 then decide (n = 0) && (decide (x = ⟨#[]⟩) && (decide (s = ⟨#[]⟩) && Qce ⟨#[76, 105, 115, 116]⟩ r))
    else if k = 8 then decide (n = 0) && (decide (x = ⟨#[]⟩) && (decide (s = ⟨#[]⟩) && (decide (ks.length % 2 = 0) && Qce ⟨#[77, 97, 112]⟩ r)))
    else false
open Classical in
noncomputable def s125 : Sp := sp (QS Enc.tm) Enc.bool (fun t => if okT t then some (Qau t) else none)
theorem call125 (T : Tab) (hT : T 125 = some s125) (t : Tm) (h : okT t) : dcall T 125 [.agg t.cells] = some (.lit (.bool (Qau t))) :=
  QaI (A := Enc.tm) (B := Enc.bool) hT (if_pos h)
abbrev T125 : Tab := QD [(226, s226), (227, s227), (228, s228), (229, s229), (230, s230), (231, s231)]
theorem tab125 : QO Tryz.prog T125 := .cons e226 (.cons e227 (.cons e228 (.cons e229 (.cons e230 (.cons e231 .nil)))))
theorem len8 (ks : List Tm) : ((ks.length : Int) ≤ 8) ↔ (ks.length ≤ 8) := by omega
set_option maxHeartbeats 16000000 in
theorem c125 : Qy Tryz.prog 125 s125 := by
  refine Qy.of_sp (T := T125) Tryz.func125 rfl (Nat.le_of_ble_eq_true rfl) fun E t y hy => ?_
  split at hy
  case isFalse => cases hy
  next hok =>
  obtain ⟨k, nn, x, s, ks, r⟩ := t
  cases hy
  have tT := tab125
  have hok2 := hok
  rw [okT] at hok2
  have hx : x.size ≤ lim := hok2.1
  have hs : s.size ≤ lim := hok2.2.1
  have hr : r.length ≤ 16777216 := hok2.2.2.2.1
  have z1 := call226 T125 rfl (.mk k nn x s ks r)
  have g3 := call227 T125 rfl x hx
  have g4 := call228 T125 rfl x hx
  have g5 := call229 T125 rfl x hx
  have g6 := call230 T125 rfl x s
  have g8 := Qi9 T125 rfl r ⟨#[76, 105, 115, 116]⟩ hr
  have g9 := Qi9 T125 rfl r ⟨#[77, 97, 112]⟩ hr
  obtain ⟨m, hm⟩ : ∃ m : Nat, m = ks.length % 2 := ⟨_, rfl⟩
  have hkl : (ks.length : Int).tmod 2 = (m : Int) := by rw [hm]; rw [Int.tmod_eq_emod_of_nonneg (by omega)]; omega
  change Hid _ at hm
  clear hok2 hx hs hr
  generalize T125 = T at *
  simp only [QS, QH.one, tmC, Q8] at *
  refine Dwp.step tT rfl fun K hK => ?_
  simp [QB, QE, Qk, QJ, own, Ql, dop, QI, eval, Qx, QF, Ex.then, Ex.inBlock, upd, QK, Tag.isNN, Qm, intCmp, Qz, QA, TyI.agg, Qb, Qs, Qd, Qq, QL, QC, Qo, mapOf, Qw, Qn, Qe, Qh, Qf, Qt, DV.cells, Qr, Qg, Qp, Qu, rowsOf, Qv, growLimit, Qa, Qa.go, Qi, Qj, Qc, goInt, init, Q8]
  refine hK _ _ ?_ rfl; clear hK K
  refine Dwp.seq ?_
  refine Dwp.step tT rfl fun K hK => ?_
  simp [QB, QE, Qk, QJ, own, Ql, dop, QI, eval, Qx, QF, Ex.then, Ex.inBlock, upd, QK, Tag.isNN, Qm, intCmp, Qz, QA, TyI.agg, Qb, Qs, Qd, Qq, QL, QC, Qo, mapOf, Qw, Qn, Qe, Qh, Qf, Qt, DV.cells, Qr, Qg, Qp, Qu, rowsOf, Qv, growLimit, Qa, Qa.go, Qi, Qj, Qc, goInt, init, Qa0]
  refine hK _ _ ?_ rfl; clear hK K
  refine Dwp.block ?_
  refine Dwp.step tT rfl fun K hK => ?_
  by_cases hk1 : k = 1
  · subst hk1
    simp [QB, QE, Qk, QJ, own, Ql, dop, QI, eval, Qx, QF, Ex.then, Ex.inBlock, upd, QK, Tag.isNN, Qm, intCmp, Qz, QA, TyI.agg, Qb, Qs, Qd, Qq, QL, QC, Qo, mapOf, Qw, Qn, Qe, Qh, Qf, Qt, DV.cells, Qr, Qg, Qp, Qu, rowsOf, Qv, growLimit, Qa, Qa.go, Qi, Qj, Qc, goInt, init, Qa0]
    refine hK _ _ ?_ rfl; clear hK K
    refine Dwp.condT (by simp [eval, upd]) ?_
    refine Dwp.step tT rfl fun K hK => ?_
    repeat' ((first | refine QF.stepD rfl rfl ?_ | refine QF.stepG rfl rfl rfl ?_ | refine QF.stepN rfl rfl ?_ | refine QF.stepGN rfl rfl rfl ?_); intro K1 hK1; simp [*, QZ, QN, QJ, dop, eval, Qx, upd, Qb, Qs, Qz, QA, TyI.agg, Qd, Qq, Qh, Qf, QC, QL, goInt, QK, intCmp, Qm, Tag.isNN, Qc, DV.cells, growLimit, Qr, Qg, init, Qa0, ty3, ty9, QaF, Qaf, Q8, Ql, len8, QjG]; (first | (refine hK1 _ _ ?_; clear hK1 K1) | (split <;> (rename_i hsp; (try simp only [beq_iff_eq, beq_eq_false_iff_ne, ne_eq, decide_eq_true_eq, decide_eq_false_iff_not] at hsp); (try (first | have hsq := Int.not_le.2 hsp | have hsq := Int.not_lt.2 hsp | have hsq := Int.not_le.1 hsp | have hsq := Int.not_lt.1 hsp)); (try subst hsp); (try simp only [hsp])) <;> (refine hK1 _ _ ?_; clear hK1 K1))))
    all_goals refine QF.done (hK _ _ (Dwp.ret ?_) rfl)
    all_goals refine QaS Tryz.func125 rfl _ ?_
    all_goals (have hm2 := hm; unfold Hid at hm2; clear hm; replace hm2 := hm2.symm; simp [upd, Qau, *])
  have hk1f : (k == 1) = false := by simpa using hk1
  simp [QB, QE, Qk, QJ, own, Ql, dop, QI, eval, Qx, QF, Ex.then, Ex.inBlock, upd, QK, Tag.isNN, Qm, intCmp, Qz, QA, TyI.agg, Qb, Qs, Qd, Qq, QL, QC, Qo, mapOf, Qw, Qn, Qe, Qh, Qf, Qt, DV.cells, Qr, Qg, Qp, Qu, rowsOf, Qv, growLimit, Qa, Qa.go, Qi, Qj, Qc, goInt, init, Qa0, hk1f]
  refine hK _ _ ?_ rfl; clear hK K
  refine Dwp.condF (by simp [eval, upd, hk1]) ?_
  refine Dwp.step tT rfl fun K hK => ?_
  by_cases hk2 : k = 2
  · subst hk2
    simp [QB, QE, Qk, QJ, own, Ql, dop, QI, eval, Qx, QF, Ex.then, Ex.inBlock, upd, QK, Tag.isNN, Qm, intCmp, Qz, QA, TyI.agg, Qb, Qs, Qd, Qq, QL, QC, Qo, mapOf, Qw, Qn, Qe, Qh, Qf, Qt, DV.cells, Qr, Qg, Qp, Qu, rowsOf, Qv, growLimit, Qa, Qa.go, Qi, Qj, Qc, goInt, init, Qa0]
    refine hK _ _ ?_ rfl; clear hK K
    refine Dwp.condT (by simp [eval, upd]) ?_
    refine Dwp.step tT rfl fun K hK => ?_
    repeat' ((first | refine QF.stepD rfl rfl ?_ | refine QF.stepG rfl rfl rfl ?_ | refine QF.stepN rfl rfl ?_ | refine QF.stepGN rfl rfl rfl ?_); intro K1 hK1; simp [*, QZ, QN, QJ, dop, eval, Qx, upd, Qb, Qs, Qz, QA, TyI.agg, Qd, Qq, Qh, Qf, QC, QL, goInt, QK, intCmp, Qm, Tag.isNN, Qc, DV.cells, growLimit, Qr, Qg, init, Qa0, ty3, ty9, QaF, Qaf, Q8, Ql, len8, QjG]; (first | (refine hK1 _ _ ?_; clear hK1 K1) | (split <;> (rename_i hsp; (try simp only [beq_iff_eq, beq_eq_false_iff_ne, ne_eq, decide_eq_true_eq, decide_eq_false_iff_not] at hsp); (try (first | have hsq := Int.not_le.2 hsp | have hsq := Int.not_lt.2 hsp | have hsq := Int.not_le.1 hsp | have hsq := Int.not_lt.1 hsp)); (try subst hsp); (try simp only [hsp])) <;> (refine hK1 _ _ ?_; clear hK1 K1))))
    all_goals refine QF.done (hK _ _ (Dwp.ret ?_) rfl)
    all_goals refine QaS Tryz.func125 rfl _ ?_
    all_goals (have hm2 := hm; unfold Hid at hm2; clear hm; replace hm2 := hm2.symm; simp [upd, Qau, *])
  have hk2f : (k == 2) = false := by simpa using hk2
  simp [QB, QE, Qk, QJ, own, Ql, dop, QI, eval, Qx, QF, Ex.then, Ex.inBlock, upd, QK, Tag.isNN, Qm, intCmp, Qz, QA, TyI.agg, Qb, Qs, Qd, Qq, QL, QC, Qo, mapOf, Qw, Qn, Qe, Qh, Qf, Qt, DV.cells, Qr, Qg, Qp, Qu, rowsOf, Qv, growLimit, Qa, Qa.go, Qi, Qj, Qc, goInt, init, Qa0, hk2f]
  refine hK _ _ ?_ rfl; clear hK K
  refine Dwp.condF (by simp [eval, upd, hk2]) ?_
  refine Dwp.step tT rfl fun K hK => ?_
  by_cases hk3 : k = 3
  · subst hk3
    simp [QB, QE, Qk, QJ, own, Ql, dop, QI, eval, Qx, QF, Ex.then, Ex.inBlock, upd, QK, Tag.isNN, Qm, intCmp, Qz, QA, TyI.agg, Qb, Qs, Qd, Qq, QL, QC, Qo, mapOf, Qw, Qn, Qe, Qh, Qf, Qt, DV.cells, Qr, Qg, Qp, Qu, rowsOf, Qv, growLimit, Qa, Qa.go, Qi, Qj, Qc, goInt, init, Qa0]
    refine hK _ _ ?_ rfl; clear hK K
    refine Dwp.condT (by simp [eval, upd]) ?_
    refine Dwp.step tT rfl fun K hK => ?_
    repeat' ((first | refine QF.stepD rfl rfl ?_ | refine QF.stepG rfl rfl rfl ?_ | refine QF.stepN rfl rfl ?_ | refine QF.stepGN rfl rfl rfl ?_); intro K1 hK1; simp [*, QZ, QN, QJ, dop, eval, Qx, upd, Qb, Qs, Qz, QA, TyI.agg, Qd, Qq, Qh, Qf, QC, QL, goInt, QK, intCmp, Qm, Tag.isNN, Qc, DV.cells, growLimit, Qr, Qg, init, Qa0, ty3, ty9, QaF, Qaf, Q8, Ql, len8, QjG]; (first | (refine hK1 _ _ ?_; clear hK1 K1) | (split <;> (rename_i hsp; (try simp only [beq_iff_eq, beq_eq_false_iff_ne, ne_eq, decide_eq_true_eq, decide_eq_false_iff_not] at hsp); (try (first | have hsq := Int.not_le.2 hsp | have hsq := Int.not_lt.2 hsp | have hsq := Int.not_le.1 hsp | have hsq := Int.not_lt.1 hsp)); (try subst hsp); (try simp only [hsp])) <;> (refine hK1 _ _ ?_; clear hK1 K1))))
    all_goals refine QF.done (hK _ _ (Dwp.ret ?_) rfl)
    all_goals refine QaS Tryz.func125 rfl _ ?_
    all_goals (have hm2 := hm; unfold Hid at hm2; clear hm; replace hm2 := hm2.symm; simp [upd, Qau, *])
  have hk3f : (k == 3) = false := by simpa using hk3
  simp [QB, QE, Qk, QJ, own, Ql, dop, QI, eval, Qx, QF, Ex.then, Ex.inBlock, upd, QK, Tag.isNN, Qm, intCmp, Qz, QA, TyI.agg, Qb, Qs, Qd, Qq, QL, QC, Qo, mapOf, Qw, Qn, Qe, Qh, Qf, Qt, DV.cells, Qr, Qg, Qp, Qu, rowsOf, Qv, growLimit, Qa, Qa.go, Qi, Qj, Qc, goInt, init, Qa0, hk3f]
  refine hK _ _ ?_ rfl; clear hK K
  refine Dwp.condF (by simp [eval, upd, hk3]) ?_
  refine Dwp.step tT rfl fun K hK => ?_
  by_cases hk4 : k = 4
  · subst hk4
    simp [QB, QE, Qk, QJ, own, Ql, dop, QI, eval, Qx, QF, Ex.then, Ex.inBlock, upd, QK, Tag.isNN, Qm, intCmp, Qz, QA, TyI.agg, Qb, Qs, Qd, Qq, QL, QC, Qo, mapOf, Qw, Qn, Qe, Qh, Qf, Qt, DV.cells, Qr, Qg, Qp, Qu, rowsOf, Qv, growLimit, Qa, Qa.go, Qi, Qj, Qc, goInt, init, Qa0]
    refine hK _ _ ?_ rfl; clear hK K
    refine Dwp.condT (by simp [eval, upd]) ?_
    refine Dwp.step tT rfl fun K hK => ?_
    repeat' ((first | refine QF.stepD rfl rfl ?_ | refine QF.stepG rfl rfl rfl ?_ | refine QF.stepN rfl rfl ?_ | refine QF.stepGN rfl rfl rfl ?_); intro K1 hK1; simp [*, QZ, QN, QJ, dop, eval, Qx, upd, Qb, Qs, Qz, QA, TyI.agg, Qd, Qq, Qh, Qf, QC, QL, goInt, QK, intCmp, Qm, Tag.isNN, Qc, DV.cells, growLimit, Qr, Qg, init, Qa0, ty3, ty9, QaF, Qaf, Q8, Ql, len8, QjG]; (first | (refine hK1 _ _ ?_; clear hK1 K1) | (split <;> (rename_i hsp; (try simp only [beq_iff_eq, beq_eq_false_iff_ne, ne_eq, decide_eq_true_eq, decide_eq_false_iff_not] at hsp); (try (first | have hsq := Int.not_le.2 hsp | have hsq := Int.not_lt.2 hsp | have hsq := Int.not_le.1 hsp | have hsq := Int.not_lt.1 hsp)); (try subst hsp); (try simp only [hsp])) <;> (refine hK1 _ _ ?_; clear hK1 K1))))
    all_goals refine QF.done (hK _ _ (Dwp.ret ?_) rfl)
    all_goals refine QaS Tryz.func125 rfl _ ?_
    all_goals (have hm2 := hm; unfold Hid at hm2; clear hm; replace hm2 := hm2.symm; simp [upd, Qau, *])
  have hk4f : (k == 4) = false := by simpa using hk4
  simp [QB, QE, Qk, QJ, own, Ql, dop, QI, eval, Qx, QF, Ex.then, Ex.inBlock, upd, QK, Tag.isNN, Qm, intCmp, Qz, QA, TyI.agg, Qb, Qs, Qd, Qq, QL, QC, Qo, mapOf, Qw, Qn, Qe, Qh, Qf, Qt, DV.cells, Qr, Qg, Qp, Qu, rowsOf, Qv, growLimit, Qa, Qa.go, Qi, Qj, Qc, goInt, init, Qa0, hk4f]
  refine hK _ _ ?_ rfl; clear hK K
  refine Dwp.condF (by simp [eval, upd, hk4]) ?_
  refine Dwp.step tT rfl fun K hK => ?_
  by_cases hk5 : k = 5
  · subst hk5
    simp [QB, QE, Qk, QJ, own, Ql, dop, QI, eval, Qx, QF, Ex.then, Ex.inBlock, upd, QK, Tag.isNN, Qm, intCmp, Qz, QA, TyI.agg, Qb, Qs, Qd, Qq, QL, QC, Qo, mapOf, Qw, Qn, Qe, Qh, Qf, Qt, DV.cells, Qr, Qg, Qp, Qu, rowsOf, Qv, growLimit, Qa, Qa.go, Qi, Qj, Qc, goInt, init, Qa0]
    refine hK _ _ ?_ rfl; clear hK K
    refine Dwp.condT (by simp [eval, upd]) ?_
    refine Dwp.step tT rfl fun K hK => ?_
    repeat' ((first | refine QF.stepD rfl rfl ?_ | refine QF.stepG rfl rfl rfl ?_ | refine QF.stepN rfl rfl ?_ | refine QF.stepGN rfl rfl rfl ?_); intro K1 hK1; simp [*, QZ, QN, QJ, dop, eval, Qx, upd, Qb, Qs, Qz, QA, TyI.agg, Qd, Qq, Qh, Qf, QC, QL, goInt, QK, intCmp, Qm, Tag.isNN, Qc, DV.cells, growLimit, Qr, Qg, init, Qa0, ty3, ty9, QaF, Qaf, Q8, Ql, len8, QjG]; (first | (refine hK1 _ _ ?_; clear hK1 K1) | (split <;> (rename_i hsp; (try simp only [beq_iff_eq, beq_eq_false_iff_ne, ne_eq, decide_eq_true_eq, decide_eq_false_iff_not] at hsp); (try (first | have hsq := Int.not_le.2 hsp | have hsq := Int.not_lt.2 hsp | have hsq := Int.not_le.1 hsp | have hsq := Int.not_lt.1 hsp)); (try subst hsp); (try simp only [hsp])) <;> (refine hK1 _ _ ?_; clear hK1 K1))))
    all_goals refine QF.done (hK _ _ (Dwp.ret ?_) rfl)
    all_goals refine QaS Tryz.func125 rfl _ ?_
    all_goals (have hm2 := hm; unfold Hid at hm2; clear hm; replace hm2 := hm2.symm; simp [upd, Qau, *])
  have hk5f : (k == 5) = false := by simpa using hk5
  simp [QB, QE, Qk, QJ, own, Ql, dop, QI, eval, Qx, QF, Ex.then, Ex.inBlock, upd, QK, Tag.isNN, Qm, intCmp, Qz, QA, TyI.agg, Qb, Qs, Qd, Qq, QL, QC, Qo, mapOf, Qw, Qn, Qe, Qh, Qf, Qt, DV.cells, Qr, Qg, Qp, Qu, rowsOf, Qv, growLimit, Qa, Qa.go, Qi, Qj, Qc, goInt, init, Qa0, hk5f]
  refine hK _ _ ?_ rfl; clear hK K
  refine Dwp.condF (by simp [eval, upd, hk5]) ?_
  refine Dwp.step tT rfl fun K hK => ?_
  by_cases hk6 : k = 6
  · subst hk6
    simp [QB, QE, Qk, QJ, own, Ql, dop, QI, eval, Qx, QF, Ex.then, Ex.inBlock, upd, QK, Tag.isNN, Qm, intCmp, Qz, QA, TyI.agg, Qb, Qs, Qd, Qq, QL, QC, Qo, mapOf, Qw, Qn, Qe, Qh, Qf, Qt, DV.cells, Qr, Qg, Qp, Qu, rowsOf, Qv, growLimit, Qa, Qa.go, Qi, Qj, Qc, goInt, init, Qa0]
    refine hK _ _ ?_ rfl; clear hK K
    refine Dwp.condT (by simp [eval, upd]) ?_
    refine Dwp.step tT rfl fun K hK => ?_
    repeat' ((first | refine QF.stepD rfl rfl ?_ | refine QF.stepG rfl rfl rfl ?_ | refine QF.stepN rfl rfl ?_ | refine QF.stepGN rfl rfl rfl ?_); intro K1 hK1; simp [*, QZ, QN, QJ, dop, eval, Qx, upd, Qb, Qs, Qz, QA, TyI.agg, Qd, Qq, Qh, Qf, QC, QL, goInt, QK, intCmp, Qm, Tag.isNN, Qc, DV.cells, growLimit, Qr, Qg, init, Qa0, ty3, ty9, QaF, Qaf, Q8, Ql, len8, QjG]; (first | (refine hK1 _ _ ?_; clear hK1 K1) | (split <;> (rename_i hsp; (try simp only [beq_iff_eq, beq_eq_false_iff_ne, ne_eq, decide_eq_true_eq, decide_eq_false_iff_not] at hsp); (try (first | have hsq := Int.not_le.2 hsp | have hsq := Int.not_lt.2 hsp | have hsq := Int.not_le.1 hsp | have hsq := Int.not_lt.1 hsp)); (try subst hsp); (try simp only [hsp])) <;> (refine hK1 _ _ ?_; clear hK1 K1))))
    all_goals refine QF.done (hK _ _ (Dwp.ret ?_) rfl)
    all_goals refine QaS Tryz.func125 rfl _ ?_
    all_goals (have hm2 := hm; unfold Hid at hm2; clear hm; replace hm2 := hm2.symm; simp [upd, Qau, *])
  have hk6f : (k == 6) = false := by simpa using hk6
  simp [QB, QE, Qk, QJ, own, Ql, dop, QI, eval, Qx, QF, Ex.then, Ex.inBlock, upd, QK, Tag.isNN, Qm, intCmp, Qz, QA, TyI.agg, Qb, Qs, Qd, Qq, QL, QC, Qo, mapOf, Qw, Qn, Qe, Qh, Qf, Qt, DV.cells, Qr, Qg, Qp, Qu, rowsOf, Qv, growLimit, Qa, Qa.go, Qi, Qj, Qc, goInt, init, Qa0, hk6f]
  refine hK _ _ ?_ rfl; clear hK K
  refine Dwp.condF (by simp [eval, upd, hk6]) ?_
  refine Dwp.step tT rfl fun K hK => ?_
  by_cases hk7 : k = 7
  · subst hk7
    simp [QB, QE, Qk, QJ, own, Ql, dop, QI, eval, Qx, QF, Ex.then, Ex.inBlock, upd, QK, Tag.isNN, Qm, intCmp, Qz, QA, TyI.agg, Qb, Qs, Qd, Qq, QL, QC, Qo, mapOf, Qw, Qn, Qe, Qh, Qf, Qt, DV.cells, Qr, Qg, Qp, Qu, rowsOf, Qv, growLimit, Qa, Qa.go, Qi, Qj, Qc, goInt, init, Qa0]
    refine hK _ _ ?_ rfl; clear hK K
    refine Dwp.condT (by simp [eval, upd]) ?_
    refine Dwp.step tT rfl fun K hK => ?_
    repeat' ((first | refine QF.stepD rfl rfl ?_ | refine QF.stepG rfl rfl rfl ?_ | refine QF.stepN rfl rfl ?_ | refine QF.stepGN rfl rfl rfl ?_); intro K1 hK1; simp [*, QZ, QN, QJ, dop, eval, Qx, upd, Qb, Qs, Qz, QA, TyI.agg, Qd, Qq, Qh, Qf, QC, QL, goInt, QK, intCmp, Qm, Tag.isNN, Qc, DV.cells, growLimit, Qr, Qg, init, Qa0, ty3, ty9, QaF, Qaf, Q8, Ql, len8, QjG]; (first | (refine hK1 _ _ ?_; clear hK1 K1) | (split <;> (rename_i hsp; (try simp only [beq_iff_eq, beq_eq_false_iff_ne, ne_eq, decide_eq_true_eq, decide_eq_false_iff_not] at hsp); (try (first | have hsq := Int.not_le.2 hsp | have hsq := Int.not_lt.2 hsp | have hsq := Int.not_le.1 hsp | have hsq := Int.not_lt.1 hsp)); (try subst hsp); (try simp only [hsp])) <;> (refine hK1 _ _ ?_; clear hK1 K1))))
    all_goals refine QF.done (hK _ _ (Dwp.ret ?_) rfl)
    all_goals refine QaS Tryz.func125 rfl _ ?_
    all_goals (have hm2 := hm; unfold Hid at hm2; clear hm; replace hm2 := hm2.symm; simp [upd, Qau, *])
  have hk7f : (k == 7) = false := by simpa using hk7
  simp [QB, QE, Qk, QJ, own, Ql, dop, QI, eval, Qx, QF, Ex.then, Ex.inBlock, upd, QK, Tag.isNN, Qm, intCmp, Qz, QA, TyI.agg, Qb, Qs, Qd, Qq, QL, QC, Qo, mapOf, Qw, Qn, Qe, Qh, Qf, Qt, DV.cells, Qr, Qg, Qp, Qu, rowsOf, Qv, growLimit, Qa, Qa.go, Qi, Qj, Qc, goInt, init, Qa0, hk7f]
  refine hK _ _ ?_ rfl; clear hK K
  refine Dwp.condF (by simp [eval, upd, hk7]) ?_
  refine Dwp.step tT rfl fun K hK => ?_
  by_cases hk8 : k = 8
  · subst hk8
    simp [QB, QE, Qk, QJ, own, Ql, dop, QI, eval, Qx, QF, Ex.then, Ex.inBlock, upd, QK, Tag.isNN, Qm, intCmp, Qz, QA, TyI.agg, Qb, Qs, Qd, Qq, QL, QC, Qo, mapOf, Qw, Qn, Qe, Qh, Qf, Qt, DV.cells, Qr, Qg, Qp, Qu, rowsOf, Qv, growLimit, Qa, Qa.go, Qi, Qj, Qc, goInt, init, Qa0]
    refine hK _ _ ?_ rfl; clear hK K
    refine Dwp.condT (by simp [eval, upd]) ?_
    refine Dwp.step tT rfl fun K hK => ?_
    repeat' ((first | refine QF.stepD rfl rfl ?_ | refine QF.stepG rfl rfl rfl ?_ | refine QF.stepN rfl rfl ?_ | refine QF.stepGN rfl rfl rfl ?_); intro K1 hK1; simp [*, QZ, QN, QJ, dop, eval, Qx, upd, Qb, Qs, Qz, QA, TyI.agg, Qd, Qq, Qh, Qf, QC, QL, goInt, QK, intCmp, Qm, Tag.isNN, Qc, DV.cells, growLimit, Qr, Qg, init, Qa0, ty3, ty9, QaF, Qaf, Q8, Ql, len8, QjG]; (first | (refine hK1 _ _ ?_; clear hK1 K1) | (split <;> (rename_i hsp; (try simp only [beq_iff_eq, beq_eq_false_iff_ne, ne_eq, decide_eq_true_eq, decide_eq_false_iff_not] at hsp); (try (first | have hsq := Int.not_le.2 hsp | have hsq := Int.not_lt.2 hsp | have hsq := Int.not_le.1 hsp | have hsq := Int.not_lt.1 hsp)); (try subst hsp); (try simp only [hsp])) <;> (refine hK1 _ _ ?_; clear hK1 K1))))
    all_goals refine QF.done (hK _ _ (Dwp.ret ?_) rfl)
    all_goals refine QaS Tryz.func125 rfl _ ?_
    all_goals (have hm2 := hm; unfold Hid at hm2; clear hm; replace hm2 := hm2.symm; simp [upd, Qau, *])
  have hk8f : (k == 8) = false := by simpa using hk8
  simp [QB, QE, Qk, QJ, own, Ql, dop, QI, eval, Qx, QF, Ex.then, Ex.inBlock, upd, QK, Tag.isNN, Qm, intCmp, Qz, QA, TyI.agg, Qb, Qs, Qd, Qq, QL, QC, Qo, mapOf, Qw, Qn, Qe, Qh, Qf, Qt, DV.cells, Qr, Qg, Qp, Qu, rowsOf, Qv, growLimit, Qa, Qa.go, Qi, Qj, Qc, goInt, init, Qa0, hk8f]
  refine hK _ _ ?_ rfl; clear hK K
  refine Dwp.condF (by simp [eval, upd, hk8]) (Dwp.skip ?_)
  refine Dwp.step tT rfl fun K hK => ?_
  simp [QB, QE, Qk, QJ, own, Ql, dop, QI, eval, Qx, QF, Ex.then, Ex.inBlock, upd, QK, Tag.isNN, Qm, intCmp, Qz, QA, TyI.agg, Qb, Qs, Qd, Qq, QL, QC, Qo, mapOf, Qw, Qn, Qe, Qh, Qf, Qt, DV.cells, Qr, Qg, Qp, Qu, rowsOf, Qv, growLimit, Qa, Qa.go, Qi, Qj, Qc, goInt]
  refine hK _ _ (Dwp.ret ?_) rfl
  refine QaS Tryz.func125 rfl _ ?_
  simp [upd, Qau, *]
theorem e125 : Go.FA.Good Tryz.prog (125, s125) := ⟨c125, Tryz.f125, _, Tryz.func125, rfl, by decide⟩
end Go.Proofs.Yt
