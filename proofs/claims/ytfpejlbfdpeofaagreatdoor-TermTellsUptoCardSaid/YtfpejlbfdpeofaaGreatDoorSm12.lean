/- Contracts of functions of the program, by a machine over abstract values; part 13. No condition beyond those of each theorem. -/
import Derived.Test.YtfpejlbfdpeofaaGreatDoorSm11
set_option linter.unusedVariables false
set_option linter.unusedSimpArgs false
namespace Go.Proofs.Yt
open Go Go.FA Go.Proofs Go.RowKit
set_option maxRecDepth 100000
def Qar : Tm → Bool
  | .mk k n x s ks r =>
    if k = 1 then decide (-2147483647 ≤ n) && (decide (n ≤ 2147483647) && (decide (x = ⟨#[]⟩) && (decide (s = ⟨#[]⟩) && QeJ (.mk k n x s ks r))))
    else if k = 2 then (decide (n = 0) || decide (n = 1)) && (decide (x = ⟨#[]⟩) && (decide (s = ⟨#[]⟩) && QeJ (.mk k n x s ks r)))
    else if k = 3 then decide (n = 0) && (QcA x && (decide (s = ⟨#[]⟩) && QeJ (.mk k n x s ks r)))
    else if k = 4 then decide (n = 0) && (idB x && (decide (s = ⟨#[]⟩) && QeJ (.mk k n x s ks r)))
    else if k = 5 then decide (n = 0) && (QeQ x && (decide (s = ⟨#[]⟩) && (decide (ks.length ≤ 8) && r.isEmpty)))
    else if k = 6 then decide (n = 0) && (Qkv x s && QeJ (.mk k n x s ks r))
    else if k = 7 then decide (n = 0) && (decide (x = ⟨#[]⟩) && (decide (s = ⟨#[]⟩) && Qb5 ⟨#[76, 105, 115, 116]⟩ r))
    else if k = 8 then decide (n = 0) && (decide (x = ⟨#[]⟩) && (decide (s = ⟨#[]⟩) && (decide (ks.length % 2 = 0) && Qb5 ⟨#[77, 97, 112]⟩ r)))
    else false
open Classical in
noncomputable def s125 : Sp := sp (QM Enc.tm) Enc.bool (fun t => if okT t then some (Qar t) else none)
theorem call125 (T : Tab) (hT : T 125 = some s125) (t : Tm) (h : okT t) : dcall T 125 [.agg t.cells] = some (.lit (.bool (Qar t))) :=
  Qad (A := Enc.tm) (B := Enc.bool) hT (if_pos h)
abbrev T125 : Tab := Qf [(226, s226), (227, s227), (228, s228), (229, s229), (230, s230), (231, s231)]
theorem tab125 : QH Tryz.prog T125 := .cons e226 (.cons e227 (.cons e228 (.cons e229 (.cons e230 (.cons e231 .nil)))))
theorem len8 (ks : List Tm) : ((ks.length : Int) ≤ 8) ↔ (ks.length ≤ 8) := by omega
set_option maxHeartbeats 16000000 in
theorem c125 : Qb Tryz.prog 125 s125 := by
  refine Qb.of_sp (T := T125) Tryz.func125 rfl (Nat.le_of_ble_eq_true rfl) fun E t y hy => ?_
  split at hy
  case isFalse => cases hy
  next hok =>
  obtain ⟨k, nn, x, s, ks, r⟩ := t
  cases hy
  have tT := tab125
  have hok2 := hok
  rw [okT] at hok2
  have hx : x.size ≤ lim := hok2.1
  have hs : s.size ≤ lim := hok2.2.1
  have hr : r.length ≤ 16777216 := hok2.2.2.2.1
  have z1 := call226 T125 rfl (.mk k nn x s ks r)
  have g3 := call227 T125 rfl x hx
  have g4 := call228 T125 rfl x hx
  have g5 := call229 T125 rfl x hx
  have g6 := call230 T125 rfl x s
  have g8 := Qka T125 rfl r ⟨#[76, 105, 115, 116]⟩ hr
  have g9 := Qka T125 rfl r ⟨#[77, 97, 112]⟩ hr
  obtain ⟨m, hm⟩ : ∃ m : Nat, m = ks.length % 2 := ⟨_, rfl⟩
  have hkl : (ks.length : Int).tmod 2 = (m : Int) := by rw [hm]; rw [Int.tmod_eq_emod_of_nonneg (by omega)]; omega
  change Hid _ at hm
  clear hok2 hx hs hr
  generalize T125 = T at *
  simp only [QM, Ql.one, tmC, QG] at *
  refine Dwp.step tT rfl fun K hK => ?_
  simp [QF, QZ, Qo, QJ, own, Qm, dop, QN, eval, Qr, Qn, Ex.then, Ex.inBlock, upd, QV, Tag.isNN, Qp, intCmp, Qv, Qx, TyI.agg, Qa, Qu, Qg, Qs, QX, QA, QD, mapOf, QQ, QC, Qq, Qi, Qj, QI, DV.cells, Qt, Qk, QE, QK, rowsOf, QL, Qd, Qe, Qe.go, Qz, QB, Qc, goInt, init, QG]
  refine hK _ _ ?_ rfl; clear hK K
  refine Dwp.seq ?_
  refine Dwp.step tT rfl fun K hK => ?_
  simp [QF, QZ, Qo, QJ, own, Qm, dop, QN, eval, Qr, Qn, Ex.then, Ex.inBlock, upd, QV, Tag.isNN, Qp, intCmp, Qv, Qx, TyI.agg, Qa, Qu, Qg, Qs, QX, QA, QD, mapOf, QQ, QC, Qq, Qi, Qj, QI, DV.cells, Qt, Qk, QE, QK, rowsOf, QL, Qd, Qe, Qe.go, Qz, QB, Qc, goInt, init, QaB]
  refine hK _ _ ?_ rfl; clear hK K
  refine Dwp.block ?_
  refine Dwp.step tT rfl fun K hK => ?_
  by_cases hk1 : k = 1
  · subst hk1
    simp [QF, QZ, Qo, QJ, own, Qm, dop, QN, eval, Qr, Qn, Ex.then, Ex.inBlock, upd, QV, Tag.isNN, Qp, intCmp, Qv, Qx, TyI.agg, Qa, Qu, Qg, Qs, QX, QA, QD, mapOf, QQ, QC, Qq, Qi, Qj, QI, DV.cells, Qt, Qk, QE, QK, rowsOf, QL, Qd, Qe, Qe.go, Qz, QB, Qc, goInt, init, QaB]
    refine hK _ _ ?_ rfl; clear hK K
    refine Dwp.condT (by simp [eval, upd]) ?_
    refine Dwp.step tT rfl fun K hK => ?_
    repeat' ((first | refine Qn.stepD rfl rfl ?_ | refine Qn.stepG rfl rfl rfl ?_ | refine Qn.stepN rfl rfl ?_ | refine Qn.stepGN rfl rfl rfl ?_); intro K1 hK1; simp [*, QO, Qw, QJ, dop, eval, Qr, upd, Qa, Qu, Qv, Qx, TyI.agg, Qg, Qs, Qi, Qj, QA, QX, goInt, QV, intCmp, Qp, Tag.isNN, Qc, DV.cells, Qd, Qt, Qk, init, QaB, ty3, ty9, Qak, Q5, QG, Qm, len8, QkM]; (first | (refine hK1 _ _ ?_; clear hK1 K1) | (split <;> (rename_i hsp; (try simp only [beq_iff_eq, beq_eq_false_iff_ne, ne_eq, decide_eq_true_eq, decide_eq_false_iff_not] at hsp); (try (first | have hsq := Int.not_le.2 hsp | have hsq := Int.not_lt.2 hsp | have hsq := Int.not_le.1 hsp | have hsq := Int.not_lt.1 hsp)); (try subst hsp); (try simp only [hsp])) <;> (refine hK1 _ _ ?_; clear hK1 K1))))
    all_goals refine Qn.done (hK _ _ (Dwp.ret ?_) rfl)
    all_goals refine QaE Tryz.func125 rfl _ ?_
    all_goals (have hm2 := hm; unfold Hid at hm2; clear hm; replace hm2 := hm2.symm; simp [upd, Qar, *])
  have hk1f : (k == 1) = false := by simpa using hk1
  simp [QF, QZ, Qo, QJ, own, Qm, dop, QN, eval, Qr, Qn, Ex.then, Ex.inBlock, upd, QV, Tag.isNN, Qp, intCmp, Qv, Qx, TyI.agg, Qa, Qu, Qg, Qs, QX, QA, QD, mapOf, QQ, QC, Qq, Qi, Qj, QI, DV.cells, Qt, Qk, QE, QK, rowsOf, QL, Qd, Qe, Qe.go, Qz, QB, Qc, goInt, init, QaB, hk1f]
  refine hK _ _ ?_ rfl; clear hK K
  refine Dwp.condF (by simp [eval, upd, hk1]) ?_
  refine Dwp.step tT rfl fun K hK => ?_
  by_cases hk2 : k = 2
  · subst hk2
    simp [QF, QZ, Qo, QJ, own, Qm, dop, QN, eval, Qr, Qn, Ex.then, Ex.inBlock, upd, QV, Tag.isNN, Qp, intCmp, Qv, Qx, TyI.agg, Qa, Qu, Qg, Qs, QX, QA, QD, mapOf, QQ, QC, Qq, Qi, Qj, QI, DV.cells, Qt, Qk, QE, QK, rowsOf, QL, Qd, Qe, Qe.go, Qz, QB, Qc, goInt, init, QaB]
    refine hK _ _ ?_ rfl; clear hK K
    refine Dwp.condT (by simp [eval, upd]) ?_
    refine Dwp.step tT rfl fun K hK => ?_
    repeat' ((first | refine Qn.stepD rfl rfl ?_ | refine Qn.stepG rfl rfl rfl ?_ | refine Qn.stepN rfl rfl ?_ | refine Qn.stepGN rfl rfl rfl ?_); intro K1 hK1; simp [*, QO, Qw, QJ, dop, eval, Qr, upd, Qa, Qu, Qv, Qx, TyI.agg, Qg, Qs, Qi, Qj, QA, QX, goInt, QV, intCmp, Qp, Tag.isNN, Qc, DV.cells, Qd, Qt, Qk, init, QaB, ty3, ty9, Qak, Q5, QG, Qm, len8, QkM]; (first | (refine hK1 _ _ ?_; clear hK1 K1) | (split <;> (rename_i hsp; (try simp only [beq_iff_eq, beq_eq_false_iff_ne, ne_eq, decide_eq_true_eq, decide_eq_false_iff_not] at hsp); (try (first | have hsq := Int.not_le.2 hsp | have hsq := Int.not_lt.2 hsp | have hsq := Int.not_le.1 hsp | have hsq := Int.not_lt.1 hsp)); (try subst hsp); (try simp only [hsp])) <;> (refine hK1 _ _ ?_; clear hK1 K1))))
    all_goals refine Qn.done (hK _ _ (Dwp.ret ?_) rfl)
    all_goals refine QaE Tryz.func125 rfl _ ?_
    all_goals (have hm2 := hm; unfold Hid at hm2; clear hm; replace hm2 := hm2.symm; simp [upd, Qar, *])
  have hk2f : (k == 2) = false := by simpa using hk2
  simp [QF, QZ, Qo, QJ, own, Qm, dop, QN, eval, Qr, Qn, Ex.then, Ex.inBlock, upd, QV, Tag.isNN, Qp, intCmp, Qv, Qx, TyI.agg, Qa, Qu, Qg, Qs, QX, QA, QD, mapOf, QQ, QC, Qq, Qi, Qj, QI, DV.cells, Qt, Qk, QE, QK, rowsOf, QL, Qd, Qe, Qe.go, Qz, QB, Qc, goInt, init, QaB, hk2f]
  refine hK _ _ ?_ rfl; clear hK K
  refine Dwp.condF (by simp [eval, upd, hk2]) ?_
  refine Dwp.step tT rfl fun K hK => ?_
  by_cases hk3 : k = 3
  · subst hk3
    simp [QF, QZ, Qo, QJ, own, Qm, dop, QN, eval, Qr, Qn, Ex.then, Ex.inBlock, upd, QV, Tag.isNN, Qp, intCmp, Qv, Qx, TyI.agg, Qa, Qu, Qg, Qs, QX, QA, QD, mapOf, QQ, QC, Qq, Qi, Qj, QI, DV.cells, Qt, Qk, QE, QK, rowsOf, QL, Qd, Qe, Qe.go, Qz, QB, Qc, goInt, init, QaB]
    refine hK _ _ ?_ rfl; clear hK K
    refine Dwp.condT (by simp [eval, upd]) ?_
    refine Dwp.step tT rfl fun K hK => ?_
    repeat' ((first | refine Qn.stepD rfl rfl ?_ | refine Qn.stepG rfl rfl rfl ?_ | refine Qn.stepN rfl rfl ?_ | refine Qn.stepGN rfl rfl rfl ?_); intro K1 hK1; simp [*, QO, Qw, QJ, dop, eval, Qr, upd, Qa, Qu, Qv, Qx, TyI.agg, Qg, Qs, Qi, Qj, QA, QX, goInt, QV, intCmp, Qp, Tag.isNN, Qc, DV.cells, Qd, Qt, Qk, init, QaB, ty3, ty9, Qak, Q5, QG, Qm, len8, QkM]; (first | (refine hK1 _ _ ?_; clear hK1 K1) | (split <;> (rename_i hsp; (try simp only [beq_iff_eq, beq_eq_false_iff_ne, ne_eq, decide_eq_true_eq, decide_eq_false_iff_not] at hsp); (try (first | have hsq := Int.not_le.2 hsp | have hsq := Int.not_lt.2 hsp | have hsq := Int.not_le.1 hsp | have hsq := Int.not_lt.1 hsp)); (try subst hsp); (try simp only [hsp])) <;> (refine hK1 _ _ ?_; clear hK1 K1))))
    all_goals refine Qn.done (hK _ _ (Dwp.ret ?_) rfl)
    all_goals refine QaE Tryz.func125 rfl _ ?_
    all_goals (have hm2 := hm; unfold Hid at hm2; clear hm; replace hm2 := hm2.symm; simp [upd, Qar, *])
  have hk3f : (k == 3) = false := by simpa using hk3
  simp [QF, QZ, Qo, QJ, own, Qm, dop, QN, eval, Qr, Qn, Ex.then, Ex.inBlock, upd, QV, Tag.isNN, Qp, intCmp, Qv, Qx, TyI.agg, Qa, Qu, Qg, Qs, QX, QA, QD, mapOf, QQ, QC, Qq, Qi, Qj, QI, DV.cells, Qt, Qk, QE, QK, rowsOf, QL, Qd, Qe, Qe.go, Qz, QB, Qc, goInt, init, QaB, hk3f]
  refine hK _ _ ?_ rfl; clear hK K
  refine Dwp.condF (by simp [eval, upd, hk3]) ?_
  refine Dwp.step tT rfl fun K hK => ?_
  by_cases hk4 : k = 4
  · subst hk4
    simp [QF, QZ, Qo, QJ, own, Qm, dop, QN, eval, Qr, Qn, Ex.then, Ex.inBlock, upd, QV, Tag.isNN, Qp, intCmp, Qv, Qx, TyI.agg, Qa, Qu, Qg, Qs, QX, QA, QD, mapOf, QQ, QC, Qq, Qi, Qj, QI, DV.cells, Qt, Qk, QE, QK, rowsOf, QL, Qd, Qe, Qe.go, Qz, QB, Qc, goInt, init, QaB]
    refine hK _ _ ?_ rfl; clear hK K
    refine Dwp.condT (by simp [eval, upd]) ?_
    refine Dwp.step tT rfl fun K hK => ?_
    repeat' ((first | refine Qn.stepD rfl rfl ?_ | refine Qn.stepG rfl rfl rfl ?_ | refine Qn.stepN rfl rfl ?_ | refine Qn.stepGN rfl rfl rfl ?_); intro K1 hK1; simp [*, QO, Qw, QJ, dop, eval, Qr, upd, Qa, Qu, Qv, Qx, TyI.agg, Qg, Qs, Qi, Qj, QA, QX, goInt, QV, intCmp, Qp, Tag.isNN, Qc, DV.cells, Qd, Qt, Qk, init, QaB, ty3, ty9, Qak, Q5, QG, Qm, len8, QkM]; (first | (refine hK1 _ _ ?_; clear hK1 K1) | (split <;> (rename_i hsp; (try simp only [beq_iff_eq, beq_eq_false_iff_ne, ne_eq, decide_eq_true_eq, decide_eq_false_iff_not] at hsp); (try (first | have hsq := Int.not_le.2 hsp | have hsq := Int.not_lt.2 hsp | have hsq := Int.not_le.1 hsp | have hsq := Int.not_lt.1 hsp)); (try subst hsp); (try simp only [hsp])) <;> (refine hK1 _ _ ?_; clear hK1 K1))))
    all_goals refine Qn.done (hK _ _ (Dwp.ret ?_) rfl)
    all_goals refine QaE Tryz.func125 rfl _ ?_
    all_goals (have hm2 := hm; unfold Hid at hm2; clear hm; replace hm2 := hm2.symm; simp [upd, Qar, *])
  have hk4f : (k == 4) = false := by simpa using hk4
  simp [QF, QZ, Qo, QJ, own, Qm, dop, QN, eval, Qr, Qn, Ex.then, Ex.inBlock, upd, QV, Tag.isNN, Qp, intCmp, Qv, Qx, TyI.agg, Qa, Qu, Qg, Qs, QX, QA, QD, mapOf, QQ, QC, Qq, Qi, Qj, QI, DV.cells, Qt, Qk, QE, QK, rowsOf, QL, Qd, Qe, Qe.go, Qz, QB, Qc, goInt, init, QaB, hk4f]
  refine hK _ _ ?_ rfl; clear hK K
  refine Dwp.condF (by simp [eval, upd, hk4]) ?_
  refine Dwp.step tT rfl fun K hK => ?_
  by_cases hk5 : k = 5
  · subst hk5
    simp [QF, QZ, Qo, QJ, own, Qm, dop, QN, eval, Qr, Qn, Ex.then, Ex.inBlock, upd, QV, Tag.isNN, Qp, intCmp, Qv, Qx, TyI.agg, Qa, Qu, Qg, Qs, QX, QA, QD, mapOf, QQ, QC, Qq, Qi, Qj, QI, DV.cells, Qt, Qk, QE, QK, rowsOf, QL, Qd, Qe, Qe.go, Qz, QB, Qc, goInt, init, QaB]
    refine hK _ _ ?_ rfl; clear hK K
    refine Dwp.condT (by simp [eval, upd]) ?_
    refine Dwp.step tT rfl fun K hK => ?_
    repeat' ((first | refine Qn.stepD rfl rfl ?_ | refine Qn.stepG rfl rfl rfl ?_ | refine Qn.stepN rfl rfl ?_ | refine Qn.stepGN rfl rfl rfl ?_); intro K1 hK1; simp [*, QO, Qw, QJ, dop, eval, Qr, upd, Qa, Qu, Qv, Qx, TyI.agg, Qg, Qs, Qi, Qj, QA, QX, goInt, QV, intCmp, Qp, Tag.isNN, Qc, DV.cells, Qd, Qt, Qk, init, QaB, ty3, ty9, Qak, Q5, QG, Qm, len8, QkM]; (first | (refine hK1 _ _ ?_; clear hK1 K1) | (split <;> (rename_i hsp; (try simp only [beq_iff_eq, beq_eq_false_iff_ne, ne_eq, decide_eq_true_eq, decide_eq_false_iff_not] at hsp); (try (first | have hsq := Int.not_le.2 hsp | have hsq := Int.not_lt.2 hsp | have hsq := Int.not_le.1 hsp | have hsq := Int.not_lt.1 hsp)); (try subst hsp); (try simp only [hsp])) <;> (refine hK1 _ _ ?_; clear hK1 K1))))
    all_goals refine Qn.done (hK _ _ (Dwp.ret ?_) rfl)
    all_goals refine QaE Tryz.func125 rfl _ ?_
    all_goals (have hm2 := hm; unfold Hid at hm2; clear hm; replace hm2 := hm2.symm; simp [upd, Qar, *])
  have hk5f : (k == 5) = false := by simpa using hk5
  simp [QF, QZ, Qo, QJ, own, Qm, dop, QN, eval, Qr, Qn, Ex.then, Ex.inBlock, upd, QV, Tag.isNN, Qp, intCmp, Qv, Qx, TyI.agg, Qa, Qu, Qg, Qs, QX, QA, QD, mapOf, QQ, QC, Qq, Qi, Qj, QI, DV.cells, Qt, Qk, QE, QK, rowsOf, QL, Qd, Qe, Qe.go, Qz, QB, Qc, goInt, init, QaB, hk5f]
  refine hK _ _ ?_ rfl; clear hK K
  refine Dwp.condF (by simp [eval, upd, hk5]) ?_
  refine Dwp.step tT rfl fun K hK => ?_
  by_cases hk6 : k = 6
  · subst hk6
    simp [QF, QZ, Qo, QJ, own, Qm, dop, QN, eval, Qr, Qn, Ex.then, Ex.inBlock, upd, QV, Tag.isNN, Qp, intCmp, Qv, Qx, TyI.agg, Qa, Qu, Qg, Qs, QX, QA, QD, mapOf, QQ, QC, Qq, Qi, Qj, QI, DV.cells, Qt, Qk, QE, QK, rowsOf, QL, Qd, Qe, Qe.go, Qz, QB, Qc, goInt, init, QaB]
    refine hK _ _ ?_ rfl; clear hK K
    refine Dwp.condT (by simp [eval, upd]) ?_
    refine Dwp.step tT rfl fun K hK => ?_
    repeat' ((first | refine Qn.stepD rfl rfl ?_ | refine Qn.stepG rfl rfl rfl ?_ | refine Qn.stepN rfl rfl ?_ | refine Qn.stepGN rfl rfl rfl ?_); intro K1 hK1; simp [*, QO, Qw, QJ, dop, eval, Qr, upd, Qa, Qu, Qv, Qx, TyI.agg, Qg, Qs, Qi, Qj, QA, QX, goInt, QV, intCmp, Qp, Tag.isNN, Qc, DV.cells, Qd, Qt, Qk, init, QaB, ty3, ty9, Qak, Q5, QG, Qm, len8, QkM]; (first | (refine hK1 _ _ ?_; clear hK1 K1) | (split <;> (rename_i hsp; (try simp only [beq_iff_eq, beq_eq_false_iff_ne, ne_eq, decide_eq_true_eq, decide_eq_false_iff_not] at hsp); (try (first | have hsq := Int.not_le.2 hsp | have hsq := Int.not_lt.2 hsp | have hsq := Int.not_le.1 hsp | have hsq := Int.not_lt.1 hsp)); (try subst hsp); (try simp only [hsp])) <;> (refine hK1 _ _ ?_; clear hK1 K1))))
    all_goals refine Qn.done (hK _ _ (Dwp.ret ?_) rfl)
    all_goals refine QaE Tryz.func125 rfl _ ?_
    all_goals (have hm2 := hm; unfold Hid at hm2; clear hm; replace hm2 := hm2.symm; simp [upd, Qar, *])
  have hk6f : (k == 6) = false := by simpa using hk6
  simp [QF, QZ, Qo, QJ, own, Qm, dop, QN, eval, Qr, Qn, Ex.then, Ex.inBlock, upd, QV, Tag.isNN, Qp, intCmp, Qv, Qx, TyI.agg, Qa, Qu, Qg, Qs, QX, QA, QD, mapOf, QQ, QC, Qq, Qi, Qj, QI, DV.cells, Qt, Qk, QE, QK, rowsOf, QL, Qd, Qe, Qe.go, Qz, QB, Qc, goInt, init, QaB, hk6f]
  refine hK _ _ ?_ rfl; clear hK K
  refine Dwp.condF (by simp [eval, upd, hk6]) ?_
  refine Dwp.step tT rfl fun K hK => ?_
  by_cases hk7 : k = 7
  · subst hk7
    simp [QF, QZ, Qo, QJ, own, Qm, dop, QN, eval, Qr, Qn, Ex.then, Ex.inBlock, upd, QV, Tag.isNN, Qp, intCmp, Qv, Qx, TyI.agg, Qa, Qu, Qg, Qs, QX, QA, QD, mapOf, QQ, QC, Qq, Qi, Qj, QI, DV.cells, Qt, Qk, QE, QK, rowsOf, QL, Qd, Qe, Qe.go, Qz, QB, Qc, goInt, init, QaB]
    refine hK _ _ ?_ rfl; clear hK K
    refine Dwp.condT (by simp [eval, upd]) ?_
    refine Dwp.step tT rfl fun K hK => ?_
    repeat' ((first | refine Qn.stepD rfl rfl ?_ | refine Qn.stepG rfl rfl rfl ?_ | refine Qn.stepN rfl rfl ?_ | refine Qn.stepGN rfl rfl rfl ?_); intro K1 hK1; simp [*, QO, Qw, QJ, dop, eval, Qr, upd, Qa, Qu, Qv, Qx, TyI.agg, Qg, Qs, Qi, Qj, QA, QX, goInt, QV, intCmp, Qp, Tag.isNN, Qc, DV.cells, Qd, Qt, Qk, init, QaB, ty3, ty9, Qak, Q5, QG, Qm, len8, QkM]; (first | (refine hK1 _ _ ?_; clear hK1 K1) | (split <;> (rename_i hsp; (try simp only [beq_iff_eq, beq_eq_false_iff_ne, ne_eq, decide_eq_true_eq, decide_eq_false_iff_not] at hsp); (try (first | have hsq := Int.not_le.2 hsp | have hsq := Int.not_lt.2 hsp | have hsq := Int.not_le.1 hsp | have hsq := Int.not_lt.1 hsp)); (try subst hsp); (try simp only [hsp])) <;> (refine hK1 _ _ ?_; clear hK1 K1))))
    all_goals refine Qn.done (hK _ _ (Dwp.ret ?_) rfl)
    all_goals refine QaE Tryz.func125 rfl _ ?_
    all_goals (have hm2 := hm; unfold Hid at hm2; clear hm; replace hm2 := hm2.symm; simp [upd, Qar, *])
  have hk7f : (k == 7) = false := by simpa using hk7
  simp [QF, QZ, Qo, QJ, own, Qm, dop, QN, eval, Qr, Qn, Ex.then, Ex.inBlock, upd, QV, Tag.isNN, Qp, intCmp, Qv, Qx, TyI.agg, Qa, Qu, Qg, Qs, QX, QA, QD, mapOf, QQ, QC, Qq, Qi, Qj, QI, DV.cells, Qt, Qk, QE, QK, rowsOf, QL, Qd, Qe, Qe.go, Qz, QB, Qc, goInt, init, QaB, hk7f]
  refine hK _ _ ?_ rfl; clear hK K
  refine Dwp.condF (by simp [eval, upd, hk7]) ?_
  refine Dwp.step tT rfl fun K hK => ?_
  by_cases hk8 : k = 8
  · subst hk8
    simp [QF, QZ, Qo, QJ, own, Qm, dop, QN, eval, Qr, Qn, Ex.then, Ex.inBlock, upd, QV, Tag.isNN, Qp, intCmp, Qv, Qx, TyI.agg, Qa, Qu, Qg, Qs, QX, QA, QD, mapOf, QQ, QC, Qq, Qi, Qj, QI, DV.cells, Qt, Qk, QE, QK, rowsOf, QL, Qd, Qe, Qe.go, Qz, QB, Qc, goInt, init, QaB]
    refine hK _ _ ?_ rfl; clear hK K
    refine Dwp.condT (by simp [eval, upd]) ?_
    refine Dwp.step tT rfl fun K hK => ?_
    repeat' ((first | refine Qn.stepD rfl rfl ?_ | refine Qn.stepG rfl rfl rfl ?_ | refine Qn.stepN rfl rfl ?_ | refine Qn.stepGN rfl rfl rfl ?_); intro K1 hK1; simp [*, QO, Qw, QJ, dop, eval, Qr, upd, Qa, Qu, Qv, Qx, TyI.agg, Qg, Qs, Qi, Qj, QA, QX, goInt, QV, intCmp, Qp, Tag.isNN, Qc, DV.cells, Qd, Qt, Qk, init, QaB, ty3, ty9, Qak, Q5, QG, Qm, len8, QkM]; (first | (refine hK1 _ _ ?_; clear hK1 K1) | (split <;> (rename_i hsp; (try simp only [beq_iff_eq, beq_eq_false_iff_ne, ne_eq, decide_eq_true_eq, decide_eq_false_iff_not] at hsp); (try (first | have hsq := Int.not_le.2 hsp | have hsq := Int.not_lt.2 hsp | have hsq := Int.not_le.1 hsp | have hsq := Int.not_lt.1 hsp)); (try subst hsp); (try simp only [hsp])) <;> (refine hK1 _ _ ?_; clear hK1 K1))))
    all_goals refine Qn.done (hK _ _ (Dwp.ret ?_) rfl)
    all_goals refine QaE Tryz.func125 rfl _ ?_
    all_goals (have hm2 := hm; unfold Hid at hm2; clear hm; replace hm2 := hm2.symm; simp [upd, Qar, *])
  have hk8f : (k == 8) = false := by simpa using hk8
  simp [QF, QZ, Qo, QJ, own, Qm, dop, QN, eval, Qr, Qn, Ex.then, Ex.inBlock, upd, QV, Tag.isNN, Qp, intCmp, Qv, Qx, TyI.agg, Qa, Qu, Qg, Qs, QX, QA, QD, mapOf, QQ, QC, Qq, Qi, Qj, QI, DV.cells, Qt, Qk, QE, QK, rowsOf, QL, Qd, Qe, Qe.go, Qz, QB, Qc, goInt, init, QaB, hk8f]
  refine hK _ _ ?_ rfl; clear hK K
  refine Dwp.condF (by simp [eval, upd, hk8]) (Dwp.skip ?_)
  refine Dwp.step tT rfl fun K hK => ?_
  simp [QF, QZ, Qo, QJ, own, Qm, dop, QN, eval, Qr, Qn, Ex.then, Ex.inBlock, upd, QV, Tag.isNN, Qp, intCmp, Qv, Qx, TyI.agg, Qa, Qu, Qg, Qs, QX, QA, QD, mapOf, QQ, QC, Qq, Qi, Qj, QI, DV.cells, Qt, Qk, QE, QK, rowsOf, QL, Qd, Qe, Qe.go, Qz, QB, Qc, goInt]
  refine hK _ _ (Dwp.ret ?_) rfl
  refine QaE Tryz.func125 rfl _ ?_
  simp [upd, Qar, *]
theorem e125 : Go.FA.Good Tryz.prog (125, s125) := ⟨c125, Tryz.f125, _, Tryz.func125, rfl, by decide⟩
end Go.Proofs.Yt
