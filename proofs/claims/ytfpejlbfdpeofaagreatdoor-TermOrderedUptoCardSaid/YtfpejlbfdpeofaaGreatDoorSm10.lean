/- Contracts of functions of the program, by a machine over abstract values; part 11. No condition beyond those of each theorem. -/
import Derived.Test.YtfpejlbfdpeofaaGreatDoorSm9
set_option linter.unusedVariables false
set_option linter.unusedSimpArgs false
namespace Go.Proofs.Yt
open Go Go.FA Go.Proofs Go.RowKit
set_option linter.unusedSimpArgs false
set_option maxRecDepth 100000
def Hid (p : Prop) : Prop := p
theorem Qay {f : FuncId} {fn : Func} {t : Nat} (hf : Tryz.prog.funcs[f]? = some fn) (hr : fn.results.toList = [.tmp t]) (b : Bool) {a : Nat → DV} {σ : St} (h : a t = .lit (.bool b)) : QZ Tryz.prog fn.results Enc.bool b Ex.ret a σ := by
  refine ⟨.inr rfl, .lit (.bool b), ?_, by simp [QZ, QH, QV, frz, QX, QW, Enc.bool]⟩
  rw [hr]; simp [QH, QV, h]
def Qa8 : Tm → Bool
  | .mk k n x s ks r =>
    if k = 1 then decide (-2147483647 ≤ n) && (decide (n ≤ 2147483647) && QbM (true, false, false, false, false) (.mk k n x s ks r))
    else if k = 2 then (decide (n = 0) || decide (n = 1)) && QbM (true, false, false, false, false) (.mk k n x s ks r)
    else if k = 3 then QcY x && QbM (false, true, false, false, false) (.mk k n x s ks r)
    else if k = 4 then idB x && QbM (false, true, false, false, false) (.mk k n x s ks r)
    else if k = 5 then Qe2 x && (decide (ks.length ≤ 8) && QbM (false, true, false, true, false) (.mk k n x s ks r))
    else if k = 6 then
      if x = ⟨#[95]⟩ ∨ x = ⟨#[36]⟩ then decide (s = ⟨#[65, 110, 121]⟩) && QbM (false, true, true, false, false) (.mk k n x s ks r)
      else Q2 x && (Q2 s && QbM (false, true, true, false, false) (.mk k n x s ks r))
    else if k = 7 then QbS ⟨#[76, 105, 115, 116]⟩ r && QbM (false, false, false, true, true) (.mk k n x s ks r)
    else if k = 8 then QbS ⟨#[77, 97, 112]⟩ r && (decide (ks.length % 2 = 0) && QbM (false, false, false, true, true) (.mk k n x s ks r))
    else false
open Classical in
noncomputable def s126 : Sp := sp (QU Enc.tm) Enc.bool (fun t => if okT t then some (Qa8 t) else none)
theorem call126 (T : Tab) (hT : T 126 = some s126) (t : Tm) (h : okT t) : dcall T 126 [.agg t.cells] = some (.lit (.bool (Qa8 t))) :=
  QaC (A := Enc.tm) (B := Enc.bool) hT (if_pos h)
open Classical in
theorem QiD (T : Tab) (hT : T 236 = some s236) (t : Tm) (so : ByteArray) (h : okT t) : dcall T 236 [.agg t.cells, .lit (.string so)] = some (.lit (.bool (QbS so t.rest))) :=
  QaL (A := Enc.tm) (B := Enc.str) (C := Enc.bool) hT (if_pos h)
noncomputable abbrev T126 : Tab := QG [(232, s232), (233, s233), (234, s234), (235, s235), (107, s107), (236, s236)]
theorem tab126 : QP Tryz.prog T126 := .cons e232 (.cons e233 (.cons e234 (.cons e235 (.cons e107 (.cons e236 .nil)))))
set_option maxHeartbeats 8000000 in
theorem c126 : QC Tryz.prog 126 s126 := by
  refine QC.of_sp (T := T126) Tryz.func126 rfl (Nat.le_of_ble_eq_true rfl) fun E t y hy => ?_
  split at hy
  case isFalse => cases hy
  next hok =>
  obtain ⟨k, nn, x, s, ks, r⟩ := t
  cases hy
  have tT := tab126
  have g1 := fun f h => QiM T126 rfl (.mk k nn x s ks r) f h
  have hok2 := hok
  rw [okT] at hok2
  have hx : x.size ≤ lim := hok2.1
  have hs : s.size ≤ lim := hok2.2.1
  have z1 := g1 (true, false, false, false, false) rfl
  have z2 := g1 (false, true, false, false, false) rfl
  have z3 := g1 (false, true, false, true, false) rfl
  have z4 := g1 (false, true, true, false, false) rfl
  have z5 := g1 (false, false, false, true, true) rfl
  have g3 := call233 T126 rfl x hx
  have g4 := call234 T126 rfl x hx
  have g5 := call235 T126 rfl x hx
  have g6 := QeC T126 rfl x hx
  have g7 := QeC T126 rfl s hs
  have g8 := QiD T126 rfl (.mk k nn x s ks r) ⟨#[76, 105, 115, 116]⟩ hok
  have g9 := QiD T126 rfl (.mk k nn x s ks r) ⟨#[77, 97, 112]⟩ hok
  obtain ⟨m, hm⟩ : ∃ m : Nat, m = ks.length % 2 := ⟨_, rfl⟩
  have hkl : (ks.length : Int).tmod 2 = (m : Int) := by rw [hm]; rw [Int.tmod_eq_emod_of_nonneg (by omega)]; omega
  have hk8 : (decide ((ks.length : Int) ≤ 8)) = decide (ks.length ≤ 8) := decide_eq_decide.2 (by omega)
  clear g1 hok2
  change Hid _ at hm
  simp only [Tm.rest] at g8 g9
  generalize T126 = T at *
  simp only [QU, QM.one, tmC, QR] at *
  refine Dwp.step tT rfl fun K hK => ?_
  simp [QD, QE, Qn, QI, own, Ql, dop, QJ, eval, Qy, QF, Ex.then, Ex.inBlock, upd, QK, Tag.isNN, Qm, intCmp, Qz, QA, TyI.agg, Qb, Qs, Qd, Qr, QL, QB, Qp, mapOf, Qx, Qo, Qf, Qi, Qg, Qu, DV.cells, Qt, Qh, Qq, Qv, rowsOf, Qw, Qe, Qa, Qa.go, Qj, Qk, Qc, goInt, init, QR]
  refine hK _ _ ?_ rfl; clear hK K
  refine Dwp.seq ?_
  refine Dwp.step tT rfl fun K hK => ?_
  simp [QD, QE, Qn, QI, own, Ql, dop, QJ, eval, Qy, QF, Ex.then, Ex.inBlock, upd, QK, Tag.isNN, Qm, intCmp, Qz, QA, TyI.agg, Qb, Qs, Qd, Qr, QL, QB, Qp, mapOf, Qx, Qo, Qf, Qi, Qg, Qu, DV.cells, Qt, Qh, Qq, Qv, rowsOf, Qw, Qe, Qa, Qa.go, Qj, Qk, Qc, goInt, init, Qaa]
  refine hK _ _ ?_ rfl; clear hK K
  refine Dwp.block ?_
  refine Dwp.step tT rfl fun K hK => ?_
  by_cases hk1 : k = 1
  · subst hk1
    simp [QD, QE, Qn, QI, own, Ql, dop, QJ, eval, Qy, QF, Ex.then, Ex.inBlock, upd, QK, Tag.isNN, Qm, intCmp, Qz, QA, TyI.agg, Qb, Qs, Qd, Qr, QL, QB, Qp, mapOf, Qx, Qo, Qf, Qi, Qg, Qu, DV.cells, Qt, Qh, Qq, Qv, rowsOf, Qw, Qe, Qa, Qa.go, Qj, Qk, Qc, goInt, init, Qaa]
    refine hK _ _ ?_ rfl; clear hK K
    refine Dwp.condT (by simp [eval, upd]) ?_
    refine Dwp.step tT rfl fun K hK => ?_
    repeat' ((first | refine QF.stepD rfl rfl ?_ | refine QF.stepG rfl rfl rfl ?_ | refine QF.stepN rfl rfl ?_ | refine QF.stepGN rfl rfl rfl ?_); intro K1 hK1; simp [*, QQ, QN, QI, dop, eval, Qy, upd, Qb, Qs, Qz, QA, TyI.agg, Qd, Qr, Qi, Qg, QB, QL, goInt, QK, intCmp, Qm, Tag.isNN, Qc, DV.cells, Qe, Qt, Qh, init, Qaa, ty3, ty9, Q9, Qab, QR, Ql]; (first | (refine hK1 _ _ ?_; clear hK1 K1) | (split <;> (rename_i hsp; (try simp only [beq_iff_eq, beq_eq_false_iff_ne, ne_eq, decide_eq_true_eq, decide_eq_false_iff_not] at hsp); (try (first | have hsq := Int.not_le.2 hsp | have hsq := Int.not_lt.2 hsp | have hsq := Int.not_le.1 hsp | have hsq := Int.not_lt.1 hsp)); (try subst hsp); (try simp only [hsp])) <;> (refine hK1 _ _ ?_; clear hK1 K1))))
    all_goals refine QF.done (hK _ _ (Dwp.ret ?_) rfl)
    all_goals refine Qay Tryz.func126 rfl _ ?_
    all_goals simp [upd, Qa8, *]
  have hk1f : (k == 1) = false := by simpa using hk1
  simp [QD, QE, Qn, QI, own, Ql, dop, QJ, eval, Qy, QF, Ex.then, Ex.inBlock, upd, QK, Tag.isNN, Qm, intCmp, Qz, QA, TyI.agg, Qb, Qs, Qd, Qr, QL, QB, Qp, mapOf, Qx, Qo, Qf, Qi, Qg, Qu, DV.cells, Qt, Qh, Qq, Qv, rowsOf, Qw, Qe, Qa, Qa.go, Qj, Qk, Qc, goInt, init, Qaa, hk1f]
  refine hK _ _ ?_ rfl; clear hK K
  refine Dwp.condF (by simp [eval, upd, hk1]) ?_
  refine Dwp.step tT rfl fun K hK => ?_
  by_cases hk2 : k = 2
  · subst hk2
    simp [QD, QE, Qn, QI, own, Ql, dop, QJ, eval, Qy, QF, Ex.then, Ex.inBlock, upd, QK, Tag.isNN, Qm, intCmp, Qz, QA, TyI.agg, Qb, Qs, Qd, Qr, QL, QB, Qp, mapOf, Qx, Qo, Qf, Qi, Qg, Qu, DV.cells, Qt, Qh, Qq, Qv, rowsOf, Qw, Qe, Qa, Qa.go, Qj, Qk, Qc, goInt, init, Qaa]
    refine hK _ _ ?_ rfl; clear hK K
    refine Dwp.condT (by simp [eval, upd]) ?_
    refine Dwp.step tT rfl fun K hK => ?_
    repeat' ((first | refine QF.stepD rfl rfl ?_ | refine QF.stepG rfl rfl rfl ?_ | refine QF.stepN rfl rfl ?_ | refine QF.stepGN rfl rfl rfl ?_); intro K1 hK1; simp [*, QQ, QN, QI, dop, eval, Qy, upd, Qb, Qs, Qz, QA, TyI.agg, Qd, Qr, Qi, Qg, QB, QL, goInt, QK, intCmp, Qm, Tag.isNN, Qc, DV.cells, Qe, Qt, Qh, init, Qaa, ty3, ty9, Q9, Qab, QR, Ql]; (first | (refine hK1 _ _ ?_; clear hK1 K1) | (split <;> (rename_i hsp; (try simp only [beq_iff_eq, beq_eq_false_iff_ne, ne_eq, decide_eq_true_eq, decide_eq_false_iff_not] at hsp); (try (first | have hsq := Int.not_le.2 hsp | have hsq := Int.not_lt.2 hsp | have hsq := Int.not_le.1 hsp | have hsq := Int.not_lt.1 hsp)); (try subst hsp); (try simp only [hsp])) <;> (refine hK1 _ _ ?_; clear hK1 K1))))
    all_goals refine QF.done (hK _ _ (Dwp.ret ?_) rfl)
    all_goals refine Qay Tryz.func126 rfl _ ?_
    all_goals simp [upd, Qa8, *]
  have hk2f : (k == 2) = false := by simpa using hk2
  simp [QD, QE, Qn, QI, own, Ql, dop, QJ, eval, Qy, QF, Ex.then, Ex.inBlock, upd, QK, Tag.isNN, Qm, intCmp, Qz, QA, TyI.agg, Qb, Qs, Qd, Qr, QL, QB, Qp, mapOf, Qx, Qo, Qf, Qi, Qg, Qu, DV.cells, Qt, Qh, Qq, Qv, rowsOf, Qw, Qe, Qa, Qa.go, Qj, Qk, Qc, goInt, init, Qaa, hk2f]
  refine hK _ _ ?_ rfl; clear hK K
  refine Dwp.condF (by simp [eval, upd, hk2]) ?_
  refine Dwp.step tT rfl fun K hK => ?_
  by_cases hk3 : k = 3
  · subst hk3
    simp [QD, QE, Qn, QI, own, Ql, dop, QJ, eval, Qy, QF, Ex.then, Ex.inBlock, upd, QK, Tag.isNN, Qm, intCmp, Qz, QA, TyI.agg, Qb, Qs, Qd, Qr, QL, QB, Qp, mapOf, Qx, Qo, Qf, Qi, Qg, Qu, DV.cells, Qt, Qh, Qq, Qv, rowsOf, Qw, Qe, Qa, Qa.go, Qj, Qk, Qc, goInt, init, Qaa]
    refine hK _ _ ?_ rfl; clear hK K
    refine Dwp.condT (by simp [eval, upd]) ?_
    refine Dwp.step tT rfl fun K hK => ?_
    repeat' ((first | refine QF.stepD rfl rfl ?_ | refine QF.stepG rfl rfl rfl ?_ | refine QF.stepN rfl rfl ?_ | refine QF.stepGN rfl rfl rfl ?_); intro K1 hK1; simp [*, QQ, QN, QI, dop, eval, Qy, upd, Qb, Qs, Qz, QA, TyI.agg, Qd, Qr, Qi, Qg, QB, QL, goInt, QK, intCmp, Qm, Tag.isNN, Qc, DV.cells, Qe, Qt, Qh, init, Qaa, ty3, ty9, Q9, Qab, QR, Ql]; (first | (refine hK1 _ _ ?_; clear hK1 K1) | (split <;> (rename_i hsp; (try simp only [beq_iff_eq, beq_eq_false_iff_ne, ne_eq, decide_eq_true_eq, decide_eq_false_iff_not] at hsp); (try (first | have hsq := Int.not_le.2 hsp | have hsq := Int.not_lt.2 hsp | have hsq := Int.not_le.1 hsp | have hsq := Int.not_lt.1 hsp)); (try subst hsp); (try simp only [hsp])) <;> (refine hK1 _ _ ?_; clear hK1 K1))))
    all_goals refine QF.done (hK _ _ (Dwp.ret ?_) rfl)
    all_goals refine Qay Tryz.func126 rfl _ ?_
    all_goals simp [upd, Qa8, *]
  have hk3f : (k == 3) = false := by simpa using hk3
  simp [QD, QE, Qn, QI, own, Ql, dop, QJ, eval, Qy, QF, Ex.then, Ex.inBlock, upd, QK, Tag.isNN, Qm, intCmp, Qz, QA, TyI.agg, Qb, Qs, Qd, Qr, QL, QB, Qp, mapOf, Qx, Qo, Qf, Qi, Qg, Qu, DV.cells, Qt, Qh, Qq, Qv, rowsOf, Qw, Qe, Qa, Qa.go, Qj, Qk, Qc, goInt, init, Qaa, hk3f]
  refine hK _ _ ?_ rfl; clear hK K
  refine Dwp.condF (by simp [eval, upd, hk3]) ?_
  refine Dwp.step tT rfl fun K hK => ?_
  by_cases hk4 : k = 4
  · subst hk4
    simp [QD, QE, Qn, QI, own, Ql, dop, QJ, eval, Qy, QF, Ex.then, Ex.inBlock, upd, QK, Tag.isNN, Qm, intCmp, Qz, QA, TyI.agg, Qb, Qs, Qd, Qr, QL, QB, Qp, mapOf, Qx, Qo, Qf, Qi, Qg, Qu, DV.cells, Qt, Qh, Qq, Qv, rowsOf, Qw, Qe, Qa, Qa.go, Qj, Qk, Qc, goInt, init, Qaa]
    refine hK _ _ ?_ rfl; clear hK K
    refine Dwp.condT (by simp [eval, upd]) ?_
    refine Dwp.step tT rfl fun K hK => ?_
    repeat' ((first | refine QF.stepD rfl rfl ?_ | refine QF.stepG rfl rfl rfl ?_ | refine QF.stepN rfl rfl ?_ | refine QF.stepGN rfl rfl rfl ?_); intro K1 hK1; simp [*, QQ, QN, QI, dop, eval, Qy, upd, Qb, Qs, Qz, QA, TyI.agg, Qd, Qr, Qi, Qg, QB, QL, goInt, QK, intCmp, Qm, Tag.isNN, Qc, DV.cells, Qe, Qt, Qh, init, Qaa, ty3, ty9, Q9, Qab, QR, Ql]; (first | (refine hK1 _ _ ?_; clear hK1 K1) | (split <;> (rename_i hsp; (try simp only [beq_iff_eq, beq_eq_false_iff_ne, ne_eq, decide_eq_true_eq, decide_eq_false_iff_not] at hsp); (try (first | have hsq := Int.not_le.2 hsp | have hsq := Int.not_lt.2 hsp | have hsq := Int.not_le.1 hsp | have hsq := Int.not_lt.1 hsp)); (try subst hsp); (try simp only [hsp])) <;> (refine hK1 _ _ ?_; clear hK1 K1))))
    all_goals refine QF.done (hK _ _ (Dwp.ret ?_) rfl)
    all_goals refine Qay Tryz.func126 rfl _ ?_
    all_goals simp [upd, Qa8, *]
  have hk4f : (k == 4) = false := by simpa using hk4
  simp [QD, QE, Qn, QI, own, Ql, dop, QJ, eval, Qy, QF, Ex.then, Ex.inBlock, upd, QK, Tag.isNN, Qm, intCmp, Qz, QA, TyI.agg, Qb, Qs, Qd, Qr, QL, QB, Qp, mapOf, Qx, Qo, Qf, Qi, Qg, Qu, DV.cells, Qt, Qh, Qq, Qv, rowsOf, Qw, Qe, Qa, Qa.go, Qj, Qk, Qc, goInt, init, Qaa, hk4f]
  refine hK _ _ ?_ rfl; clear hK K
  refine Dwp.condF (by simp [eval, upd, hk4]) ?_
  refine Dwp.step tT rfl fun K hK => ?_
  by_cases hk5 : k = 5
  · subst hk5
    simp [QD, QE, Qn, QI, own, Ql, dop, QJ, eval, Qy, QF, Ex.then, Ex.inBlock, upd, QK, Tag.isNN, Qm, intCmp, Qz, QA, TyI.agg, Qb, Qs, Qd, Qr, QL, QB, Qp, mapOf, Qx, Qo, Qf, Qi, Qg, Qu, DV.cells, Qt, Qh, Qq, Qv, rowsOf, Qw, Qe, Qa, Qa.go, Qj, Qk, Qc, goInt, init, Qaa]
    refine hK _ _ ?_ rfl; clear hK K
    refine Dwp.condT (by simp [eval, upd]) ?_
    refine Dwp.step tT rfl fun K hK => ?_
    repeat' ((first | refine QF.stepD rfl rfl ?_ | refine QF.stepG rfl rfl rfl ?_ | refine QF.stepN rfl rfl ?_ | refine QF.stepGN rfl rfl rfl ?_); intro K1 hK1; simp [*, QQ, QN, QI, dop, eval, Qy, upd, Qb, Qs, Qz, QA, TyI.agg, Qd, Qr, Qi, Qg, QB, QL, goInt, QK, intCmp, Qm, Tag.isNN, Qc, DV.cells, Qe, Qt, Qh, init, Qaa, ty3, ty9, Q9, Qab, QR, Ql]; (first | (refine hK1 _ _ ?_; clear hK1 K1) | (split <;> (rename_i hsp; (try simp only [beq_iff_eq, beq_eq_false_iff_ne, ne_eq, decide_eq_true_eq, decide_eq_false_iff_not] at hsp); (try (first | have hsq := Int.not_le.2 hsp | have hsq := Int.not_lt.2 hsp | have hsq := Int.not_le.1 hsp | have hsq := Int.not_lt.1 hsp)); (try subst hsp); (try simp only [hsp])) <;> (refine hK1 _ _ ?_; clear hK1 K1))))
    all_goals refine QF.done (hK _ _ (Dwp.ret ?_) rfl)
    all_goals refine Qay Tryz.func126 rfl _ ?_
    all_goals simp [upd, Qa8, *]
  have hk5f : (k == 5) = false := by simpa using hk5
  simp [QD, QE, Qn, QI, own, Ql, dop, QJ, eval, Qy, QF, Ex.then, Ex.inBlock, upd, QK, Tag.isNN, Qm, intCmp, Qz, QA, TyI.agg, Qb, Qs, Qd, Qr, QL, QB, Qp, mapOf, Qx, Qo, Qf, Qi, Qg, Qu, DV.cells, Qt, Qh, Qq, Qv, rowsOf, Qw, Qe, Qa, Qa.go, Qj, Qk, Qc, goInt, init, Qaa, hk5f]
  refine hK _ _ ?_ rfl; clear hK K
  refine Dwp.condF (by simp [eval, upd, hk5]) ?_
  refine Dwp.step tT rfl fun K hK => ?_
  by_cases hk6 : k = 6
  · subst hk6
    simp [QD, QE, Qn, QI, own, Ql, dop, QJ, eval, Qy, QF, Ex.then, Ex.inBlock, upd, QK, Tag.isNN, Qm, intCmp, Qz, QA, TyI.agg, Qb, Qs, Qd, Qr, QL, QB, Qp, mapOf, Qx, Qo, Qf, Qi, Qg, Qu, DV.cells, Qt, Qh, Qq, Qv, rowsOf, Qw, Qe, Qa, Qa.go, Qj, Qk, Qc, goInt, init, Qaa]
    refine hK _ _ ?_ rfl; clear hK K
    refine Dwp.condT (by simp [eval, upd]) ?_
    refine Dwp.seq ?_
    refine Dwp.step tT rfl fun K hK => ?_
    by_cases hu95 : x = ⟨#[95]⟩
    · subst hu95
      repeat' ((first | refine QF.stepD rfl rfl ?_ | refine QF.stepG rfl rfl rfl ?_ | refine QF.stepN rfl rfl ?_ | refine QF.stepGN rfl rfl rfl ?_); intro K1 hK1; simp [*, QQ, QN, QI, dop, eval, Qy, upd, Qb, Qs, Qz, QA, TyI.agg, Qd, Qr, Qi, Qg, QB, QL, goInt, QK, intCmp, Qm, Tag.isNN, Qc, DV.cells, Qe, Qt, Qh, init, Qaa, ty3, ty9, Q9, Qab, QR, Ql]; (first | (refine hK1 _ _ ?_; clear hK1 K1) | (split <;> (rename_i hsp; (try simp only [beq_iff_eq, beq_eq_false_iff_ne, ne_eq, decide_eq_true_eq, decide_eq_false_iff_not] at hsp); (try (first | have hsq := Int.not_le.2 hsp | have hsq := Int.not_lt.2 hsp | have hsq := Int.not_le.1 hsp | have hsq := Int.not_lt.1 hsp)); (try subst hsp); (try simp only [hsp])) <;> (refine hK1 _ _ ?_; clear hK1 K1))))
      refine QF.done (hK _ _ ?_ rfl)
      refine Dwp.condT (by simp [eval, upd]) ?_
      refine Dwp.step tT rfl fun K hK => ?_
      repeat' ((first | refine QF.stepD rfl rfl ?_ | refine QF.stepG rfl rfl rfl ?_ | refine QF.stepN rfl rfl ?_ | refine QF.stepGN rfl rfl rfl ?_); intro K1 hK1; simp [*, QQ, QN, QI, dop, eval, Qy, upd, Qb, Qs, Qz, QA, TyI.agg, Qd, Qr, Qi, Qg, QB, QL, goInt, QK, intCmp, Qm, Tag.isNN, Qc, DV.cells, Qe, Qt, Qh, init, Qaa, ty3, ty9, Q9, Qab, QR, Ql]; (first | (refine hK1 _ _ ?_; clear hK1 K1) | (split <;> (rename_i hsp; (try simp only [beq_iff_eq, beq_eq_false_iff_ne, ne_eq, decide_eq_true_eq, decide_eq_false_iff_not] at hsp); (try (first | have hsq := Int.not_le.2 hsp | have hsq := Int.not_lt.2 hsp | have hsq := Int.not_le.1 hsp | have hsq := Int.not_lt.1 hsp)); (try subst hsp); (try simp only [hsp])) <;> (refine hK1 _ _ ?_; clear hK1 K1))))
      all_goals refine QF.done (hK _ _ (Dwp.ret ?_) rfl)
      all_goals refine Qay Tryz.func126 rfl _ ?_
      all_goals simp [upd, Qa8, *]
    by_cases hu36 : x = ⟨#[36]⟩
    · subst hu36
      repeat' ((first | refine QF.stepD rfl rfl ?_ | refine QF.stepG rfl rfl rfl ?_ | refine QF.stepN rfl rfl ?_ | refine QF.stepGN rfl rfl rfl ?_); intro K1 hK1; simp [*, QQ, QN, QI, dop, eval, Qy, upd, Qb, Qs, Qz, QA, TyI.agg, Qd, Qr, Qi, Qg, QB, QL, goInt, QK, intCmp, Qm, Tag.isNN, Qc, DV.cells, Qe, Qt, Qh, init, Qaa, ty3, ty9, Q9, Qab, QR, Ql]; (first | (refine hK1 _ _ ?_; clear hK1 K1) | (split <;> (rename_i hsp; (try simp only [beq_iff_eq, beq_eq_false_iff_ne, ne_eq, decide_eq_true_eq, decide_eq_false_iff_not] at hsp); (try (first | have hsq := Int.not_le.2 hsp | have hsq := Int.not_lt.2 hsp | have hsq := Int.not_le.1 hsp | have hsq := Int.not_lt.1 hsp)); (try subst hsp); (try simp only [hsp])) <;> (refine hK1 _ _ ?_; clear hK1 K1))))
      refine QF.done (hK _ _ ?_ rfl)
      refine Dwp.condT (by simp [eval, upd]) ?_
      refine Dwp.step tT rfl fun K hK => ?_
      repeat' ((first | refine QF.stepD rfl rfl ?_ | refine QF.stepG rfl rfl rfl ?_ | refine QF.stepN rfl rfl ?_ | refine QF.stepGN rfl rfl rfl ?_); intro K1 hK1; simp [*, QQ, QN, QI, dop, eval, Qy, upd, Qb, Qs, Qz, QA, TyI.agg, Qd, Qr, Qi, Qg, QB, QL, goInt, QK, intCmp, Qm, Tag.isNN, Qc, DV.cells, Qe, Qt, Qh, init, Qaa, ty3, ty9, Q9, Qab, QR, Ql]; (first | (refine hK1 _ _ ?_; clear hK1 K1) | (split <;> (rename_i hsp; (try simp only [beq_iff_eq, beq_eq_false_iff_ne, ne_eq, decide_eq_true_eq, decide_eq_false_iff_not] at hsp); (try (first | have hsq := Int.not_le.2 hsp | have hsq := Int.not_lt.2 hsp | have hsq := Int.not_le.1 hsp | have hsq := Int.not_lt.1 hsp)); (try subst hsp); (try simp only [hsp])) <;> (refine hK1 _ _ ?_; clear hK1 K1))))
      all_goals refine QF.done (hK _ _ (Dwp.ret ?_) rfl)
      all_goals refine Qay Tryz.func126 rfl _ ?_
      all_goals simp [upd, Qa8, *]
    repeat' ((first | refine QF.stepD rfl rfl ?_ | refine QF.stepG rfl rfl rfl ?_ | refine QF.stepN rfl rfl ?_ | refine QF.stepGN rfl rfl rfl ?_); intro K1 hK1; simp [*, QQ, QN, QI, dop, eval, Qy, upd, Qb, Qs, Qz, QA, TyI.agg, Qd, Qr, Qi, Qg, QB, QL, goInt, QK, intCmp, Qm, Tag.isNN, Qc, DV.cells, Qe, Qt, Qh, init, Qaa, ty3, ty9, Q9, Qab, QR, Ql]; (first | (refine hK1 _ _ ?_; clear hK1 K1) | (split <;> (rename_i hsp; (try simp only [beq_iff_eq, beq_eq_false_iff_ne, ne_eq, decide_eq_true_eq, decide_eq_false_iff_not] at hsp); (try (first | have hsq := Int.not_le.2 hsp | have hsq := Int.not_lt.2 hsp | have hsq := Int.not_le.1 hsp | have hsq := Int.not_lt.1 hsp)); (try subst hsp); (try simp only [hsp])) <;> (refine hK1 _ _ ?_; clear hK1 K1))))
    refine QF.done (hK _ _ ?_ rfl)
    refine Dwp.condF (by simp [eval, upd, *]) (Dwp.skip ?_)
    refine Dwp.step tT rfl fun K hK => ?_
    repeat' ((first | refine QF.stepD rfl rfl ?_ | refine QF.stepG rfl rfl rfl ?_ | refine QF.stepN rfl rfl ?_ | refine QF.stepGN rfl rfl rfl ?_); intro K1 hK1; simp [*, QQ, QN, QI, dop, eval, Qy, upd, Qb, Qs, Qz, QA, TyI.agg, Qd, Qr, Qi, Qg, QB, QL, goInt, QK, intCmp, Qm, Tag.isNN, Qc, DV.cells, Qe, Qt, Qh, init, Qaa, ty3, ty9, Q9, Qab, QR, Ql]; (first | (refine hK1 _ _ ?_; clear hK1 K1) | (split <;> (rename_i hsp; (try simp only [beq_iff_eq, beq_eq_false_iff_ne, ne_eq, decide_eq_true_eq, decide_eq_false_iff_not] at hsp); (try (first | have hsq := Int.not_le.2 hsp | have hsq := Int.not_lt.2 hsp | have hsq := Int.not_le.1 hsp | have hsq := Int.not_lt.1 hsp)); (try subst hsp); (try simp only [hsp])) <;> (refine hK1 _ _ ?_; clear hK1 K1))))
    all_goals refine QF.done (hK _ _ (Dwp.ret ?_) rfl)
    all_goals refine Qay Tryz.func126 rfl _ ?_
    all_goals simp [upd, Qa8, *]
  have hk6f : (k == 6) = false := by simpa using hk6
  simp [QD, QE, Qn, QI, own, Ql, dop, QJ, eval, Qy, QF, Ex.then, Ex.inBlock, upd, QK, Tag.isNN, Qm, intCmp, Qz, QA, TyI.agg, Qb, Qs, Qd, Qr, QL, QB, Qp, mapOf, Qx, Qo, Qf, Qi, Qg, Qu, DV.cells, Qt, Qh, Qq, Qv, rowsOf, Qw, Qe, Qa, Qa.go, Qj, Qk, Qc, goInt, init, Qaa, hk6f]
  refine hK _ _ ?_ rfl; clear hK K
  refine Dwp.condF (by simp [eval, upd, hk6]) ?_
  refine Dwp.step tT rfl fun K hK => ?_
  by_cases hk7 : k = 7
  · subst hk7
    simp [QD, QE, Qn, QI, own, Ql, dop, QJ, eval, Qy, QF, Ex.then, Ex.inBlock, upd, QK, Tag.isNN, Qm, intCmp, Qz, QA, TyI.agg, Qb, Qs, Qd, Qr, QL, QB, Qp, mapOf, Qx, Qo, Qf, Qi, Qg, Qu, DV.cells, Qt, Qh, Qq, Qv, rowsOf, Qw, Qe, Qa, Qa.go, Qj, Qk, Qc, goInt, init, Qaa]
    refine hK _ _ ?_ rfl; clear hK K
    refine Dwp.condT (by simp [eval, upd]) ?_
    refine Dwp.step tT rfl fun K hK => ?_
    repeat' ((first | refine QF.stepD rfl rfl ?_ | refine QF.stepG rfl rfl rfl ?_ | refine QF.stepN rfl rfl ?_ | refine QF.stepGN rfl rfl rfl ?_); intro K1 hK1; simp [*, QQ, QN, QI, dop, eval, Qy, upd, Qb, Qs, Qz, QA, TyI.agg, Qd, Qr, Qi, Qg, QB, QL, goInt, QK, intCmp, Qm, Tag.isNN, Qc, DV.cells, Qe, Qt, Qh, init, Qaa, ty3, ty9, Q9, Qab, QR, Ql]; (first | (refine hK1 _ _ ?_; clear hK1 K1) | (split <;> (rename_i hsp; (try simp only [beq_iff_eq, beq_eq_false_iff_ne, ne_eq, decide_eq_true_eq, decide_eq_false_iff_not] at hsp); (try (first | have hsq := Int.not_le.2 hsp | have hsq := Int.not_lt.2 hsp | have hsq := Int.not_le.1 hsp | have hsq := Int.not_lt.1 hsp)); (try subst hsp); (try simp only [hsp])) <;> (refine hK1 _ _ ?_; clear hK1 K1))))
    all_goals refine QF.done (hK _ _ (Dwp.ret ?_) rfl)
    all_goals refine Qay Tryz.func126 rfl _ ?_
    all_goals simp [upd, Qa8, *]
  have hk7f : (k == 7) = false := by simpa using hk7
  simp [QD, QE, Qn, QI, own, Ql, dop, QJ, eval, Qy, QF, Ex.then, Ex.inBlock, upd, QK, Tag.isNN, Qm, intCmp, Qz, QA, TyI.agg, Qb, Qs, Qd, Qr, QL, QB, Qp, mapOf, Qx, Qo, Qf, Qi, Qg, Qu, DV.cells, Qt, Qh, Qq, Qv, rowsOf, Qw, Qe, Qa, Qa.go, Qj, Qk, Qc, goInt, init, Qaa, hk7f]
  refine hK _ _ ?_ rfl; clear hK K
  refine Dwp.condF (by simp [eval, upd, hk7]) ?_
  refine Dwp.step tT rfl fun K hK => ?_
  by_cases hk8 : k = 8
  · subst hk8
    simp [QD, QE, Qn, QI, own, Ql, dop, QJ, eval, Qy, QF, Ex.then, Ex.inBlock, upd, QK, Tag.isNN, Qm, intCmp, Qz, QA, TyI.agg, Qb, Qs, Qd, Qr, QL, QB, Qp, mapOf, Qx, Qo, Qf, Qi, Qg, Qu, DV.cells, Qt, Qh, Qq, Qv, rowsOf, Qw, Qe, Qa, Qa.go, Qj, Qk, Qc, goInt, init, Qaa]
    refine hK _ _ ?_ rfl; clear hK K
    refine Dwp.condT (by simp [eval, upd]) ?_
    refine Dwp.step tT rfl fun K hK => ?_
    repeat' ((first | refine QF.stepD rfl rfl ?_ | refine QF.stepG rfl rfl rfl ?_ | refine QF.stepN rfl rfl ?_ | refine QF.stepGN rfl rfl rfl ?_); intro K1 hK1; simp [*, QQ, QN, QI, dop, eval, Qy, upd, Qb, Qs, Qz, QA, TyI.agg, Qd, Qr, Qi, Qg, QB, QL, goInt, QK, intCmp, Qm, Tag.isNN, Qc, DV.cells, Qe, Qt, Qh, init, Qaa, ty3, ty9, Q9, Qab, QR, Ql]; (first | (refine hK1 _ _ ?_; clear hK1 K1) | (split <;> (rename_i hsp; (try simp only [beq_iff_eq, beq_eq_false_iff_ne, ne_eq, decide_eq_true_eq, decide_eq_false_iff_not] at hsp); (try (first | have hsq := Int.not_le.2 hsp | have hsq := Int.not_lt.2 hsp | have hsq := Int.not_le.1 hsp | have hsq := Int.not_lt.1 hsp)); (try subst hsp); (try simp only [hsp])) <;> (refine hK1 _ _ ?_; clear hK1 K1))))
    all_goals refine QF.done (hK _ _ (Dwp.ret ?_) rfl)
    all_goals refine Qay Tryz.func126 rfl _ ?_
    all_goals (have hm2 := hm; unfold Hid at hm2; clear hm; replace hm2 := hm2.symm; simp [upd, Qa8, *])
  have hk8f : (k == 8) = false := by simpa using hk8
  simp [QD, QE, Qn, QI, own, Ql, dop, QJ, eval, Qy, QF, Ex.then, Ex.inBlock, upd, QK, Tag.isNN, Qm, intCmp, Qz, QA, TyI.agg, Qb, Qs, Qd, Qr, QL, QB, Qp, mapOf, Qx, Qo, Qf, Qi, Qg, Qu, DV.cells, Qt, Qh, Qq, Qv, rowsOf, Qw, Qe, Qa, Qa.go, Qj, Qk, Qc, goInt, init, Qaa, hk8f]
  refine hK _ _ ?_ rfl; clear hK K
  refine Dwp.condF (by simp [eval, upd, hk8]) (Dwp.skip ?_)
  refine Dwp.step tT rfl fun K hK => ?_
  simp [QD, QE, Qn, QI, own, Ql, dop, QJ, eval, Qy, QF, Ex.then, Ex.inBlock, upd, QK, Tag.isNN, Qm, intCmp, Qz, QA, TyI.agg, Qb, Qs, Qd, Qr, QL, QB, Qp, mapOf, Qx, Qo, Qf, Qi, Qg, Qu, DV.cells, Qt, Qh, Qq, Qv, rowsOf, Qw, Qe, Qa, Qa.go, Qj, Qk, Qc, goInt]
  refine hK _ _ (Dwp.ret ?_) rfl
  refine Qay Tryz.func126 rfl _ ?_
  simp [upd, Qa8, *]
theorem e126 : Go.FA.Good Tryz.prog (126, s126) := ⟨c126, Tryz.f126, _, Tryz.func126, rfl, by decide⟩
end Go.Proofs.Yt
