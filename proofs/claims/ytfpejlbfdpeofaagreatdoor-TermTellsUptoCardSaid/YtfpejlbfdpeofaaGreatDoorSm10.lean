/- Contracts of functions of the program, by a machine over abstract values; part 11. No condition beyond those of each theorem. -/
import Derived.Test.YtfpejlbfdpeofaaGreatDoorSm9
set_option linter.unusedVariables false
set_option linter.unusedSimpArgs false
namespace Go.Proofs.Yt
open Go Go.FA Go.Proofs Go.RowKit
set_option maxRecDepth 100000
section
attribute [local simp] QF QZ Qo QJ own Qm dop QN eval Qr Qn Ex.then Ex.inBlock upd QV Tag.isNN Qp intCmp Qv Qx TyI.agg Qa Qu Qg Qs QX QA QD mapOf QQ QC Qq Qi Qj QI DV.cells Qt Qk QE QK rowsOf QL Qd Qe Qe.go Qz QB Qc goInt
def Hid (p : Prop) : Prop := p
theorem QaE {f : FuncId} {fn : Func} {t : Nat} (hf : Tryz.prog.funcs[f]? = some fn) (hr : fn.results.toList = [.tmp t]) (b : Bool) {a : Nat → DV} {σ : St} (h : a t = .lit (.bool b)) : Q3 Tryz.prog fn.results Enc.bool b Ex.ret a σ := by
  refine ⟨.inr rfl, .lit (.bool b), ?_, by simp [Q3, Qh, QW, frz, Q2, Q0, Enc.bool]⟩
  rw [hr]; simp [Qh, QW, h]
def Qbl : Tm → Bool
  | .mk k n x s ks r =>
    if k = 1 then decide (-2147483647 ≤ n) && (decide (n ≤ 2147483647) && Qb6 (true, false, false, false, false) (.mk k n x s ks r))
    else if k = 2 then (decide (n = 0) || decide (n = 1)) && Qb6 (true, false, false, false, false) (.mk k n x s ks r)
    else if k = 3 then QcA x && Qb6 (false, true, false, false, false) (.mk k n x s ks r)
    else if k = 4 then idB x && Qb6 (false, true, false, false, false) (.mk k n x s ks r)
    else if k = 5 then QeQ x && (decide (ks.length ≤ 8) && Qb6 (false, true, false, true, false) (.mk k n x s ks r))
    else if k = 6 then
      if x = ⟨#[95]⟩ ∨ x = ⟨#[36]⟩ then decide (s = ⟨#[65, 110, 121]⟩) && Qb6 (false, true, true, false, false) (.mk k n x s ks r)
      else QU x && (QU s && Qb6 (false, true, true, false, false) (.mk k n x s ks r))
    else if k = 7 then Qb2 ⟨#[76, 105, 115, 116]⟩ r && Qb6 (false, false, false, true, true) (.mk k n x s ks r)
    else if k = 8 then Qb2 ⟨#[77, 97, 112]⟩ r && (decide (ks.length % 2 = 0) && Qb6 (false, false, false, true, true) (.mk k n x s ks r))
    else false
open Classical in
noncomputable def s126 : Sp := sp (QM Enc.tm) Enc.bool (fun t => if okT t then some (Qbl t) else none)
theorem call126 (T : Tab) (hT : T 126 = some s126) (t : Tm) (h : okT t) : dcall T 126 [.agg t.cells] = some (.lit (.bool (Qbl t))) :=
  Qad (A := Enc.tm) (B := Enc.bool) hT (if_pos h)
open Classical in
theorem QjG (T : Tab) (hT : T 236 = some s236) (t : Tm) (so : ByteArray) (h : okT t) : dcall T 236 [.agg t.cells, .lit (.string so)] = some (.lit (.bool (Qb2 so t.rest))) :=
  Qcd (A := Enc.tm) (B := Enc.str) (C := Enc.bool) hT (if_pos h)
noncomputable abbrev T126 : Tab := Qf [(232, s232), (233, s233), (234, s234), (235, s235), (107, s107), (236, s236)]
theorem tab126 : QH Tryz.prog T126 := .cons e232 (.cons e233 (.cons e234 (.cons e235 (.cons e107 (.cons e236 .nil)))))
set_option maxHeartbeats 8000000 in
theorem c126 : Qb Tryz.prog 126 s126 := by
  refine Qb.of_sp (T := T126) Tryz.func126 rfl (Nat.le_of_ble_eq_true rfl) fun E t y hy => ?_
  split at hy
  case isFalse => cases hy
  next hok =>
  obtain ⟨k, nn, x, s, ks, r⟩ := t
  cases hy
  have tT := tab126
  have g1 := fun f h => QkA T126 rfl (.mk k nn x s ks r) f h
  have hok2 := hok
  rw [okT] at hok2
  have hx : x.size ≤ lim := hok2.1
  have hs : s.size ≤ lim := hok2.2.1
  have z1 := g1 (true, false, false, false, false) rfl
  have z2 := g1 (false, true, false, false, false) rfl
  have z3 := g1 (false, true, false, true, false) rfl
  have z4 := g1 (false, true, true, false, false) rfl
  have z5 := g1 (false, false, false, true, true) rfl
  have g3 := call233 T126 rfl x hx
  have g4 := call234 T126 rfl x hx
  have g5 := call235 T126 rfl x hx
  have g6 := Qe3 T126 rfl x hx
  have g7 := Qe3 T126 rfl s hs
  have g8 := QjG T126 rfl (.mk k nn x s ks r) ⟨#[76, 105, 115, 116]⟩ hok
  have g9 := QjG T126 rfl (.mk k nn x s ks r) ⟨#[77, 97, 112]⟩ hok
  obtain ⟨m, hm⟩ : ∃ m : Nat, m = ks.length % 2 := ⟨_, rfl⟩
  have hkl : (ks.length : Int).tmod 2 = (m : Int) := by rw [hm]; rw [Int.tmod_eq_emod_of_nonneg (by omega)]; omega
  have hk8 : (decide ((ks.length : Int) ≤ 8)) = decide (ks.length ≤ 8) := decide_eq_decide.2 (by omega)
  clear g1 hok2
  change Hid _ at hm
  simp only [Tm.rest] at g8 g9
  generalize T126 = T at *
  simp only [QM, Ql.one, tmC, QG] at *
  refine Dwp.step tT rfl fun K hK => ?_
  simp [init, QG]
  refine hK _ _ ?_ rfl; clear hK K
  refine Dwp.seq ?_
  refine Dwp.step tT rfl fun K hK => ?_
  simp [init, QaB]
  refine hK _ _ ?_ rfl; clear hK K
  refine Dwp.block ?_
  refine Dwp.step tT rfl fun K hK => ?_
  by_cases hk1 : k = 1
  · subst hk1
    simp [init, QaB]
    refine hK _ _ ?_ rfl; clear hK K
    refine Dwp.condT (by simp [eval, upd]) ?_
    refine Dwp.step tT rfl fun K hK => ?_
    repeat' ((first | refine Qn.stepD rfl rfl ?_ | refine Qn.stepG rfl rfl rfl ?_ | refine Qn.stepN rfl rfl ?_ | refine Qn.stepGN rfl rfl rfl ?_); intro K1 hK1; simp [*, QO, Qw, QJ, dop, eval, Qr, upd, Qa, Qu, Qv, Qx, TyI.agg, Qg, Qs, Qi, Qj, QA, QX, goInt, QV, intCmp, Qp, Tag.isNN, Qc, DV.cells, Qd, Qt, Qk, init, QaB, ty3, ty9, Qak, Q5, QG, Qm]; (first | (refine hK1 _ _ ?_; clear hK1 K1) | (split <;> (rename_i hsp; (try simp only [beq_iff_eq, beq_eq_false_iff_ne, ne_eq, decide_eq_true_eq, decide_eq_false_iff_not] at hsp); (try (first | have hsq := Int.not_le.2 hsp | have hsq := Int.not_lt.2 hsp | have hsq := Int.not_le.1 hsp | have hsq := Int.not_lt.1 hsp)); (try subst hsp); (try simp only [hsp])) <;> (refine hK1 _ _ ?_; clear hK1 K1))))
    all_goals refine Qn.done (hK _ _ (Dwp.ret ?_) rfl)
    all_goals refine QaE Tryz.func126 rfl _ ?_
    all_goals simp [upd, Qbl, *]
  have hk1f : (k == 1) = false := by simpa using hk1
  simp [init, QaB, hk1f]
  refine hK _ _ ?_ rfl; clear hK K
  refine Dwp.condF (by simp [eval, upd, hk1]) ?_
  refine Dwp.step tT rfl fun K hK => ?_
  by_cases hk2 : k = 2
  · subst hk2
    simp [init, QaB]
    refine hK _ _ ?_ rfl; clear hK K
    refine Dwp.condT (by simp [eval, upd]) ?_
    refine Dwp.step tT rfl fun K hK => ?_
    repeat' ((first | refine Qn.stepD rfl rfl ?_ | refine Qn.stepG rfl rfl rfl ?_ | refine Qn.stepN rfl rfl ?_ | refine Qn.stepGN rfl rfl rfl ?_); intro K1 hK1; simp [*, QO, Qw, QJ, dop, eval, Qr, upd, Qa, Qu, Qv, Qx, TyI.agg, Qg, Qs, Qi, Qj, QA, QX, goInt, QV, intCmp, Qp, Tag.isNN, Qc, DV.cells, Qd, Qt, Qk, init, QaB, ty3, ty9, Qak, Q5, QG, Qm]; (first | (refine hK1 _ _ ?_; clear hK1 K1) | (split <;> (rename_i hsp; (try simp only [beq_iff_eq, beq_eq_false_iff_ne, ne_eq, decide_eq_true_eq, decide_eq_false_iff_not] at hsp); (try (first | have hsq := Int.not_le.2 hsp | have hsq := Int.not_lt.2 hsp | have hsq := Int.not_le.1 hsp | have hsq := Int.not_lt.1 hsp)); (try subst hsp); (try simp only [hsp])) <;> (refine hK1 _ _ ?_; clear hK1 K1))))
    all_goals refine Qn.done (hK _ _ (Dwp.ret ?_) rfl)
    all_goals refine QaE Tryz.func126 rfl _ ?_
    all_goals simp [upd, Qbl, *]
  have hk2f : (k == 2) = false := by simpa using hk2
  simp [init, QaB, hk2f]
  refine hK _ _ ?_ rfl; clear hK K
  refine Dwp.condF (by simp [eval, upd, hk2]) ?_
  refine Dwp.step tT rfl fun K hK => ?_
  by_cases hk3 : k = 3
  · subst hk3
    simp [init, QaB]
    refine hK _ _ ?_ rfl; clear hK K
    refine Dwp.condT (by simp [eval, upd]) ?_
    refine Dwp.step tT rfl fun K hK => ?_
    repeat' ((first | refine Qn.stepD rfl rfl ?_ | refine Qn.stepG rfl rfl rfl ?_ | refine Qn.stepN rfl rfl ?_ | refine Qn.stepGN rfl rfl rfl ?_); intro K1 hK1; simp [*, QO, Qw, QJ, dop, eval, Qr, upd, Qa, Qu, Qv, Qx, TyI.agg, Qg, Qs, Qi, Qj, QA, QX, goInt, QV, intCmp, Qp, Tag.isNN, Qc, DV.cells, Qd, Qt, Qk, init, QaB, ty3, ty9, Qak, Q5, QG, Qm]; (first | (refine hK1 _ _ ?_; clear hK1 K1) | (split <;> (rename_i hsp; (try simp only [beq_iff_eq, beq_eq_false_iff_ne, ne_eq, decide_eq_true_eq, decide_eq_false_iff_not] at hsp); (try (first | have hsq := Int.not_le.2 hsp | have hsq := Int.not_lt.2 hsp | have hsq := Int.not_le.1 hsp | have hsq := Int.not_lt.1 hsp)); (try subst hsp); (try simp only [hsp])) <;> (refine hK1 _ _ ?_; clear hK1 K1))))
    all_goals refine Qn.done (hK _ _ (Dwp.ret ?_) rfl)
    all_goals refine QaE Tryz.func126 rfl _ ?_
    all_goals simp [upd, Qbl, *]
  have hk3f : (k == 3) = false := by simpa using hk3
  simp [init, QaB, hk3f]
  refine hK _ _ ?_ rfl; clear hK K
  refine Dwp.condF (by simp [eval, upd, hk3]) ?_
  refine Dwp.step tT rfl fun K hK => ?_
  by_cases hk4 : k = 4
  · subst hk4
    simp [init, QaB]
    refine hK _ _ ?_ rfl; clear hK K
    refine Dwp.condT (by simp [eval, upd]) ?_
    refine Dwp.step tT rfl fun K hK => ?_
    repeat' ((first | refine Qn.stepD rfl rfl ?_ | refine Qn.stepG rfl rfl rfl ?_ | refine Qn.stepN rfl rfl ?_ | refine Qn.stepGN rfl rfl rfl ?_); intro K1 hK1; simp [*, QO, Qw, QJ, dop, eval, Qr, upd, Qa, Qu, Qv, Qx, TyI.agg, Qg, Qs, Qi, Qj, QA, QX, goInt, QV, intCmp, Qp, Tag.isNN, Qc, DV.cells, Qd, Qt, Qk, init, QaB, ty3, ty9, Qak, Q5, QG, Qm]; (first | (refine hK1 _ _ ?_; clear hK1 K1) | (split <;> (rename_i hsp; (try simp only [beq_iff_eq, beq_eq_false_iff_ne, ne_eq, decide_eq_true_eq, decide_eq_false_iff_not] at hsp); (try (first | have hsq := Int.not_le.2 hsp | have hsq := Int.not_lt.2 hsp | have hsq := Int.not_le.1 hsp | have hsq := Int.not_lt.1 hsp)); (try subst hsp); (try simp only [hsp])) <;> (refine hK1 _ _ ?_; clear hK1 K1))))
    all_goals refine Qn.done (hK _ _ (Dwp.ret ?_) rfl)
    all_goals refine QaE Tryz.func126 rfl _ ?_
    all_goals simp [upd, Qbl, *]
  have hk4f : (k == 4) = false := by simpa using hk4
  simp [init, QaB, hk4f]
  refine hK _ _ ?_ rfl; clear hK K
  refine Dwp.condF (by simp [eval, upd, hk4]) ?_
  refine Dwp.step tT rfl fun K hK => ?_
  by_cases hk5 : k = 5
  · subst hk5
    simp [init, QaB]
    refine hK _ _ ?_ rfl; clear hK K
    refine Dwp.condT (by simp [eval, upd]) ?_
    refine Dwp.step tT rfl fun K hK => ?_
    repeat' ((first | refine Qn.stepD rfl rfl ?_ | refine Qn.stepG rfl rfl rfl ?_ | refine Qn.stepN rfl rfl ?_ | refine Qn.stepGN rfl rfl rfl ?_); intro K1 hK1; simp [*, QO, Qw, QJ, dop, eval, Qr, upd, Qa, Qu, Qv, Qx, TyI.agg, Qg, Qs, Qi, Qj, QA, QX, goInt, QV, intCmp, Qp, Tag.isNN, Qc, DV.cells, Qd, Qt, Qk, init, QaB, ty3, ty9, Qak, Q5, QG, Qm]; (first | (refine hK1 _ _ ?_; clear hK1 K1) | (split <;> (rename_i hsp; (try simp only [beq_iff_eq, beq_eq_false_iff_ne, ne_eq, decide_eq_true_eq, decide_eq_false_iff_not] at hsp); (try (first | have hsq := Int.not_le.2 hsp | have hsq := Int.not_lt.2 hsp | have hsq := Int.not_le.1 hsp | have hsq := Int.not_lt.1 hsp)); (try subst hsp); (try simp only [hsp])) <;> (refine hK1 _ _ ?_; clear hK1 K1))))
    all_goals refine Qn.done (hK _ _ (Dwp.ret ?_) rfl)
    all_goals refine QaE Tryz.func126 rfl _ ?_
    all_goals simp [upd, Qbl, *]
  have hk5f : (k == 5) = false := by simpa using hk5
  simp [init, QaB, hk5f]
  refine hK _ _ ?_ rfl; clear hK K
  refine Dwp.condF (by simp [eval, upd, hk5]) ?_
  refine Dwp.step tT rfl fun K hK => ?_
  by_cases hk6 : k = 6
  · subst hk6
    simp [init, QaB]
    refine hK _ _ ?_ rfl; clear hK K
    refine Dwp.condT (by simp [eval, upd]) ?_
    refine Dwp.seq ?_
    refine Dwp.step tT rfl fun K hK => ?_
    by_cases hu95 : x = ⟨#[95]⟩
    · subst hu95
      repeat' ((first | refine Qn.stepD rfl rfl ?_ | refine Qn.stepG rfl rfl rfl ?_ | refine Qn.stepN rfl rfl ?_ | refine Qn.stepGN rfl rfl rfl ?_); intro K1 hK1; simp [*, QO, Qw, QJ, dop, eval, Qr, upd, Qa, Qu, Qv, Qx, TyI.agg, Qg, Qs, Qi, Qj, QA, QX, goInt, QV, intCmp, Qp, Tag.isNN, Qc, DV.cells, Qd, Qt, Qk, init, QaB, ty3, ty9, Qak, Q5, QG, Qm]; (first | (refine hK1 _ _ ?_; clear hK1 K1) | (split <;> (rename_i hsp; (try simp only [beq_iff_eq, beq_eq_false_iff_ne, ne_eq, decide_eq_true_eq, decide_eq_false_iff_not] at hsp); (try (first | have hsq := Int.not_le.2 hsp | have hsq := Int.not_lt.2 hsp | have hsq := Int.not_le.1 hsp | have hsq := Int.not_lt.1 hsp)); (try subst hsp); (try simp only [hsp])) <;> (refine hK1 _ _ ?_; clear hK1 K1))))
      refine Qn.done (hK _ _ ?_ rfl)
      refine Dwp.condT (by simp [eval, upd]) ?_
      refine Dwp.step tT rfl fun K hK => ?_
      repeat' ((first | refine Qn.stepD rfl rfl ?_ | refine Qn.stepG rfl rfl rfl ?_ | refine Qn.stepN rfl rfl ?_ | refine Qn.stepGN rfl rfl rfl ?_); intro K1 hK1; simp [*, QO, Qw, QJ, dop, eval, Qr, upd, Qa, Qu, Qv, Qx, TyI.agg, Qg, Qs, Qi, Qj, QA, QX, goInt, QV, intCmp, Qp, Tag.isNN, Qc, DV.cells, Qd, Qt, Qk, init, QaB, ty3, ty9, Qak, Q5, QG, Qm]; (first | (refine hK1 _ _ ?_; clear hK1 K1) | (split <;> (rename_i hsp; (try simp only [beq_iff_eq, beq_eq_false_iff_ne, ne_eq, decide_eq_true_eq, decide_eq_false_iff_not] at hsp); (try (first | have hsq := Int.not_le.2 hsp | have hsq := Int.not_lt.2 hsp | have hsq := Int.not_le.1 hsp | have hsq := Int.not_lt.1 hsp)); (try subst hsp); (try simp only [hsp])) <;> (refine hK1 _ _ ?_; clear hK1 K1))))
      all_goals refine Qn.done (hK _ _ (Dwp.ret ?_) rfl)
      all_goals refine QaE Tryz.func126 rfl _ ?_
      all_goals simp [upd, Qbl, *]
    by_cases hu36 : x = ⟨#[36]⟩
    · subst hu36
      repeat' ((first | refine Qn.stepD rfl rfl ?_ | refine Qn.stepG rfl rfl rfl ?_ | refine Qn.stepN rfl rfl ?_ | refine Qn.stepGN rfl rfl rfl ?_); intro K1 hK1; simp [*, QO, Qw, QJ, dop, eval, Qr, upd, Qa, Qu, Qv, Qx, TyI.agg, Qg, Qs, Qi, Qj, QA, QX, goInt, QV, intCmp, Qp, Tag.isNN, Qc, DV.cells, Qd, Qt, Qk, init, QaB, ty3, ty9, Qak, Q5, QG, Qm]; (first | (refine hK1 _ _ ?_; clear hK1 K1) | (split <;> (rename_i hsp; (try simp only [beq_iff_eq, beq_eq_false_iff_ne, ne_eq, decide_eq_true_eq, decide_eq_false_iff_not] at hsp); (try (first | have hsq := Int.not_le.2 hsp | have hsq := Int.not_lt.2 hsp | have hsq := Int.not_le.1 hsp | have hsq := Int.not_lt.1 hsp)); (try subst hsp); (try simp only [hsp])) <;> (refine hK1 _ _ ?_; clear hK1 K1))))
      refine Qn.done (hK _ _ ?_ rfl)
      refine Dwp.condT (by simp [eval, upd]) ?_
      refine Dwp.step tT rfl fun K hK => ?_
      repeat' ((first | refine Qn.stepD rfl rfl ?_ | refine Qn.stepG rfl rfl rfl ?_ | refine Qn.stepN rfl rfl ?_ | refine Qn.stepGN rfl rfl rfl ?_); intro K1 hK1; simp [*, QO, Qw, QJ, dop, eval, Qr, upd, Qa, Qu, Qv, Qx, TyI.agg, Qg, Qs, Qi, Qj, QA, QX, goInt, QV, intCmp, Qp, Tag.isNN, Qc, DV.cells, Qd, Qt, Qk, init, QaB, ty3, ty9, Qak, Q5, QG, Qm]; (first | (refine hK1 _ _ ?_; clear hK1 K1) | (split <;> (rename_i hsp; (try simp only [beq_iff_eq, beq_eq_false_iff_ne, ne_eq, decide_eq_true_eq, decide_eq_false_iff_not] at hsp); (try (first | have hsq := Int.not_le.2 hsp | have hsq := Int.not_lt.2 hsp | have hsq := Int.not_le.1 hsp | have hsq := Int.not_lt.1 hsp)); (try subst hsp); (try simp only [hsp])) <;> (refine hK1 _ _ ?_; clear hK1 K1))))
      all_goals refine Qn.done (hK _ _ (Dwp.ret ?_) rfl)
      all_goals refine QaE Tryz.func126 rfl _ ?_
      all_goals simp [upd, Qbl, *]
    repeat' ((first | refine Qn.stepD rfl rfl ?_ | refine Qn.stepG rfl rfl rfl ?_ | refine Qn.stepN rfl rfl ?_ | refine Qn.stepGN rfl rfl rfl ?_); intro K1 hK1; simp [*, QO, Qw, QJ, dop, eval, Qr, upd, Qa, Qu, Qv, Qx, TyI.agg, Qg, Qs, Qi, Qj, QA, QX, goInt, QV, intCmp, Qp, Tag.isNN, Qc, DV.cells, Qd, Qt, Qk, init, QaB, ty3, ty9, Qak, Q5, QG, Qm]; (first | (refine hK1 _ _ ?_; clear hK1 K1) | (split <;> (rename_i hsp; (try simp only [beq_iff_eq, beq_eq_false_iff_ne, ne_eq, decide_eq_true_eq, decide_eq_false_iff_not] at hsp); (try (first | have hsq := Int.not_le.2 hsp | have hsq := Int.not_lt.2 hsp | have hsq := Int.not_le.1 hsp | have hsq := Int.not_lt.1 hsp)); (try subst hsp); (try simp only [hsp])) <;> (refine hK1 _ _ ?_; clear hK1 K1))))
    refine Qn.done (hK _ _ ?_ rfl)
    refine Dwp.condF (by simp [eval, upd, *]) (Dwp.skip ?_)
    refine Dwp.step tT rfl fun K hK => ?_
    repeat' ((first | refine Qn.stepD rfl rfl ?_ | refine Qn.stepG rfl rfl rfl ?_ | refine Qn.stepN rfl rfl ?_ | refine Qn.stepGN rfl rfl rfl ?_); intro K1 hK1; simp [*, QO, Qw, QJ, dop, eval, Qr, upd, Qa, Qu, Qv, Qx, TyI.agg, Qg, Qs, Qi, Qj, QA, QX, goInt, QV, intCmp, Qp, Tag.isNN, Qc, DV.cells, Qd, Qt, Qk, init, QaB, ty3, ty9, Qak, Q5, QG, Qm]; (first | (refine hK1 _ _ ?_; clear hK1 K1) | (split <;> (rename_i hsp; (try simp only [beq_iff_eq, beq_eq_false_iff_ne, ne_eq, decide_eq_true_eq, decide_eq_false_iff_not] at hsp); (try (first | have hsq := Int.not_le.2 hsp | have hsq := Int.not_lt.2 hsp | have hsq := Int.not_le.1 hsp | have hsq := Int.not_lt.1 hsp)); (try subst hsp); (try simp only [hsp])) <;> (refine hK1 _ _ ?_; clear hK1 K1))))
    all_goals refine Qn.done (hK _ _ (Dwp.ret ?_) rfl)
    all_goals refine QaE Tryz.func126 rfl _ ?_
    all_goals simp [upd, Qbl, *]
  have hk6f : (k == 6) = false := by simpa using hk6
  simp [init, QaB, hk6f]
  refine hK _ _ ?_ rfl; clear hK K
  refine Dwp.condF (by simp [eval, upd, hk6]) ?_
  refine Dwp.step tT rfl fun K hK => ?_
  by_cases hk7 : k = 7
  · subst hk7
    simp [init, QaB]
    refine hK _ _ ?_ rfl; clear hK K
    refine Dwp.condT (by simp [eval, upd]) ?_
    refine Dwp.step tT rfl fun K hK => ?_
    repeat' ((first | refine Qn.stepD rfl rfl ?_ | refine Qn.stepG rfl rfl rfl ?_ | refine Qn.stepN rfl rfl ?_ | refine Qn.stepGN rfl rfl rfl ?_); intro K1 hK1; simp [*, QO, Qw, QJ, dop, eval, Qr, upd, Qa, Qu, Qv, Qx, TyI.agg, Qg, Qs, Qi, Qj, QA, QX, goInt, QV, intCmp, Qp, Tag.isNN, Qc, DV.cells, Qd, Qt, Qk, init, QaB, ty3, ty9, Qak, Q5, QG, Qm]; (first | (refine hK1 _ _ ?_; clear hK1 K1) | (split <;> (rename_i hsp; (try simp only [beq_iff_eq, beq_eq_false_iff_ne, ne_eq, decide_eq_true_eq, decide_eq_false_iff_not] at hsp); (try (first | have hsq := Int.not_le.2 hsp | have hsq := Int.not_lt.2 hsp | have hsq := Int.not_le.1 hsp | have hsq := Int.not_lt.1 hsp)); (try subst hsp); (try simp only [hsp])) <;> (refine hK1 _ _ ?_; clear hK1 K1))))
    all_goals refine Qn.done (hK _ _ (Dwp.ret ?_) rfl)
    all_goals refine QaE Tryz.func126 rfl _ ?_
    all_goals simp [upd, Qbl, *]
  have hk7f : (k == 7) = false := by simpa using hk7
  simp [init, QaB, hk7f]
  refine hK _ _ ?_ rfl; clear hK K
  refine Dwp.condF (by simp [eval, upd, hk7]) ?_
  refine Dwp.step tT rfl fun K hK => ?_
  by_cases hk8 : k = 8
  · subst hk8
    simp [init, QaB]
    refine hK _ _ ?_ rfl; clear hK K
    refine Dwp.condT (by simp [eval, upd]) ?_
    refine Dwp.step tT rfl fun K hK => ?_
    repeat' ((first | refine Qn.stepD rfl rfl ?_ | refine Qn.stepG rfl rfl rfl ?_ | refine Qn.stepN rfl rfl ?_ | refine Qn.stepGN rfl rfl rfl ?_); intro K1 hK1; simp [*, QO, Qw, QJ, dop, eval, Qr, upd, Qa, Qu, Qv, Qx, TyI.agg, Qg, Qs, Qi, Qj, QA, QX, goInt, QV, intCmp, Qp, Tag.isNN, Qc, DV.cells, Qd, Qt, Qk, init, QaB, ty3, ty9, Qak, Q5, QG, Qm]; (first | (refine hK1 _ _ ?_; clear hK1 K1) | (split <;> (rename_i hsp; (try simp only [beq_iff_eq, beq_eq_false_iff_ne, ne_eq, decide_eq_true_eq, decide_eq_false_iff_not] at hsp); (try (first | have hsq := Int.not_le.2 hsp | have hsq := Int.not_lt.2 hsp | have hsq := Int.not_le.1 hsp | have hsq := Int.not_lt.1 hsp)); (try subst hsp); (try simp only [hsp])) <;> (refine hK1 _ _ ?_; clear hK1 K1))))
    all_goals refine Qn.done (hK _ _ (Dwp.ret ?_) rfl)
    all_goals refine QaE Tryz.func126 rfl _ ?_
    all_goals (have hm2 := hm; unfold Hid at hm2; clear hm; replace hm2 := hm2.symm; simp [upd, Qbl, *])
  have hk8f : (k == 8) = false := by simpa using hk8
  simp [init, QaB, hk8f]
  refine hK _ _ ?_ rfl; clear hK K
  refine Dwp.condF (by simp [eval, upd, hk8]) (Dwp.skip ?_)
  refine Dwp.step tT rfl fun K hK => ?_
  simp
  refine hK _ _ (Dwp.ret ?_) rfl
  refine QaE Tryz.func126 rfl _ ?_
  simp [upd, Qbl, *]
theorem e126 : Go.FA.Good Tryz.prog (126, s126) := ⟨c126, Tryz.f126, _, Tryz.func126, rfl, by decide⟩
end
end Go.Proofs.Yt
