/- Contracts of functions of the program, by a machine over abstract values; part 15. No condition beyond those of each theorem. -/
import Derived.Test.YtfpejlbfdpeofaaGreatDoorSm13
import Derived.Laws.RangeString
set_option linter.unusedVariables false
set_option linter.unusedSimpArgs false
namespace Go.Proofs.Yt
open Go Go.FA Go.Proofs Go.RowKit
set_option linter.unusedSimpArgs false
set_option maxRecDepth 100000
def s228 : Sp := sp (QS Enc.str) Enc.bool (fun s => if s.size ≤ lim then some (idB s) else none)
set_option maxHeartbeats 2000000 in
theorem c228 : QD Tryz.prog 228 s228 := by
  refine QD.of_sp (T := QF [(105, s105)]) Tryz.func228 rfl (Nat.le_of_ble_eq_true rfl) fun E s y hy => ?_
  split at hy
  case isFalse => cases hy
  next hlim =>
  cases hy
  have tT : QP Tryz.prog (QF [(105, s105)]) := .cons QjY .nil
  have g := QbV (QF [(105, s105)]) rfl s
  generalize QF [(105, s105)] = T at *
  unfold lim at hlim
  refine Dwp.step tT rfl fun K hK => ?_
  simp [QB, QE, Ql, QK, own, Qm, dop, QJ, eval, Qy, QG, Ex.then, Ex.inBlock, upd, QL, Tag.isNN, Qn, intCmp, Qz, QA, TyI.agg, Qb, Qs, Qd, Qr, QM, QC, Qp, mapOf, Qx, Qo, Qe, Qk, Qg, Qu, DV.cells, Qt, Qh, Qq, Qv, rowsOf, Qw, Qf, Qa, Qa.go, Qi, Qj, Qc, goInt, init, QS, QI.one, Enc.str]
  refine hK _ _ ?_ rfl; clear hK K
  refine Dwp.step tT rfl fun K hK => ?_
  rcases h1 : Q3 s with _ | _
  · rw [h1] at g
    repeat' ((first | refine QG.stepD rfl rfl ?_ | refine QG.stepG rfl rfl rfl ?_ | refine QG.stepN rfl rfl ?_ | refine QG.stepGN rfl rfl rfl ?_); intro K1 hK1; simp [*, QW, QO, QK, dop, eval, Qy, upd, Qb, Qs, Qz, QA, TyI.agg, Qd, Qr, Qk, Qg, QC, QM, goInt, QL, intCmp, Qn, Tag.isNN, Qc, DV.cells, Qf, Qt, Qh, init, ty9, Qm]; (first | (refine hK1 _ _ ?_; clear hK1 K1) | (split <;> (rename_i hsp; (try simp only [beq_iff_eq, beq_eq_false_iff_ne, ne_eq, decide_eq_true_eq, decide_eq_false_iff_not] at hsp); (try (first | have hsq := Int.not_le.2 hsp | have hsq := Int.not_lt.2 hsp | have hsq := Int.not_le.1 hsp | have hsq := Int.not_lt.1 hsp)); (try subst hsp); (try simp only [hsp])) <;> (refine hK1 _ _ ?_; clear hK1 K1))))
    all_goals refine QG.done (hK _ _ (Dwp.ret ?_) rfl)
    all_goals refine QaR Tryz.func228 rfl _ ?_
    all_goals simp [upd, idB, *]
  rw [h1] at g
  have hpos := isName_pos h1
  have hb := bget s 0 hpos
  have hf : Qh8 s = (s[0].toNat : Int) := by simp [Qh8, hpos]
  obtain ⟨c, hc⟩ : ∃ c : Int, (s[0].toNat : Int) = c := ⟨_, rfl⟩
  rw [hc] at hf
  by_cases ht : s = ⟨#[116, 114, 117, 101]⟩
  · subst ht
    repeat' ((first | refine QG.stepD rfl rfl ?_ | refine QG.stepG rfl rfl rfl ?_ | refine QG.stepN rfl rfl ?_ | refine QG.stepGN rfl rfl rfl ?_); intro K1 hK1; simp [*, QW, QO, QK, dop, eval, Qy, upd, Qb, Qs, Qz, QA, TyI.agg, Qd, Qr, Qk, Qg, QC, QM, goInt, QL, intCmp, Qn, Tag.isNN, Qc, DV.cells, Qf, Qt, Qh, init, ty9, Qm]; (first | (refine hK1 _ _ ?_; clear hK1 K1) | (split <;> (rename_i hsp; (try simp only [beq_iff_eq, beq_eq_false_iff_ne, ne_eq, decide_eq_true_eq, decide_eq_false_iff_not] at hsp); (try (first | have hsq := Int.not_le.2 hsp | have hsq := Int.not_lt.2 hsp | have hsq := Int.not_le.1 hsp | have hsq := Int.not_lt.1 hsp)); (try subst hsp); (try simp only [hsp])) <;> (refine hK1 _ _ ?_; clear hK1 K1))))
    all_goals refine QG.done (hK _ _ (Dwp.ret ?_) rfl)
    all_goals refine QaR Tryz.func228 rfl _ ?_
    all_goals simp [upd, idB, *]
  by_cases hfl : s = ⟨#[102, 97, 108, 115, 101]⟩
  · subst hfl
    repeat' ((first | refine QG.stepD rfl rfl ?_ | refine QG.stepG rfl rfl rfl ?_ | refine QG.stepN rfl rfl ?_ | refine QG.stepGN rfl rfl rfl ?_); intro K1 hK1; simp [*, QW, QO, QK, dop, eval, Qy, upd, Qb, Qs, Qz, QA, TyI.agg, Qd, Qr, Qk, Qg, QC, QM, goInt, QL, intCmp, Qn, Tag.isNN, Qc, DV.cells, Qf, Qt, Qh, init, ty9, Qm]; (first | (refine hK1 _ _ ?_; clear hK1 K1) | (split <;> (rename_i hsp; (try simp only [beq_iff_eq, beq_eq_false_iff_ne, ne_eq, decide_eq_true_eq, decide_eq_false_iff_not] at hsp); (try (first | have hsq := Int.not_le.2 hsp | have hsq := Int.not_lt.2 hsp | have hsq := Int.not_le.1 hsp | have hsq := Int.not_lt.1 hsp)); (try subst hsp); (try simp only [hsp])) <;> (refine hK1 _ _ ?_; clear hK1 K1))))
    all_goals refine QG.done (hK _ _ (Dwp.ret ?_) rfl)
    all_goals refine QaR Tryz.func228 rfl _ ?_
    all_goals simp [upd, idB, *]
  repeat' ((first | refine QG.stepD rfl rfl ?_ | refine QG.stepG rfl rfl rfl ?_ | refine QG.stepN rfl rfl ?_ | refine QG.stepGN rfl rfl rfl ?_); intro K1 hK1; simp [*, QW, QO, QK, dop, eval, Qy, upd, Qb, Qs, Qz, QA, TyI.agg, Qd, Qr, Qk, Qg, QC, QM, goInt, QL, intCmp, Qn, Tag.isNN, Qc, DV.cells, Qf, Qt, Qh, init, ty9, Qm]; (first | (refine hK1 _ _ ?_; clear hK1 K1) | (split <;> (rename_i hsp; (try simp only [beq_iff_eq, beq_eq_false_iff_ne, ne_eq, decide_eq_true_eq, decide_eq_false_iff_not] at hsp); (try (first | have hsq := Int.not_le.2 hsp | have hsq := Int.not_lt.2 hsp | have hsq := Int.not_le.1 hsp | have hsq := Int.not_lt.1 hsp)); (try subst hsp); (try simp only [hsp])) <;> (refine hK1 _ _ ?_; clear hK1 K1))))
  all_goals refine QG.done (hK _ _ (Dwp.ret ?_) rfl)
  all_goals refine QaR Tryz.func228 rfl _ ?_
  all_goals simp [upd, idB, *]
theorem e228 : Go.FA.Good Tryz.prog (228, s228) := ⟨c228, Tryz.f228, _, Tryz.func228, rfl, by decide⟩
theorem call228 (T : Tab) (hT : T 228 = some s228) (s : ByteArray) (h : s.size ≤ lim) : dcall T 228 [.lit (.string s)] = some (.lit (.bool (idB s))) :=
  QaN (A := Enc.str) (B := Enc.bool) hT (if_pos h)
def s265 : Sp := sp (QR Enc.str (Enc.int .u8)) Enc.i64 (fun x => if x.2 = 39 then some (mark x.1) else none)
theorem c265 : QD Tryz.prog 265 s265 := by
  refine QD.of_sp (T := QF [(296, s296)]) Tryz.func265 rfl (Nat.le_of_ble_eq_true rfl) fun E xx y hy => ?_
  obtain ⟨s, c⟩ := xx
  simp only [] at hy
  split at hy
  case isFalse => cases hy
  next hc =>
  cases hy
  subst hc
  have tT : QP Tryz.prog (QF [(296, s296)]) := .cons e296 .nil
  have g : dcall (QF [(296, s296)]) 296 [.lit (.string s), .lit (.int .u8 39)] = some (.lit (.int .i64 (mark s))) := by
    simp [dcall, QF, s296, sp, QR, QI.and, QI.one, Enc.str, Enc.int, Enc.i64, mark]
  generalize QF [(296, s296)] = T at *
  refine Dwp.step tT rfl fun K hK => ?_
  simp [QB, QE, Ql, QK, own, Qm, dop, QJ, eval, Qy, QG, Ex.then, Ex.inBlock, upd, QL, Tag.isNN, Qn, intCmp, Qz, QA, TyI.agg, Qb, Qs, Qd, Qr, QM, QC, Qp, mapOf, Qx, Qo, Qe, Qk, Qg, Qu, DV.cells, Qt, Qh, Qq, Qv, rowsOf, Qw, Qf, Qa, Qa.go, Qi, Qj, Qc, goInt, init, QR, QI.and, QI.one, Enc.str, Enc.int]
  refine hK _ _ ?_ rfl; clear hK K
  refine Dwp.step tT rfl fun K hK => ?_
  simp [QB, QE, Ql, QK, own, Qm, dop, QJ, eval, Qy, QG, Ex.then, Ex.inBlock, upd, QL, Tag.isNN, Qn, intCmp, Qz, QA, TyI.agg, Qb, Qs, Qd, Qr, QM, QC, Qp, mapOf, Qx, Qo, Qe, Qk, Qg, Qu, DV.cells, Qt, Qh, Qq, Qv, rowsOf, Qw, Qf, Qa, Qa.go, Qi, Qj, Qc, goInt, init, g]
  refine hK _ _ (Dwp.ret ?_) rfl
  simp [Q4, QH, QX, frz, Q0, QY, upd, Enc.i64, Enc.int]
theorem e265 : Go.FA.Good Tryz.prog (265, s265) := ⟨c265, Tryz.f265, _, Tryz.func265, rfl, by decide⟩
def Qds (s : ByteArray) : ByteArray × ByteArray := if 0 ≤ mark s then (s.extract 0 (mark s).toNat, s.extract (mark s).toNat s.size) else (s, ⟨#[]⟩)
def s176 : Sp := sp (QS Enc.str) Enc.str2 (fun s => if s.size ≤ lim then some (Qds s) else none)
theorem c176 : QD Tryz.prog 176 s176 := by
  refine QD.of_sp (T := QF [(265, s265)]) Tryz.func176 rfl (Nat.le_of_ble_eq_true rfl) fun E s y hy => ?_
  split at hy
  case isFalse => cases hy
  next hlim =>
  cases hy
  unfold lim at hlim
  have tT : QP Tryz.prog (QF [(265, s265)]) := .cons e265 .nil
  have g : dcall (QF [(265, s265)]) 265 [.lit (.string s), .lit (.int .u8 39)] = some (.lit (.int .i64 (mark s))) := by
    simp [dcall, QF, s265, sp, QR, QI.and, QI.one, Enc.str, Enc.int, Enc.i64]
  have hm := Qcw s.data.toList
  generalize QF [(265, s265)] = T at *
  refine Dwp.step tT rfl fun K hK => ?_
  simp [QB, QE, Ql, QK, own, Qm, dop, QJ, eval, Qy, QG, Ex.then, Ex.inBlock, upd, QL, Tag.isNN, Qn, intCmp, Qz, QA, TyI.agg, Qb, Qs, Qd, Qr, QM, QC, Qp, mapOf, Qx, Qo, Qe, Qk, Qg, Qu, DV.cells, Qt, Qh, Qq, Qv, rowsOf, Qw, Qf, Qa, Qa.go, Qi, Qj, Qc, goInt, init, QS, QI.one, Enc.str]
  refine hK _ _ ?_ rfl; clear hK K
  refine Dwp.seq ?_
  refine Dwp.step tT rfl fun K hK => ?_
  simp [QB, QE, Ql, QK, own, Qm, dop, QJ, eval, Qy, QG, Ex.then, Ex.inBlock, upd, QL, Tag.isNN, Qn, intCmp, Qz, QA, TyI.agg, Qb, Qs, Qd, Qr, QM, QC, Qp, mapOf, Qx, Qo, Qe, Qk, Qg, Qu, DV.cells, Qt, Qh, Qq, Qv, rowsOf, Qw, Qf, Qa, Qa.go, Qi, Qj, Qc, goInt, init, g]
  refine hK _ _ ?_ rfl; clear hK K
  refine Dwp.step tT rfl fun K hK => ?_
  simp [QB, QE, Ql, QK, own, Qm, dop, QJ, eval, Qy, QG, Ex.then, Ex.inBlock, upd, QL, Tag.isNN, Qn, intCmp, Qz, QA, TyI.agg, Qb, Qs, Qd, Qr, QM, QC, Qp, mapOf, Qx, Qo, Qe, Qk, Qg, Qu, DV.cells, Qt, Qh, Qq, Qv, rowsOf, Qw, Qf, Qa, Qa.go, Qi, Qj, Qc, goInt]
  refine hK _ _ ?_ rfl; clear hK K
  by_cases h0 : 0 ≤ mark s
  · have hms : mark s ≤ (s.size : Int) := by
      have : s.size = s.data.toList.length := by simp
      unfold mark at h0 ⊢
      rcases hm with h | ⟨i, h1, h2⟩ <;> omega
    have hmn : (mark s).toNat ≤ s.size := by omega
    refine Dwp.condT (by simp [eval, upd, h0]) ?_
    refine Dwp.drawStep [] mixed tT rfl rfl fun K hK => ?_
    simp [QcH, touch, Qbr, QB, QE, Ql, QK, own, Qm, dop, QJ, eval, Qy, QG, Ex.then, Ex.inBlock, upd, QL, Tag.isNN, Qn, intCmp, Qz, QA, TyI.agg, Qb, Qs, Qd, Qr, QM, QC, Qp, mapOf, Qx, Qo, Qe, Qk, Qg, Qu, DV.cells, Qt, Qh, Qq, Qv, rowsOf, Qw, Qf, Qa, Qa.go, Qi, Qj, Qc, goInt, init, ty9, h0, hms, hmn]
    refine hK _ _ (Dwp.ret ?_) rfl
    simp [Q4, QH, QX, frz, Q0, QY, Ex.then, upd, Enc.str2, Enc.tup, QR, QI.and, QI.one, Enc.str, Qds, h0]
  · refine Dwp.condF (by simp [eval, upd, h0]) (Dwp.skip ?_)
    refine Dwp.step tT rfl fun K hK => ?_
    simp [QB, QE, Ql, QK, own, Qm, dop, QJ, eval, Qy, QG, Ex.then, Ex.inBlock, upd, QL, Tag.isNN, Qn, intCmp, Qz, QA, TyI.agg, Qb, Qs, Qd, Qr, QM, QC, Qp, mapOf, Qx, Qo, Qe, Qk, Qg, Qu, DV.cells, Qt, Qh, Qq, Qv, rowsOf, Qw, Qf, Qa, Qa.go, Qi, Qj, Qc, goInt, init]
    refine hK _ _ (Dwp.ret ?_) rfl
    simp [Q4, QH, QX, frz, Q0, QY, Ex.then, upd, Enc.str2, Enc.tup, QR, QI.and, QI.one, Enc.str, Qds, h0]
theorem e176 : Go.FA.Good Tryz.prog (176, s176) := ⟨c176, Tryz.f176, _, Tryz.func176, rfl, by decide⟩
theorem call176 (T : Tab) (hT : T 176 = some s176) (s : ByteArray) (h : s.size ≤ lim) : dcall T 176 [.lit (.string s)] = some (.tuple [.lit (.string (Qds s).1), .lit (.string (Qds s).2)]) :=
  QaN (A := Enc.str) (B := Enc.str2) hT (if_pos h)
def QcG (so : ByteArray) : List Tm → Bool
  | [] => true
  | [v] => decide (v.kind = 6) && (Q3 v.text && decide (v.sort = so))
  | _ => false
def s231 : Sp := sp (QR Enc.tms Enc.str) Enc.bool (fun x => if x.1.length ≤ 16777216 then some (QcG x.2 x.1) else none)
set_option maxHeartbeats 2000000 in
theorem c231 : QD Tryz.prog 231 s231 := by
  refine QD.of_sp (T := QF [(105, s105)]) Tryz.func231 rfl (Nat.le_of_ble_eq_true rfl) fun E xx y hy => ?_
  obtain ⟨r, so⟩ := xx
  simp only [] at hy
  split at hy
  case isFalse => cases hy
  next hlim =>
  cases hy
  have tT : QP Tryz.prog (QF [(105, s105)]) := .cons QjY .nil
  have g := fun s => QbV (QF [(105, s105)]) rfl s
  generalize QF [(105, s105)] = T at *
  refine Dwp.step tT rfl fun K hK => ?_
  simp [QB, QE, Ql, QK, own, Qm, dop, QJ, eval, Qy, QG, Ex.then, Ex.inBlock, upd, QL, Tag.isNN, Qn, intCmp, Qz, QA, TyI.agg, Qb, Qs, Qd, Qr, QM, QC, Qp, mapOf, Qx, Qo, Qe, Qk, Qg, Qu, DV.cells, Qt, Qh, Qq, Qv, rowsOf, Qw, Qf, Qa, Qa.go, Qi, Qj, Qc, goInt, init, QR, QI.one, QI.and, Qjv, Enc.str]
  refine hK _ _ ?_ rfl; clear hK K
  refine Dwp.seq ?_
  refine Dwp.step tT rfl fun K hK => ?_
  match r, hlim with
  | [], _ =>
    simp [QB, QE, Ql, QK, own, Qm, dop, QJ, eval, Qy, QG, Ex.then, Ex.inBlock, upd, QL, Tag.isNN, Qn, intCmp, Qz, QA, TyI.agg, Qb, Qs, Qd, Qr, QM, QC, Qp, mapOf, Qx, Qo, Qe, Qk, Qg, Qu, DV.cells, Qt, Qh, Qq, Qv, rowsOf, Qw, Qf, Qa, Qa.go, Qi, Qj, Qc, goInt, init, QaL]
    refine hK _ _ ?_ rfl; clear hK K
    refine Dwp.condT (by simp [eval, upd]) ?_
    refine Dwp.step tT rfl fun K hK => ?_
    simp [QB, QE, Ql, QK, own, Qm, dop, QJ, eval, Qy, QG, Ex.then, Ex.inBlock, upd, QL, Tag.isNN, Qn, intCmp, Qz, QA, TyI.agg, Qb, Qs, Qd, Qr, QM, QC, Qp, mapOf, Qx, Qo, Qe, Qk, Qg, Qu, DV.cells, Qt, Qh, Qq, Qv, rowsOf, Qw, Qf, Qa, Qa.go, Qi, Qj, Qc, goInt]
    refine hK _ _ (Dwp.ret ?_) rfl
    refine QaR Tryz.func231 rfl _ ?_
    simp [upd, QcG]
  | [v], _ =>
    obtain ⟨vk, vn, vx, vs, vks, vr⟩ := v
    simp [QB, QE, Ql, QK, own, Qm, dop, QJ, eval, Qy, QG, Ex.then, Ex.inBlock, upd, QL, Tag.isNN, Qn, intCmp, Qz, QA, TyI.agg, Qb, Qs, Qd, Qr, QM, QC, Qp, mapOf, Qx, Qo, Qe, Qk, Qg, Qu, DV.cells, Qt, Qh, Qq, Qv, rowsOf, Qw, Qf, Qa, Qa.go, Qi, Qj, Qc, goInt, init, QaL]
    refine hK _ _ ?_ rfl; clear hK K
    refine Dwp.condF (by simp [eval, upd]) (Dwp.skip ?_)
    have g1 := g vx
    clear g
    refine Dwp.step tT rfl fun K hK => ?_
    by_cases hso : vs = so
    · subst hso
      repeat' ((first | refine QG.stepD rfl rfl ?_ | refine QG.stepG rfl rfl rfl ?_ | refine QG.stepN rfl rfl ?_ | refine QG.stepGN rfl rfl rfl ?_); intro K1 hK1; simp [*, QW, QO, QK, dop, eval, Qy, upd, Qb, Qs, Qz, QA, TyI.agg, Qd, Qr, Qk, Qg, QC, QM, goInt, QL, intCmp, Qn, Tag.isNN, Qc, DV.cells, Qf, Qt, Qh, init, Qbp, ty3, ty9, QaL, Qar, Q5, Qm]; (first | (refine hK1 _ _ ?_; clear hK1 K1) | (split <;> (rename_i hsp; (try simp only [beq_iff_eq, beq_eq_false_iff_ne, ne_eq, decide_eq_true_eq, decide_eq_false_iff_not] at hsp); (try (first | have hsq := Int.not_le.2 hsp | have hsq := Int.not_lt.2 hsp | have hsq := Int.not_le.1 hsp | have hsq := Int.not_lt.1 hsp)); (try subst hsp); (try simp only [hsp])) <;> (refine hK1 _ _ ?_; clear hK1 K1))))
      all_goals refine QG.done (hK _ _ (Dwp.ret ?_) rfl)
      all_goals refine QaR Tryz.func231 rfl _ ?_
      all_goals simp [upd, QcG, Tm.kind, Tm.text, Tm.sort, *]
    repeat' ((first | refine QG.stepD rfl rfl ?_ | refine QG.stepG rfl rfl rfl ?_ | refine QG.stepN rfl rfl ?_ | refine QG.stepGN rfl rfl rfl ?_); intro K1 hK1; simp [*, QW, QO, QK, dop, eval, Qy, upd, Qb, Qs, Qz, QA, TyI.agg, Qd, Qr, Qk, Qg, QC, QM, goInt, QL, intCmp, Qn, Tag.isNN, Qc, DV.cells, Qf, Qt, Qh, init, Qbp, ty3, ty9, QaL, Qar, Q5, Qm]; (first | (refine hK1 _ _ ?_; clear hK1 K1) | (split <;> (rename_i hsp; (try simp only [beq_iff_eq, beq_eq_false_iff_ne, ne_eq, decide_eq_true_eq, decide_eq_false_iff_not] at hsp); (try (first | have hsq := Int.not_le.2 hsp | have hsq := Int.not_lt.2 hsp | have hsq := Int.not_le.1 hsp | have hsq := Int.not_lt.1 hsp)); (try subst hsp); (try simp only [hsp])) <;> (refine hK1 _ _ ?_; clear hK1 K1))))
    all_goals refine QG.done (hK _ _ (Dwp.ret ?_) rfl)
    all_goals refine QaR Tryz.func231 rfl _ ?_
    all_goals simp [upd, QcG, Tm.kind, Tm.text, Tm.sort, *]
  | v :: v2 :: r, hlim =>
    have hne : ((((v :: v2 :: r).length : Nat) : Int) == 0) = false := len_nil (by simp)
    obtain ⟨m, hm⟩ : ∃ m : Int, (r.length : Int) + 1 + 1 = m := ⟨_, rfl⟩
    have hm0 : ¬ m = 0 := by omega
    have hm1 : ¬ m = 1 := by omega
    have hmf : (m == 1) = false := by simpa using hm1
    simp [QB, QE, Ql, QK, own, Qm, dop, QJ, eval, Qy, QG, Ex.then, Ex.inBlock, upd, QL, Tag.isNN, Qn, intCmp, Qz, QA, TyI.agg, Qb, Qs, Qd, Qr, QM, QC, Qp, mapOf, Qx, Qo, Qe, Qk, Qg, Qu, DV.cells, Qt, Qh, Qq, Qv, rowsOf, Qw, Qf, Qa, Qa.go, Qi, Qj, Qc, goInt, init, QaL, hm, hm0]
    refine hK _ _ ?_ rfl; clear hK K
    refine Dwp.condF (by simp [eval, upd, hm, hm0]) (Dwp.skip ?_)
    clear g
    refine Dwp.step tT rfl fun K hK => ?_
    repeat' ((first | refine QG.stepD rfl rfl ?_ | refine QG.stepG rfl rfl rfl ?_ | refine QG.stepN rfl rfl ?_ | refine QG.stepGN rfl rfl rfl ?_); intro K1 hK1; simp [*, QW, QO, QK, dop, eval, Qy, upd, Qb, Qs, Qz, QA, TyI.agg, Qd, Qr, Qk, Qg, QC, QM, goInt, QL, intCmp, Qn, Tag.isNN, Qc, DV.cells, Qf, Qt, Qh, init, Qbp, ty3, ty9, QaL, Qar, Q5, Qm]; (first | (refine hK1 _ _ ?_; clear hK1 K1) | (split <;> (rename_i hsp; (try simp only [beq_iff_eq, beq_eq_false_iff_ne, ne_eq, decide_eq_true_eq, decide_eq_false_iff_not] at hsp); (try (first | have hsq := Int.not_le.2 hsp | have hsq := Int.not_lt.2 hsp | have hsq := Int.not_le.1 hsp | have hsq := Int.not_lt.1 hsp)); (try subst hsp); (try simp only [hsp])) <;> (refine hK1 _ _ ?_; clear hK1 K1))))
    all_goals refine QG.done (hK _ _ (Dwp.ret ?_) rfl)
    all_goals refine QaR Tryz.func231 rfl _ ?_
    all_goals simp [upd, QcG, *]
theorem e231 : Go.FA.Good Tryz.prog (231, s231) := ⟨c231, Tryz.f231, _, Tryz.func231, rfl, by decide⟩
theorem Qiw (T : Tab) (hT : T 231 = some s231) (r : List Tm) (so : ByteArray) (h : r.length ≤ 16777216) : dcall T 231 [.slice 6 .none (r.map Tm.cells), .lit (.string so)] = some (.lit (.bool (QcG so r))) :=
  Qb6 (A := Enc.tms) (B := Enc.str) (C := Enc.bool) hT (if_pos h)
def QcT (f : ByteArray) : Bool := match f.data.toList with | [_, c] => decide (49 ≤ (c.toNat : Int)) && decide ((c.toNat : Int) ≤ 56) | _ => false
theorem Qf9 (s : ByteArray) : Qh7 s = (Q3 (Qds s).1 && (decide ((Qds s).2 = ⟨#[]⟩) || QcT (Qds s).2)) := by
  have hsz : s.size = s.data.toList.length := by simp
  unfold Qh7 Qbf Qds
  rcases Qcw s.data.toList with h | ⟨i, hi, h⟩
  · have hm : mark s = -1 := h
    simp [hm]
  · have hm : mark s = (i : Int) := h
    have hd : s.data.toList.drop i = s.data.toList[i] :: s.data.toList.drop (i + 1) := List.drop_eq_getElem_cons hi
    have hne : (s.extract i s.size) ≠ ⟨#[]⟩ := by
      intro e
      have := congrArg (fun b : ByteArray => b.data.toList) e
      simp only [Qcs] at this
      rw [hsz, List.take_length, hd] at this
      simp at this
    have htl : QcT (s.extract i s.size) = digit (s.extract (i + 1) s.size) := by
      unfold QcT digit
      rw [Qcs, Qcs, hsz, List.take_length, hd]
      rcases s.data.toList.drop (i + 1) with _ | ⟨c, _ | ⟨c2, l⟩⟩ <;> rfl
    simp [hm, hne, htl]
theorem tail_ne {f : ByteArray} (h : f.size ≠ 2) : QcT f = false := by
  obtain ⟨⟨l⟩⟩ := f
  unfold QcT
  match l, h with
  | [], _ => rfl
  | [_], _ => rfl
  | [_, _], h => exact absurd rfl h
  | _ :: _ :: _ :: _, _ => rfl
theorem size_two {d : ByteArray} (h : d.size = 2) : ∃ b c, d = ⟨#[b, c]⟩ := by
  obtain ⟨⟨l⟩⟩ := d
  match l, h with
  | [b, c], _ => exact ⟨b, c, rfl⟩
def s229 : Sp := sp (QS Enc.str) Enc.bool (fun s => if s.size ≤ lim then some (Qh7 s) else none)
set_option maxHeartbeats 2000000 in
theorem c229 : QD Tryz.prog 229 s229 := by
  refine QD.of_sp (T := QF [(176, s176), (105, s105)]) Tryz.func229 rfl (Nat.le_of_ble_eq_true rfl) fun E s y hy => ?_
  split at hy
  case isFalse => cases hy
  next hlim =>
  cases hy
  have tT : QP Tryz.prog (QF [(176, s176), (105, s105)]) := .cons e176 (.cons QjY .nil)
  have g1 := call176 (QF [(176, s176), (105, s105)]) rfl s hlim
  have g2 := QbV (QF [(176, s176), (105, s105)]) rfl (Qds s).1
  generalize QF [(176, s176), (105, s105)] = T at *
  rw [Qf9]
  clear hlim
  generalize (Qds s).1 = n at *
  generalize (Qds s).2 = f at *
  refine Dwp.step tT rfl fun K hK => ?_
  simp [QB, QE, Ql, QK, own, Qm, dop, QJ, eval, Qy, QG, Ex.then, Ex.inBlock, upd, QL, Tag.isNN, Qn, intCmp, Qz, QA, TyI.agg, Qb, Qs, Qd, Qr, QM, QC, Qp, mapOf, Qx, Qo, Qe, Qk, Qg, Qu, DV.cells, Qt, Qh, Qq, Qv, rowsOf, Qw, Qf, Qa, Qa.go, Qi, Qj, Qc, goInt, init, QS, QI.one, Enc.str]
  refine hK _ _ ?_ rfl; clear hK K
  refine Dwp.step tT rfl fun K hK => ?_
  simp [QB, QE, Ql, QK, own, Qm, dop, QJ, eval, Qy, QG, Ex.then, Ex.inBlock, upd, QL, Tag.isNN, Qn, intCmp, Qz, QA, TyI.agg, Qb, Qs, Qd, Qr, QM, QC, Qp, mapOf, Qx, Qo, Qe, Qk, Qg, Qu, DV.cells, Qt, Qh, Qq, Qv, rowsOf, Qw, Qf, Qa, Qa.go, Qi, Qj, Qc, goInt, init, g1]
  refine hK _ _ ?_ rfl; clear hK K
  clear g1
  refine Dwp.step tT rfl fun K hK => ?_
  by_cases h0 : f = ⟨#[]⟩
  · subst h0
    repeat' ((first | refine QG.stepD rfl rfl ?_ | refine QG.stepG rfl rfl rfl ?_ | refine QG.stepN rfl rfl ?_ | refine QG.stepGN rfl rfl rfl ?_); intro K1 hK1; simp [*, QW, QO, QK, dop, eval, Qy, upd, Qb, Qs, Qz, QA, TyI.agg, Qd, Qr, Qk, Qg, QC, QM, goInt, QL, intCmp, Qn, Tag.isNN, Qc, DV.cells, Qf, Qt, Qh, ty9, Qm]; (first | (refine hK1 _ _ ?_; clear hK1 K1) | (split <;> (rename_i hsp; (try simp only [beq_iff_eq, beq_eq_false_iff_ne, ne_eq, decide_eq_true_eq, decide_eq_false_iff_not] at hsp); (try (first | have hsq := Int.not_le.2 hsp | have hsq := Int.not_lt.2 hsp | have hsq := Int.not_le.1 hsp | have hsq := Int.not_lt.1 hsp)); (try subst hsp); (try simp only [hsp])) <;> (refine hK1 _ _ ?_; clear hK1 K1))))
    all_goals refine QG.done (hK _ _ (Dwp.ret ?_) rfl)
    all_goals refine QaR Tryz.func229 rfl _ ?_
    all_goals simp [upd, *]
  by_cases h2 : f.size = 2
  · obtain ⟨b, c, rfl⟩ := size_two h2
    have e1 : (ByteArray.mk #[b, c]).size = 2 := rfl
    have e2 : (ByteArray.mk #[b, c])[1]? = some c := rfl
    have e3 : (ByteArray.mk #[b, c])[1]'(by rw [e1]; omega) = c := rfl
    have hdg : QcT ⟨#[b, c]⟩ = (decide (49 ≤ (c.toNat : Int)) && decide ((c.toNat : Int) ≤ 56)) := rfl
    obtain ⟨ci, hci⟩ : ∃ x : Int, (c.toNat : Int) = x := ⟨_, rfl⟩
    rw [hci] at hdg
    clear h2
    repeat' ((first | refine QG.stepD rfl rfl ?_ | refine QG.stepG rfl rfl rfl ?_ | refine QG.stepN rfl rfl ?_ | refine QG.stepGN rfl rfl rfl ?_); intro K1 hK1; simp [*, QW, QO, QK, dop, eval, Qy, upd, Qb, Qs, Qz, QA, TyI.agg, Qd, Qr, Qk, Qg, QC, QM, goInt, QL, intCmp, Qn, Tag.isNN, Qc, DV.cells, Qf, Qt, Qh, ty9, Qm]; (first | (refine hK1 _ _ ?_; clear hK1 K1) | (split <;> (rename_i hsp; (try simp only [beq_iff_eq, beq_eq_false_iff_ne, ne_eq, decide_eq_true_eq, decide_eq_false_iff_not] at hsp); (try (first | have hsq := Int.not_le.2 hsp | have hsq := Int.not_lt.2 hsp | have hsq := Int.not_le.1 hsp | have hsq := Int.not_lt.1 hsp)); (try subst hsp); (try simp only [hsp])) <;> (refine hK1 _ _ ?_; clear hK1 K1))))
    all_goals refine QG.done (hK _ _ (Dwp.ret ?_) rfl)
    all_goals refine QaR Tryz.func229 rfl _ ?_
    all_goals simp [upd, *]
  have ht := tail_ne h2
  obtain ⟨m, hm⟩ : ∃ m : Int, (f.size : Int) = m := ⟨_, rfl⟩
  have h2' : ¬ m = 2 := by omega
  have h2f : (m == 2) = false := by simpa using h2'
  clear h2
  repeat' ((first | refine QG.stepD rfl rfl ?_ | refine QG.stepG rfl rfl rfl ?_ | refine QG.stepN rfl rfl ?_ | refine QG.stepGN rfl rfl rfl ?_); intro K1 hK1; simp [*, QW, QO, QK, dop, eval, Qy, upd, Qb, Qs, Qz, QA, TyI.agg, Qd, Qr, Qk, Qg, QC, QM, goInt, QL, intCmp, Qn, Tag.isNN, Qc, DV.cells, Qf, Qt, Qh, ty9, Qm]; (first | (refine hK1 _ _ ?_; clear hK1 K1) | (split <;> (rename_i hsp; (try simp only [beq_iff_eq, beq_eq_false_iff_ne, ne_eq, decide_eq_true_eq, decide_eq_false_iff_not] at hsp); (try (first | have hsq := Int.not_le.2 hsp | have hsq := Int.not_lt.2 hsp | have hsq := Int.not_le.1 hsp | have hsq := Int.not_lt.1 hsp)); (try subst hsp); (try simp only [hsp])) <;> (refine hK1 _ _ ?_; clear hK1 K1))))
  all_goals refine QG.done (hK _ _ (Dwp.ret ?_) rfl)
  all_goals refine QaR Tryz.func229 rfl _ ?_
  all_goals simp [upd, *]
theorem e229 : Go.FA.Good Tryz.prog (229, s229) := ⟨c229, Tryz.f229, _, Tryz.func229, rfl, by decide⟩
theorem call229 (T : Tab) (hT : T 229 = some s229) (s : ByteArray) (h : s.size ≤ lim) : dcall T 229 [.lit (.string s)] = some (.lit (.bool (Qh7 s))) :=
  QaN (A := Enc.str) (B := Enc.bool) hT (if_pos h)
end Go.Proofs.Yt
namespace Go.FA
open Go.RowKit
set_option linter.unusedSimpArgs false
variable {P : Program} {T : Tab} {E : Entry} {C : Ctx} {w : World} {σ : St} {n : Nat} {a : Nat → DV} {ops : Array Oper} {K : (Nat → DV) → St → Prop} {i : Nat} {rest : List Nat} {o : Oper}
theorem Rg.rangeS {t : TypeId} {x : Operand} {s : ByteArray} (hd : Q2 n ops = true) (ho : ops[i]? = some o) (hw : Ql ops a o.guard = some true) (hop : o.op = .range t x) (ht : P.underlying t = some .string) (hx : eval a x = .lit (.string s))
    (h : Rg P E n ops K rest (QJ a o.dst (.ptr σ.n 0)) { σ with n := σ.n + 1, objs := upd σ.objs σ.n (some (.strIter s 0)) }) : Rg P E n ops K (i :: rest) a σ := by
  refine Rg.upon (d := .ptr σ.n 0) (σ1 := { σ with objs := upd σ.objs σ.n (some (.strIter s 0)) }) hd ho hw (fun ca w ds C hf hs => ?_) h
  have hv := Q8 (ds := ds) hf x
  rw [hx] at hv; simp only [QN] at hv
  obtain ⟨C', hle, hstep, hob, _, _, _, hs'⟩ := hs.new_obj (id := σ.n) (ob := .stringIter s 0) (o := .strIter s 0) (Nat.le_refl _) (fun C' hle hstep => by simp only [Qiq]; simpa using heap_alloc_new w _)
  have hr : (execOp (Act.eval ⟨ca, ds⟩) o).run P w = .ok (.value (.pointer (some ⟨w.heap.size, 0, none⟩))) (w.alloc (.stringIter s 0)) := by
    simp only [execOp, hop, hv, Sem.run_bind, run_range_string w t s ht, Result.andThen_ok, Sem.run_pure]; rfl
  unfold Upon; rw [hr]; exact ⟨C', hle, hstep, by simp only [QN]; exact ⟨_, hob, rfl⟩, hs'⟩
theorem Rg.nextS {it : Operand} {id pos : Nat} {s : ByteArray} (hd : Q2 n ops = true) (ho : ops[i]? = some o) (hw : Ql ops a o.guard = some true) (hop : o.op = .next it true) (hx : eval a it = .ptr id 0) (hb : σ.objs id = some (.strIter s pos)) (hp : pos < s.size)
    (h : Rg P E n ops K rest (QJ a o.dst (.tuple [.lit (.bool true), .lit (.int .i64 pos), .lit (.int .i32 (Utf8.decode s pos).1)])) { σ with n := σ.n + 1, objs := upd σ.objs id (some (.strIter s (pos + (Utf8.decode s pos).2))) }) : Rg P E n ops K (i :: rest) a σ := by
  refine Rg.upon (d := .tuple [.lit (.bool true), .lit (.int .i64 pos), .lit (.int .i32 (Utf8.decode s pos).1)]) (σ1 := { σ with objs := upd σ.objs id (some (.strIter s (pos + (Utf8.decode s pos).2))) }) hd ho hw (fun ca w ds C hf hs => ?_) h
  have hv := Q8 (ds := ds) hf it
  rw [hx] at hv; simp only [QN] at hv
  obtain ⟨b, hbb, hv⟩ := hv
  obtain ⟨b', hb', hB, hlt, hnp, hnm, h1⟩ := hs.obj _ _ hb
  obtain rfl : b = b' := by rw [hbb] at hb'; exact Option.some.inj hb'
  simp only [Qiq] at h1
  have hT : QcP w { w with heap := w.heap.setIfInBounds b (.stringIter s (pos + (Utf8.decode s pos).2)) } b (.stringIter s (pos + (Utf8.decode s pos).2)) := by
    refine ⟨rfl, rfl, rfl, by simp, ?_, ?_⟩
    · simp [Array.getElem?_setIfInBounds, hlt]
    · intro k hk; simp [Array.getElem?_setIfInBounds]; intro e; exact absurd e.symm hk
  have hno : ∀ c2 e2, w.heap[b]? = some (.cells c2 e2) → ∃ c' e', Obj.stringIter s (pos + (Utf8.decode s pos).2) = .cells c' e' ∧ c'.size = c2.size := fun _ _ q => by rw [h1] at q; cases q
  obtain ⟨hst, hS⟩ := hs.turn (o' := .strIter s (pos + (Utf8.decode s pos).2)) hb hbb hT hno (by simp only [Qiq]; exact hT.at_)
  have hr : (execOp (Act.eval ⟨ca, ds⟩) o).run P w = .ok (.value (.tuple #[.bool true, .int .i64 pos, .int .i32 (Utf8.decode s pos).1])) { w with heap := w.heap.setIfInBounds b (.stringIter s (pos + (Utf8.decode s pos).2)) } := by
    simp only [execOp, hop, hv, Sem.run_bind, Instr.next, getObj, setObj, Sem.run, h1, Result.andThen, hp, if_true]
    simp [goInt, Sem.run, h1]
  unfold Upon; rw [hr]
  exact ⟨C, .refl C, hst, by simp only [QN]; exact ⟨[.bool true, .int .i64 pos, .int .i32 (Utf8.decode s pos).1], rfl, by simp only [QQ, QN]; exact ⟨trivial, trivial, trivial, trivial⟩⟩, ⟨hS.lo, hS.below, hS.bsize, hS.pB, hS.mB, hS.psup, hS.msup, hS.psub, hS.msub, hS.obj, hS.inj, hS.tok, hS.tinj, hS.tobj, fun i hi => hS.fresh i hi.1⟩⟩
theorem Rg.overS {it : Operand} {id pos : Nat} {s : ByteArray} (hd : Q2 n ops = true) (ho : ops[i]? = some o) (hw : Ql ops a o.guard = some true) (hop : o.op = .next it true) (hx : eval a it = .ptr id 0) (hb : σ.objs id = some (.strIter s pos)) (hp : ¬ pos < s.size)
    (h : Rg P E n ops K rest (QJ a o.dst (.tuple [.lit (.bool false)])) { σ with n := σ.n + 1 }) : Rg P E n ops K (i :: rest) a σ := by
  refine Rg.upon (d := .tuple [.lit (.bool false)]) (σ1 := σ) hd ho hw (fun ca w ds C hf hs => ?_) h
  have hv := Q8 (ds := ds) hf it
  rw [hx] at hv; simp only [QN] at hv
  obtain ⟨b, hbb, hv⟩ := hv
  obtain ⟨b', hb', hB, hlt, hnp, hnm, h1⟩ := hs.obj _ _ hb
  obtain rfl : b = b' := by rw [hbb] at hb'; exact Option.some.inj hb'
  simp only [Qiq] at h1
  have hr : (execOp (Act.eval ⟨ca, ds⟩) o).run P w = .ok (.value (.tuple #[.bool false])) w := by
    simp only [execOp, hop, hv, Sem.run_bind, Instr.next, getObj, setObj, Sem.run, h1, Result.andThen, hp, if_false]
    simp [goInt, Sem.run, h1]
  unfold Upon; rw [hr]
  refine ⟨C, .refl C, .refl C w, by simp only [QN]; exact ⟨[.bool false], rfl, by simp only [QQ, QN]; exact ⟨trivial, trivial⟩⟩, ?_⟩
  exact ⟨hs.lo, hs.below, hs.bsize, hs.pB, hs.mB, hs.psup, hs.msup, hs.psub, hs.msub, hs.obj, hs.inj, hs.tok, hs.tinj, hs.tobj, fun i hi => hs.fresh i hi.1⟩
end Go.FA
namespace Go.Proofs.Yt
open Go Go.FA Go.Proofs Go.RowKit
set_option linter.unusedSimpArgs false
set_option maxRecDepth 100000
theorem decode_big (s : ByteArray) (i : Nat) (h : i < s.size) (hb : 128 ≤ (s[i]'h).toNat) : 128 ≤ (Utf8.decode s i).1 := by
  have e : s.get! (i + 0) = s[i]'h := by
    show s.get! i = _
    simp [ByteArray.get!, getElem!_pos, h]
    rfl
  simp only [Utf8.decode, e, Utf8.runeError]
  rw [if_neg (by omega)]
  repeat' split
  all_goals (try simp only [Bool.and_eq_true, decide_eq_true_eq, ge_iff_le] at *; try omega)
theorem Qd0 (s : ByteArray) (i : Nat) (h : i < s.size) (hb : (s[i]'h).toNat < 128) : Utf8.decode s i = ((s[i]'h).toNat, 1) := decode_ascii s i h hb
def s227 : Sp := sp (QS Enc.str) Enc.bool (fun s => if s.size ≤ lim then some (Qc1 s) else none)
set_option maxHeartbeats 2000000 in
theorem c227 : QD Tryz.prog 227 s227 := by
  refine QD.of_sp (T := QF []) Tryz.func227 rfl (Nat.le_of_ble_eq_true rfl) fun E s y hy => ?_
  split at hy
  case isFalse => cases hy
  next hlim =>
  cases hy
  unfold lim at hlim
  have tT := Q7 (P := Tryz.prog)
  generalize QF [] = T at *
  have fin : ∀ (a : Nat → DV) (σ : St), a 2 = .lit (.bool (Qc1 s)) → Q4 Tryz.prog Tryz.f227.results Enc.bool (Qc1 s) Ex.ret a σ := by
    intro a σ h2
    refine ⟨.inr rfl, .lit (.bool (Qc1 s)), ?_, by simp [Q4, QH, QX, frz, Q0, QY, Enc.bool]⟩
    show QH Tryz.prog σ a [ResultVar.tmp 2] = _
    simp [QH, QX, h2]
  refine Dwp.step tT rfl fun K hK => ?_
  simp [QB, QE, Ql, QK, own, Qm, dop, QJ, eval, Qy, QG, Ex.then, Ex.inBlock, upd, QL, Tag.isNN, Qn, intCmp, Qz, QA, TyI.agg, Qb, Qs, Qd, Qr, QM, QC, Qp, mapOf, Qx, Qo, Qe, Qk, Qg, Qu, DV.cells, Qt, Qh, Qq, Qv, rowsOf, Qw, Qf, Qa, Qa.go, Qi, Qj, Qc, goInt, init, QS, QI.one, Enc.str]
  refine hK _ _ ?_ rfl; clear hK K
  refine Dwp.seq ?_
  refine Dwp.step tT rfl fun K hK => ?_
  simp [QB, QE, Ql, QK, own, Qm, dop, QJ, eval, Qy, QG, Ex.then, Ex.inBlock, upd, QL, Tag.isNN, Qn, intCmp, Qz, QA, TyI.agg, Qb, Qs, Qd, Qr, QM, QC, Qp, mapOf, Qx, Qo, Qe, Qk, Qg, Qu, DV.cells, Qt, Qh, Qq, Qv, rowsOf, Qw, Qf, Qa, Qa.go, Qi, Qj, Qc, goInt, init, ty9]
  refine hK _ _ ?_ rfl; clear hK K
  by_cases hbig : 200 < s.size
  · have hbig' : (200 : Int) < (s.size : Int) := by omega
    refine Dwp.condT (by simp [eval, upd, hbig']) ?_
    refine Dwp.step tT rfl fun K hK => ?_
    simp [QB, QE, Ql, QK, own, Qm, dop, QJ, eval, Qy, QG, Ex.then, Ex.inBlock, upd, QL, Tag.isNN, Qn, intCmp, Qz, QA, TyI.agg, Qb, Qs, Qd, Qr, QM, QC, Qp, mapOf, Qx, Qo, Qe, Qk, Qg, Qu, DV.cells, Qt, Qh, Qq, Qv, rowsOf, Qw, Qf, Qa, Qa.go, Qi, Qj, Qc, goInt]
    refine hK _ _ (Dwp.ret ?_) rfl
    exact fin _ _ (by simp [upd, Qc1]; omega)
  have hsmall : ¬ (200 : Int) < (s.size : Int) := by omega
  refine Dwp.condF (by simp [eval, upd, hsmall]) (Dwp.skip ?_)
  refine Dwp.seq ?_
  refine Dwp.stepH fun K hK => ?_
  show Rg _ _ _ _ K ([0] ++ (1 :: [])) _ _
  refine Rg.run tT rfl _ _ _ ?_
  simp [Qac, Qa5, Qay, QB, QE, Ql, QK, own, Qm, dop, QJ, eval, Qy, QG, Ex.then, Ex.inBlock, upd, QL, Tag.isNN, Qn, intCmp, Qz, QA, TyI.agg, Qb, Qs, Qd, Qr, QM, QC, Qp, mapOf, Qx, Qo, Qe, Qk, Qg, Qu, DV.cells, Qt, Qh, Qq, Qv, rowsOf, Qw, Qf, Qa, Qa.go, Qi, Qj, Qc, goInt, init]
  refine Rg.rangeS (s := s) rfl rfl rfl rfl (by kernel_rfl) (by simp [eval, upd]) ?_
  refine Rg.nil (hK _ _ ?_)
  refine Dwp.block (Dwp.loop (fun k a σ => ∃ i, i ≤ s.size ∧ k = s.size - i ∧ a 9 = .ptr 4 0 ∧ σ.objs 4 = some (.strIter s i) ∧ 5 ≤ σ.n ∧ ∀ j, j < i → charAt s j) s.size ⟨0, Nat.zero_le _, rfl, by simp [QJ, upd, σ0], by simp [upd, σ0], by simp [σ0], by simp⟩ ?_)
  rintro k a σ ⟨i, hi, rfl, h9, hob, hn5, hok⟩
  by_cases hlt : i < s.size
  · have hnext : ∀ (c : Int), (Utf8.decode s i).1 = c → (128 ≤ s[i].toNat → 128 ≤ c) → (s[i].toNat < 128 → c = (s[i].toNat : Int) ∧ (Utf8.decode s i).2 = 1) →
        (Qa6 c = true ↔ s[i].toNat < 128 ∧ Qa6 (s[i].toNat : Int) = true) := by
      intro c hc h1 h2
      by_cases hb : s[i].toNat < 128
      · rw [(h2 hb).1]; simp [hb]
      · have := h1 (by omega)
        have hf : Qa6 c = false := by simp [Qa6]; omega
        simp [hf, hb]
    obtain ⟨c, hc⟩ : ∃ c : Int, ((Utf8.decode s i).1 : Int) = c := ⟨_, rfl⟩
    obtain ⟨w, hw⟩ : ∃ w : Nat, (Utf8.decode s i).2 = w := ⟨_, rfl⟩
    have hch : Qa6 c = true ↔ s[i].toNat < 128 ∧ Qa6 (s[i].toNat : Int) = true := hnext c hc (fun h => by have := decode_big s i hlt h; omega) (fun h => by rw [Qd0 s i hlt h] at hc ⊢; exact ⟨hc.symm, rfl⟩)
    have hw1 : s[i].toNat < 128 → w = 1 := fun h => by rw [← hw, Qd0 s i hlt h]
    have hfull : Qa6 c = false → Qc1 s = false := by
      intro hf
      have : Qgl Qa6 s = false := by
        cases q : Qgl Qa6 s with
        | false => rfl
        | true =>
          have h3 := (QgC Qa6 s).1 q i hlt
          by_cases hb : s[i].toNat < 128
          · rw [hch.2 ⟨hb, h3⟩] at hf; cases hf
          · have : Qa6 (s[i].toNat : Int) = false := by simp [Qa6]; omega
            rw [this] at h3; cases h3
      simp [Qc1, this]
    clear hnext
    refine Dwp.stepH fun K hK => ?_
    show Rg _ _ _ _ K (0 :: ([1] ++ [])) _ _
    refine Rg.nextS (s := s) (pos := i) rfl rfl rfl rfl (by simp [eval, h9]; try rfl) hob hlt ?_
    rw [hc, hw]
    refine Rg.run tT rfl _ _ _ ?_
    simp [Qac, Qa5, Qay, QB, QE, Ql, QK, own, Qm, dop, QJ, eval, Qy, QG, Ex.then, Ex.inBlock, upd, QL, Tag.isNN, Qn, intCmp, Qz, QA, TyI.agg, Qb, Qs, Qd, Qr, QM, QC, Qp, mapOf, Qx, Qo, Qe, Qk, Qg, Qu, DV.cells, Qt, Qh, Qq, Qv, rowsOf, Qw, Qf, Qa, Qa.go, Qi, Qj, Qc, goInt, init]
    refine Rg.nil (hK _ _ ?_)
    clear hK K
    refine Dwp.seq (Dwp.condT (by simp [eval, upd]) (Dwp.skip ?_))
    refine Dwp.block ?_
    refine Dwp.step tT rfl fun K hK => ?_
    simp [QB, QE, Ql, QK, own, Qm, dop, QJ, eval, Qy, QG, Ex.then, Ex.inBlock, upd, QL, Tag.isNN, Qn, intCmp, Qz, QA, TyI.agg, Qb, Qs, Qd, Qr, QM, QC, Qp, mapOf, Qx, Qo, Qe, Qk, Qg, Qu, DV.cells, Qt, Qh, Qq, Qv, rowsOf, Qw, Qf, Qa, Qa.go, Qi, Qj, Qc, goInt]
    refine hK _ _ ?_ rfl; clear hK K
    refine Dwp.step tT rfl fun K hK => ?_
    have good : ∀ a' σ', a' 26 = .lit (.bool false) → Qa6 c = true → a' 9 = .ptr 4 0 → σ'.objs 4 = some (.strIter s (i + w)) → σ'.n = σ.n + 1 + 2 → K a' σ' := by
      intro a' σ' h26 hcc h9 hob hn
      refine hK _ _ ?_ hn
      refine Dwp.condF (by simp [eval, h26]) (Dwp.skip ?_)
      obtain ⟨hb, hct⟩ := hch.1 hcc
      have hw2 := hw1 hb
      subst hw2
      refine ⟨s.size - (i + 1), by omega, i + 1, by omega, rfl, h9, hob, by simp only []; omega, fun j hj => ?_⟩
      rcases Nat.lt_succ_iff_lt_or_eq.1 hj with q | rfl
      · exact hok j q
      · exact ⟨hlt, hct⟩
    have bad : ∀ a' σ', a' 26 = .lit (.bool true) → Qa6 c = false → σ'.n = σ.n + 1 + 2 → K a' σ' := by
      intro a' σ' h26 hcc hn
      refine hK _ _ ?_ hn
      refine Dwp.condT (by simp [eval, h26]) ?_
      refine Dwp.step tT rfl fun K hK => ?_
      simp [QB, QE, Ql, QK, own, Qm, dop, QJ, eval, Qy, QG, Ex.then, Ex.inBlock, upd, QL, Tag.isNN, Qn, intCmp, Qz, QA, TyI.agg, Qb, Qs, Qd, Qr, QM, QC, Qp, mapOf, Qx, Qo, Qe, Qk, Qg, Qu, DV.cells, Qt, Qh, Qq, Qv, rowsOf, Qw, Qf, Qa, Qa.go, Qi, Qj, Qc, goInt]
      refine hK _ _ (Dwp.ret ?_) rfl
      exact fin _ _ (by simp [upd, hfull hcc])
    clear hc hw1 hfull hok hn5
    have h9' : upd (upd a 10 (DV.tuple [DV.lit (Value.bool true), DV.lit (Value.int IntKind.i64 i), DV.lit (Value.int IntKind.i32 c)])) 11 (DV.lit (Value.bool true)) 9 = .ptr 4 0 := by simp [upd, h9]
    by_cases q4 : c = 92
    · have hcf : Qa6 c = false := by subst q4; simp [Qa6]
      clear hch good
      subst q4
      repeat' ((first | refine QG.stepD rfl rfl ?_ | refine QG.stepG rfl rfl rfl ?_ | refine QG.stepN rfl rfl ?_ | refine QG.stepGN rfl rfl rfl ?_); intro K1 hK1; simp [*, QW, QO, QK, dop, eval, Qy, upd, Qb, Qs, Qz, QA, TyI.agg, Qd, Qr, Qk, Qg, QC, QM, goInt, QL, intCmp, Qn, Tag.isNN, Qc, DV.cells, Qf, Qt, Qh, ty21]; (first | (refine hK1 _ _ ?_; clear hK1 K1) | (split <;> (rename_i hsp; (try simp only [beq_iff_eq, beq_eq_false_iff_ne, ne_eq, decide_eq_true_eq, decide_eq_false_iff_not] at hsp); (try (first | have hsq := Int.not_le.2 hsp | have hsq := Int.not_lt.2 hsp | have hsq := Int.not_le.1 hsp | have hsq := Int.not_lt.1 hsp)); (try subst hsp); (try simp only [hsp])) <;> (refine hK1 _ _ ?_; clear hK1 K1))))
      refine QG.done (bad _ _ (by simp [upd]) hcf rfl)
    by_cases q3 : c = 34
    · have hcf : Qa6 c = false := by subst q3; simp [Qa6]
      clear hch good
      subst q3
      repeat' ((first | refine QG.stepD rfl rfl ?_ | refine QG.stepG rfl rfl rfl ?_ | refine QG.stepN rfl rfl ?_ | refine QG.stepGN rfl rfl rfl ?_); intro K1 hK1; simp [*, QW, QO, QK, dop, eval, Qy, upd, Qb, Qs, Qz, QA, TyI.agg, Qd, Qr, Qk, Qg, QC, QM, goInt, QL, intCmp, Qn, Tag.isNN, Qc, DV.cells, Qf, Qt, Qh, ty21]; (first | (refine hK1 _ _ ?_; clear hK1 K1) | (split <;> (rename_i hsp; (try simp only [beq_iff_eq, beq_eq_false_iff_ne, ne_eq, decide_eq_true_eq, decide_eq_false_iff_not] at hsp); (try (first | have hsq := Int.not_le.2 hsp | have hsq := Int.not_lt.2 hsp | have hsq := Int.not_le.1 hsp | have hsq := Int.not_lt.1 hsp)); (try subst hsp); (try simp only [hsp])) <;> (refine hK1 _ _ ?_; clear hK1 K1))))
      refine QG.done (bad _ _ (by simp [upd]) hcf rfl)
    clear hch
    repeat' ((first | refine QG.stepD rfl rfl ?_ | refine QG.stepG rfl rfl rfl ?_ | refine QG.stepN rfl rfl ?_ | refine QG.stepGN rfl rfl rfl ?_); intro K1 hK1; simp [*, QW, QO, QK, dop, eval, Qy, upd, Qb, Qs, Qz, QA, TyI.agg, Qd, Qr, Qk, Qg, QC, QM, goInt, QL, intCmp, Qn, Tag.isNN, Qc, DV.cells, Qf, Qt, Qh, ty21]; (first | (refine hK1 _ _ ?_; clear hK1 K1) | (split <;> (rename_i hsp; (try simp only [beq_iff_eq, beq_eq_false_iff_ne, ne_eq, decide_eq_true_eq, decide_eq_false_iff_not] at hsp); (try (first | have hsq := Int.not_le.2 hsp | have hsq := Int.not_lt.2 hsp | have hsq := Int.not_le.1 hsp | have hsq := Int.not_lt.1 hsp)); (try subst hsp); (try simp only [hsp])) <;> (refine hK1 _ _ ?_; clear hK1 K1))))
    · refine QG.done (good _ _ (by simp [upd, q4]) (by simp [Qa6, q3, q4]; omega) (by simp [upd, h9]) (by simp [upd]) rfl)
    · refine QG.done (bad _ _ (by simp [upd]) (by simp [Qa6, q3, q4]; omega) rfl)
    · refine QG.done (bad _ _ (by simp [upd]) (by simp [Qa6, q3, q4]; omega) rfl)
  · refine Dwp.stepH fun K hK => ?_
    show Rg _ _ _ _ K (0 :: ([1] ++ [])) _ _
    refine Rg.overS (s := s) (pos := i) rfl rfl rfl rfl (by simp [eval, h9]; try rfl) hob hlt ?_
    refine Rg.run tT rfl _ _ _ ?_
    simp [Qac, Qa5, Qay, QB, QE, Ql, QK, own, Qm, dop, QJ, eval, Qy, QG, Ex.then, Ex.inBlock, upd, QL, Tag.isNN, Qn, intCmp, Qz, QA, TyI.agg, Qb, Qs, Qd, Qr, QM, QC, Qp, mapOf, Qx, Qo, Qe, Qk, Qg, Qu, DV.cells, Qt, Qh, Qq, Qv, rowsOf, Qw, Qf, Qa, Qa.go, Qi, Qj, Qc, goInt, init]
    refine Rg.nil (hK _ _ ?_)
    clear hK K
    refine Dwp.seq (Dwp.condF (by simp [eval, upd]) (Dwp.exit ?_))
    have hall : Qgl Qa6 s = true := (QgC Qa6 s).2 fun j h => (hok j (by omega)).2
    refine Dwp.step tT rfl fun K hK => ?_
    simp [QB, QE, Ql, QK, own, Qm, dop, QJ, eval, Qy, QG, Ex.then, Ex.inBlock, upd, QL, Tag.isNN, Qn, intCmp, Qz, QA, TyI.agg, Qb, Qs, Qd, Qr, QM, QC, Qp, mapOf, Qx, Qo, Qe, Qk, Qg, Qu, DV.cells, Qt, Qh, Qq, Qv, rowsOf, Qw, Qf, Qa, Qa.go, Qi, Qj, Qc, goInt]
    refine hK _ _ (Dwp.ret ?_) rfl
    exact fin _ _ (by simp [upd, Qc1, hall]; omega)
theorem e227 : Go.FA.Good Tryz.prog (227, s227) := ⟨c227, Tryz.f227, _, Tryz.func227, rfl, by decide⟩
theorem call227 (T : Tab) (hT : T 227 = some s227) (s : ByteArray) (h : s.size ≤ lim) : dcall T 227 [.lit (.string s)] = some (.lit (.bool (Qc1 s))) :=
  QaN (A := Enc.str) (B := Enc.bool) hT (if_pos h)
end Go.Proofs.Yt
