/- Contracts of functions of the program, by a machine over abstract values; part 25. No condition beyond those of each theorem. -/
import Derived.Test.YtfpejlbfdpeofaaGreatDoorSm23
set_option linter.unusedVariables false
set_option linter.unusedSimpArgs false
namespace Go.Proofs.Yt
open Go Go.FA Go.Proofs Go.RowKit
set_option linter.unusedSimpArgs false
set_option maxRecDepth 100000
def Qjt (t u : Tm) : Int × Int := if Qav t = true ∧ Qav u = true then (Qhz t u, 0) else (0, 2)
theorem cmpE_ordE (t u : Tm) : Qjx t u = Qjt t u := by
  unfold Qjx Qjt
  split
  · next h => rw [Qi7 t u (Qgz h.1) (Qgz h.2)]
  · rfl
open Classical in
noncomputable def sT34 : Sp := sp (QS Enc.tm Enc.tm) Enc.i2 (fun x => if (okT x.1 ∧ tsz x.1 ≤ tlim) ∧ okT x.2 ∧ tsz x.2 ≤ tlim then some (Qjt x.1 x.2) else none)
set_option maxHeartbeats 2000000 in
theorem c34 : QC Tryz.prog 34 sT34 := by
  refine QC.of_sp (T := QG [(24, sT24), (89, s89 tlim)]) Tryz.func34 rfl (Nat.le_of_ble_eq_true rfl) fun E xx y hy => ?_
  obtain ⟨t, u⟩ := xx
  simp only [] at hy
  split at hy
  case isFalse => cases hy
  next hlim =>
  obtain ⟨⟨ho1, hl1⟩, ho2, hl2⟩ := hlim
  cases hy
  have tT : QP Tryz.prog (QG [(24, sT24), (89, s89 tlim)]) := .cons e24 (.cons e89 .nil)
  have g1 := Qj7 (QG [(24, sT24), (89, s89 tlim)]) rfl t ho1 hl1
  have g2 := Qj7 (QG [(24, sT24), (89, s89 tlim)]) rfl u ho2 hl2
  have g3 := QjZ (QG [(24, sT24), (89, s89 tlim)]) rfl t u hl1 hl1 hl2
  generalize QG [(24, sT24), (89, s89 tlim)] = T at *
  have fin : ∀ (x : Int × Int) (a : Nat → DV) (σ : St), a 4 = .lit (.int .i64 x.1) → a 5 = .lit (.int .i64 x.2) → QZ Tryz.prog Tryz.f34.results Enc.i2 x Ex.ret a σ := by
    intro x a σ h4 h5
    refine ⟨.inr rfl, .tuple [.lit (.int .i64 x.1), .lit (.int .i64 x.2)], ?_, by simp [QZ, QH, QV, frz, QX, QW, Enc.i2, Enc.tup, QS, QM.and, QM.one, Enc.i64, Enc.int]⟩
    show QH Tryz.prog σ a [ResultVar.tmp 4, ResultVar.tmp 5] = _
    simp [QH, QV, h4, h5]
  clear ho1 hl1 ho2 hl2
  refine Dwp.step tT rfl fun K hK => ?_
  simp [QD, QE, Qn, QI, own, Ql, dop, QJ, eval, Qy, QF, Ex.then, Ex.inBlock, upd, QK, Tag.isNN, Qm, intCmp, Qz, QA, TyI.agg, Qb, Qs, Qd, Qr, QL, QB, Qp, mapOf, Qx, Qo, Qf, Qi, Qg, Qu, DV.cells, Qt, Qh, Qq, Qv, rowsOf, Qw, Qe, Qa, Qa.go, Qj, Qk, Qc, goInt, init, QS, QM.one, QM.and, Enc.tm, Enc.agg, QM.tm, Tm.cells_len, Q8]
  refine hK _ _ ?_ rfl; clear hK K
  refine Dwp.seq ?_
  refine Dwp.step tT rfl fun K hK => ?_
  have bad : ∀ a' σ', a' 13 = .lit (.bool true) → Qjt t u = (0, 2) → σ'.n = σ0.n + 4 → K a' σ' := by
    intro a' σ' h13 hc hn
    refine hK _ _ ?_ hn
    refine Dwp.condT (by simp [eval, h13]) ?_
    refine Dwp.step tT rfl fun K hK => ?_
    simp [QD, QE, Qn, QI, own, Ql, dop, QJ, eval, Qy, QF, Ex.then, Ex.inBlock, upd, QK, Tag.isNN, Qm, intCmp, Qz, QA, TyI.agg, Qb, Qs, Qd, Qr, QL, QB, Qp, mapOf, Qx, Qo, Qf, Qi, Qg, Qu, DV.cells, Qt, Qh, Qq, Qv, rowsOf, Qw, Qe, Qa, Qa.go, Qj, Qk, Qc, goInt]
    refine hK _ _ (Dwp.ret ?_) rfl
    rw [hc]
    exact fin (0, 2) _ _ (by simp [upd]) (by simp [upd])
  rcases h1 : Qav t with _ | _
  · rw [h1] at g1
    repeat' ((first | refine QF.stepD rfl rfl ?_ | refine QF.stepG rfl rfl rfl ?_ | refine QF.stepN rfl rfl ?_ | refine QF.stepGN rfl rfl rfl ?_); intro K1 hK1; simp [*, QQ, QN, QI, dop, eval, Qy, upd, Qb, Qs, Qz, QA, TyI.agg, Qd, Qr, Qi, Qg, QB, QL, goInt, QK, intCmp, Qm, Tag.isNN, Qc, DV.cells, Qe, Qt, Qh, init, Qaa, ty3, ty9, Q9, Qab, Ql, Tm.cells_len, Q8]; (first | (refine hK1 _ _ ?_; clear hK1 K1) | (split <;> (rename_i hsp; (try simp only [beq_iff_eq, beq_eq_false_iff_ne, ne_eq, decide_eq_true_eq, decide_eq_false_iff_not] at hsp); (try (first | have hsq := Int.not_le.2 hsp | have hsq := Int.not_lt.2 hsp | have hsq := Int.not_le.1 hsp | have hsq := Int.not_lt.1 hsp)); (try subst hsp); (try simp only [hsp])) <;> (refine hK1 _ _ ?_; clear hK1 K1))))
    exact QF.done (bad _ _ (by simp [upd]) (by simp [Qjt, h1]) rfl)
  rcases h2 : Qav u with _ | _
  · rw [h1] at g1
    rw [h2] at g2
    repeat' ((first | refine QF.stepD rfl rfl ?_ | refine QF.stepG rfl rfl rfl ?_ | refine QF.stepN rfl rfl ?_ | refine QF.stepGN rfl rfl rfl ?_); intro K1 hK1; simp [*, QQ, QN, QI, dop, eval, Qy, upd, Qb, Qs, Qz, QA, TyI.agg, Qd, Qr, Qi, Qg, QB, QL, goInt, QK, intCmp, Qm, Tag.isNN, Qc, DV.cells, Qe, Qt, Qh, init, Qaa, ty3, ty9, Q9, Qab, Ql, Tm.cells_len, Q8]; (first | (refine hK1 _ _ ?_; clear hK1 K1) | (split <;> (rename_i hsp; (try simp only [beq_iff_eq, beq_eq_false_iff_ne, ne_eq, decide_eq_true_eq, decide_eq_false_iff_not] at hsp); (try (first | have hsq := Int.not_le.2 hsp | have hsq := Int.not_lt.2 hsp | have hsq := Int.not_le.1 hsp | have hsq := Int.not_lt.1 hsp)); (try subst hsp); (try simp only [hsp])) <;> (refine hK1 _ _ ?_; clear hK1 K1))))
    exact QF.done (bad _ _ (by simp [upd]) (by simp [Qjt, h1, h2]) rfl)
  clear bad
  rw [h1] at g1
  rw [h2] at g2
  repeat' ((first | refine QF.stepD rfl rfl ?_ | refine QF.stepG rfl rfl rfl ?_ | refine QF.stepN rfl rfl ?_ | refine QF.stepGN rfl rfl rfl ?_); intro K1 hK1; simp [*, QQ, QN, QI, dop, eval, Qy, upd, Qb, Qs, Qz, QA, TyI.agg, Qd, Qr, Qi, Qg, QB, QL, goInt, QK, intCmp, Qm, Tag.isNN, Qc, DV.cells, Qe, Qt, Qh, init, Qaa, ty3, ty9, Q9, Qab, Ql, Tm.cells_len, Q8]; (first | (refine hK1 _ _ ?_; clear hK1 K1) | (split <;> (rename_i hsp; (try simp only [beq_iff_eq, beq_eq_false_iff_ne, ne_eq, decide_eq_true_eq, decide_eq_false_iff_not] at hsp); (try (first | have hsq := Int.not_le.2 hsp | have hsq := Int.not_lt.2 hsp | have hsq := Int.not_le.1 hsp | have hsq := Int.not_lt.1 hsp)); (try subst hsp); (try simp only [hsp])) <;> (refine hK1 _ _ ?_; clear hK1 K1))))
  refine QF.done (hK _ _ ?_ rfl)
  refine Dwp.condF (by simp [eval, upd]) (Dwp.skip ?_)
  refine Dwp.step tT rfl fun K hK => ?_
  simp [QD, QE, Qn, QI, own, Ql, dop, QJ, eval, Qy, QF, Ex.then, Ex.inBlock, upd, QK, Tag.isNN, Qm, intCmp, Qz, QA, TyI.agg, Qb, Qs, Qd, Qr, QL, QB, Qp, mapOf, Qx, Qo, Qf, Qi, Qg, Qu, DV.cells, Qt, Qh, Qq, Qv, rowsOf, Qw, Qe, Qa, Qa.go, Qj, Qk, Qc, goInt, init, Qab, Tm.cells_len, Q8, g3]
  refine hK _ _ (Dwp.ret ?_) rfl
  have hc : Qjt t u = (Qhz t u, 0) := by simp [Qjt, h1, h2]
  rw [hc]
  exact fin (Qhz t u, 0) _ _ (by simp [upd]) (by simp [upd])
theorem e34 : Go.FA.Good Tryz.prog (34, sT34) := ⟨c34, Tryz.f34, _, Tryz.func34, rfl, by decide⟩
open Classical in
theorem call33 (T : Tab) (hT : T 33 = some sT33) (t u : Tm) (h : okT t ∧ tsz t ≤ tlim) (h2 : okT u ∧ tsz u ≤ tlim) : dcall T 33 [.agg t.cells, .agg u.cells] = some (.tuple [.lit (.int .i64 (Qjx t u).1), .lit (.int .i64 (Qjx t u).2)]) :=
  QaL (A := Enc.tm) (B := Enc.tm) (C := Enc.i2) hT (if_pos ⟨h, h2⟩)
open Classical in
theorem call34 (T : Tab) (hT : T 34 = some sT34) (t u : Tm) (h : okT t ∧ tsz t ≤ tlim) (h2 : okT u ∧ tsz u ≤ tlim) : dcall T 34 [.agg t.cells, .agg u.cells] = some (.tuple [.lit (.int .i64 (Qjt t u).1), .lit (.int .i64 (Qjt t u).2)]) :=
  QaL (A := Enc.tm) (B := Enc.tm) (C := Enc.i2) hT (if_pos ⟨h, h2⟩)
theorem call22 (T : Tab) (hT : T 22 = some s22x) : dcall T 22 [] = some (.lit (.bool true)) := by
  simp [dcall, hT, s22x]
open Classical in
noncomputable def sT4 : Sp := sp (QS Enc.tm Enc.tm) Enc.bool (fun x => if (okT x.1 ∧ tsz x.1 ≤ tlim) ∧ okT x.2 ∧ tsz x.2 ≤ tlim then some true else none)
noncomputable abbrev TL4 : Tab := QG [(21, s21), (22, s22x), (33, sT33), (34, sT34), (35, s35 tlim), (36, s36 tlim)]
theorem tabL4 : QP Tryz.prog TL4 := .cons e21 (.cons e22x (.cons e33 (.cons e34 (.cons e35 (.cons e36 .nil)))))
set_option maxHeartbeats 2000000 in
theorem cL4 : QC Tryz.prog 4 sT4 := by
  refine QC.of_sp (T := TL4) Tryz.func4 rfl (Nat.le_of_ble_eq_true rfl) fun E xx y hy => ?_
  obtain ⟨t, u⟩ := xx
  simp only [] at hy
  split at hy
  case isFalse => cases hy
  next hlim =>
  obtain ⟨h1, h2⟩ := hlim
  cases hy
  have tT := tabL4
  have g1 := Qj9 TL4 rfl t h1.1
  have g2 := Qj9 TL4 rfl u h2.1
  have g3 := call22 TL4 rfl
  have g4 := call33 TL4 rfl t u h1 h2
  have g5 := call34 TL4 rfl t u h1 h2
  have g6 := QiN TL4 rfl t u h1.2 h1.2 h2.2
  have g7 := QjT TL4 rfl t u h1.2 h1.2 h2.2
  have g8 := QiN TL4 rfl t t h1.2 h1.2 h1.2
  rw [Qfl] at g8
  rw [cmpE_ordE] at g4
  generalize TL4 = T at *
  clear h1 h2
  refine Dwp.step tT rfl fun K hK => ?_
  simp [QD, QE, Qn, QI, own, Ql, dop, QJ, eval, Qy, QF, Ex.then, Ex.inBlock, upd, QK, Tag.isNN, Qm, intCmp, Qz, QA, TyI.agg, Qb, Qs, Qd, Qr, QL, QB, Qp, mapOf, Qx, Qo, Qf, Qi, Qg, Qu, DV.cells, Qt, Qh, Qq, Qv, rowsOf, Qw, Qe, Qa, Qa.go, Qj, Qk, Qc, goInt, init, QS, QM.one, QM.and, Enc.tm, Enc.agg, QM.tm, Tm.cells_len, Q8]
  refine hK _ _ ?_ rfl; clear hK K
  refine Dwp.seq ?_
  refine Dwp.step tT rfl fun K hK => ?_
  have bad : ∀ a' σ', a' 18 = .lit (.bool true) → σ'.n = σ0.n + 3 → K a' σ' := by
    intro a' σ' h13 hn
    refine hK _ _ ?_ hn
    refine Dwp.condT (by simp [eval, h13]) ?_
    refine Dwp.step tT rfl fun K hK => ?_
    simp [QD, QE, Qn, QI, own, Ql, dop, QJ, eval, Qy, QF, Ex.then, Ex.inBlock, upd, QK, Tag.isNN, Qm, intCmp, Qz, QA, TyI.agg, Qb, Qs, Qd, Qr, QL, QB, Qp, mapOf, Qx, Qo, Qf, Qi, Qg, Qu, DV.cells, Qt, Qh, Qq, Qv, rowsOf, Qw, Qe, Qa, Qa.go, Qj, Qk, Qc, goInt, g3]
    refine hK _ _ (Dwp.ret ?_) rfl
    exact Qay Tryz.func4 rfl _ (by simp [upd])
  generalize decide (0 ≤ QaA [t] 2600 0) = b1 at *
  generalize decide (0 ≤ QaA [u] 2600 0) = b2 at *
  cases b1
  ·
    repeat' ((first | refine QF.stepD rfl rfl ?_ | refine QF.stepG rfl rfl rfl ?_ | refine QF.stepN rfl rfl ?_ | refine QF.stepGN rfl rfl rfl ?_); intro K1 hK1; simp [*, QQ, QN, QI, dop, eval, Qy, upd, Qb, Qs, Qz, QA, TyI.agg, Qd, Qr, Qi, Qg, QB, QL, goInt, QK, intCmp, Qm, Tag.isNN, Qc, DV.cells, Qe, Qt, Qh, init, Qaa, ty3, ty9, Q9, Qab, Ql, Tm.cells_len, Q8]; (first | (refine hK1 _ _ ?_; clear hK1 K1) | (split <;> (rename_i hsp; (try simp only [beq_iff_eq, beq_eq_false_iff_ne, ne_eq, decide_eq_true_eq, decide_eq_false_iff_not] at hsp); (try (first | have hsq := Int.not_le.2 hsp | have hsq := Int.not_lt.2 hsp | have hsq := Int.not_le.1 hsp | have hsq := Int.not_lt.1 hsp)); (try subst hsp); (try simp only [hsp])) <;> (refine hK1 _ _ ?_; clear hK1 K1))))
    exact QF.done (bad _ _ (by simp [upd]) rfl)
  cases b2
  ·
    repeat' ((first | refine QF.stepD rfl rfl ?_ | refine QF.stepG rfl rfl rfl ?_ | refine QF.stepN rfl rfl ?_ | refine QF.stepGN rfl rfl rfl ?_); intro K1 hK1; simp [*, QQ, QN, QI, dop, eval, Qy, upd, Qb, Qs, Qz, QA, TyI.agg, Qd, Qr, Qi, Qg, QB, QL, goInt, QK, intCmp, Qm, Tag.isNN, Qc, DV.cells, Qe, Qt, Qh, init, Qaa, ty3, ty9, Q9, Qab, Ql, Tm.cells_len, Q8]; (first | (refine hK1 _ _ ?_; clear hK1 K1) | (split <;> (rename_i hsp; (try simp only [beq_iff_eq, beq_eq_false_iff_ne, ne_eq, decide_eq_true_eq, decide_eq_false_iff_not] at hsp); (try (first | have hsq := Int.not_le.2 hsp | have hsq := Int.not_lt.2 hsp | have hsq := Int.not_le.1 hsp | have hsq := Int.not_lt.1 hsp)); (try subst hsp); (try simp only [hsp])) <;> (refine hK1 _ _ ?_; clear hK1 K1))))
    exact QF.done (bad _ _ (by simp [upd]) rfl)
  clear bad
  repeat' ((first | refine QF.stepD rfl rfl ?_ | refine QF.stepG rfl rfl rfl ?_ | refine QF.stepN rfl rfl ?_ | refine QF.stepGN rfl rfl rfl ?_); intro K1 hK1; simp [*, QQ, QN, QI, dop, eval, Qy, upd, Qb, Qs, Qz, QA, TyI.agg, Qd, Qr, Qi, Qg, QB, QL, goInt, QK, intCmp, Qm, Tag.isNN, Qc, DV.cells, Qe, Qt, Qh, init, Qaa, ty3, ty9, Q9, Qab, Ql, Tm.cells_len, Q8]; (first | (refine hK1 _ _ ?_; clear hK1 K1) | (split <;> (rename_i hsp; (try simp only [beq_iff_eq, beq_eq_false_iff_ne, ne_eq, decide_eq_true_eq, decide_eq_false_iff_not] at hsp); (try (first | have hsq := Int.not_le.2 hsp | have hsq := Int.not_lt.2 hsp | have hsq := Int.not_le.1 hsp | have hsq := Int.not_lt.1 hsp)); (try subst hsp); (try simp only [hsp])) <;> (refine hK1 _ _ ?_; clear hK1 K1))))
  refine QF.done (hK _ _ ?_ rfl)
  refine Dwp.condF (by simp [eval, upd]) (Dwp.skip ?_)
  refine Dwp.step tT rfl fun K hK => ?_
  simp [QD, QE, Qn, QI, own, Ql, dop, QJ, eval, Qy, QF, Ex.then, Ex.inBlock, upd, QK, Tag.isNN, Qm, intCmp, Qz, QA, TyI.agg, Qb, Qs, Qd, Qr, QL, QB, Qp, mapOf, Qx, Qo, Qf, Qi, Qg, Qu, DV.cells, Qt, Qh, Qq, Qv, rowsOf, Qw, Qe, Qa, Qa.go, Qj, Qk, Qc, goInt, init, Qab, Tm.cells_len, Q8, g4]
  refine hK _ _ ?_ rfl; clear hK K
  refine Dwp.step tT rfl fun K hK => ?_
  simp [QD, QE, Qn, QI, own, Ql, dop, QJ, eval, Qy, QF, Ex.then, Ex.inBlock, upd, QK, Tag.isNN, Qm, intCmp, Qz, QA, TyI.agg, Qb, Qs, Qd, Qr, QL, QB, Qp, mapOf, Qx, Qo, Qf, Qi, Qg, Qu, DV.cells, Qt, Qh, Qq, Qv, rowsOf, Qw, Qe, Qa, Qa.go, Qj, Qk, Qc, goInt, init, Qab, Tm.cells_len, Q8, g5]
  refine hK _ _ ?_ rfl; clear hK K
  refine Dwp.drawStep [] mixed tT rfl rfl fun K hK => ?_
  simp [Qbj, touch, QaE, Qck, QD, QE, Qn, QI, own, Ql, dop, QJ, eval, Qy, QF, Ex.then, Ex.inBlock, upd, QK, Tag.isNN, Qm, intCmp, Qz, QA, TyI.agg, Qb, Qs, Qd, Qr, QL, QB, Qp, mapOf, Qx, Qo, Qf, Qi, Qg, Qu, DV.cells, Qt, Qh, Qq, Qv, rowsOf, Qw, Qe, Qa, Qa.go, Qj, Qk, Qc, goInt, init, Qab, Tm.cells_len, Q8, g3, g6, g7, g8]
  refine hK _ _ (Dwp.ret ?_) rfl
  exact Qay Tryz.func4 rfl _ (by simp [upd])
def nmT (n : Int) : Tm := .mk 1 n ⟨#[]⟩ ⟨#[]⟩ [] []
def listT (n : Int) (N : Nat) : Tm := .mk 7 0 ⟨#[]⟩ ⟨#[]⟩ (List.replicate N (nmT n)) []
def nestT : Nat → Tm
  | 0 => nmT 1
  | m + 1 => .mk 7 0 ⟨#[]⟩ ⟨#[]⟩ [nestT m] []
def sT52 : Sp := sp (QU Enc.i64) Enc.tm (fun n => some (nmT n))
theorem c52 : QC Tryz.prog 52 sT52 := by
  refine QC.of_sp (T := QG []) Tryz.func52 rfl (Nat.le_of_ble_eq_true rfl) fun E n y hy => ?_
  cases hy
  have tT := Q6 (P := Tryz.prog)
  generalize QG [] = T at *
  refine Dwp.step tT rfl fun K hK => ?_
  simp [QD, QE, Qn, QI, own, Ql, dop, QJ, eval, Qy, QF, Ex.then, Ex.inBlock, upd, QK, Tag.isNN, Qm, intCmp, Qz, QA, TyI.agg, Qb, Qs, Qd, Qr, QL, QB, Qp, mapOf, Qx, Qo, Qf, Qi, Qg, Qu, DV.cells, Qt, Qh, Qq, Qv, rowsOf, Qw, Qe, Qa, Qa.go, Qj, Qk, Qc, goInt, init, QU, QM.one, Enc.i64, Enc.int, Qab]
  refine hK _ _ ?_ rfl; clear hK K
  refine Dwp.step tT rfl fun K hK => ?_
  simp [QD, QE, Qn, QI, own, Ql, dop, QJ, eval, Qy, QF, Ex.then, Ex.inBlock, upd, QK, Tag.isNN, Qm, intCmp, Qz, QA, TyI.agg, Qb, Qs, Qd, Qr, QL, QB, Qp, mapOf, Qx, Qo, Qf, Qi, Qg, Qu, DV.cells, Qt, Qh, Qq, Qv, rowsOf, Qw, Qe, Qa, Qa.go, Qj, Qk, Qc, goInt, init, Qab, Qaa, ty3, ty9, Q9, setAt]
  refine hK _ _ (Dwp.ret ?_) rfl
  simp [QZ, QH, QV, frz, QX, QW, upd, Qz, Qab, QA, TyI.agg, Enc.tm, Enc.agg, QM.tm, Tm.decL, Tm.QgV, nmT]
theorem e52 : Go.FA.Good Tryz.prog (52, sT52) := ⟨c52, Tryz.f52, _, Tryz.func52, rfl, by decide⟩
theorem call52 (T : Tab) (hT : T 52 = some sT52) (n : Int) : dcall T 52 [.lit (.int .i64 n)] = some (.agg (nmT n).cells) :=
  QaC (A := Enc.i64) (B := Enc.tm) hT rfl
open Classical in
theorem call23d (T : Tab) (hT : T 23 = some s23) (cs : List DV) (t : Tm) (hd : Tm.decL cs = some t) (h : okT t) (h2 : tsz t ≤ tlim) : dcall T 23 [.agg cs] = some (.lit (.bool (Qav t))) := by
  simp [dcall, hT, s23, sp, QU, QM.one, Enc.tm, Enc.agg, QM.tm, hd, h, h2, Enc.bool]
theorem num_ok (n : Int) : okT (nmT n) := by
  unfold nmT
  rw [okT]
  exact ⟨Nat.zero_le _, Nat.zero_le _, Nat.zero_le _, Nat.zero_le _, trivial, trivial⟩
theorem rep_ok (n : Int) : ∀ N, QfK (List.replicate N (nmT n))
  | 0 => by simp [QfK]
  | N + 1 => by rw [List.replicate_succ]; exact ⟨num_ok n, rep_ok n N⟩
theorem rep_tsz (n : Int) : ∀ N, Qa3 (List.replicate N (nmT n)) = N
  | 0 => by simp [Qa3]
  | N + 1 => by rw [List.replicate_succ, Qa3, rep_tsz n N]; simp [nmT, tsz, Qa3]; omega
theorem num_all {n : Int} (h0 : 0 ≤ n) (h : n ≤ 255) : Qij (nmT n) = true := by
  simp [nmT, Qij, Qby, Qen, Qbu]; omega
theorem rep_all {n : Int} (h0 : 0 ≤ n) (h : n ≤ 255) : ∀ N, Qbu (List.replicate N (nmT n)) = true
  | 0 => by simp [Qbu]
  | N + 1 => by rw [List.replicate_succ, Qbu, num_all h0 h, rep_all h0 h N]; rfl
theorem rep_dep (n : Int) : ∀ N, 0 ≤ Qbo (List.replicate N (nmT n)) ∧ Qbo (List.replicate N (nmT n)) ≤ 1
  | 0 => by simp [Qbo]
  | N + 1 => by
    have := rep_dep n N
    rw [List.replicate_succ, Qbo]
    have h1 : Qgt (nmT n) = 1 := by simp [nmT, Qgt, Qbo, mxI]
    rw [h1]
    have := QhB 1 (Qbo (List.replicate N (nmT n)))
    omega
theorem list_valid {n : Int} (h0 : 0 ≤ n) (h : n ≤ 255) (N : Nat) : Qav (listT n N) = decide ((N : Int) + 1 ≤ 2000) := by
  have h1 := rep_tsz n N
  have h2 := rep_dep n N
  have h3 := QhB (Qbo (List.replicate N (nmT n))) 0
  simp only [Qav, listT, Qij, tsz, Qgt, rep_all h0 h N, Qbu, Qa3, Qbo, h1]
  have hn : Qby (.mk 7 0 ⟨#[]⟩ ⟨#[]⟩ (List.replicate N (nmT n)) []) = true := by simp [Qby, QdJ]
  simp only [hn, Bool.true_and, Bool.and_true]
  have hd : decide (1 + mxI (Qbo (List.replicate N (nmT n))) 0 ≤ 60) = true := by simp; omega
  rw [hd, Bool.and_true]
  exact decide_eq_decide.2 (by omega)
theorem nest_siz : ∀ m, tsz (nestT m) = m + 1 ∧ Qgt (nestT m) = (m : Int) + 1 ∧ Qij (nestT m) = true ∧ okT (nestT m)
  | 0 => by
    refine ⟨by simp [nestT, nmT, tsz, Qa3], by simp [nestT, nmT, Qgt, Qbo, mxI], num_all (by omega) (by omega), num_ok 1⟩
  | m + 1 => by
    obtain ⟨h1, h2, h3, h4⟩ := nest_siz m
    refine ⟨by simp [nestT, tsz, Qa3, h1]; omega, ?_, ?_, ?_⟩
    · simp only [nestT, Qgt, Qbo, h2, mxI]; repeat' split
      all_goals omega
    · simp [nestT, Qij, Qbu, h3, Qby, QdJ]
    · rw [nestT, okT]
      exact ⟨Nat.zero_le _, Nat.zero_le _, by simp, Nat.zero_le _, ⟨h4, trivial⟩, trivial⟩
theorem nest_valid (m : Nat) (hm : m ≤ 100) : Qav (nestT m) = decide ((m : Int) + 1 ≤ 60) := by
  obtain ⟨h1, h2, h3, h4⟩ := nest_siz m
  simp only [Qav, h1, h2, h3, Bool.true_and]
  have : decide (m + 1 ≤ 2000) = true := by simp; omega
  rw [this, Bool.true_and]
def sT7 : Sp := sp (QS (Enc.int .u8) (Enc.int .u8)) Enc.bool (fun x => if 0 ≤ x.1 ∧ x.1 ≤ 255 ∧ 0 ≤ x.2 ∧ x.2 ≤ 255 then some true else none)
noncomputable abbrev TL7 : Tab := QG [(22, s22x), (23, s23), (52, sT52)]
theorem tabL7 : QP Tryz.prog TL7 := .cons e22x (.cons e23 (.cons e52 .nil))
def deepC : Nat → List DV
  | 0 => (nmT 1).cells
  | m + 1 => [.lit (.int .i64 7), .lit (.int .i64 0), .lit (.string ⟨#[]⟩), .lit (.string ⟨#[]⟩), .slice 6 .full [deepC m], .lit (.slice none 0 0)]
theorem deepC_len : ∀ m, (deepC m).length = 6
  | 0 => Tm.cells_len _
  | m + 1 => rfl
theorem deepC_dec : ∀ m, Tm.decL (deepC m) = some (nestT m)
  | 0 => Tm.dec_cells _
  | m + 1 => by simp [deepC, Tm.decL, Tm.QgV, Tm.Qgo, deepC_dec m, nestT]
theorem set6d (a b c d e f : DV) (m : Nat) : setAt [a, b, c, d, e, f] 0 (deepC m) = deepC m := by
  have h := deepC_len m
  match deepC m, h with
  | [u, v, w, x, y, z], _ => simp [setAt]
theorem deepC_six (m : Nat) : ∃ u v w x y z, deepC m = [u, v, w, x, y, z] := by
  have h := deepC_len m
  match deepC m, h with
  | [u, v, w, x, y, z], _ => exact ⟨u, v, w, x, y, z, rfl⟩
theorem takeD (m : Nat) : (deepC m).take 6 = deepC m := List.take_of_length_le (by rw [deepC_len]; omega)
theorem rows_dec (n : Int) : ∀ i, Tm.Qgo (List.replicate i (nmT n).cells) = some (List.replicate i (nmT n))
  | 0 => by simp [Tm.Qgo]
  | i + 1 => by simp [List.replicate_succ, Tm.Qgo, Tm.dec_cells, rows_dec n i]
set_option maxHeartbeats 4000000 in
theorem cL7 : QC Tryz.prog 7 sT7 := by
  refine QC.of_sp (T := TL7) Tryz.func7 rfl (Nat.le_of_ble_eq_true rfl) fun E xx y hy => ?_
  obtain ⟨n, m⟩ := xx
  simp only [] at hy
  split at hy
  case isFalse => cases hy
  next hlim =>
  obtain ⟨hn0, hn1, hm0, hm1⟩ := hlim
  cases hy
  have tT := tabL7
  have ga := call22 TL7 rfl
  have gn := fun k => call52 TL7 rfl k
  have gv := fun cs t h1 h2 h3 => call23d TL7 rfl cs t h1 h2 h3
  generalize TL7 = T at *
  obtain ⟨q, hq⟩ : ∃ q, q = n.tmod 3 := ⟨_, rfl⟩
  obtain ⟨p, hp⟩ : ∃ p, p = m.tmod 3 := ⟨_, rfl⟩
  have hq' : 0 ≤ q ∧ q ≤ 2 := by rw [hq, Int.tmod_eq_emod_of_nonneg hn0]; omega
  have hp' : 0 ≤ p ∧ p ≤ 2 := by rw [hp, Int.tmod_eq_emod_of_nonneg hm0]; omega
  have wq : IntKind.i64.wrap q = q := Qdu (by omega) (by omega)
  have wp : IntKind.i64.wrap p = p := Qdu (by omega) (by omega)
  have wn : IntKind.i64.wrap n = n := Qdu (by omega) (by omega)
  obtain ⟨N, hN⟩ : ∃ N : Nat, (N : Int) = 1998 + q := ⟨(1998 + q).toNat, by omega⟩
  obtain ⟨M, hM⟩ : ∃ M : Nat, (M : Int) = 58 + p := ⟨(58 + p).toNat, by omega⟩
  have w1 : IntKind.i64.wrap (1999 + q) = (N : Int) + 1 := by rw [Qdu (by omega) (by omega)]; omega
  have w2 : IntKind.i64.wrap (59 + p) = (M : Int) + 1 := by rw [Qdu (by omega) (by omega)]; omega
  have w3 : IntKind.i64.wrap (N : Int) = N := Qdu (by omega) (by omega)
  have w4 : IntKind.i64.wrap (M : Int) = M := Qdu (by omega) (by omega)
  simp only [QS, QM.one, QM.and, Enc.int]
  refine Dwp.step tT rfl fun K hK => ?_
  simp [QD, QE, Qn, QI, own, Ql, dop, QJ, eval, Qy, QF, Ex.then, Ex.inBlock, upd, QK, Tag.isNN, Qm, intCmp, Qz, QA, TyI.agg, Qb, Qs, Qd, Qr, QL, QB, Qp, mapOf, Qx, Qo, Qf, Qi, Qg, Qu, DV.cells, Qt, Qh, Qq, Qv, rowsOf, Qw, Qe, Qa, Qa.go, Qj, Qk, Qc, goInt, init]
  refine hK _ _ ?_ rfl; clear hK K
  refine Dwp.step tT rfl fun K hK => ?_
  simp [QD, QE, Qn, QI, own, Ql, dop, QJ, eval, Qy, QF, Ex.then, Ex.inBlock, upd, QK, Tag.isNN, Qm, intCmp, Qz, QA, TyI.agg, Qb, Qs, Qd, Qr, QL, QB, Qp, mapOf, Qx, Qo, Qf, Qi, Qg, Qu, DV.cells, Qt, Qh, Qq, Qv, rowsOf, Qw, Qe, Qa, Qa.go, Qj, Qk, Qc, goInt, init, ty5, ty3, Qe6, dconv, ← hq, wq, w1]
  refine hK _ _ ?_ rfl; clear hK K
  refine Dwp.step tT rfl fun K hK => ?_
  simp [QD, QE, Qn, QI, own, Ql, dop, QJ, eval, Qy, QF, Ex.then, Ex.inBlock, upd, QK, Tag.isNN, Qm, intCmp, Qz, QA, TyI.agg, Qb, Qs, Qd, Qr, QL, QB, Qp, mapOf, Qx, Qo, Qf, Qi, Qg, Qu, DV.cells, Qt, Qh, Qq, Qv, rowsOf, Qw, Qe, Qa, Qa.go, Qj, Qk, Qc, goInt, init, Qab, Qaa, ty3, ty9, Q9, setAt]
  refine hK _ _ ?_ rfl; clear hK K
  refine Dwp.seq ?_
  generalize hid : σ0.n + 1 + 5 + 1 = id
  have hidn : id < σ0.n + 1 + 5 + 3 := by omega
  have gn1 := gn n
  simp only [nmT, QR, List.map_nil] at gn1
  refine Dwp.block (Dwp.loop (fun k a σ => ∃ (i : Nat) (d4 : DV), i ≤ N ∧ k = N - i ∧ a 0 = .lit (.int .u8 n) ∧ a 1 = .lit (.int .u8 m) ∧ a 5 = .lit (.int .i64 ((N : Int) + 1)) ∧ a 6 = .ptr id 0 ∧ id < σ.n ∧
      σ.objs id = some (.cells 30 [.lit (.int .i64 7), .lit (.int .i64 0), .lit (.string ⟨#[]⟩), .lit (.string ⟨#[]⟩), d4, .lit (.slice none 0 0)]) ∧
      ((i = 0 ∧ d4 = .lit (.slice none 0 0)) ∨ ∃ tk g, d4 = .slice 6 (.tok tk g) (List.replicate i (nmT n).cells) ∧ σ.toks tk = some g)) N
    ⟨0, .lit (.slice none 0 0), Nat.zero_le _, rfl, by simp [upd, init], by simp [upd, init], by simp [upd, wq, w1], by simp [upd], hidn, by simp [upd], .inl ⟨rfl, rfl⟩⟩ ?_)
  rintro k a σ ⟨i, d4, hi, rfl, h0, h1, h5, h6, hidl, hob, hL⟩
  have hlen : (i = 0 ∧ d4 = .lit (.slice none 0 0)) ∨ ∃ t rows, d4 = .slice 6 t rows ∧ rows.length = i := by
    rcases hL with h | ⟨tk, g, h, _⟩
    · exact .inl h
    · exact .inr ⟨_, _, h, by simp⟩
  by_cases hlt : i < N
  · have hlt' : (i : Int) < (N : Int) := by omega
    have hlt0 : (0 : Int) < (N : Int) := by omega
    refine Dwp.seq ?_
    refine Dwp.step tT rfl fun K hK => ?_
    have cont : ∀ a' σ', a' 19 = .lit (.bool true) → a' 0 = a 0 → a' 1 = a 1 → a' 5 = a 5 → a' 6 = a 6 → σ'.objs = σ.objs → σ'.toks = σ.toks → σ'.n = σ.n → K a' σ' := by
      intro a' σ' h19 q0 q1 q5 q6 qo qt qn
      refine hK _ _ ?_ qn
      rw [h0] at q0; rw [h1] at q1; rw [h5] at q5; rw [h6] at q6
      refine Dwp.condT (by simp [eval, h19]) (Dwp.skip ?_)
      refine Dwp.block ?_
      have hgl : i + 1 ≤ Qe := by unfold Qe; omega
      rcases hL with ⟨rfl, rfl⟩ | ⟨tk, g, rfl, htk⟩
      · refine Dwp.draw [.none, .robj id, .none, .none, .none, .none, .tok, .none, .wobj id] mixed tT rfl rfl fun K hK => ?_
        simp [Qbj, touch, QaE, Qck, QD, QE, Qn, QI, own, Ql, dop, QJ, eval, Qy, QF, Ex.then, Ex.inBlock, upd, QK, Tag.isNN, Qm, intCmp, Qz, QA, TyI.agg, Qb, Qs, Qd, Qr, QL, QB, Qp, mapOf, Qx, Qo, Qf, Qi, Qg, Qu, DV.cells, Qt, Qh, Qq, Qv, rowsOf, Qw, Qe, Qa, Qa.go, Qj, Qk, Qc, goInt, q0, q6, qo, qt, hob, Qab, Q9, ty3, ty5, dconv, wn, gn1, setAt, hgl]
        refine hK _ _ ?_ rfl; clear hK K
        have hfin : ([[DV.lit (.int .i64 1), .lit (.int .i64 n), .lit (.string ⟨#[]⟩), .lit (.string ⟨#[]⟩), .slice 6 .none [], .slice 6 .none []]] : List (List DV)) = List.replicate 1 (nmT n).cells := by simp [nmT, QR]
        exact ⟨N - 1, by omega, 1, .slice 6 (.tok (σ.n + 6 + 6) 0) [[DV.lit (.int .i64 1), .lit (.int .i64 n), .lit (.string ⟨#[]⟩), .lit (.string ⟨#[]⟩), .slice 6 .none [], .slice 6 .none []]], by omega, rfl, by simp [upd, q0], by simp [upd, q1], by simp [upd, q5], by simp [upd, q6], by simp only []; omega, by simp [upd], .inr ⟨σ.n + 6 + 6, 0, by rw [← hfin], by simp [upd]⟩⟩
      · refine Dwp.draw [.none, .robj id, .none, .none, .none, .none, .tok, .none, .wobj id] mixed tT rfl rfl fun K hK => ?_
        simp [Qbj, touch, QaE, Qck, QD, QE, Qn, QI, own, Ql, dop, QJ, eval, Qy, QF, Ex.then, Ex.inBlock, upd, QK, Tag.isNN, Qm, intCmp, Qz, QA, TyI.agg, Qb, Qs, Qd, Qr, QL, QB, Qp, mapOf, Qx, Qo, Qf, Qi, Qg, Qu, DV.cells, Qt, Qh, Qq, Qv, rowsOf, Qw, Qe, Qa, Qa.go, Qj, Qk, Qc, goInt, q0, q6, qo, qt, hob, Qab, Q9, ty3, ty5, dconv, wn, gn1, setAt, htk, show i ≤ 16777215 by omega]
        refine hK _ _ ?_ rfl; clear hK K
        have hfin : (List.replicate i (nmT n).cells ++ [[DV.lit (.int .i64 1), .lit (.int .i64 n), .lit (.string ⟨#[]⟩), .lit (.string ⟨#[]⟩), .slice 6 .none [], .slice 6 .none []]] : List (List DV)) = List.replicate (i + 1) (nmT n).cells := by rw [List.replicate_succ']; simp [nmT, QR]
        exact ⟨N - (i + 1), by omega, i + 1, .slice 6 (.tok tk (g + 1)) (List.replicate i (nmT n).cells ++ [[DV.lit (.int .i64 1), .lit (.int .i64 n), .lit (.string ⟨#[]⟩), .lit (.string ⟨#[]⟩), .slice 6 .none [], .slice 6 .none []]]), by omega, rfl, by simp [upd, q0], by simp [upd, q1], by simp [upd, q5], by simp [upd, q6], by simp only []; omega, by simp [upd], .inr ⟨tk, g + 1, by rw [← hfin], by simp [upd]⟩⟩
    rcases hlen with ⟨rfl, rfl⟩ | ⟨t, rows, rfl, hrl⟩
    · simp [QD, QE, Qn, QI, own, Ql, dop, QJ, eval, Qy, QF, Ex.then, Ex.inBlock, upd, QK, Tag.isNN, Qm, intCmp, Qz, QA, TyI.agg, Qb, Qs, Qd, Qr, QL, QB, Qp, mapOf, Qx, Qo, Qf, Qi, Qg, Qu, DV.cells, Qt, Qh, Qq, Qv, rowsOf, Qw, Qe, Qa, Qa.go, Qj, Qk, Qc, goInt, h6, hob, Qab, Q9, ty3, h5, w3, hlt0, show 0 < N by omega]
      exact cont _ _ (by simp [upd]) (by simp [upd]) (by simp [upd]) (by simp [upd]) (by simp [upd]) rfl rfl rfl
    · simp [QD, QE, Qn, QI, own, Ql, dop, QJ, eval, Qy, QF, Ex.then, Ex.inBlock, upd, QK, Tag.isNN, Qm, intCmp, Qz, QA, TyI.agg, Qb, Qs, Qd, Qr, QL, QB, Qp, mapOf, Qx, Qo, Qf, Qi, Qg, Qu, DV.cells, Qt, Qh, Qq, Qv, rowsOf, Qw, Qe, Qa, Qa.go, Qj, Qk, Qc, goInt, h6, hob, Qab, Q9, ty3, h5, w3, hrl, hlt']
      exact cont _ _ (by simp [upd]) (by simp [upd]) (by simp [upd]) (by simp [upd]) (by simp [upd]) rfl rfl rfl
  have hiN : i = N := by omega
  subst hiN
  have hlt' : ¬ (i : Int) < (i : Int) := by omega
  refine Dwp.seq ?_
  refine Dwp.step tT rfl fun K hK => ?_
  have cont : ∀ a' σ', a' 19 = .lit (.bool false) → a' 0 = a 0 → a' 1 = a 1 → a' 5 = a 5 → a' 6 = a 6 → σ'.objs = σ.objs → σ'.toks = σ.toks → σ'.n = σ.n → K a' σ' := by
    intro a' σ' h19 q0 q1 q5 q6 qo qt qn
    refine hK _ _ ?_ qn
    clear hK K
    have hidl0 : id < σ.n := hidl
    rw [h0] at q0; rw [h1] at q1; rw [h5] at q5; rw [h6] at q6
    rw [← qo] at hob
    rw [← qn] at hidl
    rw [← qt] at hL
    clear qo qn qt h0 h1 h5 h6
    refine Dwp.condF (by simp [eval, h19]) (Dwp.exit ?_)
    refine Dwp.step tT rfl fun K hK => ?_
    simp [QD, QE, Qn, QI, own, Ql, dop, QJ, eval, Qy, QF, Ex.then, Ex.inBlock, upd, QK, Tag.isNN, Qm, intCmp, Qz, QA, TyI.agg, Qb, Qs, Qd, Qr, QL, QB, Qp, mapOf, Qx, Qo, Qf, Qi, Qg, Qu, DV.cells, Qt, Qh, Qq, Qv, rowsOf, Qw, Qe, Qa, Qa.go, Qj, Qk, Qc, goInt, q1, ty5, ty3, Qe6, dconv, ← hp, wp, w2]
    refine hK _ _ ?_ rfl; clear hK K
    have gn2 := gn 1
    refine Dwp.step tT rfl fun K hK => ?_
    simp [QD, QE, Qn, QI, own, Ql, dop, QJ, eval, Qy, QF, Ex.then, Ex.inBlock, upd, QK, Tag.isNN, Qm, intCmp, Qz, QA, TyI.agg, Qb, Qs, Qd, Qr, QL, QB, Qp, mapOf, Qx, Qo, Qf, Qi, Qg, Qu, DV.cells, Qt, Qh, Qq, Qv, rowsOf, Qw, Qe, Qa, Qa.go, Qj, Qk, Qc, goInt, gn2, Qab, Tm.cells_len, Q8, set6]
    refine hK _ _ ?_ rfl; clear hK K
    have hid8 : id < σ.n + 6 + 5 + 1 := by omega
    have hne8 : ¬ id = σ.n + 6 + 5 + 1 := by omega
    generalize σ.n + 6 + 5 + 1 = id8 at *
    refine Dwp.seq ?_
    refine Dwp.step tT rfl fun K hK => ?_
    simp [QD, QE, Qn, QI, own, Ql, dop, QJ, eval, Qy, QF, Ex.then, Ex.inBlock, upd, QK, Tag.isNN, Qm, intCmp, Qz, QA, TyI.agg, Qb, Qs, Qd, Qr, QL, QB, Qp, mapOf, Qx, Qo, Qf, Qi, Qg, Qu, DV.cells, Qt, Qh, Qq, Qv, rowsOf, Qw, Qe, Qa, Qa.go, Qj, Qk, Qc, goInt, w4]
    refine hK _ _ ?_ rfl; clear hK K
    have hne8' : ¬ id8 = id := fun e => hne8 e.symm
    refine Dwp.range tT M (fun j a τ => a 5 = .lit (.int .i64 ((i : Int) + 1)) ∧ a 6 = .ptr id 0 ∧ a 7 = .lit (.int .i64 ((M : Int) + 1)) ∧ a 8 = .ptr id8 0 ∧
        τ.objs id = some (.cells 30 [.lit (.int .i64 7), .lit (.int .i64 0), .lit (.string ⟨#[]⟩), .lit (.string ⟨#[]⟩), d4, .lit (.slice none 0 0)]) ∧ τ.objs id8 = some (.cells 30 (deepC j)))
      ⟨rfl, rfl, rfl⟩ ⟨rfl, rfl, rfl⟩ ⟨rfl, rfl, rfl⟩ (by decide) (by decide) (by omega) (by simp [upd]) (by simp [upd, w4]) ⟨by simp [upd, q5], by simp [upd, q6], by simp [upd, w2], by simp [upd], by simp [upd, hne8, hob], by simp [upd, deepC]⟩ ?_ ?_
    · rintro j a τ hj hidx hlen2 ⟨g5, g6, g7, g8, go, go8⟩
      obtain ⟨u1, u2, u3, u4, u5, u6, hdc⟩ := deepC_six j
      have hd1 : deepC (j + 1) = [.lit (.int .i64 7), .lit (.int .i64 0), .lit (.string ⟨#[]⟩), .lit (.string ⟨#[]⟩), .slice 6 .full [[u1, u2, u3, u4, u5, u6]], .lit (.slice none 0 0)] := by rw [deepC, hdc]
      rw [hdc] at go8
      refine Dwp.reg tT rfl fun K hK => ?_
      simp [QD, QE, Qn, QI, own, Ql, dop, QJ, eval, Qy, QF, Ex.then, Ex.inBlock, upd, QK, Tag.isNN, Qm, intCmp, Qz, QA, TyI.agg, Qb, Qs, Qd, Qr, QL, QB, Qp, mapOf, Qx, Qo, Qf, Qi, Qg, Qu, DV.cells, Qt, Qh, Qq, Qv, rowsOf, Qw, Qe, Qa, Qa.go, Qj, Qk, Qc, goInt, g8, go8, Qab, Q9, Qaa, ty3, ty9, setAt]
      refine hK _ _ ?_ rfl
      exact ⟨by simp [upd, hidx], by simp [upd, hlen2], by simp [upd, g5], by simp [upd, g6], by simp [upd, g7], by simp [upd, g8], by simp [upd, hne8, go], by simp [upd, hd1]⟩
    · rintro a τ hidx hlen2 ⟨g5, g6, g7, g8, go, go8⟩
      have hs := nest_siz M
      have vd := gv (deepC M) (nestT M) (deepC_dec M) hs.2.2.2 (by rw [hs.1]; unfold tlim; omega)
      rw [nest_valid M (by omega)] at vd
      have hdl : Tm.decL [.lit (.int .i64 7), .lit (.int .i64 0), .lit (.string ⟨#[]⟩), .lit (.string ⟨#[]⟩), d4, .lit (.slice none 0 0)] = some (listT n i) := by
        rcases hL with ⟨rfl, rfl⟩ | ⟨tk, g, rfl, _⟩
        · simp [Tm.decL, Tm.QgV, listT]
        · simp [Tm.decL, Tm.QgV, listT, rows_dec]
      have vl := gv _ (listT n i) hdl (by
        rw [listT, okT]
        exact ⟨Nat.zero_le _, Nat.zero_le _, by simp; omega, Nat.zero_le _, rep_ok n i, trivial⟩) (by
        have := rep_tsz n i
        rw [listT, tsz, this]; simp only [Qa3]; unfold tlim; omega)
      rw [list_valid hn0 hn1 i] at vl
      have hi3 : i = 1998 ∨ i = 1999 ∨ i = 2000 := by omega
      have hM3 : M = 58 ∨ M = 59 ∨ M = 60 := by omega
      have htk := takeD M
      have hdl6 := deepC_len M
      generalize deepC M = dc at *
      clear hL hdl hs hlt hob hi gv gn gn1 gn2
      obtain ⟨u1, u2, u3, u4, u5, u6, hdc⟩ : ∃ u v w x y z, dc = [u, v, w, x, y, z] := by
        match dc, hdl6 with
        | [u, v, w, x, y, z], _ => exact ⟨u, v, w, x, y, z, rfl⟩
      subst hdc
      clear htk hdl6
      refine Dwp.step tT rfl fun K hK => ?_
      rcases hi3 with rfl | rfl | rfl <;> rcases hM3 with rfl | rfl | rfl <;> (
        simp at vl vd g5 g7
        simp [QD, QE, Qn, QI, own, Ql, dop, QJ, eval, Qy, QF, Ex.then, Ex.inBlock, upd, QK, Tag.isNN, Qm, intCmp, Qz, QA, TyI.agg, Qb, Qs, Qd, Qr, QL, QB, Qp, mapOf, Qx, Qo, Qf, Qi, Qg, Qu, DV.cells, Qt, Qh, Qq, Qv, rowsOf, Qw, Qe, Qa, Qa.go, Qj, Qk, Qc, goInt, g5, g6, g7, g8, go, go8, Qab, ty3, ty4, vl, vd, ga]
        refine hK _ _ (Dwp.ret ?_) rfl
        exact Qay Tryz.func7 rfl _ (by simp [upd]))
  rcases hlen with ⟨rfl, rfl⟩ | ⟨t, rows, rfl, hrl⟩
  · omega
  · simp [QD, QE, Qn, QI, own, Ql, dop, QJ, eval, Qy, QF, Ex.then, Ex.inBlock, upd, QK, Tag.isNN, Qm, intCmp, Qz, QA, TyI.agg, Qb, Qs, Qd, Qr, QL, QB, Qp, mapOf, Qx, Qo, Qf, Qi, Qg, Qu, DV.cells, Qt, Qh, Qq, Qv, rowsOf, Qw, Qe, Qa, Qa.go, Qj, Qk, Qc, goInt, h6, hob, Qab, Q9, ty3, h5, w3, hrl, hlt']
    exact cont _ _ (by simp [upd]) (by simp [upd]) (by simp [upd]) (by simp [upd]) (by simp [upd]) rfl rfl rfl
end Go.Proofs.Yt
