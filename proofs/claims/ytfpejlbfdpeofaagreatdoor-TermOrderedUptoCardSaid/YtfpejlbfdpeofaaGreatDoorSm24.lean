/- Contracts of functions of the program, by a machine over abstract values; part 25. No condition beyond those of each theorem. -/
import Derived.Test.YtfpejlbfdpeofaaGreatDoorSm23
set_option linter.unusedVariables false
set_option linter.unusedSimpArgs false
namespace Go.Proofs.Yt
open Go Go.FA Go.Proofs Go.RowKit
set_option linter.unusedSimpArgs false
set_option maxRecDepth 100000
def Qjt (t u : Tm) : Int × Int := if Qav t = true ∧ Qav u = true then (Qhz t u, 0) else (0, 2)
theorem cmpE_ordE (t u : Tm) : Qjx t u = Qjt t u := by
  unfold Qjx Qjt
  split
  · next h => rw [Qi7 t u (Qgz h.1) (Qgz h.2)]
  · rfl
open Classical in
noncomputable def sT34 : Sp := sp (QS Enc.tm Enc.tm) Enc.i2 (fun x => if (okT x.1 ∧ tsz x.1 ≤ tlim) ∧ okT x.2 ∧ tsz x.2 ≤ tlim then some (Qjt x.1 x.2) else none)
set_option maxHeartbeats 2000000 in
theorem c34 : QC Tryz.prog 34 sT34 := by
  refine QC.of_sp (T := QG [(24, sT24), (89, s89 tlim)]) Tryz.func34 rfl (Nat.le_of_ble_eq_true rfl) fun E xx y hy => ?_
  obtain ⟨t, u⟩ := xx
  simp only [] at hy
  split at hy
  case isFalse => cases hy
  next hlim =>
  obtain ⟨⟨ho1, hl1⟩, ho2, hl2⟩ := hlim
  cases hy
  have tT : QP Tryz.prog (QG [(24, sT24), (89, s89 tlim)]) := .cons e24 (.cons e89 .nil)
  have g1 := Qj7 (QG [(24, sT24), (89, s89 tlim)]) rfl t ho1 hl1
  have g2 := Qj7 (QG [(24, sT24), (89, s89 tlim)]) rfl u ho2 hl2
  have g3 := QjZ (QG [(24, sT24), (89, s89 tlim)]) rfl t u hl1 hl1 hl2
  generalize QG [(24, sT24), (89, s89 tlim)] = T at *
  have fin : ∀ (x : Int × Int) (a : Nat → DV) (σ : St), a 4 = .lit (.int .i64 x.1) → a 5 = .lit (.int .i64 x.2) → QZ Tryz.prog Tryz.f34.results Enc.i2 x Ex.ret a σ := by
    intro x a σ h4 h5
    refine ⟨.inr rfl, .tuple [.lit (.int .i64 x.1), .lit (.int .i64 x.2)], ?_, by simp [QZ, QH, QV, frz, QX, QW, Enc.i2, Enc.tup, QS, QM.and, QM.one, Enc.i64, Enc.int]⟩
    show QH Tryz.prog σ a [ResultVar.tmp 4, ResultVar.tmp 5] = _
    simp [QH, QV, h4, h5]
  clear ho1 hl1 ho2 hl2
  refine Dwp.step tT rfl fun K hK => ?_
  simp [QD, QE, Qn, QI, own, Ql, dop, QJ, eval, Qy, QF, Ex.then, Ex.inBlock, upd, QK, Tag.isNN, Qm, intCmp, Qz, QA, TyI.agg, Qb, Qs, Qd, Qr, QL, QB, Qp, mapOf, Qx, Qo, Qf, Qi, Qg, Qu, DV.cells, Qt, Qh, Qq, Qv, rowsOf, Qw, Qe, Qa, Qa.go, Qj, Qk, Qc, goInt, init, QS, QM.one, QM.and, Enc.tm, Enc.agg, QM.tm, Tm.cells_len, Q8]
  refine hK _ _ ?_ rfl; clear hK K
  refine Dwp.seq ?_
  refine Dwp.step tT rfl fun K hK => ?_
  have bad : ∀ a' σ', a' 13 = .lit (.bool true) → Qjt t u = (0, 2) → σ'.n = σ0.n + 4 → K a' σ' := by
    intro a' σ' h13 hc hn
    refine hK _ _ ?_ hn
    refine Dwp.condT (by simp [eval, h13]) ?_
    refine Dwp.step tT rfl fun K hK => ?_
    simp [QD, QE, Qn, QI, own, Ql, dop, QJ, eval, Qy, QF, Ex.then, Ex.inBlock, upd, QK, Tag.isNN, Qm, intCmp, Qz, QA, TyI.agg, Qb, Qs, Qd, Qr, QL, QB, Qp, mapOf, Qx, Qo, Qf, Qi, Qg, Qu, DV.cells, Qt, Qh, Qq, Qv, rowsOf, Qw, Qe, Qa, Qa.go, Qj, Qk, Qc, goInt]
    refine hK _ _ (Dwp.ret ?_) rfl
    rw [hc]
    exact fin (0, 2) _ _ (by simp [upd]) (by simp [upd])
  rcases h1 : Qav t with _ | _
  · rw [h1] at g1
    repeat' ((first | refine QF.stepD rfl rfl ?_ | refine QF.stepG rfl rfl rfl ?_ | refine QF.stepN rfl rfl ?_ | refine QF.stepGN rfl rfl rfl ?_); intro K1 hK1; simp [*, QQ, QN, QI, dop, eval, Qy, upd, Qb, Qs, Qz, QA, TyI.agg, Qd, Qr, Qi, Qg, QB, QL, goInt, QK, intCmp, Qm, Tag.isNN, Qc, DV.cells, Qe, Qt, Qh, init, Qaa, ty3, ty9, Q9, Qab, Ql, Tm.cells_len, Q8]; (first | (refine hK1 _ _ ?_; clear hK1 K1) | (split <;> (rename_i hsp; (try simp only [beq_iff_eq, beq_eq_false_iff_ne, ne_eq, decide_eq_true_eq, decide_eq_false_iff_not] at hsp); (try (first | have hsq := Int.not_le.2 hsp | have hsq := Int.not_lt.2 hsp | have hsq := Int.not_le.1 hsp | have hsq := Int.not_lt.1 hsp)); (try subst hsp); (try simp only [hsp])) <;> (refine hK1 _ _ ?_; clear hK1 K1))))
    exact QF.done (bad _ _ (by simp [upd]) (by simp [Qjt, h1]) rfl)
  rcases h2 : Qav u with _ | _
  · rw [h1] at g1
    rw [h2] at g2
    repeat' ((first | refine QF.stepD rfl rfl ?_ | refine QF.stepG rfl rfl rfl ?_ | refine QF.stepN rfl rfl ?_ | refine QF.stepGN rfl rfl rfl ?_); intro K1 hK1; simp [*, QQ, QN, QI, dop, eval, Qy, upd, Qb, Qs, Qz, QA, TyI.agg, Qd, Qr, Qi, Qg, QB, QL, goInt, QK, intCmp, Qm, Tag.isNN, Qc, DV.cells, Qe, Qt, Qh, init, Qaa, ty3, ty9, Q9, Qab, Ql, Tm.cells_len, Q8]; (first | (refine hK1 _ _ ?_; clear hK1 K1) | (split <;> (rename_i hsp; (try simp only [beq_iff_eq, beq_eq_false_iff_ne, ne_eq, decide_eq_true_eq, decide_eq_false_iff_not] at hsp); (try (first | have hsq := Int.not_le.2 hsp | have hsq := Int.not_lt.2 hsp | have hsq := Int.not_le.1 hsp | have hsq := Int.not_lt.1 hsp)); (try subst hsp); (try simp only [hsp])) <;> (refine hK1 _ _ ?_; clear hK1 K1))))
    exact QF.done (bad _ _ (by simp [upd]) (by simp [Qjt, h1, h2]) rfl)
  clear bad
  rw [h1] at g1
  rw [h2] at g2
  repeat' ((first | refine QF.stepD rfl rfl ?_ | refine QF.stepG rfl rfl rfl ?_ | refine QF.stepN rfl rfl ?_ | refine QF.stepGN rfl rfl rfl ?_); intro K1 hK1; simp [*, QQ, QN, QI, dop, eval, Qy, upd, Qb, Qs, Qz, QA, TyI.agg, Qd, Qr, Qi, Qg, QB, QL, goInt, QK, intCmp, Qm, Tag.isNN, Qc, DV.cells, Qe, Qt, Qh, init, Qaa, ty3, ty9, Q9, Qab, Ql, Tm.cells_len, Q8]; (first | (refine hK1 _ _ ?_; clear hK1 K1) | (split <;> (rename_i hsp; (try simp only [beq_iff_eq, beq_eq_false_iff_ne, ne_eq, decide_eq_true_eq, decide_eq_false_iff_not] at hsp); (try (first | have hsq := Int.not_le.2 hsp | have hsq := Int.not_lt.2 hsp | have hsq := Int.not_le.1 hsp | have hsq := Int.not_lt.1 hsp)); (try subst hsp); (try simp only [hsp])) <;> (refine hK1 _ _ ?_; clear hK1 K1))))
  refine QF.done (hK _ _ ?_ rfl)
  refine Dwp.condF (by simp [eval, upd]) (Dwp.skip ?_)
  refine Dwp.step tT rfl fun K hK => ?_
  simp [QD, QE, Qn, QI, own, Ql, dop, QJ, eval, Qy, QF, Ex.then, Ex.inBlock, upd, QK, Tag.isNN, Qm, intCmp, Qz, QA, TyI.agg, Qb, Qs, Qd, Qr, QL, QB, Qp, mapOf, Qx, Qo, Qf, Qi, Qg, Qu, DV.cells, Qt, Qh, Qq, Qv, rowsOf, Qw, Qe, Qa, Qa.go, Qj, Qk, Qc, goInt, init, Qab, Tm.cells_len, Q8, g3]
  refine hK _ _ (Dwp.ret ?_) rfl
  have hc : Qjt t u = (Qhz t u, 0) := by simp [Qjt, h1, h2]
  rw [hc]
  exact fin (Qhz t u, 0) _ _ (by simp [upd]) (by simp [upd])
theorem e34 : Go.FA.Good Tryz.prog (34, sT34) := ⟨c34, Tryz.f34, _, Tryz.func34, rfl, by decide⟩
open Classical in
theorem call33 (T : Tab) (hT : T 33 = some sT33) (t u : Tm) (h : okT t ∧ tsz t ≤ tlim) (h2 : okT u ∧ tsz u ≤ tlim) : dcall T 33 [.agg t.cells, .agg u.cells] = some (.tuple [.lit (.int .i64 (Qjx t u).1), .lit (.int .i64 (Qjx t u).2)]) :=
  QaL (A := Enc.tm) (B := Enc.tm) (C := Enc.i2) hT (if_pos ⟨h, h2⟩)
open Classical in
theorem call34 (T : Tab) (hT : T 34 = some sT34) (t u : Tm) (h : okT t ∧ tsz t ≤ tlim) (h2 : okT u ∧ tsz u ≤ tlim) : dcall T 34 [.agg t.cells, .agg u.cells] = some (.tuple [.lit (.int .i64 (Qjt t u).1), .lit (.int .i64 (Qjt t u).2)]) :=
  QaL (A := Enc.tm) (B := Enc.tm) (C := Enc.i2) hT (if_pos ⟨h, h2⟩)
theorem call22 (T : Tab) (hT : T 22 = some s22x) : dcall T 22 [] = some (.lit (.bool true)) := by
  simp [dcall, hT, s22x]
open Classical in
noncomputable def sT4 : Sp := sp (QS Enc.tm Enc.tm) Enc.bool (fun x => if (okT x.1 ∧ tsz x.1 ≤ tlim) ∧ okT x.2 ∧ tsz x.2 ≤ tlim then some true else none)
noncomputable abbrev TL4 : Tab := QG [(21, s21), (22, s22x), (33, sT33), (34, sT34), (35, s35 tlim), (36, s36 tlim)]
theorem tabL4 : QP Tryz.prog TL4 := .cons e21 (.cons e22x (.cons e33 (.cons e34 (.cons e35 (.cons e36 .nil)))))
set_option maxHeartbeats 2000000 in
theorem cL4 : QC Tryz.prog 4 sT4 := by
  refine QC.of_sp (T := TL4) Tryz.func4 rfl (Nat.le_of_ble_eq_true rfl) fun E xx y hy => ?_
  obtain ⟨t, u⟩ := xx
  simp only [] at hy
  split at hy
  case isFalse => cases hy
  next hlim =>
  obtain ⟨h1, h2⟩ := hlim
  cases hy
  have tT := tabL4
  have g1 := Qj9 TL4 rfl t h1.1
  have g2 := Qj9 TL4 rfl u h2.1
  have g3 := call22 TL4 rfl
  have g4 := call33 TL4 rfl t u h1 h2
  have g5 := call34 TL4 rfl t u h1 h2
  have g6 := QiN TL4 rfl t u h1.2 h1.2 h2.2
  have g7 := QjT TL4 rfl t u h1.2 h1.2 h2.2
  have g8 := QiN TL4 rfl t t h1.2 h1.2 h1.2
  rw [Qfl] at g8
  rw [cmpE_ordE] at g4
  generalize TL4 = T at *
  clear h1 h2
  refine Dwp.step tT rfl fun K hK => ?_
  simp [QD, QE, Qn, QI, own, Ql, dop, QJ, eval, Qy, QF, Ex.then, Ex.inBlock, upd, QK, Tag.isNN, Qm, intCmp, Qz, QA, TyI.agg, Qb, Qs, Qd, Qr, QL, QB, Qp, mapOf, Qx, Qo, Qf, Qi, Qg, Qu, DV.cells, Qt, Qh, Qq, Qv, rowsOf, Qw, Qe, Qa, Qa.go, Qj, Qk, Qc, goInt, init, QS, QM.one, QM.and, Enc.tm, Enc.agg, QM.tm, Tm.cells_len, Q8]
  refine hK _ _ ?_ rfl; clear hK K
  refine Dwp.seq ?_
  refine Dwp.step tT rfl fun K hK => ?_
  have bad : ∀ a' σ', a' 18 = .lit (.bool true) → σ'.n = σ0.n + 3 → K a' σ' := by
    intro a' σ' h13 hn
    refine hK _ _ ?_ hn
    refine Dwp.condT (by simp [eval, h13]) ?_
    refine Dwp.step tT rfl fun K hK => ?_
    simp [QD, QE, Qn, QI, own, Ql, dop, QJ, eval, Qy, QF, Ex.then, Ex.inBlock, upd, QK, Tag.isNN, Qm, intCmp, Qz, QA, TyI.agg, Qb, Qs, Qd, Qr, QL, QB, Qp, mapOf, Qx, Qo, Qf, Qi, Qg, Qu, DV.cells, Qt, Qh, Qq, Qv, rowsOf, Qw, Qe, Qa, Qa.go, Qj, Qk, Qc, goInt, g3]
    refine hK _ _ (Dwp.ret ?_) rfl
    exact Qay Tryz.func4 rfl _ (by simp [upd])
  generalize decide (0 ≤ QaA [t] 2600 0) = b1 at *
  generalize decide (0 ≤ QaA [u] 2600 0) = b2 at *
  cases b1
  ·
    repeat' ((first | refine QF.stepD rfl rfl ?_ | refine QF.stepG rfl rfl rfl ?_ | refine QF.stepN rfl rfl ?_ | refine QF.stepGN rfl rfl rfl ?_); intro K1 hK1; simp [*, QQ, QN, QI, dop, eval, Qy, upd, Qb, Qs, Qz, QA, TyI.agg, Qd, Qr, Qi, Qg, QB, QL, goInt, QK, intCmp, Qm, Tag.isNN, Qc, DV.cells, Qe, Qt, Qh, init, Qaa, ty3, ty9, Q9, Qab, Ql, Tm.cells_len, Q8]; (first | (refine hK1 _ _ ?_; clear hK1 K1) | (split <;> (rename_i hsp; (try simp only [beq_iff_eq, beq_eq_false_iff_ne, ne_eq, decide_eq_true_eq, decide_eq_false_iff_not] at hsp); (try (first | have hsq := Int.not_le.2 hsp | have hsq := Int.not_lt.2 hsp | have hsq := Int.not_le.1 hsp | have hsq := Int.not_lt.1 hsp)); (try subst hsp); (try simp only [hsp])) <;> (refine hK1 _ _ ?_; clear hK1 K1))))
    exact QF.done (bad _ _ (by simp [upd]) rfl)
  cases b2
  ·
    repeat' ((first | refine QF.stepD rfl rfl ?_ | refine QF.stepG rfl rfl rfl ?_ | refine QF.stepN rfl rfl ?_ | refine QF.stepGN rfl rfl rfl ?_); intro K1 hK1; simp [*, QQ, QN, QI, dop, eval, Qy, upd, Qb, Qs, Qz, QA, TyI.agg, Qd, Qr, Qi, Qg, QB, QL, goInt, QK, intCmp, Qm, Tag.isNN, Qc, DV.cells, Qe, Qt, Qh, init, Qaa, ty3, ty9, Q9, Qab, Ql, Tm.cells_len, Q8]; (first | (refine hK1 _ _ ?_; clear hK1 K1) | (split <;> (rename_i hsp; (try simp only [beq_iff_eq, beq_eq_false_iff_ne, ne_eq, decide_eq_true_eq, decide_eq_false_iff_not] at hsp); (try (first | have hsq := Int.not_le.2 hsp | have hsq := Int.not_lt.2 hsp | have hsq := Int.not_le.1 hsp | have hsq := Int.not_lt.1 hsp)); (try subst hsp); (try simp only [hsp])) <;> (refine hK1 _ _ ?_; clear hK1 K1))))
    exact QF.done (bad _ _ (by simp [upd]) rfl)
  clear bad
  repeat' ((first | refine QF.stepD rfl rfl ?_ | refine QF.stepG rfl rfl rfl ?_ | refine QF.stepN rfl rfl ?_ | refine QF.stepGN rfl rfl rfl ?_); intro K1 hK1; simp [*, QQ, QN, QI, dop, eval, Qy, upd, Qb, Qs, Qz, QA, TyI.agg, Qd, Qr, Qi, Qg, QB, QL, goInt, QK, intCmp, Qm, Tag.isNN, Qc, DV.cells, Qe, Qt, Qh, init, Qaa, ty3, ty9, Q9, Qab, Ql, Tm.cells_len, Q8]; (first | (refine hK1 _ _ ?_; clear hK1 K1) | (split <;> (rename_i hsp; (try simp only [beq_iff_eq, beq_eq_false_iff_ne, ne_eq, decide_eq_true_eq, decide_eq_false_iff_not] at hsp); (try (first | have hsq := Int.not_le.2 hsp | have hsq := Int.not_lt.2 hsp | have hsq := Int.not_le.1 hsp | have hsq := Int.not_lt.1 hsp)); (try subst hsp); (try simp only [hsp])) <;> (refine hK1 _ _ ?_; clear hK1 K1))))
  refine QF.done (hK _ _ ?_ rfl)
  refine Dwp.condF (by simp [eval, upd]) (Dwp.skip ?_)
  refine Dwp.step tT rfl fun K hK => ?_
  simp [QD, QE, Qn, QI, own, Ql, dop, QJ, eval, Qy, QF, Ex.then, Ex.inBlock, upd, QK, Tag.isNN, Qm, intCmp, Qz, QA, TyI.agg, Qb, Qs, Qd, Qr, QL, QB, Qp, mapOf, Qx, Qo, Qf, Qi, Qg, Qu, DV.cells, Qt, Qh, Qq, Qv, rowsOf, Qw, Qe, Qa, Qa.go, Qj, Qk, Qc, goInt, init, Qab, Tm.cells_len, Q8, g4]
  refine hK _ _ ?_ rfl; clear hK K
  refine Dwp.step tT rfl fun K hK => ?_
  simp [QD, QE, Qn, QI, own, Ql, dop, QJ, eval, Qy, QF, Ex.then, Ex.inBlock, upd, QK, Tag.isNN, Qm, intCmp, Qz, QA, TyI.agg, Qb, Qs, Qd, Qr, QL, QB, Qp, mapOf, Qx, Qo, Qf, Qi, Qg, Qu, DV.cells, Qt, Qh, Qq, Qv, rowsOf, Qw, Qe, Qa, Qa.go, Qj, Qk, Qc, goInt, init, Qab, Tm.cells_len, Q8, g5]
  refine hK _ _ ?_ rfl; clear hK K
  refine Dwp.drawStep [] mixed tT rfl rfl fun K hK => ?_
  simp [Qbj, touch, QaE, Qck, QD, QE, Qn, QI, own, Ql, dop, QJ, eval, Qy, QF, Ex.then, Ex.inBlock, upd, QK, Tag.isNN, Qm, intCmp, Qz, QA, TyI.agg, Qb, Qs, Qd, Qr, QL, QB, Qp, mapOf, Qx, Qo, Qf, Qi, Qg, Qu, DV.cells, Qt, Qh, Qq, Qv, rowsOf, Qw, Qe, Qa, Qa.go, Qj, Qk, Qc, goInt, init, Qab, Tm.cells_len, Q8, g3, g6, g7, g8]
  refine hK _ _ (Dwp.ret ?_) rfl
  exact Qay Tryz.func4 rfl _ (by simp [upd])
end Go.Proofs.Yt
namespace Go.FA
open Go.RowKit
set_option linter.unusedSimpArgs false
variable {P : Program} {T : Tab} {E : Entry} {C : Ctx} {w : World} {σ : St} {n : Nat} {a : Nat → DV} {ops : Array Oper} {K : (Nat → DV) → St → Prop} {i : Nat} {rest : List Nat} {o : Oper}
theorem CRel_split {b : Nat} : ∀ (x y : List DV) (off : Nat), Qa2 C w b off (x ++ y) → Qa2 C w b off x ∧ Qa2 C w b (off + x.length) y
  | [], y, off, h => ⟨by simp [Qa2], by simpa using h⟩
  | d :: x, y, off, h => by
    simp only [List.cons_append, Qa2] at h ⊢
    obtain ⟨h1, h2⟩ := CRel_split x y (off + 1) h.2
    exact ⟨⟨h.1, h1⟩, by simpa [Nat.add_assoc, Nat.add_comm 1] using h2⟩
theorem RRel_parts {k b : Nat} : ∀ (rows : List (List DV)) (off : Nat), (∀ r ∈ rows, r.length = k) → Qa2 C w b off rows.flatten → QaN C w k b off rows
  | [], off, _, _ => by simp [QaN]
  | r :: rs, off, hl, h => by
    simp only [List.flatten_cons] at h
    obtain ⟨h1, h2⟩ := CRel_split r rs.flatten off h
    have hk := hl r (by simp)
    simp only [QaN]
    exact ⟨hk, h1, RRel_parts rs (off + k) (fun x hx => hl x (by simp [hx])) (by rw [← hk]; exact h2)⟩
theorem Rg.sliceArr {t e : TypeId} {x : Operand} {k m s1 s2 : Nat} {z : DV} {it : TyI} {rows : List (List DV)} (hd : Q5 n ops = true) (ho : ops[i]? = some o) (hw : Qn ops a o.guard = some true) (hop : o.op = .slice t x none none none)
    (ht : Qaf P t = some ⟨.array m e, s1, s2, z⟩) (he : Qaf P e = some it) (hk : it.size = k) (hm : rows.length = m) (hm0 : m ≠ 0) (hl : ∀ r ∈ rows, r.length = k) (hx : eval a x = .row rows.flatten 0)
    (h : Rg P E n ops K rest (QJ a o.dst (.slice k .none rows)) { σ with n := σ.n + 1 }) : Rg P E n ops K (i :: rest) a σ := by
  refine Rg.upon (d := .slice k .none rows) (σ1 := σ) hd ho hw (fun ca w ds C hf hs => ?_) h
  have hv := Qac (ds := ds) hf x
  rw [hx] at hv; simp only [QO] at hv
  obtain ⟨b, off, hv, hc⟩ := hv
  have hr : (execOp (Act.eval ⟨ca, ds⟩) o).run P w = .ok (.value (.slice (some ⟨b, off, none⟩) m m)) w := by
    simp only [execOp, hop, hv, Option.map_none, Instr.sliceAt, Sem.run_bind, run_underlying ht, Result.andThen_ok]
    simp [Instr.sureAddr, Instr.sliceBounds, run_sizeOf he, hm0, Addr.add]
  unfold Upon; rw [hr]
  refine ⟨C, .refl C, .refl C w, ?_, ⟨hs.lo, hs.below, hs.bsize, hs.pB, hs.mB, hs.psup, hs.msup, hs.psub, hs.msub, hs.obj, hs.inj, hs.tok, hs.tinj, hs.tobj, fun i hi => hs.fresh i hi.1⟩⟩
  simp only [QO]
  exact .inl ⟨b, off, m, by rw [hm], by omega, RRel_parts rows off hl (by simpa using hc), by simp [Qiu]⟩
end Go.FA
namespace Go.Proofs.Yt
open Go Go.FA Go.Proofs Go.RowKit
set_option linter.unusedSimpArgs false
set_option maxRecDepth 100000
abbrev A3 : QM (Tm × Tm × Tm) := QM.tm.and (QM.tm.and QM.tm)
abbrev Enc.tm3 : Enc (Tm × Tm × Tm) := Enc.agg A3
def fitT (t : Tm) : Prop := okT t ∧ tsz t ≤ tlim
open Classical in
noncomputable def sT8 : Sp := sp (QU Enc.tm3) Enc.bool (fun x => if fitT x.1 ∧ fitT x.2.1 ∧ fitT x.2.2 then some true else none)
noncomputable abbrev TL8 : Tab := QG [(21, s21), (22, s22x), (33, sT33), (24, sT24), (35, s35 tlim)]
theorem tabL8 : QP Tryz.prog TL8 := .cons e21 (.cons e22x (.cons e33 (.cons e24 (.cons e35 .nil))))
open Classical in
theorem call21x (T : Tab) (hT : T 21 = some s21) (l : List Tm) (h : QfK l ∧ l.length ≤ 16777216) : dcall T 21 [.slice 6 .none (l.map Tm.cells)] = some (.lit (.bool (decide (0 ≤ QaA l 2600 0)))) :=
  QaC (A := Enc.tms) (B := Enc.bool) hT (if_pos h)
set_option maxHeartbeats 8000000 in
theorem cL8 : QC Tryz.prog 8 sT8 := by
  refine QC.of_sp (T := TL8) Tryz.func8 rfl (Nat.le_of_ble_eq_true rfl) fun E xx y hy => ?_
  obtain ⟨t, u, v⟩ := xx
  simp only [] at hy
  split at hy
  case isFalse => cases hy
  next hlim =>
  obtain ⟨h1, h2, h3⟩ := hlim
  cases hy
  have tT := tabL8
  have gf := call21x TL8 rfl [t, u, v] ⟨by simp only [QfK]; exact ⟨h1.1, h2.1, h3.1, trivial⟩, by simp⟩
  have ga := call22 TL8 rfl
  have v1 := Qj7 TL8 rfl t h1.1 h1.2
  have v2 := Qj7 TL8 rfl u h2.1 h2.2
  have v3 := Qj7 TL8 rfl v h3.1 h3.2
  have g1 := call33 TL8 rfl t u h1 h2
  have g2 := call33 TL8 rfl u t h2 h1
  have g3 := call33 TL8 rfl u v h2 h3
  have g4 := call33 TL8 rfl t v h1 h3
  have g5 := QiN TL8 rfl t u h1.2 h1.2 h2.2
  have hin := cmpT_in t u
  have hneg := cmpT_neg t u
  have h0 := cmpT_0 t u
  have ht1 := cmpT_tr t u v
  have ht2 := cmpT_tr v u t
  rw [cmpT_neg u v, cmpT_neg t u, cmpT_neg t v] at ht2
  have hE : ∀ p q : Tm, Qav p = true → Qav q = true → Qjx p q = (Qhm p q, 0) := fun p q a b => by simp [Qjx, a, b]
  generalize TL8 = T at *
  clear h1 h2 h3
  generalize decide (0 ≤ QaA [t, u, v] 2600 0) = b0 at *
  simp only [QU, QM.one, Enc.tm3, Enc.agg, QM.and, QM.tm, List.map_cons, List.map_nil] at *
  obtain ⟨k1, n1, x1, s1, ks1, r1⟩ := t
  obtain ⟨k2, n2, x2, s2, ks2, r2⟩ := u
  obtain ⟨k3, n3, x3, s3, ks3, r3⟩ := v
  simp only [QR, List.cons_append, List.nil_append] at *
  refine Dwp.step tT rfl fun K hK => ?_
  simp [QD, QE, Qn, QI, own, Ql, dop, QJ, eval, Qy, QF, Ex.then, Ex.inBlock, upd, QK, Tag.isNN, Qm, intCmp, Qz, QA, TyI.agg, Qb, Qs, Qd, Qr, QL, QB, Qp, mapOf, Qx, Qo, Qf, Qi, Qg, Qu, DV.cells, Qt, Qh, Qq, Qv, rowsOf, Qw, Qe, Qa, Qa.go, Qj, Qk, Qc, goInt, init]
  refine hK _ _ ?_ rfl; clear hK K
  refine Dwp.seq ?_
  refine Dwp.stepH fun K hK => ?_
  have bad : ∀ a' σ', a' 31 = .lit (.bool true) → K a' σ' := by
    intro a' σ' h13
    refine hK _ _ ?_
    refine Dwp.condT (by simp [eval, h13]) ?_
    refine Dwp.step tT rfl fun K hK => ?_
    simp [QD, QE, Qn, QI, own, Ql, dop, QJ, eval, Qy, QF, Ex.then, Ex.inBlock, upd, QK, Tag.isNN, Qm, intCmp, Qz, QA, TyI.agg, Qb, Qs, Qd, Qr, QL, QB, Qp, mapOf, Qx, Qo, Qf, Qi, Qg, Qu, DV.cells, Qt, Qh, Qq, Qv, rowsOf, Qw, Qe, Qa, Qa.go, Qj, Qk, Qc, goInt, ga]
    refine hK _ _ (Dwp.ret ?_) rfl
    exact Qay Tryz.func8 rfl _ (by simp [upd])
  show Rg _ _ _ _ K (0 :: ([1, 2, 3, 4, 5, 6, 7, 8, 9, 10, 11, 12, 13, 14, 15, 16, 17, 18, 19, 20] ++ [])) _ _
  refine Rg.sliceArr (k := 6) (m := 3) (rows := [[.lit (.int .i64 k1), .lit (.int .i64 n1), .lit (.string x1), .lit (.string s1), .slice 6 .none (ks1.map Tm.cells), .slice 6 .none (r1.map Tm.cells)], [.lit (.int .i64 k2), .lit (.int .i64 n2), .lit (.string x2), .lit (.string s2), .slice 6 .none (ks2.map Tm.cells), .slice 6 .none (r2.map Tm.cells)], [.lit (.int .i64 k3), .lit (.int .i64 n3), .lit (.string x3), .lit (.string s3), .slice 6 .none (ks3.map Tm.cells), .slice 6 .none (r3.map Tm.cells)]]) rfl rfl rfl rfl ty59 Qab rfl rfl (by decide) (by simp) (by simp [eval, upd]) ?_
  refine Rg.run tT rfl _ _ _ ?_
  rcases hb0 : b0 with _ | _
  · rw [hb0] at gf
    simp [QbP, Qfq, ownN, Qb9, QD, QE, Qn, QI, own, Ql, dop, QJ, eval, Qy, QF, Ex.then, Ex.inBlock, upd, QK, Tag.isNN, Qm, intCmp, Qz, QA, TyI.agg, Qb, Qs, Qd, Qr, QL, QB, Qp, mapOf, Qx, Qo, Qf, Qi, Qg, Qu, DV.cells, Qt, Qh, Qq, Qv, rowsOf, Qw, Qe, Qa, Qa.go, Qj, Qk, Qc, goInt, init, ty59, Qab, gf, v1, v2, v3, hb0]
    exact Rg.nil (bad _ _ (by simp [upd]))
  rw [hb0] at gf
  rcases e1 : Qav (.mk k1 n1 x1 s1 ks1 r1) with _ | _
  · rw [e1] at v1
    simp [QbP, Qfq, ownN, Qb9, QD, QE, Qn, QI, own, Ql, dop, QJ, eval, Qy, QF, Ex.then, Ex.inBlock, upd, QK, Tag.isNN, Qm, intCmp, Qz, QA, TyI.agg, Qb, Qs, Qd, Qr, QL, QB, Qp, mapOf, Qx, Qo, Qf, Qi, Qg, Qu, DV.cells, Qt, Qh, Qq, Qv, rowsOf, Qw, Qe, Qa, Qa.go, Qj, Qk, Qc, goInt, init, ty59, Qab, gf, v1, v2, v3, hb0]
    exact Rg.nil (bad _ _ (by simp [upd]))
  rw [e1] at v1
  rcases e2 : Qav (.mk k2 n2 x2 s2 ks2 r2) with _ | _
  · rw [e2] at v2
    simp [QbP, Qfq, ownN, Qb9, QD, QE, Qn, QI, own, Ql, dop, QJ, eval, Qy, QF, Ex.then, Ex.inBlock, upd, QK, Tag.isNN, Qm, intCmp, Qz, QA, TyI.agg, Qb, Qs, Qd, Qr, QL, QB, Qp, mapOf, Qx, Qo, Qf, Qi, Qg, Qu, DV.cells, Qt, Qh, Qq, Qv, rowsOf, Qw, Qe, Qa, Qa.go, Qj, Qk, Qc, goInt, init, ty59, Qab, gf, v1, v2, v3, hb0]
    exact Rg.nil (bad _ _ (by simp [upd]))
  rw [e2] at v2
  rcases e3 : Qav (.mk k3 n3 x3 s3 ks3 r3) with _ | _
  · rw [e3] at v3
    simp [QbP, Qfq, ownN, Qb9, QD, QE, Qn, QI, own, Ql, dop, QJ, eval, Qy, QF, Ex.then, Ex.inBlock, upd, QK, Tag.isNN, Qm, intCmp, Qz, QA, TyI.agg, Qb, Qs, Qd, Qr, QL, QB, Qp, mapOf, Qx, Qo, Qf, Qi, Qg, Qu, DV.cells, Qt, Qh, Qq, Qv, rowsOf, Qw, Qe, Qa, Qa.go, Qj, Qk, Qc, goInt, init, ty59, Qab, gf, v1, v2, v3, hb0]
    exact Rg.nil (bad _ _ (by simp [upd]))
  rw [e3] at v3
  simp [QbP, Qfq, ownN, Qb9, QD, QE, Qn, QI, own, Ql, dop, QJ, eval, Qy, QF, Ex.then, Ex.inBlock, upd, QK, Tag.isNN, Qm, intCmp, Qz, QA, TyI.agg, Qb, Qs, Qd, Qr, QL, QB, Qp, mapOf, Qx, Qo, Qf, Qi, Qg, Qu, DV.cells, Qt, Qh, Qq, Qv, rowsOf, Qw, Qe, Qa, Qa.go, Qj, Qk, Qc, goInt, init, ty59, Qab, gf, v1, v2, v3, hb0]
  refine Rg.nil (hK _ _ ?_)
  clear bad hK K v1 v2 v3 gf
  rw [hE _ _ e1 e2] at g1
  rw [hE _ _ e2 e1, cmpT_neg (.mk k1 n1 x1 s1 ks1 r1) (.mk k2 n2 x2 s2 ks2 r2)] at g2
  rw [hE _ _ e2 e3] at g3
  rw [hE _ _ e1 e3] at g4
  clear hE e1 e2 e3 hneg
  generalize Qhm (.mk k1 n1 x1 s1 ks1 r1) (.mk k2 n2 x2 s2 ks2 r2) = a at *
  generalize Qhm (.mk k2 n2 x2 s2 ks2 r2) (.mk k3 n3 x3 s3 ks3 r3) = c at *
  generalize Qhm (.mk k1 n1 x1 s1 ks1 r1) (.mk k3 n3 x3 s3 ks3 r3) = d at *
  generalize hsame : Qem (.mk k1 n1 x1 s1 ks1 r1) (.mk k2 n2 x2 s2 ks2 r2) = bs at *
  have hbs : bs = decide (a = 0) := by
    rw [← hsame]
    by_cases h : a = 0
    · rw [h0.1 h, Qfl]; simp [h]
    · rw [Qam fun e => h (h0.2 e)]; simp [h]
  clear h0 hsame
  refine Dwp.condF (by simp [eval, upd]) (Dwp.skip ?_)
  refine Dwp.step tT rfl fun K hK => ?_
  simp [QD, QE, Qn, QI, own, Ql, dop, QJ, eval, Qy, QF, Ex.then, Ex.inBlock, upd, QK, Tag.isNN, Qm, intCmp, Qz, QA, TyI.agg, Qb, Qs, Qd, Qr, QL, QB, Qp, mapOf, Qx, Qo, Qf, Qi, Qg, Qu, DV.cells, Qt, Qh, Qq, Qv, rowsOf, Qw, Qe, Qa, Qa.go, Qj, Qk, Qc, goInt, init, ty59, Qab, g1]
  refine hK _ _ ?_ rfl; clear hK K
  refine Dwp.step tT rfl fun K hK => ?_
  simp [QD, QE, Qn, QI, own, Ql, dop, QJ, eval, Qy, QF, Ex.then, Ex.inBlock, upd, QK, Tag.isNN, Qm, intCmp, Qz, QA, TyI.agg, Qb, Qs, Qd, Qr, QL, QB, Qp, mapOf, Qx, Qo, Qf, Qi, Qg, Qu, DV.cells, Qt, Qh, Qq, Qv, rowsOf, Qw, Qe, Qa, Qa.go, Qj, Qk, Qc, goInt, init, ty59, Qab, g2]
  refine hK _ _ ?_ rfl; clear hK K
  refine Dwp.step tT rfl fun K hK => ?_
  simp [QD, QE, Qn, QI, own, Ql, dop, QJ, eval, Qy, QF, Ex.then, Ex.inBlock, upd, QK, Tag.isNN, Qm, intCmp, Qz, QA, TyI.agg, Qb, Qs, Qd, Qr, QL, QB, Qp, mapOf, Qx, Qo, Qf, Qi, Qg, Qu, DV.cells, Qt, Qh, Qq, Qv, rowsOf, Qw, Qe, Qa, Qa.go, Qj, Qk, Qc, goInt, init, ty59, Qab, g3]
  refine hK _ _ ?_ rfl; clear hK K
  refine Dwp.step tT rfl fun K hK => ?_
  simp [QD, QE, Qn, QI, own, Ql, dop, QJ, eval, Qy, QF, Ex.then, Ex.inBlock, upd, QK, Tag.isNN, Qm, intCmp, Qz, QA, TyI.agg, Qb, Qs, Qd, Qr, QL, QB, Qp, mapOf, Qx, Qo, Qf, Qi, Qg, Qu, DV.cells, Qt, Qh, Qq, Qv, rowsOf, Qw, Qe, Qa, Qa.go, Qj, Qk, Qc, goInt, init, ty59, Qab, g4]
  refine hK _ _ ?_ rfl; clear hK K
  clear g1 g2 g3 g4
  unfold Tr at ht1 ht2
  unfold In1 at hin
  refine Dwp.seq ?_
  have w1 : IntKind.i64.wrap (-1) = -1 := by decide
  have w2 : IntKind.i64.wrap 1 = 1 := by decide
  have w3 : IntKind.i64.wrap 0 = 0 := by decide
  have ha : a = -1 ∨ a = 0 ∨ a = 1 := by omega
  have ht3 : a ≤ 0 → c ≤ 0 → d ≤ 0 := fun x y => (ht1 x y).1
  have ht4 : 0 ≤ a → 0 ≤ c → 0 ≤ d := fun x y => by have := (ht2 (by omega) (by omega)).1; omega
  clear ht1 ht2 hin
  rcases ha with rfl | rfl | rfl <;> (
    simp at hbs
    subst hbs
    refine Dwp.step tT rfl fun K hK => ?_
    repeat' ((first | refine QF.stepD rfl rfl ?_ | refine QF.stepG rfl rfl rfl ?_ | refine QF.stepN rfl rfl ?_ | refine QF.stepGN rfl rfl rfl ?_); intro K1 hK1; simp [*, QQ, QN, QI, dop, eval, Qy, upd, Qb, Qs, Qz, QA, TyI.agg, Qd, Qr, Qi, Qg, QB, QL, goInt, QK, intCmp, Qm, Tag.isNN, Qc, DV.cells, Qe, Qt, Qh, init, ty3, ty59, Qab, Ql]; (first | (refine hK1 _ _ ?_; clear hK1 K1) | (split <;> (rename_i hsp; (try simp only [beq_iff_eq, beq_eq_false_iff_ne, ne_eq, decide_eq_true_eq, decide_eq_false_iff_not] at hsp); (try (first | have hsq := Int.not_le.2 hsp | have hsq := Int.not_lt.2 hsp | have hsq := Int.not_le.1 hsp | have hsq := Int.not_lt.1 hsp)); (try subst hsp); (try simp only [hsp])) <;> (refine hK1 _ _ ?_; clear hK1 K1))))
    refine QF.done (hK _ _ ?_ rfl)
    refine Dwp.condF (by simp [eval, upd]) (Dwp.skip ?_)
    clear hK K g5 w1 w2 w3
    refine Dwp.step tT rfl fun K hK => ?_
    repeat' ((first | refine QF.stepD rfl rfl ?_ | refine QF.stepG rfl rfl rfl ?_ | refine QF.stepN rfl rfl ?_ | refine QF.stepGN rfl rfl rfl ?_); intro K1 hK1; simp [*, QQ, QN, QI, dop, eval, Qy, upd, Qb, Qs, Qz, QA, TyI.agg, Qd, Qr, Qi, Qg, QB, QL, goInt, QK, intCmp, Qm, Tag.isNN, Qc, DV.cells, Qe, Qt, Qh, init, ty3, Ql]; (first | (refine hK1 _ _ ?_; clear hK1 K1) | (split <;> (rename_i hsp; (try simp only [beq_iff_eq, beq_eq_false_iff_ne, ne_eq, decide_eq_true_eq, decide_eq_false_iff_not] at hsp); (try (first | have hsq := Int.not_le.2 hsp | have hsq := Int.not_lt.2 hsp | have hsq := Int.not_le.1 hsp | have hsq := Int.not_lt.1 hsp)); (try subst hsp); (try simp only [hsp])) <;> (refine hK1 _ _ ?_; clear hK1 K1))))
    all_goals first
      | (exfalso; simp at ht3 ht4; omega)
      | (exfalso; omega)
      | (refine QF.done (hK _ _ (Dwp.ret ?_) rfl)
         refine Qay Tryz.func8 rfl _ ?_
         simp [upd, *]
         done)
      | (refine QF.done (hK _ _ (Dwp.ret ?_) rfl)
         refine Qay Tryz.func8 rfl _ ?_
         simp [upd, *]
         omega))
end Go.Proofs.Yt
