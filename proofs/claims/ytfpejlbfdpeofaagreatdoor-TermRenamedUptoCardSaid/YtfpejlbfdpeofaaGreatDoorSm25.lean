/- Contracts of functions of the program, by a machine over abstract values; part 26. No condition beyond those of each theorem. -/
import Derived.Test.YtfpejlbfdpeofaaGreatDoorSm24
set_option linter.unusedVariables false
set_option linter.unusedSimpArgs false
namespace Go.Proofs.Yt
open Go Go.FA Go.Proofs Go.RowKit
set_option linter.unusedSimpArgs false
set_option maxRecDepth 100000
theorem Qdw {a b s : ByteArray} {n : Nat} (ha : a.size ≤ n) (hb : b.size ≤ n) (hs : s.size ≤ n) : (swN a b s).size ≤ n := by
  unfold swN
  repeat' split
  all_goals assumption
theorem cutF_size (s : ByteArray) : (Qcm s).1.size ≤ s.size ∧ (Qcm s).2.size ≤ s.size := by
  unfold Qcm
  split
  · simp only [ByteArray.size_extract]; omega
  · exact ⟨Nat.le_refl _, Nat.zero_le _⟩
set_option maxHeartbeats 4000000 in
theorem c106 (n : Nat) (c172 : Qy Tryz.prog 172 (QeR n)) : Qy Tryz.prog 106 (QdS (n + 1)) := by
  refine Qy.of_sp (T := QD [(172, QeR n), (176, s176), (177, sT177), (178, s178)]) Tryz.func106 rfl (Nat.le_of_ble_eq_true rfl) fun E xx y hy => ?_
  obtain ⟨⟨a, b⟩, ⟨k, n0, x, s, ks, r⟩⟩ := xx
  simp only [] at hy
  split at hy
  case isFalse => cases hy
  next hlim =>
  obtain ⟨hsz, hok, hla, hlb⟩ := hlim
  cases hy
  rw [okT] at hok
  obtain ⟨hx, hs, hkl, hrl, hoks, hokr⟩ := hok
  have tT : QO Tryz.prog (QD [(172, QeR n), (176, s176), (177, sT177), (178, s178)]) := .cons ⟨c172, Tryz.f172, _, Tryz.func172, rfl, by decide⟩ (.cons e176 (.cons e177 (.cons e178 .nil)))
  simp only [tsz] at hsz
  have g1 := QiI (QD [(172, QeR n), (176, s176), (177, sT177), (178, s178)]) rfl ks (106, a, b) ⟨hkl, .inr ⟨rfl, by omega, hoks, hla, hlb⟩⟩
  have g2 := QiI (QD [(172, QeR n), (176, s176), (177, sT177), (178, s178)]) rfl r (179, a, b) ⟨hrl, .inl rfl⟩
  have g3 := Qjk (QD [(172, QeR n), (176, s176), (177, sT177), (178, s178)]) rfl x hx
  have g4 := fun t => QiW (QD [(172, QeR n), (176, s176), (177, sT177), (178, s178)]) rfl a b t
  have g5 := QiJ (QD [(172, QeR n), (176, s176), (177, sT177), (178, s178)]) rfl x
  have e1 : ks.map (chg (106, a, b)) = Qbj a b ks := by rw [Qer]; rfl
  have e2 : r.map (chg (179, a, b)) = r.map (Qdd a b) := rfl
  rw [e1] at g1
  rw [e2] at g2
  simp only [] at g1 g2
  generalize QD [(172, QeR n), (176, s176), (177, sT177), (178, s178)] = T at *
  simp only [QR, QH.one, QH.and, Enc.ex, Enc.agg, QH.ex, Enc.str, List.cons_append, List.nil_append, tmC, Q8]
  refine Dwp.stepH fun K hK => ?_
  show Rg _ _ _ _ K ([0] ++ (1 :: ([2] ++ []))) _ _
  refine Rg.run tT rfl _ _ _ ?_
  simp [Qbn, Qe2, QbJ, QB, QE, Qk, QJ, own, Ql, dop, QI, eval, Qx, QF, Ex.then, Ex.inBlock, upd, QK, Tag.isNN, Qm, intCmp, Qz, QA, TyI.agg, Qb, Qs, Qd, Qq, QL, QC, Qo, mapOf, Qw, Qn, Qe, Qh, Qf, Qt, DV.cells, Qr, Qg, Qp, Qu, rowsOf, Qv, growLimit, Qa, Qa.go, Qi, Qj, Qc, goInt, init]
  refine Rg.box (cs := [.lit (.int .i64 k), .lit (.int .i64 n0), .lit (.string x), .lit (.string s), .slice 6 .none (ks.map Tm.cells), .slice 6 .none (r.map Tm.cells)]) rfl rfl rfl rfl (by simp [eval, upd, init, DV.cells]) ?_
  show Rg _ _ _ _ K ([2] ++ []) _ _
  refine Rg.run tT rfl _ _ _ ?_
  simp [Qbn, Qe2, QbJ, QB, QE, Qk, QJ, own, Ql, dop, QI, eval, Qx, QF, Ex.then, Ex.inBlock, upd, QK, Tag.isNN, Qm, intCmp, Qz, QA, TyI.agg, Qb, Qs, Qd, Qq, QL, QC, Qo, mapOf, Qw, Qn, Qe, Qh, Qf, Qt, DV.cells, Qr, Qg, Qp, Qu, rowsOf, Qv, growLimit, Qa, Qa.go, Qi, Qj, Qc, goInt, init, Qaf, σ0]
  refine Rg.nil (hK _ _ ?_)
  clear hK K
  have hsw := fun (t : ByteArray) (ht : t.size ≤ lim) => Qdw hla hlb ht
  have hcs := cutF_size x
  -- the fields, behind the switch on the kind
  refine Dwp.seq (Dwp.mono (Q := fun e a' σ => e = .normal ∧ a' 2 = .row [.lit (.string a), .lit (.string b)] 0 ∧ a' 3 = .ptr 0 0 ∧ a' 4 = .ptr 1 0 ∧ 2 ≤ σ.n ∧ (∃ z, σ.objs 1 = some (.cells 30 z) ∧ z.length = 6) ∧
      σ.objs 0 = some (.cells 30 [.lit (.int .i64 k), .lit (.int .i64 n0), .lit (.string (Qbp a b k x)), .lit (.string (QbA a b k x s)), .slice 6 .none (ks.map Tm.cells), .slice 6 .none (r.map Tm.cells)])) ?_ ?_)
  · refine Dwp.step tT rfl fun K hK => ?_
    simp [QB, QE, Qk, QJ, own, Ql, dop, QI, eval, Qx, QF, Ex.then, Ex.inBlock, upd, QK, Tag.isNN, Qm, intCmp, Qz, QA, TyI.agg, Qb, Qs, Qd, Qq, QL, QC, Qo, mapOf, Qw, Qn, Qe, Qh, Qf, Qt, DV.cells, Qr, Qg, Qp, Qu, rowsOf, Qv, growLimit, Qa, Qa.go, Qi, Qj, Qc, goInt, init, Qaf, Qa0]
    refine hK _ _ ?_ rfl; clear hK K
    refine Dwp.block ?_
    refine Dwp.step tT rfl fun K hK => ?_
    by_cases h5 : k = 5
    · subst h5
      simp [QB, QE, Qk, QJ, own, Ql, dop, QI, eval, Qx, QF, Ex.then, Ex.inBlock, upd, QK, Tag.isNN, Qm, intCmp, Qz, QA, TyI.agg, Qb, Qs, Qd, Qq, QL, QC, Qo, mapOf, Qw, Qn, Qe, Qh, Qf, Qt, DV.cells, Qr, Qg, Qp, Qu, rowsOf, Qv, growLimit, Qa, Qa.go, Qi, Qj, Qc, goInt, init, Qaf, Qa0]
      refine hK _ _ ?_ rfl; clear hK K
      refine Dwp.condT (by simp [eval, upd]) ?_
      refine Dwp.step tT rfl fun K hK => ?_
      simp [QB, QE, Qk, QJ, own, Ql, dop, QI, eval, Qx, QF, Ex.then, Ex.inBlock, upd, QK, Tag.isNN, Qm, intCmp, Qz, QA, TyI.agg, Qb, Qs, Qd, Qq, QL, QC, Qo, mapOf, Qw, Qn, Qe, Qh, Qf, Qt, DV.cells, Qr, Qg, Qp, Qu, rowsOf, Qv, growLimit, Qa, Qa.go, Qi, Qj, Qc, goInt, init, Qaf, Qa0, ty9, g3]
      refine hK _ _ ?_ rfl; clear hK K
      have hadd : (swN a b (Qcm x).1).size + (Qcm x).2.size < 4611686018427387904 := by
        have := hsw (Qcm x).1 (by omega); unfold lim at *; omega
      refine Dwp.reg tT rfl fun K hK => ?_
      simp [QB, QE, Qk, QJ, own, Ql, dop, QI, eval, Qx, QF, Ex.then, Ex.inBlock, upd, QK, Tag.isNN, Qm, intCmp, Qz, QA, TyI.agg, Qb, Qs, Qd, Qq, QL, QC, Qo, mapOf, Qw, Qn, Qe, Qh, Qf, Qt, DV.cells, Qr, Qg, Qp, Qu, rowsOf, Qv, growLimit, Qa, Qa.go, Qi, Qj, Qc, goInt, init, Qaf, Qa0, ty9, Qdi, g4, hadd]
      refine hK _ _ ?_ rfl
      refine ⟨rfl, by simp [upd], by simp [upd], by simp [upd], by simp, ⟨_, by simp [upd]; rfl, rfl⟩, by simp [upd, Qbp, QbA]; rfl⟩
    · simp [QB, QE, Qk, QJ, own, Ql, dop, QI, eval, Qx, QF, Ex.then, Ex.inBlock, upd, QK, Tag.isNN, Qm, intCmp, Qz, QA, TyI.agg, Qb, Qs, Qd, Qq, QL, QC, Qo, mapOf, Qw, Qn, Qe, Qh, Qf, Qt, DV.cells, Qr, Qg, Qp, Qu, rowsOf, Qv, growLimit, Qa, Qa.go, Qi, Qj, Qc, goInt, init, Qaf, Qa0, h5]
      refine hK _ _ ?_ rfl; clear hK K
      refine Dwp.condF (by simp [eval, upd, h5]) ?_
      refine Dwp.step tT rfl fun K hK => ?_
      by_cases h6 : k = 6
      · subst h6
        simp [QB, QE, Qk, QJ, own, Ql, dop, QI, eval, Qx, QF, Ex.then, Ex.inBlock, upd, QK, Tag.isNN, Qm, intCmp, Qz, QA, TyI.agg, Qb, Qs, Qd, Qq, QL, QC, Qo, mapOf, Qw, Qn, Qe, Qh, Qf, Qt, DV.cells, Qr, Qg, Qp, Qu, rowsOf, Qv, growLimit, Qa, Qa.go, Qi, Qj, Qc, goInt, init, Qaf, Qa0]
        refine hK _ _ ?_ rfl; clear hK K
        refine Dwp.condT (by simp [eval, upd]) ?_
        refine Dwp.step tT rfl fun K hK => ?_
        simp [QB, QE, Qk, QJ, own, Ql, dop, QI, eval, Qx, QF, Ex.then, Ex.inBlock, upd, QK, Tag.isNN, Qm, intCmp, Qz, QA, TyI.agg, Qb, Qs, Qd, Qq, QL, QC, Qo, mapOf, Qw, Qn, Qe, Qh, Qf, Qt, DV.cells, Qr, Qg, Qp, Qu, rowsOf, Qv, growLimit, Qa, Qa.go, Qi, Qj, Qc, goInt, init, Qaf, Qa0, ty9, g5]
        refine hK _ _ ?_ rfl; clear hK K
        by_cases hu : Qho x = true
        · refine Dwp.condF (by simp [eval, upd, hu]) ?_
          refine Dwp.skip ?_
          refine ⟨rfl, by simp [upd], by simp [upd], by simp [upd], by simp, ⟨_, by simp [upd]; rfl, rfl⟩, by simp [upd, Qbp, QbA, hu]⟩
        · refine Dwp.condT (by simp [eval, upd, hu]) ?_
          refine Dwp.draw [.none, .none, .robj 0, .none, .none, .none, .robj 0, .none, .none, .wobj 0, .none, .wobj 0] mixed tT rfl rfl fun K hK => ?_
          simp [Qcr, touch, Qba, Qcs, QB, QE, Qk, QJ, own, Ql, dop, QI, eval, Qx, QF, Ex.then, Ex.inBlock, upd, QK, Tag.isNN, Qm, intCmp, Qz, QA, TyI.agg, Qb, Qs, Qd, Qq, QL, QC, Qo, mapOf, Qw, Qn, Qe, Qh, Qf, Qt, DV.cells, Qr, Qg, Qp, Qu, rowsOf, Qv, growLimit, Qa, Qa.go, Qi, Qj, Qc, goInt, init, Qaf, Qa0, ty9, Qdi, g4, QjB, setAt]
          refine hK _ _ ?_ rfl
          refine ⟨rfl, by simp [upd], by simp [upd], by simp [upd], by simp, ⟨_, by simp [upd]; rfl, rfl⟩, by simp [upd, Qbp, QbA, hu]⟩
      · simp [QB, QE, Qk, QJ, own, Ql, dop, QI, eval, Qx, QF, Ex.then, Ex.inBlock, upd, QK, Tag.isNN, Qm, intCmp, Qz, QA, TyI.agg, Qb, Qs, Qd, Qq, QL, QC, Qo, mapOf, Qw, Qn, Qe, Qh, Qf, Qt, DV.cells, Qr, Qg, Qp, Qu, rowsOf, Qv, growLimit, Qa, Qa.go, Qi, Qj, Qc, goInt, init, Qaf, Qa0, h6]
        refine hK _ _ ?_ rfl; clear hK K
        refine Dwp.condF (by simp [eval, upd, h6]) ?_
        refine Dwp.skip ?_
        refine ⟨rfl, by simp [upd], by simp [upd], by simp [upd], by simp, ⟨_, by simp [upd]; rfl, rfl⟩, by simp [upd, Qbp, QbA, h5, h6]⟩
  · rintro e a' σ ⟨rfl, q2, q3, q4, qn, ⟨z, qz, qzl⟩, qo⟩
    obtain ⟨z0, z1, z2, z3, z4, z5, rfl⟩ : ∃ z0 z1 z2 z3 z4 z5, z = [z0, z1, z2, z3, z4, z5] := by
      match z, qzl with
      | [z0, z1, z2, z3, z4, z5], _ => exact ⟨z0, z1, z2, z3, z4, z5, rfl⟩
    have hr : r.map (Tm.cells ∘ Qdd a b) = Tm.rows (r.map (Qdd a b)) := by rw [Tm.rows_map, List.map_map]
    have hks : ∀ l : List Tm, l.map Tm.cells = Tm.rows l := fun l => (Tm.rows_map l).symm
    show Dwp _ _ _ _ _ _ _ _
    refine Dwp.step tT rfl fun K hK => ?_
    simp [QB, QE, Qk, QJ, own, Ql, dop, QI, eval, Qx, QF, Ex.then, Ex.inBlock, upd, QK, Tag.isNN, Qm, intCmp, Qz, QA, TyI.agg, Qb, Qs, Qd, Qq, QL, QC, Qo, mapOf, Qw, Qn, Qe, Qh, Qf, Qt, DV.cells, Qr, Qg, Qp, Qu, rowsOf, Qv, growLimit, Qa, Qa.go, Qi, Qj, Qc, goInt, q2, q3, q4, qo, Qaf, QaF, Qdi, g1, setAt]
    refine hK _ _ ?_ rfl; clear hK K
    refine Dwp.step tT rfl fun K hK => ?_
    simp [QB, QE, Qk, QJ, own, Ql, dop, QI, eval, Qx, QF, Ex.then, Ex.inBlock, upd, QK, Tag.isNN, Qm, intCmp, Qz, QA, TyI.agg, Qb, Qs, Qd, Qq, QL, QC, Qo, mapOf, Qw, Qn, Qe, Qh, Qf, Qt, DV.cells, Qr, Qg, Qp, Qu, rowsOf, Qv, growLimit, Qa, Qa.go, Qi, Qj, Qc, goInt, q2, q3, q4, qo, Qaf, QaF, Qdi, g2, setAt]
    refine hK _ _ ?_ rfl; clear hK K
    refine Dwp.step tT rfl fun K hK => ?_
    simp [QB, QE, Qk, QJ, own, Ql, dop, QI, eval, Qx, QF, Ex.then, Ex.inBlock, upd, QK, Tag.isNN, Qm, intCmp, Qz, QA, TyI.agg, Qb, Qs, Qd, Qq, QL, QC, Qo, mapOf, Qw, Qn, Qe, Qh, Qf, Qt, DV.cells, Qr, Qg, Qp, Qu, rowsOf, Qv, growLimit, Qa, Qa.go, Qi, Qj, Qc, goInt, q2, q3, q4, qo, qz, Qaf, QaF, Qdi, setAt]
    refine hK _ _ (Dwp.ret ?_) rfl
    simp [Q1, QG, QY, frz, QW, QX, upd, Qz, Qaf, QA, TyI.agg, Enc.tm, Enc.agg, QH.tm, Tm.decL, Tm.decC, Qc8, Tm.dec_rows, hr, hks, q4]
end Go.Proofs.Yt
