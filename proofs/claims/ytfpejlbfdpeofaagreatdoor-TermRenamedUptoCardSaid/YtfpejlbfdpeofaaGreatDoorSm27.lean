/- Contracts of functions of the program, by a machine over abstract values; part 28. No condition beyond those of each theorem. -/
import Derived.Test.YtfpejlbfdpeofaaGreatDoorSm26
set_option linter.unusedVariables false
set_option linter.unusedSimpArgs false
namespace Go.Proofs.Yt
open Go Go.FA Go.Proofs Go.RowKit
set_option linter.unusedSimpArgs false
set_option maxRecDepth 100000
mutual
def Qid : Tm → Int
  | .mk _ _ _ _ ks r => 1 + r.length + Qbm ks
def Qbm : List Tm → Int
  | [] => 0
  | t :: l => Qid t + Qbm l
end
mutual
theorem ndsP_le : ∀ t : Tm, 0 ≤ Qid t ∧ Qid t ≤ tsz t
  | .mk _ _ _ _ ks r => by
    have h1 := QcB ks
    have h2 := QaN r
    simp only [Qid, tsz]
    omega
theorem QcB : ∀ l : List Tm, 0 ≤ Qbm l ∧ Qbm l ≤ Qbf l
  | [] => by simp [Qbm, Qbf]
  | t :: l => by
    have h1 := ndsP_le t
    have h2 := QcB l
    simp only [Qbm, Qbf]
    omega
end
theorem QeB : ∀ l m : List Tm, Qbm (l ++ m) = Qbm l + Qbm m
  | [], m => by simp [Qbm]
  | t :: l, m => by simp only [List.cons_append, Qbm, QeB l m]; omega
theorem ndsPs_next (l : List Tm) (i : Nat) (hi : i < l.length) : Qbm (l.take (i + 1)) = Qbm (l.take i) + Qid l[i] := by
  rw [List.take_succ_eq_append_getElem hi, QeB]; simp [Qbm]
theorem QfQ (l : List Tm) (i : Nat) : Qbm (l.take i) ≤ Qbm l := by
  have h := QeB (l.take i) (l.drop i)
  rw [List.take_append_drop] at h
  have := (QcB (l.drop i)).1
  omega
open Classical in
noncomputable def Qju (n : Nat) : Sp := sp (QS Enc.tm) Enc.i64 (fun t => if tsz t ≤ n ∧ tsz t ≤ tlim ∧ okT t then some (Qid t) else none)
open Classical in
theorem Qj1 {n : Nat} (T : Tab) (hT : T 53 = some (Qju n)) (t : Tm) (h : tsz t ≤ n ∧ tsz t ≤ tlim ∧ okT t) : dcall T 53 [.agg t.cells] = some (.lit (.int .i64 (Qid t))) :=
  QaI (A := Enc.tm) (B := Enc.i64) hT (if_pos h)
set_option maxHeartbeats 2000000 in
theorem c53 (n : Nat) (ih : Qy Tryz.prog 53 (Qju n)) : Qy Tryz.prog 53 (Qju (n + 1)) := by
  refine Qy.of_sp (T := QD [(53, Qju n)]) Tryz.func53 rfl (Nat.le_of_ble_eq_true rfl) fun E t y hy => ?_
  split at hy
  case isFalse => cases hy
  next hlim =>
  obtain ⟨hsz, hl, hok⟩ := hlim
  cases hy
  obtain ⟨k, n0, x, s, ks, r⟩ := t
  rw [okT] at hok
  obtain ⟨hx, hs, hkl, hrl, hoks, hokr⟩ := hok
  simp only [tsz] at hsz hl
  have tT : QO Tryz.prog (QD [(53, Qju n)]) := .cons ⟨ih, Tryz.f53, _, Tryz.func53, rfl, by decide⟩ .nil
  have g := fun t (ht : t ∈ ks) => Qj1 (QD [(53, Qju n)]) rfl t ⟨by have := Qam ks t ht; omega, by have := Qam ks t ht; omega, QbW ks t hoks ht⟩
  generalize QD [(53, Qju n)] = T at *
  obtain ⟨R, hR⟩ : ∃ R : Int, (r.length : Int) = R := ⟨_, rfl⟩
  have hrlen := QaN r
  have hkb := QcB ks
  have hlt : (tlim : Int) = 1048576 := rfl
  have hw : ∀ x : Int, 0 ≤ x → x ≤ 2097152 → IntKind.i64.wrap x = x := fun x h1 h2 => Qed (by omega) (by omega)
  have hw1 := hw (1 + R) (by omega) (by omega)
  refine Dwp.step tT rfl fun K hK => ?_
  simp [QB, QE, Qk, QJ, own, Ql, dop, QI, eval, Qx, QF, Ex.then, Ex.inBlock, upd, QK, Tag.isNN, Qm, intCmp, Qz, QA, TyI.agg, Qb, Qs, Qd, Qq, QL, QC, Qo, mapOf, Qw, Qn, Qe, Qh, Qf, Qt, DV.cells, Qr, Qg, Qp, Qu, rowsOf, Qv, growLimit, Qa, Qa.go, Qi, Qj, Qc, goInt, init, QS, QH.one, Enc.tm, Enc.agg, QH.tm, Tm.cells]
  refine hK _ _ ?_ rfl; clear hK K
  refine Dwp.step tT rfl fun K hK => ?_
  simp [QB, QE, Qk, QJ, own, Ql, dop, QI, eval, Qx, QF, Ex.then, Ex.inBlock, upd, QK, Tag.isNN, Qm, intCmp, Qz, QA, TyI.agg, Qb, Qs, Qd, Qq, QL, QC, Qo, mapOf, Qw, Qn, Qe, Qh, Qf, Qt, DV.cells, Qr, Qg, Qp, Qu, rowsOf, Qv, growLimit, Qa, Qa.go, Qi, Qj, Qc, goInt, init, Qaf, QaF, ty3, Tm.rows_map, hR]
  refine hK _ _ ?_ rfl; clear hK K
  refine Dwp.seq ?_
  refine Dwp.step tT rfl fun K hK => ?_
  simp [QB, QE, Qk, QJ, own, Ql, dop, QI, eval, Qx, QF, Ex.then, Ex.inBlock, upd, QK, Tag.isNN, Qm, intCmp, Qz, QA, TyI.agg, Qb, Qs, Qd, Qq, QL, QC, Qo, mapOf, Qw, Qn, Qe, Qh, Qf, Qt, DV.cells, Qr, Qg, Qp, Qu, rowsOf, Qv, growLimit, Qa, Qa.go, Qi, Qj, Qc, goInt, init, Qaf, QaF, ty3]
  refine hK _ _ ?_ rfl; clear hK K
  refine Dwp.range tT ks.length (fun i a τ => a 3 = .lit (.int .i64 (1 + R + Qbm (ks.take i))) ∧ a 11 = .slice 6 .none (ks.map Tm.cells))
    ⟨rfl, rfl, rfl⟩ ⟨rfl, rfl, rfl⟩ ⟨rfl, rfl, rfl⟩ (by decide) (by decide) (by omega) (by simp [upd]) (by simp [upd]) ⟨by simp [upd, Qbm, hw1], by simp [upd]⟩ ?_ ?_
  · rintro i a τ hi hidx hlen2 ⟨g3, g11⟩
    have hgi := g ks[i] (List.getElem_mem _)
    have hnx := ndsPs_next ks i hi
    have b1 := QfQ ks i
    have b2 := QfQ ks (i + 1)
    have b3 := (QcB (ks.take i)).1
    have b4 := (QcB (ks.take (i + 1))).1
    have hw2 := hw (1 + R + Qbm (ks.take i) + Qid ks[i]) (by omega) (by omega)
    generalize Qbm (ks.take i) = A at *
    refine Dwp.step tT rfl fun K hK => ?_
    simp [QB, QE, Qk, QJ, own, Ql, dop, QI, eval, Qx, QF, Ex.then, Ex.inBlock, upd, QK, Tag.isNN, Qm, intCmp, Qz, QA, TyI.agg, Qb, Qs, Qd, Qq, QL, QC, Qo, mapOf, Qw, Qn, Qe, Qh, Qf, Qt, DV.cells, Qr, Qg, Qp, Qu, rowsOf, Qv, growLimit, Qa, Qa.go, Qi, Qj, Qc, goInt, g11, hidx, QaF, Qaf, hi, Tm.cells_len, Q6, set6]
    refine hK _ _ ?_ rfl; clear hK K
    refine Dwp.reg tT rfl fun K hK => ?_
    simp [QB, QE, Qk, QJ, own, Ql, dop, QI, eval, Qx, QF, Ex.then, Ex.inBlock, upd, QK, Tag.isNN, Qm, intCmp, Qz, QA, TyI.agg, Qb, Qs, Qd, Qq, QL, QC, Qo, mapOf, Qw, Qn, Qe, Qh, Qf, Qt, DV.cells, Qr, Qg, Qp, Qu, rowsOf, Qv, growLimit, Qa, Qa.go, Qi, Qj, Qc, goInt, g3, g11, hidx, QaF, Qaf, ty3, Tm.cells_len, Q6, hgi, hw2]
    refine hK _ _ ?_ rfl
    exact ⟨by simp [upd, hidx], by simp [upd, hlen2], by simp [upd]; omega, by simp [upd, g11]⟩
  · rintro a τ hidx hlen2 ⟨g3, g11⟩
    rw [List.take_length] at g3
    refine Dwp.step tT rfl fun K hK => ?_
    simp [QB, QE, Qk, QJ, own, Ql, dop, QI, eval, Qx, QF, Ex.then, Ex.inBlock, upd, QK, Tag.isNN, Qm, intCmp, Qz, QA, TyI.agg, Qb, Qs, Qd, Qq, QL, QC, Qo, mapOf, Qw, Qn, Qe, Qh, Qf, Qt, DV.cells, Qr, Qg, Qp, Qu, rowsOf, Qv, growLimit, Qa, Qa.go, Qi, Qj, Qc, goInt, g3]
    refine hK _ _ (Dwp.ret ?_) rfl
    simp [Q1, QG, QY, frz, QW, QX, Ex.then, upd, Enc.i64, Enc.int, Qid, hR]
theorem QiL : ∀ n : Nat, Qy Tryz.prog 53 (Qju n)
  | 0 => by
    refine Qy.of_sp (T := QD []) Tryz.func53 rfl (Nat.le_of_ble_eq_true rfl) fun E t y hy => ?_
    split at hy
    case isFalse => cases hy
    next hlim => exact absurd hlim.1 (by have := Qeo t; omega)
  | n + 1 => c53 n (QiL n)
theorem e53 (n : Nat) : Go.FA.Good Tryz.prog (53, Qju n) := ⟨QiL n, Tryz.f53, _, Tryz.func53, rfl, by decide⟩
theorem mxI_z {x : Int} (h : 0 ≤ x) : mxI 0 x = x := by unfold mxI; split <;> omega
theorem Qjj {x : Int} (h : 0 ≤ x) : mxI x 0 = x := by unfold mxI; split <;> omega
mutual
def hiP : Tm → Int
  | .mk _ _ _ _ ks r => 1 + mxI r.length (Qd4 ks)
def Qd4 : List Tm → Int
  | [] => 0
  | t :: l => mxI (hiP t) (Qd4 l)
end
mutual
theorem QjN : ∀ t : Tm, 0 ≤ hiP t ∧ hiP t ≤ tsz t
  | .mk _ _ _ _ ks r => by
    have h1 := Qc6 ks
    have h2 := QaN r
    simp only [hiP, tsz, mxI]
    split <;> omega
theorem Qc6 : ∀ l : List Tm, 0 ≤ Qd4 l ∧ Qd4 l ≤ Qbf l
  | [] => by simp [Qd4, Qbf]
  | t :: l => by
    have h1 := QjN t
    have h2 := Qc6 l
    simp only [Qd4, Qbf, mxI]
    split <;> omega
end
theorem Qgk : ∀ l m : List Tm, Qd4 (l ++ m) = mxI (Qd4 l) (Qd4 m)
  | [], m => by simp only [List.nil_append, Qd4]; exact (mxI_z (Qc6 m).1).symm
  | t :: l, m => by
    simp only [List.cons_append, Qd4, Qgk l m, mxI]
    repeat' split
    all_goals omega
theorem hiPs_next (l : List Tm) (i : Nat) (hi : i < l.length) : Qd4 (l.take (i + 1)) = mxI (Qd4 (l.take i)) (hiP l[i]) := by
  have h := (QjN l[i]).1
  have e : Qd4 [l[i]] = hiP l[i] := by simp only [Qd4]; exact Qjj h
  rw [List.take_succ_eq_append_getElem hi, Qgk, e]
theorem Qg1 (l : List Tm) (i : Nat) : Qd4 (l.take i) ≤ Qd4 l := by
  have h := Qgk (l.take i) (l.drop i)
  rw [List.take_append_drop] at h
  rw [h, mxI]; split <;> omega
open Classical in
noncomputable def Qjw (n : Nat) : Sp := sp (QS Enc.tm) Enc.i64 (fun t => if tsz t ≤ n ∧ tsz t ≤ tlim ∧ okT t then some (hiP t) else none)
open Classical in
theorem QjQ {n : Nat} (T : Tab) (hT : T 54 = some (Qjw n)) (t : Tm) (h : tsz t ≤ n ∧ tsz t ≤ tlim ∧ okT t) : dcall T 54 [.agg t.cells] = some (.lit (.int .i64 (hiP t))) :=
  QaI (A := Enc.tm) (B := Enc.i64) hT (if_pos h)
set_option maxHeartbeats 2000000 in
theorem c54 (n : Nat) (ih : Qy Tryz.prog 54 (Qjw n)) : Qy Tryz.prog 54 (Qjw (n + 1)) := by
  refine Qy.of_sp (T := QD [(54, Qjw n)]) Tryz.func54 rfl (Nat.le_of_ble_eq_true rfl) fun E t y hy => ?_
  split at hy
  case isFalse => cases hy
  next hlim =>
  obtain ⟨hsz, hl, hok⟩ := hlim
  cases hy
  obtain ⟨k, n0, x, s, ks, r⟩ := t
  rw [okT] at hok
  obtain ⟨hx, hs, hkl, hrl, hoks, hokr⟩ := hok
  simp only [tsz] at hsz hl
  have tT : QO Tryz.prog (QD [(54, Qjw n)]) := .cons ⟨ih, Tryz.f54, _, Tryz.func54, rfl, by decide⟩ .nil
  have g := fun t (ht : t ∈ ks) => QjQ (QD [(54, Qjw n)]) rfl t ⟨by have := Qam ks t ht; omega, by have := Qam ks t ht; omega, QbW ks t hoks ht⟩
  generalize QD [(54, Qjw n)] = T at *
  obtain ⟨R, hR⟩ : ∃ R : Int, (r.length : Int) = R := ⟨_, rfl⟩
  have hrlen := QaN r
  have hkb := Qc6 ks
  have hlt : (tlim : Int) = 1048576 := rfl
  have hw : ∀ x : Int, 0 ≤ x → x ≤ 2097152 → IntKind.i64.wrap x = x := fun x h1 h2 => Qed (by omega) (by omega)
  have hm0 : mxI R 0 = R := by simp only [mxI]; split <;> omega
  have hmx : ∀ x y : Int, mxI (mxI R x) y = mxI R (mxI x y) := by intro x y; simp only [mxI]; repeat' split
                                                                  all_goals omega
  have hmb : 0 ≤ mxI R (Qd4 ks) ∧ mxI R (Qd4 ks) ≤ 1048576 := by simp only [mxI]; split <;> omega
  have hw1 := hw (mxI R (Qd4 ks) + 1) (by omega) (by omega)
  refine Dwp.step tT rfl fun K hK => ?_
  simp [QB, QE, Qk, QJ, own, Ql, dop, QI, eval, Qx, QF, Ex.then, Ex.inBlock, upd, QK, Tag.isNN, Qm, intCmp, Qz, QA, TyI.agg, Qb, Qs, Qd, Qq, QL, QC, Qo, mapOf, Qw, Qn, Qe, Qh, Qf, Qt, DV.cells, Qr, Qg, Qp, Qu, rowsOf, Qv, growLimit, Qa, Qa.go, Qi, Qj, Qc, goInt, init, QS, QH.one, Enc.tm, Enc.agg, QH.tm, Tm.cells]
  refine hK _ _ ?_ rfl; clear hK K
  refine Dwp.step tT rfl fun K hK => ?_
  simp [QB, QE, Qk, QJ, own, Ql, dop, QI, eval, Qx, QF, Ex.then, Ex.inBlock, upd, QK, Tag.isNN, Qm, intCmp, Qz, QA, TyI.agg, Qb, Qs, Qd, Qq, QL, QC, Qo, mapOf, Qw, Qn, Qe, Qh, Qf, Qt, DV.cells, Qr, Qg, Qp, Qu, rowsOf, Qv, growLimit, Qa, Qa.go, Qi, Qj, Qc, goInt, init, Qaf, QaF, ty3, Tm.rows_map, hR]
  refine hK _ _ ?_ rfl; clear hK K
  refine Dwp.seq ?_
  refine Dwp.step tT rfl fun K hK => ?_
  simp [QB, QE, Qk, QJ, own, Ql, dop, QI, eval, Qx, QF, Ex.then, Ex.inBlock, upd, QK, Tag.isNN, Qm, intCmp, Qz, QA, TyI.agg, Qb, Qs, Qd, Qq, QL, QC, Qo, mapOf, Qw, Qn, Qe, Qh, Qf, Qt, DV.cells, Qr, Qg, Qp, Qu, rowsOf, Qv, growLimit, Qa, Qa.go, Qi, Qj, Qc, goInt, init, Qaf, QaF, ty3]
  refine hK _ _ ?_ rfl; clear hK K
  refine Dwp.range tT ks.length (fun i a τ => a 3 = .lit (.int .i64 (mxI R (Qd4 (ks.take i)))) ∧ a 10 = .slice 6 .none (ks.map Tm.cells))
    ⟨rfl, rfl, rfl⟩ ⟨rfl, rfl, rfl⟩ ⟨rfl, rfl, rfl⟩ (by decide) (by decide) (by omega) (by simp [upd]) (by simp [upd]) ⟨by simp [upd, Qd4, hm0], by simp [upd]⟩ ?_ ?_
  · rintro i a τ hi hidx hlen2 ⟨g3, g11⟩
    have hgi := g ks[i] (List.getElem_mem _)
    have hnx := hiPs_next ks i hi
    have b1 := Qg1 ks i
    have b2 := Qg1 ks (i + 1)
    have b3 := (Qc6 (ks.take i)).1
    have b4 := (Qc6 (ks.take (i + 1))).1
    generalize Qd4 (ks.take i) = A at *
    refine Dwp.step tT rfl fun K hK => ?_
    simp [QB, QE, Qk, QJ, own, Ql, dop, QI, eval, Qx, QF, Ex.then, Ex.inBlock, upd, QK, Tag.isNN, Qm, intCmp, Qz, QA, TyI.agg, Qb, Qs, Qd, Qq, QL, QC, Qo, mapOf, Qw, Qn, Qe, Qh, Qf, Qt, DV.cells, Qr, Qg, Qp, Qu, rowsOf, Qv, growLimit, Qa, Qa.go, Qi, Qj, Qc, goInt, g11, hidx, QaF, Qaf, hi, Tm.cells_len, Q6, set6]
    refine hK _ _ ?_ rfl; clear hK K
    refine Dwp.reg tT rfl fun K hK => ?_
    simp [QB, QE, Qk, QJ, own, Ql, dop, QI, eval, Qx, QF, Ex.then, Ex.inBlock, upd, QK, Tag.isNN, Qm, intCmp, Qz, QA, TyI.agg, Qb, Qs, Qd, Qq, QL, QC, Qo, mapOf, Qw, Qn, Qe, Qh, Qf, Qt, DV.cells, Qr, Qg, Qp, Qu, rowsOf, Qv, growLimit, Qa, Qa.go, Qi, Qj, Qc, goInt, g3, g11, hidx, QaF, Qaf, ty3, Tm.cells_len, Q6, hgi]
    refine hK _ _ ?_ rfl
    exact ⟨by simp [upd, hidx], by simp [upd, hlen2], by simp [upd]; rw [hnx, ← hmx]; rfl, by simp [upd, g11]⟩
  · rintro a τ hidx hlen2 ⟨g3, g11⟩
    rw [List.take_length] at g3
    refine Dwp.step tT rfl fun K hK => ?_
    simp [QB, QE, Qk, QJ, own, Ql, dop, QI, eval, Qx, QF, Ex.then, Ex.inBlock, upd, QK, Tag.isNN, Qm, intCmp, Qz, QA, TyI.agg, Qb, Qs, Qd, Qq, QL, QC, Qo, mapOf, Qw, Qn, Qe, Qh, Qf, Qt, DV.cells, Qr, Qg, Qp, Qu, rowsOf, Qv, growLimit, Qa, Qa.go, Qi, Qj, Qc, goInt, g3, ty3, hw1]
    refine hK _ _ (Dwp.ret ?_) rfl
    simp [Q1, QG, QY, frz, QW, QX, Ex.then, upd, Enc.i64, Enc.int, hiP, hR]; omega
theorem Qjh : ∀ n : Nat, Qy Tryz.prog 54 (Qjw n)
  | 0 => by
    refine Qy.of_sp (T := QD []) Tryz.func54 rfl (Nat.le_of_ble_eq_true rfl) fun E t y hy => ?_
    split at hy
    case isFalse => cases hy
    next hlim => exact absurd hlim.1 (by have := Qeo t; omega)
  | n + 1 => c54 n (Qjh n)
theorem e54 (n : Nat) : Go.FA.Good Tryz.prog (54, Qjw n) := ⟨Qjh n, Tryz.f54, _, Tryz.func54, rfl, by decide⟩
end Go.Proofs.Yt
namespace Go.Proofs.Yt
open Go Go.FA Go.Proofs Go.RowKit
set_option linter.unusedSimpArgs false
theorem QeS (a b x : ByteArray) : swN a b (swN a b x) = x := by
  unfold swN
  by_cases h1 : x = a
  · subst h1
    by_cases h2 : b = x
    · subst h2; simp
    · simp [h2]
  · by_cases h2 : x = b
    · subst h2; simp [h1]
    · simp [h1, h2]
theorem Qai {k n : Int} {x s : ByteArray} {ks r : List Tm} (h : QcM (.mk k n x s ks r) = true) : ks = [] ∧ r = [] := by
  simpa [QcM] using h
theorem var_leaf {v : Tm} (hk : v.kind = 6) (h : Qau v = true) : tsz v = 1 ∧ Qdc v = 1 := by
  obtain ⟨k, n, x, s, ks, r⟩ := v
  simp only [Tm.kind] at hk
  subst hk
  simp [Qau] at h
  obtain ⟨rfl, rfl⟩ := Qai h.2.2
  exact ⟨by simp [tsz, Qbf], by simp [Qdc, QaY, mxI]⟩
theorem Qe9 {so : ByteArray} {r : List Tm} (h : Qce so r = true) (ha : QaT r = true) : r = [] ∨ ∃ v, r = [v] ∧ tsz v = 1 ∧ Qdc v = 1 := by
  match r, h, ha with
  | [], _, _ => exact .inl rfl
  | [v], h, ha =>
    simp only [Qce, Bool.and_eq_true, decide_eq_true_eq] at h
    have hv : Qau v = true := by
      obtain ⟨k, n, x, s, ks, r⟩ := v
      simp only [QaT, Qgd, Bool.and_eq_true] at ha
      exact ha.1.1
    exact .inr ⟨v, rfl, var_leaf h.1 hv⟩
theorem rest_small {k n : Int} {x s : ByteArray} {ks r : List Tm} (h : Qau (.mk k n x s ks r) = true) (ha : QaT r = true) : r = [] ∨ ∃ v, r = [v] ∧ tsz v = 1 ∧ Qdc v = 1 := by
  simp only [Qau] at h
  repeat' split at h
  all_goals simp only [Bool.and_eq_true, Bool.false_eq_true] at h
  · exact .inl (Qai h.2.2.2.2).2
  · exact .inl (Qai h.2.2.2).2
  · exact .inl (Qai h.2.2.2).2
  · exact .inl (Qai h.2.2.2).2
  · exact .inl (by simpa using h.2.2.2.2)
  · exact .inl (Qai h.2.2).2
  · exact Qe9 h.2.2.2 ha
  · exact Qe9 h.2.2.2.2 ha
mutual
theorem Qiv : ∀ t : Tm, Qgd t = true → Qid t = tsz t ∧ hiP t = Qdc t
  | .mk k n x s ks r, h => by
    simp only [Qgd, Bool.and_eq_true] at h
    obtain ⟨h1, h2⟩ := Qgv ks h.2.1
    have h3 := (Qc6 ks).1
    simp only [Qid, tsz, hiP, Qdc, h1, ← h2]
    rcases rest_small h.1 h.2.2 with rfl | ⟨v, rfl, hv, hd⟩
    · simp only [Qbf, QaY, List.length_nil]
      exact ⟨by omega, by rw [Qjj h3, show ((0 : Nat) : Int) = 0 from rfl, mxI_z h3]⟩
    · simp only [Qbf, QaY, hv, hd, List.length_cons, List.length_nil]
      refine ⟨by omega, ?_⟩
      rw [Qjj (by omega : (0 : Int) ≤ 1)]
      show 1 + mxI 1 _ = _
      unfold mxI
      split <;> split <;> omega
theorem Qgv : ∀ l : List Tm, QaT l = true → Qbm l = Qbf l ∧ Qd4 l = QaY l
  | [], _ => by simp [Qbm, Qbf, Qd4, QaY]
  | t :: l, h => by
    simp only [QaT, Bool.and_eq_true] at h
    obtain ⟨h1, h2⟩ := Qiv t h.1
    obtain ⟨h3, h4⟩ := Qgv l h.2
    simp only [Qbm, Qbf, Qd4, QaY, h1, h2, h3, h4]
    exact ⟨by omega, trivial⟩
end
theorem resN_tsz (a b : ByteArray) : ∀ t : Tm, tsz (Qdd a b t) = tsz t ∧ Qdc (Qdd a b t) = Qdc t
  | .mk k n x s ks r => by simp [Qdd, tsz, Qdc]
theorem Qhd (a b : ByteArray) : ∀ l : List Tm, Qbf (l.map (Qdd a b)) = Qbf l ∧ QaY (l.map (Qdd a b)) = QaY l
  | [] => by simp
  | t :: l => by
    obtain ⟨h1, h2⟩ := resN_tsz a b t
    obtain ⟨h3, h4⟩ := Qhd a b l
    simp only [List.map_cons, Qbf, QaY, h1, h2, h3, h4]
    exact ⟨trivial, trivial⟩
mutual
theorem QhH (a b : ByteArray) : ∀ t : Tm, tsz (Qc8 a b t) = tsz t ∧ Qdc (Qc8 a b t) = Qdc t
  | .mk k n x s ks r => by
    obtain ⟨h1, h2⟩ := QgA a b ks
    obtain ⟨h3, h4⟩ := Qhd a b r
    simp only [Qc8, tsz, Qdc, h1, h2, h3, h4]
    exact ⟨trivial, trivial⟩
theorem QgA (a b : ByteArray) : ∀ l : List Tm, Qbf (Qbj a b l) = Qbf l ∧ QaY (Qbj a b l) = QaY l
  | [] => by simp [Qbj]
  | t :: l => by
    obtain ⟨h1, h2⟩ := QhH a b t
    obtain ⟨h3, h4⟩ := QgA a b l
    simp only [Qbj, Qbf, QaY, h1, h2, h3, h4]
    exact ⟨trivial, trivial⟩
end
theorem Qej {x : ByteArray} (h : QP x = true) : Qho x = false := by
  rcases hu : Qho x with _ | _
  · rfl
  · simp only [Qho, Bool.or_eq_true, decide_eq_true_eq] at hu
    rcases hu with rfl | rfl <;> exact absurd h (by decide)
theorem Qhw {a b x : ByteArray} (ha : QP a = true) (hb : QP b = true) (h : Qho x = false) : Qho (swN a b x) = false := by
  unfold swN
  split
  · exact Qej hb
  · split
    · exact Qej ha
    · exact h
theorem QcC {a b x : ByteArray} (ha : QP a = true) (hb : QP b = true) (h : QP x = true) : QP (swN a b x) = true := by
  unfold swN
  split
  · exact hb
  · split
    · exact ha
    · exact h
theorem QhJ : ∀ u : List UInt8, (∀ b ∈ u, b ≠ 39) → Lib.indexByte u 39 = -1
  | [], _ => rfl
  | b :: l, h => by
    have h1 : b ≠ 39 := h b (by simp)
    have ih := QhJ l fun x hx => h x (by simp [hx])
    simp [Lib.indexByte, h1, ih]
theorem QiC : ∀ (u c : List UInt8), (∀ b ∈ u, b ≠ 39) → Lib.indexByte (u ++ 39 :: c) 39 = (u.length : Int)
  | [], c, _ => by simp [Lib.indexByte]
  | b :: l, c, h => by
    have h1 : b ≠ 39 := h b (by simp)
    have ih := QiC l c fun x hx => h x (by simp [hx])
    have : ¬ (l.length : Int) = -1 := by omega
    simp [Lib.indexByte, h1, ih, this]
theorem Qg7 : ∀ l : List UInt8, (∀ b ∈ l, b ≠ 39) ∨ ∃ u c, l = u ++ 39 :: c ∧ ∀ b ∈ u, b ≠ 39
  | [] => .inl (by simp)
  | b :: l => by
    by_cases h : b = 39
    · exact .inr ⟨[], l, by simp [h], by simp⟩
    · rcases Qg7 l with h1 | ⟨u, c, rfl, hu⟩
      · exact .inl (by simpa [h] using h1)
      · exact .inr ⟨b :: u, c, rfl, by simpa [h] using hu⟩
theorem QgR {s : ByteArray} (h : ∀ b ∈ s.data.toList, b ≠ 39) : Qcm s = (s, ⟨#[]⟩) := by
  simp [Qcm, mark, QhJ _ h]
theorem Qh1 {u c : ByteArray} {l : List UInt8} (h : ∀ b ∈ u.data.toList, b ≠ 39) (hc : c.data.toList = 39 :: l) : Qcm (u ++ c) = (u, c) := by
  have e : mark (u ++ c) = (u.size : Int) := by
    simp only [mark, ByteArray.data_append, Array.toList_append, hc]
    rw [QiC _ _ h]; rfl
  have h0 : (0 : Int) ≤ (u.size : Int) := by omega
  simp only [Qcm, e, h0, if_true, Int.toNat_natCast]
  rw [ByteArray.extract_append_eq_left rfl, ByteArray.extract_append_eq_right rfl (by simp)]
theorem cutF_split (s : ByteArray) : (Qcm s = (s, ⟨#[]⟩) ∧ ∀ b ∈ s.data.toList, b ≠ 39) ∨ ∃ (u c : ByteArray) (l : List UInt8), s = u ++ c ∧ (∀ b ∈ u.data.toList, b ≠ 39) ∧ c.data.toList = 39 :: l := by
  rcases Qg7 s.data.toList with h | ⟨u, c, hs, hu⟩
  · exact .inl ⟨QgR h, h⟩
  · refine .inr ⟨⟨u.toArray⟩, ⟨(39 :: c).toArray⟩, c, ?_, by simpa using hu, by simp⟩
    apply ByteArray.ext
    rw [ByteArray.data_append, ← Array.toList_inj, hs]
    simp
theorem name_mark {x : ByteArray} (h : QP x = true) : ∀ b ∈ x.data.toList, b ≠ 39 := by
  intro b hb
  simp only [QP, Bool.and_eq_true, Qhh, List.all_eq_true] at h
  rintro rfl
  exact absurd (h.2 _ hb) (by decide)
theorem QgQ {a b x : ByteArray} (ha : QP a = true) (hb : QP b = true) (hx : QP (Qcm x).1 = true) :
    Qcm (swN a b (Qcm x).1 ++ (Qcm x).2) = (swN a b (Qcm x).1, (Qcm x).2) ∧ (Qcm x).1 ++ (Qcm x).2 = x := by
  have hm := name_mark (QcC ha hb hx)
  rcases cutF_split x with ⟨e, h⟩ | ⟨u, c, l, rfl, hu, hc⟩
  · rw [e] at hm ⊢
    have e2 : ∀ y : ByteArray, y ++ (⟨#[]⟩ : ByteArray) = y := fun y => ByteArray.append_empty
    simp only [e2]
    exact ⟨QgR hm, trivial⟩
  · rw [Qh1 hu hc] at hm ⊢
    exact ⟨Qh1 hm hc, rfl⟩
theorem nameX_twice {a b : ByteArray} (ha : QP a = true) (hb : QP b = true) {k n : Int} {x s : ByteArray} {ks r : List Tm} (h : Qau (.mk k n x s ks r) = true) :
    Qbp a b k (Qbp a b k x) = x ∧ QbA a b k (Qbp a b k x) (QbA a b k x s) = s := by
  by_cases h5 : k = 5
  · subst h5
    simp [Qau] at h
    have ho := h.2.1
    rw [QdJ] at ho
    simp only [Bool.and_eq_true] at ho
    obtain ⟨e1, e2⟩ := QgQ ha hb ho.1
    simp [Qbp, QbA, e1, QeS, e2]
  · by_cases h6 : k = 6
    · subst h6
      rcases hu : Qho x with _ | _
      · have := Qhw ha hb hu
        simp [Qbp, QbA, hu, this, QeS]
      · simp [Qbp, QbA, hu]
    · simp [Qbp, QbA, h5, h6]
theorem resN_twice (a b : ByteArray) : ∀ t : Tm, Qdd a b (Qdd a b t) = t
  | .mk k n x s ks r => by simp [Qdd, QeS]
mutual
theorem QfB {a b : ByteArray} (ha : QP a = true) (hb : QP b = true) : ∀ t : Tm, Qgd t = true → Qc8 a b (Qc8 a b t) = t
  | .mk k n x s ks r, h => by
    simp only [Qgd, Bool.and_eq_true] at h
    obtain ⟨h1, h2⟩ := nameX_twice ha hb h.1
    have h3 := QeP ha hb ks h.2.1
    have h4 : (r.map (Qdd a b)).map (Qdd a b) = r := by
      rw [List.map_map, show (Qdd a b ∘ Qdd a b) = id from funext fun t => resN_twice a b t, List.map_id]
    simp only [Qc8, h1, h2, h3, h4]
theorem QeP {a b : ByteArray} (ha : QP a = true) (hb : QP b = true) : ∀ l : List Tm, QaT l = true → Qbj a b (Qbj a b l) = l
  | [], _ => rfl
  | t :: l, h => by
    simp only [QaT, Bool.and_eq_true] at h
    simp only [Qbj, QfB ha hb t h.1, QeP ha hb l h.2]
end
theorem nameX_other {a b : ByteArray} {k : Int} {x s : ByteArray} (h5 : k ≠ 5) (h6 : k ≠ 6) : Qbp a b k x = x ∧ QbA a b k x s = s := by simp [Qbp, QbA, h5, h6]
theorem QeX (a b : ByteArray) (l : List Tm) : (Qbj a b l).length = l.length := by rw [Qer, List.length_map]
theorem Qhf {a b so : ByteArray} (ha : QP a = true) (hb : QP b = true) {r : List Tm} (h : Qce so r = true) : Qce so (r.map (Qdd a b)) = true := by
  match r, h with
  | [], _ => rfl
  | [.mk k n x s ks q], h =>
    simp only [Qce, Bool.and_eq_true, decide_eq_true_eq] at h
    show Qce so [Qdd a b (.mk k n x s ks q)] = true
    simp only [Qce, Qdd, Bool.and_eq_true, decide_eq_true_eq]
    exact ⟨decide_eq_true h.1, QcC ha hb h.2.1, decide_eq_true h.2.2⟩
theorem nodeP_ren {a b : ByteArray} (ha : QP a = true) (hb : QP b = true) {k n : Int} {x s : ByteArray} {ks r : List Tm} (h : Qau (.mk k n x s ks r) = true) :
    Qau (.mk k n (Qbp a b k x) (QbA a b k x s) (Qbj a b ks) (r.map (Qdd a b))) = true := by
  by_cases h5 : k = 5
  · subst h5
    simp [Qau] at h
    have ho := h.2.1
    rw [QdJ] at ho
    simp only [Bool.and_eq_true] at ho
    obtain ⟨e1, e2⟩ := QgQ ha hb ho.1
    have h3 : QhY (Qbp a b 5 x) = true := by
      rw [QdJ]
      simp only [Qbp, if_true, e1, QcC ha hb ho.1, ho.2, Bool.and_true]
    simp [Qau, h3, QbA, QeX, h]
  · by_cases h6 : k = 6
    · subst h6
      simp [Qau] at h
      obtain ⟨rfl, rfl⟩ := Qai h.2.2
      have hv := h.2.1
      have h3 : Qjc (Qbp a b 6 x) (QbA a b 6 x s) = true := by
        rcases hu : Qho x with _ | _
        · simp [Qjc, hu] at hv
          simp [Qbp, QbA, hu, Qjc, Qhw ha hb hu, QcC ha hb hv.1, QcC ha hb hv.2]
        · simp [Qbp, QbA, hu]
          exact hv
      simp [Qau, h3, h.1, Qbj, QcM]
    · obtain ⟨e1, e2⟩ := nameX_other (a := a) (b := b) (x := x) (s := s) h5 h6
      rw [e1, e2]
      simp only [Qau, h5, h6, if_false] at h ⊢
      repeat' split at h
      all_goals simp only [Bool.and_eq_true, Bool.false_eq_true] at h
      all_goals rename_i hk
      · obtain ⟨rfl, rfl⟩ := Qai h.2.2.2.2
        simp [h, hk, Qbj, QcM]
      · obtain ⟨rfl, rfl⟩ := Qai h.2.2.2
        simp [h, hk, Qbj, QcM]
      · obtain ⟨rfl, rfl⟩ := Qai h.2.2.2
        simp [h, hk, Qbj, QcM]
      · obtain ⟨rfl, rfl⟩ := Qai h.2.2.2
        simp [h, hk, Qbj, QcM]
      · simp [h, hk, Qhf ha hb h.2.2.2]
      · simp [h, hk, Qhf ha hb h.2.2.2.2, QeX]
theorem QhT {a b so : ByteArray} (ha : QP a = true) (hb : QP b = true) {r : List Tm} (h : Qce so r = true) (hal : QaT r = true) : QaT (r.map (Qdd a b)) = true := by
  match r, h, hal with
  | [], _, _ => rfl
  | [.mk k n x s ks q], h, hal =>
    simp only [Qce, Bool.and_eq_true, decide_eq_true_eq] at h
    obtain ⟨h6, hx, hs⟩ := h
    have h6' : k = 6 := h6
    subst h6'
    simp only [QaT, Qgd, Bool.and_eq_true] at hal
    have hn := hal.1.1
    simp [Qau] at hn
    obtain ⟨rfl, rfl⟩ := Qai hn.2.2
    have hv := hn.2.1
    have hx1 : QP x = true := hx
    unfold Qjc at hv
    rw [if_neg (by rw [Qej hx1]; decide)] at hv
    simp only [Bool.and_eq_true] at hv
    have hv2 : Qjc (swN a b x) s = true := by
      unfold Qjc
      rw [if_neg (by rw [Qhw ha hb (Qej hx1)]; decide)]
      simp [QcC ha hb hx1, hv.2]
    simp [QaT, Qgd, Qdd, Qau, hn.1, hv2, QcM]
theorem node_rest_all {a b : ByteArray} (ha : QP a = true) (hb : QP b = true) {k n : Int} {x s : ByteArray} {ks r : List Tm} (h : Qau (.mk k n x s ks r) = true) (hal : QaT r = true) : QaT (r.map (Qdd a b)) = true := by
  simp only [Qau] at h
  have h0 : r = [] → QaT (r.map (Qdd a b)) = true := by rintro rfl; rfl
  repeat' split at h
  all_goals simp only [Bool.and_eq_true, Bool.false_eq_true] at h
  · exact h0 (Qai h.2.2.2.2).2
  · exact h0 (Qai h.2.2.2).2
  · exact h0 (Qai h.2.2.2).2
  · exact h0 (Qai h.2.2.2).2
  · exact h0 (by simpa using h.2.2.2.2)
  · exact h0 (Qai h.2.2).2
  · exact QhT ha hb h.2.2.2 hal
  · exact QhT ha hb h.2.2.2.2 hal
mutual
theorem Qg6 {a b : ByteArray} (ha : QP a = true) (hb : QP b = true) : ∀ t : Tm, Qgd t = true → Qgd (Qc8 a b t) = true
  | .mk k n x s ks r, h => by
    simp only [Qgd, Bool.and_eq_true] at h
    simp only [Qc8, Qgd, Bool.and_eq_true]
    exact ⟨nodeP_ren ha hb h.1, QfL ha hb ks h.2.1, node_rest_all ha hb h.1 h.2.2⟩
theorem QfL {a b : ByteArray} (ha : QP a = true) (hb : QP b = true) : ∀ l : List Tm, QaT l = true → QaT (Qbj a b l) = true
  | [], _ => rfl
  | t :: l, h => by
    simp only [QaT, Bool.and_eq_true] at h
    simp only [Qbj, QaT, Qg6 ha hb t h.1, QfL ha hb l h.2, Bool.and_self]
end
theorem renT_valid {a b : ByteArray} (ha : QP a = true) (hb : QP b = true) {t : Tm} (h : QaD t = true) : QaD (Qc8 a b t) = true ∧ Qc8 a b (Qc8 a b t) = t ∧ tsz (Qc8 a b t) = tsz t ∧ Qdc (Qc8 a b t) = Qdc t ∧ Qid t = tsz t ∧ hiP t = Qdc t := by
  simp only [QaD, Bool.and_eq_true] at h
  obtain ⟨h1, h2⟩ := QhH a b t
  obtain ⟨h3, h4⟩ := Qiv t h.1
  refine ⟨?_, QfB ha hb t h.1, h1, h2, h3, h4⟩
  simp only [QaD, Bool.and_eq_true, h1, h2]
  exact ⟨Qg6 ha hb t h.1, h.2⟩
theorem tailOk_size {c : ByteArray} (h : Qd2 c = true) : c.size ≤ 2 := by
  unfold Qd2 at h
  split at h
  · next he =>
    have e : c.size = c.data.toList.length := by simp
    rw [e, he]
    exact Nat.le_refl 2
  · cases h
theorem nameX_size {a b x : ByteArray} {k : Int} (ha : QP a = true) (hb : QP b = true) (hx : x.size ≤ lim) (h5 : k = 5 → QhY x = true) : (Qbp a b k x).size ≤ lim := by
  have h1 := Qaq ha
  have h2 := Qaq hb
  unfold Qbp
  split
  · next h =>
    have h3 := h5 h
    rw [QdJ] at h3
    simp only [Bool.and_eq_true, Bool.or_eq_true, decide_eq_true_eq] at h3
    obtain ⟨h4, h6⟩ := h3
    have h7 := Qaq h4
    have h8 : (Qcm x).2.size ≤ 2 := by
      rcases h6 with h6 | h6
      · rw [h6]; exact Nat.zero_le _
      · exact tailOk_size h6
    have h9 : (swN a b (Qcm x).1).size ≤ 40 := Qdw h1 h2 h7
    rw [ByteArray.size_append]
    unfold lim
    omega
  · split
    · exact Qdw (by unfold lim; omega) (by unfold lim; omega) hx
    · exact hx
theorem sortX_size {a b x s : ByteArray} {k : Int} (ha : QP a = true) (hb : QP b = true) (hs : s.size ≤ lim) : (QbA a b k x s).size ≤ lim := by
  have h1 := Qaq ha
  have h2 := Qaq hb
  unfold QbA
  split
  · exact Qdw (by unfold lim; omega) (by unfold lim; omega) hs
  · exact hs
theorem Qi2 {a b : ByteArray} (ha : QP a = true) (hb : QP b = true) : ∀ l : List Tm, QdK l → QdK (l.map (Qdd a b))
  | [], _ => trivial
  | .mk k n x s ks r :: l, h => by
    have h1 := Qaq ha
    have h2 := Qaq hb
    simp only [QdK, okT] at h
    simp only [List.map_cons, Qdd, QdK, okT]
    exact ⟨⟨Qdw (by unfold lim; omega) (by unfold lim; omega) h.1.1, h.1.2⟩, Qi2 ha hb l h.2⟩
theorem node_op {k n : Int} {x s : ByteArray} {ks r : List Tm} (h : Qau (.mk k n x s ks r) = true) : k = 5 → QhY x = true := by
  rintro rfl
  simp [Qau] at h
  exact h.2.1
mutual
theorem QiM {a b : ByteArray} (ha : QP a = true) (hb : QP b = true) : ∀ t : Tm, Qgd t = true → okT t → okT (Qc8 a b t)
  | .mk k n x s ks r, h, ho => by
    simp only [Qgd, Bool.and_eq_true] at h
    simp only [okT] at ho
    simp only [Qc8, okT, QeX, List.length_map]
    exact ⟨nameX_size ha hb ho.1 (node_op h.1), sortX_size ha hb ho.2.1, ho.2.2.1, ho.2.2.2.1, QhG ha hb ks h.2.1 ho.2.2.2.2.1, Qi2 ha hb r ho.2.2.2.2.2⟩
theorem QhG {a b : ByteArray} (ha : QP a = true) (hb : QP b = true) : ∀ l : List Tm, QaT l = true → QdK l → QdK (Qbj a b l)
  | [], _, _ => trivial
  | t :: l, h, ho => by
    simp only [QaT, Bool.and_eq_true] at h
    simp only [QdK] at ho
    simp only [Qbj, QdK]
    exact ⟨QiM ha hb t h.1 ho.1, QhG ha hb l h.2 ho.2⟩
end
open Classical in
theorem QjP (T : Tab) (hT : T 50 = some sT50) (t : Tm) (a b : ByteArray) (h : okT t ∧ tsz t ≤ tlim) : dcall T 50 [.agg t.cells, .lit (.string a), .lit (.string b)] = some (.tuple [.agg (QjK t a b).1.cells, .lit (.int .i64 (QjK t a b).2)]) := by
  exact QfR (A := Enc.tm) (B := Enc.str) (C := Enc.str) (D := Enc.tmI) (x := t) (y := a) (u := b) hT (if_pos h)
open Classical in
theorem call37 (T : Tab) (hT : T 37 = some sT37) (t : Tm) (h : okT t ∧ tsz t ≤ tlim) : dcall T 37 [.agg t.cells] = some (.tuple [.lit (.int .i64 (Qb3 t).1), .lit (.int .i64 (Qb3 t).2.2)]) :=
  QaI (A := Enc.tm) (B := Enc.sz2) hT (if_pos h)
open Classical in
theorem call39 (T : Tab) (hT : T 39 = some sT39) (t : Tm) (h : okT t ∧ tsz t ≤ tlim) : dcall T 39 [.agg t.cells] = some (.tuple [.lit (.int .i64 (Qb3 t).2.1), .lit (.int .i64 (Qb3 t).2.2)]) :=
  QaI (A := Enc.tm) (B := Enc.sz2) hT (if_pos h)
end Go.Proofs.Yt

namespace Go.Proofs.Yt
open Go Go.FA Go.Proofs Go.RowKit
set_option linter.unusedSimpArgs false
set_option maxRecDepth 100000
def fitT (t : Tm) : Prop := okT t ∧ tsz t ≤ tlim
open Classical in
noncomputable def sT11 : Sp := sp (Q0 Enc.tm Enc.str Enc.str) Enc.bool (fun x => if fitT x.1 then some true else none)
noncomputable abbrev TL11 : Tab := QD [(21, s21), (22, s22x), (35, s35 tlim), (37, sT37), (39, sT39), (50, sT50), (53, Qju tlim), (54, Qjw tlim)]
theorem tabL11 : QO Tryz.prog TL11 := .cons e21 (.cons e22x (.cons e35 (.cons e37 (.cons e39 (.cons e50 (.cons (e53 tlim) (.cons (e54 tlim) .nil)))))))
theorem renF_no {t : Tm} {a b : ByteArray} (h : ¬ (QaD t = true ∧ QP a = true ∧ QP b = true)) : QjK t a b = (.mk 0 0 ⟨#[]⟩ ⟨#[]⟩ [] [], 2) := if_neg h
theorem Qh2 {t : Tm} {a b : ByteArray} (h : QaD t = true ∧ QP a = true ∧ QP b = true) : QjK t a b = (Qc8 a b t, 0) := if_pos h
set_option maxHeartbeats 8000000 in
theorem cL11 : Qy Tryz.prog 11 sT11 := by
  refine Qy.of_sp (T := TL11) Tryz.func11 rfl (Nat.le_of_ble_eq_true rfl) fun E xx y hy => ?_
  obtain ⟨t, a, b⟩ := xx
  simp only [] at hy
  split at hy
  case isFalse => cases hy
  next hlim =>
  obtain ⟨hok, hl⟩ := hlim
  cases hy
  have tT := tabL11
  have gf := call21 TL11 rfl t hok
  have ga := call22 TL11 rfl
  have gr := QjP TL11 rfl t a b ⟨hok, hl⟩
  have gs := QjZ TL11 rfl t t hl hl hl
  have gn := Qj1 TL11 rfl t ⟨hl, hl, hok⟩
  have gh := QjQ TL11 rfl t ⟨hl, hl, hok⟩
  rw [QeG] at gs
  have yes : (QaD t = true ∧ QP a = true ∧ QP b = true) → ∃ u : Tm, QjK t a b = (u, 0) ∧
      dcall TL11 50 [.agg u.cells, .lit (.string a), .lit (.string b)] = some (.tuple [.agg t.cells, .lit (.int .i64 0)]) ∧
      dcall TL11 37 [.agg u.cells] = some (.tuple [.lit (.int .i64 (Qid t)), .lit (.int .i64 0)]) ∧
      dcall TL11 39 [.agg u.cells] = some (.tuple [.lit (.int .i64 (hiP t)), .lit (.int .i64 0)]) := by
    rintro ⟨hv, ha, hb⟩
    obtain ⟨v1, v2, v3, v4, v5, v6⟩ := renT_valid ha hb hv
    have hv' := hv
    simp only [QaD, Bool.and_eq_true] at hv'
    have hu : okT (Qc8 a b t) ∧ tsz (Qc8 a b t) ≤ tlim := ⟨QiM ha hb t hv'.1 hok, by rw [v3]; exact hl⟩
    have c1 := QjP TL11 rfl (Qc8 a b t) a b hu
    have c2 := call37 TL11 rfl (Qc8 a b t) hu
    have c3 := call39 TL11 rfl (Qc8 a b t) hu
    have hm : Qb3 (Qc8 a b t) = ((tsz t : Int), Qdc t, (0 : Int)) := by simp [Qb3, v1, v3, v4]
    rw [Qh2 ⟨v1, ha, hb⟩, v2] at c1
    rw [hm] at c2 c3
    rw [v5, v6]
    exact ⟨_, Qh2 ⟨hv, ha, hb⟩, c1, c2, c3⟩
  generalize TL11 = T at *
  clear hok hl
  refine Dwp.step tT rfl fun K hK => ?_
  simp [QB, QE, Qk, QJ, own, Ql, dop, QI, eval, Qx, QF, Ex.then, Ex.inBlock, upd, QK, Tag.isNN, Qm, intCmp, Qz, QA, TyI.agg, Qb, Qs, Qd, Qq, QL, QC, Qo, mapOf, Qw, Qn, Qe, Qh, Qf, Qt, DV.cells, Qr, Qg, Qp, Qu, rowsOf, Qv, growLimit, Qa, Qa.go, Qi, Qj, Qc, goInt, init, Q0, QR, QS, QH.one, QH.and, Enc.tm, Enc.str, Enc.agg, QH.tm, Tm.cells_len, Q6]
  refine hK _ _ ?_ rfl; clear hK K
  refine Dwp.seq ?_
  refine Dwp.step tT rfl fun K hK => ?_
  generalize decide (0 ≤ Qav [t] 2600 0) = b1 at *
  cases b1
  ·
    repeat' ((first | refine QF.stepD rfl rfl ?_ | refine QF.stepG rfl rfl rfl ?_ | refine QF.stepN rfl rfl ?_ | refine QF.stepGN rfl rfl rfl ?_); intro K1 hK1; simp [*, QZ, QN, QJ, dop, eval, Qx, upd, Qb, Qs, Qz, QA, TyI.agg, Qd, Qq, Qh, Qf, QC, QL, goInt, QK, intCmp, Qm, Tag.isNN, Qc, DV.cells, growLimit, Qr, Qg, init, Qa0, ty3, ty9, QaF, Qaf, Ql, Tm.cells_len, Q6]; (first | (refine hK1 _ _ ?_; clear hK1 K1) | (split <;> (rename_i hsp; (try simp only [beq_iff_eq, beq_eq_false_iff_ne, ne_eq, decide_eq_true_eq, decide_eq_false_iff_not] at hsp); (try (first | have hsq := Int.not_le.2 hsp | have hsq := Int.not_lt.2 hsp | have hsq := Int.not_le.1 hsp | have hsq := Int.not_lt.1 hsp)); (try subst hsp); (try simp only [hsp])) <;> (refine hK1 _ _ ?_; clear hK1 K1))))
    refine QF.done (hK _ _ ?_ rfl)
    refine Dwp.condT (by simp [eval, upd]) ?_
    refine Dwp.step tT rfl fun K hK => ?_
    simp [QB, QE, Qk, QJ, own, Ql, dop, QI, eval, Qx, QF, Ex.then, Ex.inBlock, upd, QK, Tag.isNN, Qm, intCmp, Qz, QA, TyI.agg, Qb, Qs, Qd, Qq, QL, QC, Qo, mapOf, Qw, Qn, Qe, Qh, Qf, Qt, DV.cells, Qr, Qg, Qp, Qu, rowsOf, Qv, growLimit, Qa, Qa.go, Qi, Qj, Qc, goInt, ga]
    refine hK _ _ (Dwp.ret ?_) rfl
    exact QaS Tryz.func11 rfl _ (by simp [upd])
  repeat' ((first | refine QF.stepD rfl rfl ?_ | refine QF.stepG rfl rfl rfl ?_ | refine QF.stepN rfl rfl ?_ | refine QF.stepGN rfl rfl rfl ?_); intro K1 hK1; simp [*, QZ, QN, QJ, dop, eval, Qx, upd, Qb, Qs, Qz, QA, TyI.agg, Qd, Qq, Qh, Qf, QC, QL, goInt, QK, intCmp, Qm, Tag.isNN, Qc, DV.cells, growLimit, Qr, Qg, init, Qa0, ty3, ty9, QaF, Qaf, Ql, Tm.cells_len, Q6]; (first | (refine hK1 _ _ ?_; clear hK1 K1) | (split <;> (rename_i hsp; (try simp only [beq_iff_eq, beq_eq_false_iff_ne, ne_eq, decide_eq_true_eq, decide_eq_false_iff_not] at hsp); (try (first | have hsq := Int.not_le.2 hsp | have hsq := Int.not_lt.2 hsp | have hsq := Int.not_le.1 hsp | have hsq := Int.not_lt.1 hsp)); (try subst hsp); (try simp only [hsp])) <;> (refine hK1 _ _ ?_; clear hK1 K1))))
  refine QF.done (hK _ _ ?_ rfl)
  refine Dwp.condF (by simp [eval, upd]) (Dwp.skip ?_)
  by_cases hyes : QaD t = true ∧ QP a = true ∧ QP b = true
  case neg =>
    rw [renF_no hyes] at gr
    refine Dwp.step tT rfl fun K hK => ?_
    simp [QB, QE, Qk, QJ, own, Ql, dop, QI, eval, Qx, QF, Ex.then, Ex.inBlock, upd, QK, Tag.isNN, Qm, intCmp, Qz, QA, TyI.agg, Qb, Qs, Qd, Qq, QL, QC, Qo, mapOf, Qw, Qn, Qe, Qh, Qf, Qt, DV.cells, Qr, Qg, Qp, Qu, rowsOf, Qv, growLimit, Qa, Qa.go, Qi, Qj, Qc, goInt, init, Qaf, Tm.cells_len, Q6, gr, setAt, Tm.cells]
    refine hK _ _ ?_ rfl; clear hK K
    refine Dwp.seq ?_
    refine Dwp.step tT rfl fun K hK => ?_
    simp [QB, QE, Qk, QJ, own, Ql, dop, QI, eval, Qx, QF, Ex.then, Ex.inBlock, upd, QK, Tag.isNN, Qm, intCmp, Qz, QA, TyI.agg, Qb, Qs, Qd, Qq, QL, QC, Qo, mapOf, Qw, Qn, Qe, Qh, Qf, Qt, DV.cells, Qr, Qg, Qp, Qu, rowsOf, Qv, growLimit, Qa, Qa.go, Qi, Qj, Qc, goInt, init]
    refine hK _ _ ?_ rfl; clear hK K
    refine Dwp.condT (by simp [eval, upd]) ?_
    refine Dwp.step tT rfl fun K hK => ?_
    repeat' ((first | refine QF.stepD rfl rfl ?_ | refine QF.stepG rfl rfl rfl ?_ | refine QF.stepN rfl rfl ?_ | refine QF.stepGN rfl rfl rfl ?_); intro K1 hK1; simp [*, QZ, QN, QJ, dop, eval, Qx, upd, Qb, Qs, Qz, QA, TyI.agg, Qd, Qq, Qh, Qf, QC, QL, goInt, QK, intCmp, Qm, Tag.isNN, Qc, DV.cells, growLimit, Qr, Qg, init, ty3, Ql]; (first | (refine hK1 _ _ ?_; clear hK1 K1) | (split <;> (rename_i hsp; (try simp only [beq_iff_eq, beq_eq_false_iff_ne, ne_eq, decide_eq_true_eq, decide_eq_false_iff_not] at hsp); (try (first | have hsq := Int.not_le.2 hsp | have hsq := Int.not_lt.2 hsp | have hsq := Int.not_le.1 hsp | have hsq := Int.not_lt.1 hsp)); (try subst hsp); (try simp only [hsp])) <;> (refine hK1 _ _ ?_; clear hK1 K1))))
    refine QF.done (hK _ _ (Dwp.ret ?_) rfl)
    exact QaS Tryz.func11 rfl _ (by simp [upd])
  obtain ⟨u, hu, g1, g2, g3⟩ := yes hyes
  rw [hu] at gr
  clear yes hyes hu
  refine Dwp.step tT rfl fun K hK => ?_
  simp [QB, QE, Qk, QJ, own, Ql, dop, QI, eval, Qx, QF, Ex.then, Ex.inBlock, upd, QK, Tag.isNN, Qm, intCmp, Qz, QA, TyI.agg, Qb, Qs, Qd, Qq, QL, QC, Qo, mapOf, Qw, Qn, Qe, Qh, Qf, Qt, DV.cells, Qr, Qg, Qp, Qu, rowsOf, Qv, growLimit, Qa, Qa.go, Qi, Qj, Qc, goInt, init, Qaf, Tm.cells_len, Q6, gr, Qf4]
  refine hK _ _ ?_ rfl; clear hK K
  refine Dwp.seq ?_
  refine Dwp.step tT rfl fun K hK => ?_
  simp [QB, QE, Qk, QJ, own, Ql, dop, QI, eval, Qx, QF, Ex.then, Ex.inBlock, upd, QK, Tag.isNN, Qm, intCmp, Qz, QA, TyI.agg, Qb, Qs, Qd, Qq, QL, QC, Qo, mapOf, Qw, Qn, Qe, Qh, Qf, Qt, DV.cells, Qr, Qg, Qp, Qu, rowsOf, Qv, growLimit, Qa, Qa.go, Qi, Qj, Qc, goInt, init]
  refine hK _ _ ?_ rfl; clear hK K
  refine Dwp.condF (by simp [eval, upd]) (Dwp.skip ?_)
  refine Dwp.step tT rfl fun K hK => ?_
  simp [QB, QE, Qk, QJ, own, Ql, dop, QI, eval, Qx, QF, Ex.then, Ex.inBlock, upd, QK, Tag.isNN, Qm, intCmp, Qz, QA, TyI.agg, Qb, Qs, Qd, Qq, QL, QC, Qo, mapOf, Qw, Qn, Qe, Qh, Qf, Qt, DV.cells, Qr, Qg, Qp, Qu, rowsOf, Qv, growLimit, Qa, Qa.go, Qi, Qj, Qc, goInt, init, Qaf, Tm.cells_len, Q6, g1, Qf4]
  refine hK _ _ ?_ rfl; clear hK K
  refine Dwp.step tT rfl fun K hK => ?_
  simp [QB, QE, Qk, QJ, own, Ql, dop, QI, eval, Qx, QF, Ex.then, Ex.inBlock, upd, QK, Tag.isNN, Qm, intCmp, Qz, QA, TyI.agg, Qb, Qs, Qd, Qq, QL, QC, Qo, mapOf, Qw, Qn, Qe, Qh, Qf, Qt, DV.cells, Qr, Qg, Qp, Qu, rowsOf, Qv, growLimit, Qa, Qa.go, Qi, Qj, Qc, goInt, init, Qaf, Tm.cells_len, Q6, g2]
  refine hK _ _ ?_ rfl; clear hK K
  refine Dwp.step tT rfl fun K hK => ?_
  simp [QB, QE, Qk, QJ, own, Ql, dop, QI, eval, Qx, QF, Ex.then, Ex.inBlock, upd, QK, Tag.isNN, Qm, intCmp, Qz, QA, TyI.agg, Qb, Qs, Qd, Qq, QL, QC, Qo, mapOf, Qw, Qn, Qe, Qh, Qf, Qt, DV.cells, Qr, Qg, Qp, Qu, rowsOf, Qv, growLimit, Qa, Qa.go, Qi, Qj, Qc, goInt, init, Qaf, Tm.cells_len, Q6, g3]
  refine hK _ _ ?_ rfl; clear hK K
  refine Dwp.step tT rfl fun K hK => ?_
  repeat' ((first | refine QF.stepD rfl rfl ?_ | refine QF.stepG rfl rfl rfl ?_ | refine QF.stepN rfl rfl ?_ | refine QF.stepGN rfl rfl rfl ?_); intro K1 hK1; simp [*, QZ, QN, QJ, dop, eval, Qx, upd, Qb, Qs, Qz, QA, TyI.agg, Qd, Qq, Qh, Qf, QC, QL, goInt, QK, intCmp, Qm, Tag.isNN, Qc, DV.cells, growLimit, Qr, Qg, init, ty3, Qaf, Ql, Tm.cells_len, Q6]; (first | (refine hK1 _ _ ?_; clear hK1 K1) | (split <;> (rename_i hsp; (try simp only [beq_iff_eq, beq_eq_false_iff_ne, ne_eq, decide_eq_true_eq, decide_eq_false_iff_not] at hsp); (try (first | have hsq := Int.not_le.2 hsp | have hsq := Int.not_lt.2 hsp | have hsq := Int.not_le.1 hsp | have hsq := Int.not_lt.1 hsp)); (try subst hsp); (try simp only [hsp])) <;> (refine hK1 _ _ ?_; clear hK1 K1))))
  refine QF.done (hK _ _ (Dwp.ret ?_) rfl)
  exact QaS Tryz.func11 rfl _ (by simp [upd])
end Go.Proofs.Yt
