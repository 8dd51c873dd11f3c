/- Contracts of functions of the program, by a machine over abstract values; part 30. No condition beyond those of each theorem. -/
import Derived.Test.YtfpejlbfdpeofaaGreatDoorSm28
set_option linter.unusedVariables false
set_option linter.unusedSimpArgs false
namespace Go.Proofs.Yt
open Go Go.FA Go.Proofs Go.RowKit
set_option maxRecDepth 100000
theorem call22 (T : Tab) (hT : T 22 = some s22x) : dcall T 22 [] = some (.lit (.bool true)) := by
  simp [dcall, hT, s22x]
abbrev Ql.ex : Ql (ByteArray × ByteArray) := (Ql.one Enc.str).and (Ql.one Enc.str)
abbrev Enc.ex : Enc (ByteArray × ByteArray) := Enc.agg Ql.ex
def swN (a b s : ByteArray) : ByteArray := if s = a then b else if s = b then a else s
end Go.Proofs.Yt



namespace Go.Proofs.Yt
open Go Go.FA Go.Proofs Go.RowKit
set_option maxRecDepth 100000
section
attribute [local simp] QF QZ Qo QJ own Qm dop QN eval Qr Qn Ex.then Ex.inBlock upd QV Tag.isNN Qp intCmp Qv Qx TyI.agg Qa Qu Qg Qs QX QA QD mapOf QQ QC Qq Qi Qj QI DV.cells Qt Qk QE QK rowsOf QL Qd Qe Qe.go Qz QB Qc goInt
def Enc.sz2 : Enc (Int × Int) := Enc.tup (QR Enc.i64 Enc.i64)
open Classical in
noncomputable def sT37 : Sp := sp (QM Enc.tm) Enc.sz2 (fun t => if okT t ∧ tsz t ≤ tlim then some ((QbU t).1, (QbU t).2.2) else none)
open Classical in
noncomputable def sT39 : Sp := sp (QM Enc.tm) Enc.sz2 (fun t => if okT t ∧ tsz t ≤ tlim then some ((QbU t).2.1, (QbU t).2.2) else none)
theorem c37 : Qb Tryz.prog 37 sT37 := by
  refine Qb.of_sp (T := Qf [(76, s76)]) Tryz.func37 rfl (Nat.le_of_ble_eq_true rfl) fun E t y hy => ?_
  split at hy
  case isFalse => cases hy
  next hlim =>
  obtain ⟨hok, hl⟩ := hlim
  cases hy
  have tT : QH Tryz.prog (Qf [(76, s76)]) := .cons e76 .nil
  have g := Qj8 (Qf [(76, s76)]) rfl t hok hl
  generalize Qf [(76, s76)] = T at *
  refine Dwp.step tT rfl fun K hK => ?_
  simp [init, QM, Ql.one, Enc.tm, Enc.agg, Ql.tm, Tm.cells_len, QT]
  refine hK _ _ ?_ rfl; clear hK K
  refine Dwp.step tT rfl fun K hK => ?_
  simp [init, Q5, Tm.cells_len, QT, g]
  refine hK _ _ ?_ rfl; clear hK K
  refine Dwp.step tT rfl fun K hK => ?_
  simp [init]
  refine hK _ _ (Dwp.ret ?_) rfl
  simp [Q3, Qh, QW, frz, Q2, Q0, Ex.then, upd, Enc.sz2, Enc.tup, QR, Ql.and, Ql.one, Enc.i64, Enc.int]
theorem e37 : Go.FA.Good Tryz.prog (37, sT37) := ⟨c37, Tryz.f37, _, Tryz.func37, rfl, by decide⟩
theorem c39 : Qb Tryz.prog 39 sT39 := by
  refine Qb.of_sp (T := Qf [(76, s76)]) Tryz.func39 rfl (Nat.le_of_ble_eq_true rfl) fun E t y hy => ?_
  split at hy
  case isFalse => cases hy
  next hlim =>
  obtain ⟨hok, hl⟩ := hlim
  cases hy
  have tT : QH Tryz.prog (Qf [(76, s76)]) := .cons e76 .nil
  have g := Qj8 (Qf [(76, s76)]) rfl t hok hl
  generalize Qf [(76, s76)] = T at *
  refine Dwp.step tT rfl fun K hK => ?_
  simp [init, QM, Ql.one, Enc.tm, Enc.agg, Ql.tm, Tm.cells_len, QT]
  refine hK _ _ ?_ rfl; clear hK K
  refine Dwp.step tT rfl fun K hK => ?_
  simp [init, Q5, Tm.cells_len, QT, g]
  refine hK _ _ ?_ rfl; clear hK K
  refine Dwp.step tT rfl fun K hK => ?_
  simp [init]
  refine hK _ _ (Dwp.ret ?_) rfl
  simp [Q3, Qh, QW, frz, Q2, Q0, Ex.then, upd, Enc.sz2, Enc.tup, QR, Ql.and, Ql.one, Enc.i64, Enc.int]
theorem e39 : Go.FA.Good Tryz.prog (39, sT39) := ⟨c39, Tryz.f39, _, Tryz.func39, rfl, by decide⟩
mutual
def Qjy : Tm → Int
  | .mk _ _ _ _ ks r => 1 + r.length + QbM ks
def QbM : List Tm → Int
  | [] => 0
  | t :: l => Qjy t + QbM l
end
mutual
theorem ndsP_le : ∀ t : Tm, 0 ≤ Qjy t ∧ Qjy t ≤ tsz t
  | .mk _ _ _ _ ks r => by
    have h1 := Qc0 ks
    have h2 := Qao r
    simp only [Qjy, tsz]
    omega
theorem Qc0 : ∀ l : List Tm, 0 ≤ QbM l ∧ QbM l ≤ QaI l
  | [] => by simp [QbM, QaI]
  | t :: l => by
    have h1 := ndsP_le t
    have h2 := Qc0 l
    simp only [QbM, QaI]
    omega
end
theorem QfH : ∀ l m : List Tm, QbM (l ++ m) = QbM l + QbM m
  | [], m => by simp [QbM]
  | t :: l, m => by simp only [List.cons_append, QbM, QfH l m]; omega
theorem ndsPs_next (l : List Tm) (i : Nat) (hi : i < l.length) : QbM (l.take (i + 1)) = QbM (l.take i) + Qjy l[i] := by
  rw [List.take_succ_eq_append_getElem hi, QfH]; simp [QbM]
theorem Qgi (l : List Tm) (i : Nat) : QbM (l.take i) ≤ QbM l := by
  have h := QfH (l.take i) (l.drop i)
  rw [List.take_append_drop] at h
  have := (Qc0 (l.drop i)).1
  omega
open Classical in
noncomputable def Qi8 (n : Nat) : Sp := sp (QM Enc.tm) Enc.i64 (fun t => if tsz t ≤ n ∧ tsz t ≤ tlim ∧ okT t then some (Qjy t) else none)
open Classical in
theorem Qli {n : Nat} (T : Tab) (hT : T 53 = some (Qi8 n)) (t : Tm) (h : tsz t ≤ n ∧ tsz t ≤ tlim ∧ okT t) : dcall T 53 [.agg t.cells] = some (.lit (.int .i64 (Qjy t))) :=
  Qad (A := Enc.tm) (B := Enc.i64) hT (if_pos h)
set_option maxHeartbeats 2000000 in
theorem c53 (n : Nat) (ih : Qb Tryz.prog 53 (Qi8 n)) : Qb Tryz.prog 53 (Qi8 (n + 1)) := by
  refine Qb.of_sp (T := Qf [(53, Qi8 n)]) Tryz.func53 rfl (Nat.le_of_ble_eq_true rfl) fun E t y hy => ?_
  split at hy
  case isFalse => cases hy
  next hlim =>
  obtain ⟨hsz, hl, hok⟩ := hlim
  cases hy
  obtain ⟨k, n0, x, s, ks, r⟩ := t
  rw [okT] at hok
  obtain ⟨hx, hs, hkl, hrl, hoks, hokr⟩ := hok
  simp only [tsz] at hsz hl
  have tT : QH Tryz.prog (Qf [(53, Qi8 n)]) := .cons ⟨ih, Tryz.f53, _, Tryz.func53, rfl, by decide⟩ .nil
  have g := fun t (ht : t ∈ ks) => Qli (Qf [(53, Qi8 n)]) rfl t ⟨by have := Qac ks t ht; omega, by have := Qac ks t ht; omega, QaQ ks t hoks ht⟩
  generalize Qf [(53, Qi8 n)] = T at *
  obtain ⟨R, hR⟩ : ∃ R : Int, (r.length : Int) = R := ⟨_, rfl⟩
  have hrlen := Qao r
  have hkb := Qc0 ks
  have hlt : (tlim : Int) = 1048576 := rfl
  have hw : ∀ x : Int, 0 ≤ x → x ≤ 2097152 → IntKind.i64.wrap x = x := fun x h1 h2 => QaY (by omega) (by omega)
  have hw1 := hw (1 + R) (by omega) (by omega)
  refine Dwp.step tT rfl fun K hK => ?_
  simp [init, QM, Ql.one, Enc.tm, Enc.agg, Ql.tm, Tm.cells]
  refine hK _ _ ?_ rfl; clear hK K
  refine Dwp.step tT rfl fun K hK => ?_
  simp [init, Q5, Qak, ty3, Tm.rows_map, hR]
  refine hK _ _ ?_ rfl; clear hK K
  refine Dwp.seq ?_
  refine Dwp.step tT rfl fun K hK => ?_
  simp [init, Q5, Qak, ty3]
  refine hK _ _ ?_ rfl; clear hK K
  refine Dwp.range tT ks.length (fun i a τ => a 3 = .lit (.int .i64 (1 + R + QbM (ks.take i))) ∧ a 11 = .slice 6 .none (ks.map Tm.cells))
    ⟨rfl, rfl, rfl⟩ ⟨rfl, rfl, rfl⟩ ⟨rfl, rfl, rfl⟩ (by decide) (by decide) (by omega) (by simp [upd]) (by simp [upd]) ⟨by simp [upd, QbM, hw1], by simp [upd]⟩ ?_ ?_
  · rintro i a τ hi hidx hlen2 ⟨g3, g11⟩
    have hgi := g ks[i] (List.getElem_mem _)
    have hnx := ndsPs_next ks i hi
    have b1 := Qgi ks i
    have b2 := Qgi ks (i + 1)
    have b3 := (Qc0 (ks.take i)).1
    have b4 := (Qc0 (ks.take (i + 1))).1
    have hw2 := hw (1 + R + QbM (ks.take i) + Qjy ks[i]) (by omega) (by omega)
    generalize QbM (ks.take i) = A at *
    refine Dwp.step tT rfl fun K hK => ?_
    simp [g11, hidx, Qak, Q5, hi, Tm.cells_len, QT, Qky]
    refine hK _ _ ?_ rfl; clear hK K
    refine Dwp.reg tT rfl fun K hK => ?_
    simp [g3, g11, hidx, Qak, Q5, ty3, Tm.cells_len, QT, hgi, hw2]
    refine hK _ _ ?_ rfl
    exact ⟨by simp [upd, hidx], by simp [upd, hlen2], by simp [upd]; omega, by simp [upd, g11]⟩
  · rintro a τ hidx hlen2 ⟨g3, g11⟩
    rw [List.take_length] at g3
    refine Dwp.step tT rfl fun K hK => ?_
    simp [g3]
    refine hK _ _ (Dwp.ret ?_) rfl
    simp [Q3, Qh, QW, frz, Q2, Q0, Ex.then, upd, Enc.i64, Enc.int, Qjy, hR]
theorem QjR : ∀ n : Nat, Qb Tryz.prog 53 (Qi8 n)
  | 0 => by
    refine Qb.of_sp (T := Qf []) Tryz.func53 rfl (Nat.le_of_ble_eq_true rfl) fun E t y hy => ?_
    split at hy
    case isFalse => cases hy
    next hlim => exact absurd hlim.1 (by have := Qeg t; omega)
  | n + 1 => c53 n (QjR n)
theorem e53 (n : Nat) : Go.FA.Good Tryz.prog (53, Qi8 n) := ⟨QjR n, Tryz.f53, _, Tryz.func53, rfl, by decide⟩
theorem mxI_z {x : Int} (h : 0 ≤ x) : mxI 0 x = x := by unfold mxI; split <;> omega
theorem Qj9 {x : Int} (h : 0 ≤ x) : mxI x 0 = x := by unfold mxI; split <;> omega
mutual
def hiP : Tm → Int
  | .mk _ _ _ _ ks r => 1 + mxI r.length (QeF ks)
def QeF : List Tm → Int
  | [] => 0
  | t :: l => mxI (hiP t) (QeF l)
end
mutual
theorem Qlh : ∀ t : Tm, 0 ≤ hiP t ∧ hiP t ≤ tsz t
  | .mk _ _ _ _ ks r => by
    have h1 := Qds ks
    have h2 := Qao r
    simp only [hiP, tsz, mxI]
    split <;> omega
theorem Qds : ∀ l : List Tm, 0 ≤ QeF l ∧ QeF l ≤ QaI l
  | [] => by simp [QeF, QaI]
  | t :: l => by
    have h1 := Qlh t
    have h2 := Qds l
    simp only [QeF, QaI, mxI]
    split <;> omega
end
theorem QgM : ∀ l m : List Tm, QeF (l ++ m) = mxI (QeF l) (QeF m)
  | [], m => by simp only [List.nil_append, QeF]; exact (mxI_z (Qds m).1).symm
  | t :: l, m => by
    simp only [List.cons_append, QeF, QgM l m, mxI]
    repeat' split
    all_goals omega
theorem hiPs_next (l : List Tm) (i : Nat) (hi : i < l.length) : QeF (l.take (i + 1)) = mxI (QeF (l.take i)) (hiP l[i]) := by
  have h := (Qlh l[i]).1
  have e : QeF [l[i]] = hiP l[i] := by simp only [QeF]; exact Qj9 h
  rw [List.take_succ_eq_append_getElem hi, QgM, e]
theorem Qhw (l : List Tm) (i : Nat) : QeF (l.take i) ≤ QeF l := by
  have h := QgM (l.take i) (l.drop i)
  rw [List.take_append_drop] at h
  rw [h, mxI]; split <;> omega
open Classical in
noncomputable def Qi0 (n : Nat) : Sp := sp (QM Enc.tm) Enc.i64 (fun t => if tsz t ≤ n ∧ tsz t ≤ tlim ∧ okT t then some (hiP t) else none)
open Classical in
theorem Qlo {n : Nat} (T : Tab) (hT : T 54 = some (Qi0 n)) (t : Tm) (h : tsz t ≤ n ∧ tsz t ≤ tlim ∧ okT t) : dcall T 54 [.agg t.cells] = some (.lit (.int .i64 (hiP t))) :=
  Qad (A := Enc.tm) (B := Enc.i64) hT (if_pos h)
set_option maxHeartbeats 2000000 in
theorem c54 (n : Nat) (ih : Qb Tryz.prog 54 (Qi0 n)) : Qb Tryz.prog 54 (Qi0 (n + 1)) := by
  refine Qb.of_sp (T := Qf [(54, Qi0 n)]) Tryz.func54 rfl (Nat.le_of_ble_eq_true rfl) fun E t y hy => ?_
  split at hy
  case isFalse => cases hy
  next hlim =>
  obtain ⟨hsz, hl, hok⟩ := hlim
  cases hy
  obtain ⟨k, n0, x, s, ks, r⟩ := t
  rw [okT] at hok
  obtain ⟨hx, hs, hkl, hrl, hoks, hokr⟩ := hok
  simp only [tsz] at hsz hl
  have tT : QH Tryz.prog (Qf [(54, Qi0 n)]) := .cons ⟨ih, Tryz.f54, _, Tryz.func54, rfl, by decide⟩ .nil
  have g := fun t (ht : t ∈ ks) => Qlo (Qf [(54, Qi0 n)]) rfl t ⟨by have := Qac ks t ht; omega, by have := Qac ks t ht; omega, QaQ ks t hoks ht⟩
  generalize Qf [(54, Qi0 n)] = T at *
  obtain ⟨R, hR⟩ : ∃ R : Int, (r.length : Int) = R := ⟨_, rfl⟩
  have hrlen := Qao r
  have hkb := Qds ks
  have hlt : (tlim : Int) = 1048576 := rfl
  have hw : ∀ x : Int, 0 ≤ x → x ≤ 2097152 → IntKind.i64.wrap x = x := fun x h1 h2 => QaY (by omega) (by omega)
  have hm0 : mxI R 0 = R := by simp only [mxI]; split <;> omega
  have hmx : ∀ x y : Int, mxI (mxI R x) y = mxI R (mxI x y) := by intro x y; simp only [mxI]; repeat' split
                                                                  all_goals omega
  have hmb : 0 ≤ mxI R (QeF ks) ∧ mxI R (QeF ks) ≤ 1048576 := by simp only [mxI]; split <;> omega
  have hw1 := hw (mxI R (QeF ks) + 1) (by omega) (by omega)
  refine Dwp.step tT rfl fun K hK => ?_
  simp [init, QM, Ql.one, Enc.tm, Enc.agg, Ql.tm, Tm.cells]
  refine hK _ _ ?_ rfl; clear hK K
  refine Dwp.step tT rfl fun K hK => ?_
  simp [init, Q5, Qak, ty3, Tm.rows_map, hR]
  refine hK _ _ ?_ rfl; clear hK K
  refine Dwp.seq ?_
  refine Dwp.step tT rfl fun K hK => ?_
  simp [init, Q5, Qak, ty3]
  refine hK _ _ ?_ rfl; clear hK K
  refine Dwp.range tT ks.length (fun i a τ => a 3 = .lit (.int .i64 (mxI R (QeF (ks.take i)))) ∧ a 10 = .slice 6 .none (ks.map Tm.cells))
    ⟨rfl, rfl, rfl⟩ ⟨rfl, rfl, rfl⟩ ⟨rfl, rfl, rfl⟩ (by decide) (by decide) (by omega) (by simp [upd]) (by simp [upd]) ⟨by simp [upd, QeF, hm0], by simp [upd]⟩ ?_ ?_
  · rintro i a τ hi hidx hlen2 ⟨g3, g11⟩
    have hgi := g ks[i] (List.getElem_mem _)
    have hnx := hiPs_next ks i hi
    have b1 := Qhw ks i
    have b2 := Qhw ks (i + 1)
    have b3 := (Qds (ks.take i)).1
    have b4 := (Qds (ks.take (i + 1))).1
    generalize QeF (ks.take i) = A at *
    refine Dwp.step tT rfl fun K hK => ?_
    simp [g11, hidx, Qak, Q5, hi, Tm.cells_len, QT, Qky]
    refine hK _ _ ?_ rfl; clear hK K
    refine Dwp.reg tT rfl fun K hK => ?_
    simp [g3, g11, hidx, Qak, Q5, ty3, Tm.cells_len, QT, hgi]
    refine hK _ _ ?_ rfl
    exact ⟨by simp [upd, hidx], by simp [upd, hlen2], by simp [upd]; rw [hnx, ← hmx]; rfl, by simp [upd, g11]⟩
  · rintro a τ hidx hlen2 ⟨g3, g11⟩
    rw [List.take_length] at g3
    refine Dwp.step tT rfl fun K hK => ?_
    simp [g3, ty3, hw1]
    refine hK _ _ (Dwp.ret ?_) rfl
    simp [Q3, Qh, QW, frz, Q2, Q0, Ex.then, upd, Enc.i64, Enc.int, hiP, hR]; omega
theorem Qkh : ∀ n : Nat, Qb Tryz.prog 54 (Qi0 n)
  | 0 => by
    refine Qb.of_sp (T := Qf []) Tryz.func54 rfl (Nat.le_of_ble_eq_true rfl) fun E t y hy => ?_
    split at hy
    case isFalse => cases hy
    next hlim => exact absurd hlim.1 (by have := Qeg t; omega)
  | n + 1 => c54 n (Qkh n)
theorem e54 (n : Nat) : Go.FA.Good Tryz.prog (54, Qi0 n) := ⟨Qkh n, Tryz.f54, _, Tryz.func54, rfl, by decide⟩
end
end Go.Proofs.Yt
namespace Go.Proofs.Yt
open Go Go.FA Go.Proofs Go.RowKit
theorem Qda {k n : Int} {x s : ByteArray} {ks r : List Tm} (h : QeJ (.mk k n x s ks r) = true) : ks = [] ∧ r = [] := by
  simpa [QeJ] using h
theorem var_leaf {v : Tm} (hk : v.kind = 6) (h : Qar v = true) : tsz v = 1 ∧ QeS v = 1 := by
  obtain ⟨k, n, x, s, ks, r⟩ := v
  simp only [Tm.kind] at hk
  subst hk
  simp [Qar] at h
  obtain ⟨rfl, rfl⟩ := Qda h.2.2
  exact ⟨by simp [tsz, QaI], by simp [QeS, Qa8, mxI]⟩
theorem Qfj {so : ByteArray} {r : List Tm} (h : Qb5 so r = true) (ha : QaZ r = true) : r = [] ∨ ∃ v, r = [v] ∧ tsz v = 1 ∧ QeS v = 1 := by
  match r, h, ha with
  | [], _, _ => exact .inl rfl
  | [v], h, ha =>
    simp only [Qb5, Bool.and_eq_true, decide_eq_true_eq] at h
    have hv : Qar v = true := by
      obtain ⟨k, n, x, s, ks, r⟩ := v
      simp only [QaZ, Qgo, Bool.and_eq_true] at ha
      exact ha.1.1
    exact .inr ⟨v, rfl, var_leaf h.1 hv⟩
theorem rest_small {k n : Int} {x s : ByteArray} {ks r : List Tm} (h : Qar (.mk k n x s ks r) = true) (ha : QaZ r = true) : r = [] ∨ ∃ v, r = [v] ∧ tsz v = 1 ∧ QeS v = 1 := by
  simp only [Qar] at h
  repeat' split at h
  all_goals simp only [Bool.and_eq_true, Bool.false_eq_true] at h
  · exact .inl (Qda h.2.2.2.2).2
  · exact .inl (Qda h.2.2.2).2
  · exact .inl (Qda h.2.2.2).2
  · exact .inl (Qda h.2.2.2).2
  · exact .inl (by simpa using h.2.2.2.2)
  · exact .inl (Qda h.2.2).2
  · exact Qfj h.2.2.2 ha
  · exact Qfj h.2.2.2.2 ha
mutual
theorem Qj6 : ∀ t : Tm, Qgo t = true → Qjy t = tsz t ∧ hiP t = QeS t
  | .mk k n x s ks r, h => by
    simp only [Qgo, Bool.and_eq_true] at h
    obtain ⟨h1, h2⟩ := QhC ks h.2.1
    have h3 := (Qds ks).1
    simp only [Qjy, tsz, hiP, QeS, h1, ← h2]
    rcases rest_small h.1 h.2.2 with rfl | ⟨v, rfl, hv, hd⟩
    · simp only [QaI, Qa8, List.length_nil]
      exact ⟨by omega, by rw [Qj9 h3, show ((0 : Nat) : Int) = 0 from rfl, mxI_z h3]⟩
    · simp only [QaI, Qa8, hv, hd, List.length_cons, List.length_nil]
      refine ⟨by omega, ?_⟩
      rw [Qj9 (by omega : (0 : Int) ≤ 1)]
      show 1 + mxI 1 _ = _
      unfold mxI
      split <;> split <;> omega
theorem QhC : ∀ l : List Tm, QaZ l = true → QbM l = QaI l ∧ QeF l = Qa8 l
  | [], _ => by simp [QbM, QaI, QeF, Qa8]
  | t :: l, h => by
    simp only [QaZ, Bool.and_eq_true] at h
    obtain ⟨h1, h2⟩ := Qj6 t h.1
    obtain ⟨h3, h4⟩ := QhC l h.2
    simp only [QbM, QaI, QeF, Qa8, h1, h2, h3, h4]
    exact ⟨by omega, trivial⟩
end
end Go.Proofs.Yt
namespace Go.Proofs.Yt
open Go Go.FA Go.Proofs Go.RowKit
set_option maxRecDepth 100000
section
attribute [local simp] QF QZ Qo QJ own Qm dop QN eval Qr Qn Ex.then Ex.inBlock upd QV Tag.isNN Qp intCmp Qv Qx TyI.agg Qa Qu Qg Qs QX QA QD mapOf QQ QC Qq Qi Qj QI DV.cells Qt Qk QE QK rowsOf QL Qd Qe Qe.go Qz QB Qc goInt
def Qc4 (mp : Bool) (i : Nat) : ByteArray := if i = 0 then ⟨#[]⟩ else if mp = true ∧ i % 2 = 1 then ⟨#[32, 45, 62, 32]⟩ else ⟨#[44, 32]⟩
mutual
def wrT : Tm → ByteArray
  | .mk k n x s ks r =>
    if k = 1 then ⟨(Lib.itoa n).toArray⟩
    else if k = 2 then (if n = 1 then ⟨#[116, 114, 117, 101]⟩ else ⟨#[102, 97, 108, 115, 101]⟩)
    else if k = 3 then ⟨#[34]⟩ ++ x ++ ⟨#[34]⟩
    else if k = 4 then ⟨#[39]⟩ ++ x
    else if k = 5 then x ++ ⟨#[40]⟩ ++ Qbc false 0 ks ++ ⟨#[41]⟩
    else if k = 6 then wrV x s
    else if k = 7 then ⟨#[91]⟩ ++ Qbc false 0 ks ++ wrR (decide (0 < ks.length)) r ++ ⟨#[93]⟩
    else if k = 8 then ⟨#[123]⟩ ++ Qbc true 0 ks ++ wrR (decide (0 < ks.length)) r ++ ⟨#[125]⟩
    else ⟨#[]⟩
def Qbc (mp : Bool) (i : Nat) : List Tm → ByteArray
  | [] => ⟨#[]⟩
  | t :: l => Qc4 mp i ++ wrT t ++ Qbc mp (i + 1) l
end
theorem QgJ (mp : Bool) : ∀ (l : List Tm) (i : Nat), Qbc mp i l = QfW (fun i t => Qc4 mp i ++ wrT t) i l
  | [], i => by simp [Qbc, QfW]
  | t :: l, i => by simp only [Qbc, QfW, QgJ mp l (i + 1)]
theorem Qcf (mp : Bool) (l : List Tm) (i : Nat) (hi : i < l.length) : Qbc mp 0 (l.take (i + 1)) = Qbc mp 0 (l.take i) ++ (Qc4 mp i ++ wrT l[i]) := by
  simp only [QgJ]; exact Qho _ l i hi
theorem Qg8 (mp : Bool) (l : List Tm) (i : Nat) : (Qbc mp 0 (l.take i)).size ≤ (Qbc mp 0 l).size := by
  simp only [QgJ]; exact QjE _ l i
def QkK (n : Nat) (t : Tm) : Prop := tsz t ≤ n ∧ tsz t ≤ tlim ∧ Qgo t = true ∧ okT t
def H97 (n : Nat) : Prop := ∀ (t : Tm) (id : Nat) (s : ByteArray) (σ : St), QkK n t → Wr id s σ → s.size + (wrT t).size ≤ 16777216 →
  HC Tryz.prog 97 [.ptr id 0, .agg t.cells] σ (fun _ σ' => Wr id (s ++ wrT t) σ' ∧ Fr id σ σ')
set_option maxHeartbeats 4000000 in
theorem h165 (n : Nat) (ih : H97 n) (id : Nat) (s : ByteArray) (ks : List Tm) (σ : St) (hw : Wr id s σ) (hf : ∀ t ∈ ks, QkK n t) (hlen : ks.length ≤ 1048576) (hl : s.size + (Qbc false 0 ks).size ≤ 16777216) :
    HC Tryz.prog 165 [.ptr id 0, .slice 6 .none (ks.map Tm.cells)] σ (fun _ σ' => Wr id (s ++ Qbc false 0 ks) σ' ∧ Fr id σ σ') := by
  have tT := Q9 (P := Tryz.prog)
  refine HC.of_body (T := Qf []) Tryz.func165 rfl (by decide) (Nat.le_of_ble_eq_true rfl) fun E => ?_
  generalize Qf [] = T at *
  have hid := hw.1
  refine Dwp.step tT rfl fun K hK => ?_
  simp [init, Qak]
  refine hK _ _ ?_ rfl; clear hK K
  refine Dwp.range tT ks.length (fun i a τ => a 0 = .ptr id 0 ∧ a 6 = .slice 6 .none (ks.map Tm.cells) ∧ Wr id (s ++ Qbc false 0 (ks.take i)) τ ∧ Fr id σ τ)
    ⟨rfl, rfl, rfl⟩ ⟨rfl, rfl, rfl⟩ ⟨rfl, rfl, rfl⟩ (by decide) (by decide) (by omega) (by simp [upd]) (by simp [upd]) ⟨by simp [upd, init], by simp [upd], ?_, ?_⟩ ?_ ?_
  · have h0 : s ++ Qbc false 0 (ks.take 0) = s := by simp only [List.take_zero, Qbc]; exact ByteArray.append_empty
    rw [h0]; exact hw.n _ (by first | omega | (simp only []; omega))
  · exact .n _ (by first | omega | (simp only []; omega)) (.refl _ _)
  · rintro i a τ hi hidx hlen2 ⟨g0, g6, gw, gf⟩
    have hnx := Qcf false ks i hi
    have hle : s.size + (Qbc false 0 (ks.take (i + 1))).size ≤ 16777216 := Nat.le_trans (Nat.add_le_add_left (Qg8 false ks (i + 1)) _) hl
    have hmem : ks[i] ∈ ks := List.getElem_mem _
    refine Dwp.step tT rfl fun K hK => ?_
    simp [g6, hidx, Qak, Q5, hi, Tm.cells_len, QT, Qky]
    refine hK _ _ ?_ rfl; clear hK K
    refine Dwp.seq ?_
    refine Dwp.step tT rfl fun K hK => ?_
    simp
    refine hK _ _ ?_ rfl
    have hid2 := gw.1
    have gw1 : Wr id (s ++ Qbc false 0 (ks.take i)) { n := τ.n + 1 + 6 + 2, objs := upd (upd τ.objs (τ.n + 1 + 3) (some (.cells 30 [.lit (.int .i64 0), .lit (.int .i64 0), .lit (.string ⟨#[]⟩), .lit (.string ⟨#[]⟩), .lit (.slice none 0 0), .lit (.slice none 0 0)]))) (τ.n + 1 + 3) (some (.cells 30 ks[i].cells)), toks := τ.toks } := gw.upd (by simp only []; omega) fun j hj => by
      have : j ≠ τ.n + 1 + 3 := by omega
      simp [upd, this]
    have gf1 : Fr id σ { n := τ.n + 1 + 6 + 2, objs := upd (upd τ.objs (τ.n + 1 + 3) (some (.cells 30 [.lit (.int .i64 0), .lit (.int .i64 0), .lit (.string ⟨#[]⟩), .lit (.string ⟨#[]⟩), .lit (.slice none 0 0), .lit (.slice none 0 0)]))) (τ.n + 1 + 3) (some (.cells 30 ks[i].cells)), toks := τ.toks } := gf.upd (by simp only []; omega) fun j hj => by
      have : j ≠ τ.n + 1 + 3 := by omega
      simp [upd, this]
    have hm : τ.n + 1 + 3 < τ.n + 1 + 6 + 2 := by omega
    have hmi : τ.n + 1 + 3 ≠ id := by omega
    have hv2 : (⟨#[44, 32]⟩ : ByteArray).size ≠ 0 := by decide
    have hle2 : (s ++ Qbc false 0 (ks.take i)).size + ((Qc4 false i).size + (wrT ks[i]).size) ≤ 16777216 := by
      rw [hnx] at hle; simp only [ByteArray.size_append] at hle ⊢; omega
    have hob : ∀ z, (upd (upd τ.objs (τ.n + 1 + 3) z) (τ.n + 1 + 3) (some (.cells 30 ks[i].cells))) (τ.n + 1 + 3) = some (.cells 30 ks[i].cells) := fun z => by simp [upd]
    generalize hmm : τ.n + 1 + 3 = m at *
    refine Dwp.mono (Q := fun e a' τ' => e = .normal ∧ a' 0 = .ptr id 0 ∧ a' 6 = .slice 6 .none (ks.map Tm.cells) ∧
      a' 7 = .lit (.int .i64 ks.length) ∧ a' 8 = .lit (.int .i64 i) ∧ a' 5 = .ptr m 0 ∧ τ'.objs m = some (.cells 30 ks[i].cells) ∧ Wr id (s ++ Qbc false 0 (ks.take i) ++ Qc4 false i) τ' ∧ Fr id σ τ') ?_ ?_
    · by_cases h0 : i = 0
      · have hd : decide (0 < i) = false := decide_eq_false (by omega)
        refine Dwp.condF (by simp [eval, upd, hd]) (Dwp.skip ?_)
        refine ⟨rfl, by simp [upd, g0], by simp [upd, g6], by simp [upd, hlen2], by simp [upd, hidx], by simp [upd], hob _, ?_, gf1⟩
        have : Qc4 false i = ⟨#[]⟩ := by simp [Qc4, h0]
        rw [this, show ∀ y : ByteArray, y ++ (⟨#[]⟩ : ByteArray) = y from fun y => ByteArray.append_empty]
        exact gw1
      · have hd : decide (0 < i) = true := decide_eq_true (by omega)
        have hsep : Qc4 false i = ⟨#[44, 32]⟩ := by simp [Qc4, h0]
        rw [hsep] at hle2 ⊢
        refine Dwp.condT (by simp [eval, upd, hd]) ?_
        refine Dwp.regH fun K hK => ?_
        show Rg _ _ _ _ K ([0, 1, 2] ++ (3 :: [])) _ _
        refine Rg.run tT rfl _ _ _ ?_
        simp [Q4, QaC, Qam, Qab, g0, QbS, Qbr]
        refine Rg.call (xs := [.ptr id 0, .lit (.string ⟨#[44, 32]⟩)]) rfl rfl rfl rfl (by rfl) (Qha id _ ⟨#[44, 32]⟩ _ (gw1.n _ (by first | omega | (simp only []; omega))) hv2 (by omega)) ?_
        rintro d σ1 ⟨gw2, gf2⟩
        refine Rg.nil (hK _ _ ?_)
        have gf3 := gf2.2 m (by simp only []; omega) hmi (by intro t bs; simp only [hob]; simp)
        simp only [hob] at gf3
        exact ⟨rfl, by simp [QN, upd, g0], by simp [QN, upd, g6], by simp [QN, upd, hlen2], by simp [QN, upd, hidx], by simp [QN, upd], gf3, gw2, gf1.trans (gf2.n _ (by first | omega | (simp only []; omega)))⟩
    · rintro e a' τ' ⟨rfl, h0, h6, h7, h8, h5, hq, h10, h11⟩
      show Dwp _ _ _ _ _ _ _ _
      refine Dwp.regH fun K hK => ?_
      show Rg _ _ _ _ K ([0, 1] ++ (2 :: [])) _ _
      refine Rg.run tT rfl _ _ _ ?_
      simp [Q4, QaC, Qam, Qab, h0, h5, hq, Q5, Tm.cells_len, QT]
      refine Rg.call (xs := [.ptr id 0, .agg ks[i].cells]) rfl rfl rfl rfl (by rfl) (ih ks[i] id _ _ (hf _ hmem) (h10.n _ (by first | omega | (simp only []; omega))) (by rw [ByteArray.size_append]; omega)) ?_
      rintro d σ1 ⟨gw2, gf2⟩
      have hfin : s ++ Qbc false 0 (ks.take i) ++ Qc4 false i ++ wrT ks[i] = s ++ Qbc false 0 (ks.take (i + 1)) := by
        rw [hnx]; simp only [ByteArray.append_assoc]
      exact Rg.nil (hK _ _ ⟨by simp [QN, upd, h8], by simp [QN, upd, h7], by simp [QN, upd, h0], by simp [QN, upd, h6], by rw [← hfin]; exact gw2.n _ (Nat.le_add_right _ _), (h11.trans (gf2.n _ (by first | omega | (simp only []; omega)))).m (Nat.le_add_right _ _)⟩)
  · rintro a τ hidx hlen2 ⟨g0, g6, gw, gf⟩
    rw [List.take_length] at gw
    exact ⟨.inl rfl, .tuple [], by show Qh Tryz.prog _ _ [] = _; simp [Qh, QW], gw.n _ (by first | omega | (simp only []; omega)), gf.trans (.n _ (by first | omega | (simp only []; omega)) (.refl _ _))⟩
set_option maxHeartbeats 4000000 in
theorem h168 (n : Nat) (ih : H97 n) (id : Nat) (s : ByteArray) (ks : List Tm) (σ : St) (hw : Wr id s σ) (hf : ∀ t ∈ ks, QkK n t) (hev : ks.length % 2 = 0) (hlen : ks.length ≤ 1048576) (hl : s.size + (Qbc true 0 ks).size ≤ 16777216) :
    HC Tryz.prog 168 [.ptr id 0, .slice 6 .none (ks.map Tm.cells)] σ (fun _ σ' => Wr id (s ++ Qbc true 0 ks) σ' ∧ Fr id σ σ') := by
  have tT := Q9 (P := Tryz.prog)
  refine HC.of_body (T := Qf []) Tryz.func168 rfl (by decide) (Nat.le_of_ble_eq_true rfl) fun E => ?_
  generalize Qf [] = T at *
  have hid := hw.1
  refine Dwp.step tT rfl fun K hK => ?_
  simp [init]
  refine hK _ _ ?_ rfl; clear hK K
  refine Dwp.block (Dwp.loop (fun q a τ => ∃ i : Nat, i ≤ ks.length ∧ i % 2 = 0 ∧ q = ks.length - i ∧ a 0 = .ptr id 0 ∧ a 1 = .slice 6 .none (ks.map Tm.cells) ∧ a 4 = .lit (.int .i64 i) ∧ Wr id (s ++ Qbc true 0 (ks.take i)) τ ∧ Fr id σ τ) ks.length
    ⟨0, Nat.zero_le _, rfl, rfl, by simp [upd, init], by simp [upd, init], by simp [upd], ?_, ?_⟩ ?_)
  · have h0 : s ++ Qbc true 0 (ks.take 0) = s := by simp only [List.take_zero, Qbc]; exact ByteArray.append_empty
    rw [h0]; exact hw.n _ (by first | omega | (simp only []; omega))
  · exact .n _ (by first | omega | (simp only []; omega)) (.refl _ _)
  rintro q a τ ⟨i, hi, hi2, rfl, g0, g1, g4, gw, gf⟩
  have hid2 := gw.1
  by_cases hlt : i < ks.length
  · have hi1 : i + 1 < ks.length := by omega
    have hnx := Qcf true ks i hlt
    have hnx2 := Qcf true ks (i + 1) hi1
    have hle : s.size + (Qbc true 0 (ks.take (i + 2))).size ≤ 16777216 := Nat.le_trans (Nat.add_le_add_left (Qg8 true ks (i + 2)) _) hl
    have hmem : ks[i] ∈ ks := List.getElem_mem _
    have hmem1 : ks[i + 1] ∈ ks := List.getElem_mem _
    refine Dwp.seq ?_
    refine Dwp.step tT rfl fun K hK => ?_
    simp [g1, g4, Qak, hlt]
    refine hK _ _ ?_ rfl; clear hK K
    refine Dwp.condT (by simp [eval, upd]) (Dwp.skip ?_)
    show Dwp _ _ _ _ _ _ _ _
    refine Dwp.seq (Dwp.block ?_)
    refine Dwp.seq ?_
    refine Dwp.step tT rfl fun K hK => ?_
    simp [g4]
    refine hK _ _ ?_ rfl
    clear hK K
    have hs1 : Qc4 true (i + 1) = ⟨#[32, 45, 62, 32]⟩ := by simp [Qc4, show (i + 1) % 2 = 1 by omega]
    have hle2 : (s ++ Qbc true 0 (ks.take i)).size + ((Qc4 true i).size + (wrT ks[i]).size + 4 + (wrT ks[i + 1]).size) ≤ 16777216 := by
      rw [hnx2, hnx, hs1] at hle
      have : (⟨#[32, 45, 62, 32]⟩ : ByteArray).size = 4 := rfl
      simp only [ByteArray.size_append, this] at hle ⊢; omega
    refine Dwp.mono (Q := fun e a' τ' => e = .normal ∧ a' 0 = .ptr id 0 ∧ a' 1 = .slice 6 .none (ks.map Tm.cells) ∧ a' 4 = .lit (.int .i64 i) ∧ Wr id (s ++ Qbc true 0 (ks.take i) ++ Qc4 true i) τ' ∧ Fr id σ τ') ?_ ?_
    · by_cases h0 : i = 0
      · have hd : decide (0 < i) = false := decide_eq_false (by omega)
        refine Dwp.condF (by simp [eval, upd, hd]) (Dwp.skip ?_)
        refine ⟨rfl, by simp [upd, g0], by simp [upd, g1], by simp [upd, g4], ?_, gf.m (by first | omega | (simp only []; omega))⟩
        have : Qc4 true i = ⟨#[]⟩ := by simp [Qc4, h0]
        rw [this, show ∀ y : ByteArray, y ++ (⟨#[]⟩ : ByteArray) = y from fun y => ByteArray.append_empty]
        exact gw.n _ (by first | omega | (simp only []; omega))
      · have hd : decide (0 < i) = true := decide_eq_true (by omega)
        have hsep : Qc4 true i = ⟨#[44, 32]⟩ := by simp [Qc4, h0, hi2]
        have hv2 : (⟨#[44, 32]⟩ : ByteArray).size ≠ 0 := by decide
        rw [hsep] at hle2 ⊢
        refine Dwp.condT (by simp [eval, upd, hd]) ?_
        refine Dwp.regH fun K hK => ?_
        show Rg _ _ _ _ K ([0, 1, 2] ++ (3 :: [])) _ _
        refine Rg.run tT rfl _ _ _ ?_
        simp [Q4, QaC, Qam, Qab, g0, QbS, Qbr]
        refine Rg.call (xs := [.ptr id 0, .lit (.string ⟨#[44, 32]⟩)]) rfl rfl rfl rfl (by rfl) (Qha id _ ⟨#[44, 32]⟩ _ (gw.n _ (by first | omega | (simp only []; omega))) hv2 (by omega)) ?_
        rintro d σ1 ⟨gw2, gf2⟩
        exact Rg.nil (hK _ _ ⟨rfl, by simp [QN, upd, g0], by simp [QN, upd, g1], by simp [QN, upd, g4], gw2, gf.trans (gf2.n _ (by first | omega | (simp only []; omega)))⟩)
    · rintro e a' τ' ⟨rfl, h0, h1, h4, h10, h11⟩
      show Dwp _ _ _ _ _ _ _ _
      refine Dwp.stepH fun K hK => ?_
      show Rg _ _ _ _ K ([0, 1, 2, 3, 4] ++ (5 :: [])) _ _
      refine Rg.run tT rfl _ _ _ ?_
      simp [Q4, QaC, Qam, Qab, h0, h1, h4, Qak, Q5, hlt, Tm.cells_len, QT]
      refine Rg.call (xs := [.ptr id 0, .agg ks[i].cells]) rfl rfl rfl rfl (by rfl) (ih ks[i] id _ _ (hf _ hmem) (h10.n _ (by first | omega | (simp only []; omega))) (by rw [ByteArray.size_append]; omega)) ?_
      rintro d σ1 ⟨gw2, gf2⟩
      have gf3 := h11.trans (gf2.n _ (by first | omega | (simp only []; omega)))
      refine Rg.nil (hK _ _ ?_)
      clear hK K
      have hv4 : (⟨#[32, 45, 62, 32]⟩ : ByteArray).size ≠ 0 := by decide
      have e4 : (⟨#[32, 45, 62, 32]⟩ : ByteArray).size = 4 := rfl
      refine Dwp.stepH fun K hK => ?_
      show Rg _ _ _ _ K ([0, 1, 2] ++ (3 :: [])) _ _
      refine Rg.run tT rfl _ _ _ ?_
      simp [Q4, QaC, Qam, Qab, h0, QbS, Qbr]
      refine Rg.call (xs := [.ptr id 0, .lit (.string ⟨#[32, 45, 62, 32]⟩)]) rfl rfl rfl rfl (by rfl) (Qha id _ ⟨#[32, 45, 62, 32]⟩ _ (gw2.n _ (by first | omega | (simp only []; omega))) hv4 (by simp only [ByteArray.size_append, e4] at hle2 ⊢; omega)) ?_
      rintro d σ2 ⟨gw4, gf4⟩
      have gf5 := gf3.trans (gf4.n _ (by first | omega | (simp only []; omega)))
      refine Rg.nil (hK _ _ ?_)
      clear hK K
      have wi : IntKind.i64.wrap ((i : Int) + 1) = ((i + 1 : Nat) : Int) := Qg4 i (by omega)
      refine Dwp.regH fun K hK => ?_
      show Rg _ _ _ _ K ([0, 1, 2, 3, 4, 5] ++ (6 :: [])) _ _
      refine Rg.run tT rfl _ _ _ ?_
      simp [Q4, QaC, Qam, Qab, h0, h1, h4, Qak, Q5, ty3, hi1, wi, show (0 : Int) ≤ (i : Int) + 1 by omega, Tm.cells_len, QT]
      refine Rg.call (xs := [.ptr id 0, .agg ks[i + 1].cells]) rfl rfl rfl rfl (by rfl) (ih ks[i + 1] id _ _ (hf _ hmem1) (gw4.n _ (by first | omega | (simp only []; omega))) (by simp only [ByteArray.size_append, e4] at hle2 ⊢; omega)) ?_
      rintro d σ3 ⟨gw6, gf6⟩
      have gf7 := gf5.trans (gf6.n _ (by first | omega | (simp only []; omega)))
      refine Rg.nil (hK _ _ ?_)
      clear hK K
      show Dwp _ _ _ _ _ _ _ _
      have hfin : s ++ Qbc true 0 (ks.take i) ++ Qc4 true i ++ wrT ks[i] ++ ⟨#[32, 45, 62, 32]⟩ ++ wrT ks[i + 1] = s ++ Qbc true 0 (ks.take (i + 2)) := by
        rw [hnx2, hnx, hs1]; simp only [ByteArray.append_assoc]
      rw [hfin] at gw6
      have wi2 : IntKind.i64.wrap ((i : Int) + 2) = ((i + 2 : Nat) : Int) := by rw [QaY (by omega) (by omega)]; omega
      refine Dwp.reg tT rfl fun K hK => ?_
      simp [h0, h1, h4, ty3, wi2]
      refine hK _ _ ?_ rfl
      exact ⟨ks.length - (i + 2), by omega, i + 2, by omega, by omega, rfl, by simp [upd, h0], by simp [upd, h1], by simp [upd], gw6.n _ (by first | omega | (simp only []; omega)), gf7.m (by first | omega | (simp only []; omega))⟩
  · have hie : i = ks.length := by omega
    refine Dwp.seq ?_
    refine Dwp.step tT rfl fun K hK => ?_
    simp [g1, g4, Qak, hlt]
    refine hK _ _ ?_ rfl; clear hK K
    refine Dwp.condF (by simp [eval, upd]) (Dwp.exit ?_)
    rw [hie, List.take_length] at gw
    exact ⟨.inl rfl, .tuple [], by show Qh Tryz.prog _ _ [] = _; simp [Qh, QW], gw.n _ (by first | omega | (simp only []; omega)), gf.m (by first | omega | (simp only []; omega))⟩
theorem QaU {f : FuncId} {fn : Func} {t : Nat} (hf : Tryz.prog.funcs[f]? = some fn) (hr : fn.results.toList = [.tmp t]) (x : ByteArray) {a : Nat → DV} {σ : St} (h : a t = .lit (.string x)) : Q3 Tryz.prog fn.results Enc.str x Ex.ret a σ := by
  refine ⟨.inr rfl, .lit (.string x), ?_, by simp [Q3, Qh, QW, frz, Q2, Q0, Enc.str]⟩
  rw [hr]; simp [Qh, QW, h]
def boolT (b : Bool) : ByteArray := if b = true then ⟨#[116, 114, 117, 101]⟩ else ⟨#[102, 97, 108, 115, 101]⟩
def s264 : Sp := sp (QM Enc.bool) Enc.str (fun b => some (boolT b))
def s164 : Sp := sp (QM Enc.bool) Enc.str (fun b => some (boolT b))
theorem c264 : Qb Tryz.prog 264 s264 := by
  refine Qb.of_sp (T := Qf []) Tryz.func264 rfl (Nat.le_of_ble_eq_true rfl) fun E b y hy => ?_
  cases hy
  have tT := Q9 (P := Tryz.prog)
  refine Dwp.step tT rfl fun K hK => ?_
  simp [init, QM, Ql.one, Enc.bool]
  refine hK _ _ ?_ rfl; clear hK K
  refine Dwp.seq ?_
  refine Dwp.step tT rfl fun K hK => ?_
  simp [init]
  refine hK _ _ ?_ rfl; clear hK K
  cases b
  · refine Dwp.condF (by simp [eval, upd]) (Dwp.skip ?_)
    show Dwp _ _ _ _ _ _ _ _
    refine Dwp.step tT rfl fun K hK => ?_
    simp
    refine hK _ _ (Dwp.ret ?_) rfl
    exact QaU Tryz.func264 rfl _ (by simp [upd, boolT])
  · refine Dwp.condT (by simp [eval, upd]) ?_
    refine Dwp.step tT rfl fun K hK => ?_
    simp
    refine hK _ _ (Dwp.ret ?_) rfl
    exact QaU Tryz.func264 rfl _ (by simp [upd, boolT])
theorem e264 : Go.FA.Good Tryz.prog (264, s264) := ⟨c264, Tryz.f264, _, Tryz.func264, rfl, by decide⟩
theorem c164 : Qb Tryz.prog 164 s164 := by
  refine Qb.of_sp (T := Qf [(264, s264)]) Tryz.func164 rfl (Nat.le_of_ble_eq_true rfl) fun E b y hy => ?_
  cases hy
  have tT : QH Tryz.prog (Qf [(264, s264)]) := .cons e264 .nil
  have g : dcall (Qf [(264, s264)]) 264 [.lit (.bool b)] = some (.lit (.string (boolT b))) := Qad (A := Enc.bool) (B := Enc.str) rfl rfl
  generalize Qf [(264, s264)] = T at *
  refine Dwp.step tT rfl fun K hK => ?_
  simp [init, QM, Ql.one, Enc.bool]
  refine hK _ _ ?_ rfl; clear hK K
  refine Dwp.step tT rfl fun K hK => ?_
  simp [init, g]
  refine hK _ _ (Dwp.ret ?_) rfl
  exact QaU Tryz.func164 rfl _ (by simp [upd])
theorem e164 : Go.FA.Good Tryz.prog (164, s164) := ⟨c164, Tryz.f164, _, Tryz.func164, rfl, by decide⟩
theorem e163 : Go.FA.Good Tryz.prog (163, s163) := ⟨c163, Tryz.f163, _, Tryz.func163, rfl, by decide⟩
theorem call163 (T : Tab) (hT : T 163 = some s163) (n : Int) (h1 : -9223372036854775808 ≤ n) (h2 : n ≤ 9223372036854775807) : dcall T 163 [.lit (.int .i64 n)] = some (.lit (.string ⟨(Lib.itoa n).toArray⟩)) := by
  simp [dcall, hT, s163, h1, h2]
theorem call164 (T : Tab) (hT : T 164 = some s164) (b : Bool) : dcall T 164 [.lit (.bool b)] = some (.lit (.string (boolT b))) := Qad (A := Enc.bool) (B := Enc.str) hT rfl
theorem QfD : ∀ (l : List Tm) (t : Tm), QaZ l = true → t ∈ l → Qgo t = true
  | x :: l, t, h, hm => by
    simp only [QaZ, Bool.and_eq_true] at h
    rcases List.mem_cons.1 hm with rfl | hm
    · exact h.1
    · exact QfD l t h.2 hm
theorem Qkw (n : Int) : Lib.itoa n ≠ [] := by
  unfold Lib.itoa
  split
  · simp
  · intro h
    have h1 := congrArg List.length h
    rw [Lib.decDigits_length] at h1
    have := Lib.nDigits_pos n.toNat
    simp at h1
    omega
end
end Go.Proofs.Yt
