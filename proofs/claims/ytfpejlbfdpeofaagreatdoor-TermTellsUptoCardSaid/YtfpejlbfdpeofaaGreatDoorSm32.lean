/- Contracts of functions of the program, by a machine over abstract values; part 33. No condition beyond those of each theorem. -/
import Derived.Test.YtfpejlbfdpeofaaGreatDoorSm31
set_option linter.unusedVariables false
set_option linter.unusedSimpArgs false
namespace Go.Proofs.Yt
open Go Go.FA Go.Proofs Go.RowKit
set_option maxRecDepth 100000
section
attribute [local simp] QF QZ Qo QJ own Qm dop QN eval Qr Qn Ex.then Ex.inBlock upd QV Tag.isNN Qp intCmp Qv Qx TyI.agg Qa Qu Qg Qs QX QA QD mapOf QQ QC Qq Qi Qj QI DV.cells Qt Qk QE QK rowsOf QL Qd Qe Qe.go Qz QB Qc goInt
theorem c171 : Qb Tryz.prog 171 sT171 := by
  refine Qb.of_sp (T := Qf []) Tryz.func171 rfl (Nat.le_of_ble_eq_true rfl) fun E xx y hy => ?_
  obtain ⟨r, b⟩ := xx
  simp only [] at hy
  split at hy
  case isFalse => cases hy
  next hlim =>
  obtain ⟨hl, hx⟩ := hlim
  cases hy
  have tT := Q9 (P := Tryz.prog)
  generalize Qf [] = T at *
  refine Dwp.step tT rfl fun K hK => ?_
  simp [init, QR, Ql.one, Ql.and, Enc.bool, tmsC]
  refine hK _ _ ?_ rfl; clear hK K
  refine Dwp.seq (Dwp.block ?_)
  match r, hl, hx with
  | [], _, _ =>
    refine Dwp.step tT rfl fun K hK => ?_
    simp [init, Qak, ty3]
    refine hK _ _ ?_ rfl; clear hK K
    refine Dwp.condT (by simp [eval, upd]) ?_
    refine Dwp.step tT rfl fun K hK => ?_
    simp
    refine hK _ _ (Dwp.ret ?_) rfl
    exact QaU Tryz.func171 rfl _ (by simp [upd, QfY])
  | v :: l, hl, hx =>
    obtain ⟨k, n, x, s, ks, q⟩ := v
    have hx1 : x.size ≤ lim := hx (.mk k n x s ks q) (by simp)
    unfold lim at hx1
    simp only [List.length_cons] at hl
    have hne : ¬ (l.length : Int) + 1 = 0 := by omega
    have e3 : (⟨#[32, 124, 32]⟩ : ByteArray).size = 3 := rfl
    have e2 : (⟨#[124, 32]⟩ : ByteArray).size = 2 := rfl
    have h3 : (⟨#[32, 124, 32]⟩ : ByteArray).size + x.size < 4611686018427387904 := by omega
    have h2 : (⟨#[124, 32]⟩ : ByteArray).size + x.size < 4611686018427387904 := by omega
    refine Dwp.step tT rfl fun K hK => ?_
    simp [init, Qak, ty3, hne]
    refine hK _ _ ?_ rfl; clear hK K
    refine Dwp.condF (by simp [eval, upd]; try omega) ?_
    refine Dwp.step tT rfl fun K hK => ?_
    simp [init]
    refine hK _ _ ?_ rfl; clear hK K
    cases b
    · refine Dwp.condF (by simp [eval, upd]) (Dwp.skip ?_)
      show Dwp _ _ _ _ _ _ _ _
      refine Dwp.step tT rfl fun K hK => ?_
      simp [init, Qak, Q5, ty9, QG, h3]
      refine hK _ _ (Dwp.ret ?_) rfl
      exact QaU Tryz.func171 rfl _ (by simp [upd, QfY, Tm.text])
    · refine Dwp.condT (by simp [eval, upd]) ?_
      refine Dwp.step tT rfl fun K hK => ?_
      simp [init, Qak, Q5, ty9, QG, h2]
      refine hK _ _ (Dwp.ret ?_) rfl
      exact QaU Tryz.func171 rfl _ (by simp [upd, QfY, Tm.text])
theorem e171 : Go.FA.Good Tryz.prog (171, sT171) := ⟨c171, Tryz.f171, _, Tryz.func171, rfl, by decide⟩
theorem call171 (T : Tab) (hT : T 171 = some sT171) (r : List Tm) (b : Bool) (h : r.length ≤ 1048576 ∧ (∀ v ∈ r, v.text.size ≤ lim)) : dcall T 171 [.slice 6 .none (r.map Tm.cells), .lit (.bool b)] = some (.lit (.string (QfY r b))) :=
  Qcd (A := Enc.tms) (B := Enc.bool) (C := Enc.str) hT (if_pos h)
open Classical in
noncomputable def QbT (n : Nat) : Sp := sp (QM Enc.tm) Enc.str (fun t => if QkK n t then some (wrT t) else none)
open Classical in
noncomputable def QgR (n : Nat) : Sp := sp (QM Enc.tms) Enc.str (fun l => if (∀ t ∈ l, QkK n t) ∧ QaI l ≤ tlim then some (Qbc false 0 l) else none)
open Classical in
theorem Qie {n : Nat} (T : Tab) (hT : T 100 = some (QbT n)) (t : Tm) (h : QkK n t) : dcall T 100 [.agg t.cells] = some (.lit (.string (wrT t))) :=
  Qad (A := Enc.tm) (B := Enc.str) hT (if_pos h)
open Classical in
theorem call170 {n : Nat} (T : Tab) (hT : T 170 = some (QgR n)) (l : List Tm) (h : (∀ t ∈ l, QkK n t) ∧ QaI l ≤ tlim) : dcall T 170 [.slice 6 .none (l.map Tm.cells)] = some (.lit (.string (Qbc false 0 l))) :=
  Qad (A := Enc.tms) (B := Enc.str) hT (if_pos h)
theorem QfM {n : Nat} {mp : Bool} {l : List Tm} (h : ∀ t ∈ l, QkK n t) (hl : QaI l ≤ tlim) : (Qbc mp 0 l).size ≤ 314572800 := by
  have : QaZ l = true := by
    clear hl
    induction l with
    | nil => rfl
    | cons t l ih =>
      simp only [QaZ, Bool.and_eq_true]
      exact ⟨(h t (by simp)).2.2.1, ih fun u hu => h u (by simp [hu])⟩
  have h1 := QdX mp l 0 this
  unfold tlim at hl; omega
set_option maxHeartbeats 4000000 in
theorem c170 (n : Nat) (ih : Qb Tryz.prog 100 (QbT n)) : Qb Tryz.prog 170 (QgR n) := by
  refine Qb.of_sp (T := Qf [(100, QbT n)]) Tryz.func170 rfl (Nat.le_of_ble_eq_true rfl) fun E ks y hy => ?_
  split at hy
  case isFalse => cases hy
  next hlim =>
  obtain ⟨hf, hl⟩ := hlim
  cases hy
  have tT : QH Tryz.prog (Qf [(100, QbT n)]) := .cons ⟨ih, Tryz.f100, _, Tryz.func100, rfl, by decide⟩ .nil
  have g := Qie (Qf [(100, QbT n)]) rfl
  generalize Qf [(100, QbT n)] = T at *
  have hlen : ks.length ≤ 1048576 := by have := Qao ks; unfold tlim at hl; omega
  have hsz := QfM (mp := false) hf hl
  refine Dwp.step tT rfl fun K hK => ?_
  simp [init, QM, Ql.one, tmsC]
  refine hK _ _ ?_ rfl; clear hK K
  refine Dwp.step tT rfl fun K hK => ?_
  simp [init]
  refine hK _ _ ?_ rfl; clear hK K
  refine Dwp.seq ?_
  refine Dwp.step tT rfl fun K hK => ?_
  simp [init, Qak]
  refine hK _ _ ?_ rfl; clear hK K
  refine Dwp.range tT ks.length (fun i a τ => a 3 = .lit (.string (Qbc false 0 (ks.take i))) ∧ a 6 = .slice 6 .none (ks.map Tm.cells))
    ⟨rfl, rfl, rfl⟩ ⟨rfl, rfl, rfl⟩ ⟨rfl, rfl, rfl⟩ (by decide) (by decide) (by omega) (by simp [upd]) (by simp [upd]) ⟨by simp [upd, Qbc], by simp [upd]⟩ ?_ ?_
  · rintro i a τ hi hidx hlen2 ⟨g3, g6⟩
    have hnx := Qcf false ks i hi
    have hle := Nat.le_trans (Qg8 false ks (i + 1)) hsz
    have hmem : ks[i] ∈ ks := List.getElem_mem _
    have gi := g ks[i] (hf _ hmem)
    rw [hnx] at hle
    simp only [ByteArray.size_append] at hle
    refine Dwp.step tT rfl fun K hK => ?_
    simp [g6, hidx, Qak, Q5, hi, Tm.cells_len, QT, Qky]
    refine hK _ _ ?_ rfl; clear hK K
    refine Dwp.seq ?_
    refine Dwp.step tT rfl fun K hK => ?_
    simp
    refine hK _ _ ?_ rfl
    clear hK K
    by_cases h0 : i = 0
    · have hd : decide (0 < i) = false := decide_eq_false (by omega)
      have hs0 : Qc4 false i = ⟨#[]⟩ := by simp [Qc4, h0]
      rw [hs0, show (⟨#[]⟩ ++ wrT ks[i] : ByteArray) = wrT ks[i] from ByteArray.empty_append] at hnx
      have hcat : (Qbc false 0 (ks.take i)).size + (wrT ks[i]).size < 4611686018427387904 := by omega
      refine Dwp.condF (by simp [eval, upd, hd]) (Dwp.skip ?_)
      show Dwp _ _ _ _ _ _ _ _
      refine Dwp.reg tT rfl fun K hK => ?_
      simp [g3, Q5, ty9, Tm.cells_len, QT, gi, hcat]
      refine hK _ _ ?_ rfl
      exact ⟨by simp [upd, hidx], by simp [upd, hlen2], by simp only [upd]; simp [hnx], by simp [upd, g6]⟩
    · have hd : decide (0 < i) = true := decide_eq_true (by omega)
      have hs0 : Qc4 false i = ⟨#[44, 32]⟩ := by simp [Qc4, h0]
      rw [hs0] at hle
      rw [hs0, ← ByteArray.append_assoc] at hnx
      have e2 : (⟨#[44, 32]⟩ : ByteArray).size = 2 := rfl
      have hcat1 : (Qbc false 0 (ks.take i)).size + (⟨#[44, 32]⟩ : ByteArray).size < 4611686018427387904 := by omega
      have hcat : (Qbc false 0 (ks.take i)).size + (⟨#[44, 32]⟩ : ByteArray).size + (wrT ks[i]).size < 4611686018427387904 := by omega
      refine Dwp.condT (by simp [eval, upd, hd]) ?_
      refine Dwp.reg tT rfl fun K hK => ?_
      simp [g3, ty9, hcat1]
      refine hK _ _ ?_ rfl
      clear hK K
      show Dwp _ _ _ _ _ _ _ _
      refine Dwp.reg tT rfl fun K hK => ?_
      simp [g3, Q5, ty9, Tm.cells_len, QT, gi, hcat]
      refine hK _ _ ?_ rfl
      exact ⟨by simp [upd, hidx], by simp [upd, hlen2], by simp only [upd]; simp [hnx], by simp [upd, g6]⟩
  · rintro a τ hidx hlen2 ⟨g3, g6⟩
    rw [List.take_length] at g3
    show Dwp _ _ _ _ _ _ _ _
    refine Dwp.step tT rfl fun K hK => ?_
    simp [g3]
    refine hK _ _ (Dwp.ret ?_) rfl
    exact QaU Tryz.func170 rfl _ (by simp [upd])
open Classical in
theorem QiV {so : ByteArray} {r : List Tm} (h : Qb5 so r = true) : r.length ≤ 1048576 ∧ (∀ v ∈ r, v.text.size ≤ lim) := by
  match r, h with
  | [], _ => exact ⟨by decide, by simp⟩
  | [v], h =>
    simp only [Qb5, Bool.and_eq_true, decide_eq_true_eq] at h
    refine ⟨by simp, fun u hu => ?_⟩
    simp only [List.mem_singleton] at hu
    subst hu
    have := Qa1 h.2.1
    unfold lim; omega
theorem QiX {so : ByteArray} {r : List Tm} {b : Bool} (h : Qb5 so r = true) : QfY r b = wrR (!b) r := by
  match r, h with
  | [], _ => rfl
  | [v], h =>
    have e : ∀ y : ByteArray, y ++ (⟨#[]⟩ : ByteArray) = y := fun y => ByteArray.append_empty
    cases b
    · simp only [QfY, wrR, QfW, e]
      simp only [Bool.not_false, if_true, Bool.false_eq_true, if_false]
      rw [← ByteArray.append_assoc]; rfl
    · simp only [QfY, wrR, QfW, e]
      simp only [Bool.not_true, if_true, Bool.false_eq_true, if_false]
      rw [show (⟨#[]⟩ ++ (⟨#[124, 32]⟩ ++ v.text) : ByteArray) = ⟨#[124, 32]⟩ ++ v.text from ByteArray.empty_append]
set_option maxHeartbeats 16000000 in
theorem c100 (n : Nat) (ih : Qb Tryz.prog 100 (QbT n)) : Qb Tryz.prog 100 (QbT (n + 1)) := by
  refine Qb.of_sp (T := Qf [(100, QbT n), (169, Qdd 8589934592), (170, QgR n), (171, sT171)]) Tryz.func100 rfl (Nat.le_of_ble_eq_true rfl) fun E t y hy => ?_
  split at hy
  case isFalse => cases hy
  next hfit =>
  cases hy
  have tT : QH Tryz.prog (Qf [(100, QbT n), (169, Qdd 8589934592), (170, QgR n), (171, sT171)]) := .cons ⟨ih, Tryz.f100, _, Tryz.func100, rfl, by decide⟩ (.cons (e169 _) (.cons ⟨c170 n ih, Tryz.f170, _, Tryz.func170, rfl, by decide⟩ (.cons e171 .nil)))
  have g0 := Qie (Qf [(100, QbT n), (169, Qdd 8589934592), (170, QgR n), (171, sT171)]) rfl
  have g1 := Qke (Qf [(100, QbT n), (169, Qdd 8589934592), (170, QgR n), (171, sT171)]) rfl
  have g2 := call170 (Qf [(100, QbT n), (169, Qdd 8589934592), (170, QgR n), (171, sT171)]) rfl
  have g3 := call171 (Qf [(100, QbT n), (169, Qdd 8589934592), (170, QgR n), (171, sT171)]) rfl
  generalize Qf [(100, QbT n), (169, Qdd 8589934592), (170, QgR n), (171, sT171)] = T at *
  obtain ⟨hn, hlim, hall, hok⟩ := hfit
  obtain ⟨k, nn, x, so, ks, r⟩ := t
  simp only [Qgo, Bool.and_eq_true] at hall
  obtain ⟨hnode, hks, hrs⟩ := hall
  simp only [okT] at hok
  simp only [tsz] at hn hlim
  have hkl : ks.length ≤ 1048576 := by have := Qao ks; unfold tlim at hlim; omega
  have hfk : ∀ t ∈ ks, QkK n t := fun t ht => by
    have := Qac ks t ht
    exact ⟨by omega, by omega, QfD ks t hks ht, QaQ ks t hok.2.2.2.2.1 ht⟩
  have hkz : QaI ks ≤ tlim := by omega
  have hkf := QfM (mp := false) hfk hkz
  have hkt := QfM (mp := true) hfk hkz
  have hx1 : x.size ≤ lim := hok.1
  have hs1 : so.size ≤ lim := hok.2.1
  unfold lim at hx1 hs1
  have e1 : ∀ c : UInt8, (⟨#[c]⟩ : ByteArray).size = 1 := fun _ => rfl
  clear hn hlim hks hrs hok
  simp only [QM, Ql.one, Enc.tm, Enc.agg, Ql.tm, QG]
  refine Dwp.step tT rfl fun K hK => ?_
  simp [init, QG]
  refine hK _ _ ?_ rfl; clear hK K
  refine Dwp.seq ?_
  refine Dwp.step tT rfl fun K hK => ?_
  simp [QaB, Q5]
  refine hK _ _ ?_ rfl; clear hK K
  refine Dwp.block ?_
  by_cases hk1 : k = 1
  · subst hk1
    have hwr := Qa5 1 nn x so ks r
    simp at hwr
    simp [Qar] at hnode
    rw [hwr]
    refine Dwp.step tT rfl fun K hK => ?_
    simp
    refine hK _ _ ?_ rfl; clear hK K
    refine Dwp.condT (by simp [eval, upd]) ?_
    have gi := g1 nn ⟨by unfold Qjx; split <;> omega, by omega, by omega⟩
    refine Dwp.step tT rfl fun K hK => ?_
    simp [Q5, ty9, ty3, Qak, init, gi]
    refine hK _ _ (Dwp.ret ?_) rfl
    exact QaU Tryz.func100 rfl _ (by simp [upd, Qbz])
  by_cases hk2 : k = 2
  · subst hk2
    have hwr := Qa5 2 nn x so ks r
    simp at hwr
    simp [Qar] at hnode
    rw [hwr]
    refine Dwp.step tT rfl fun K hK => ?_
    simp
    refine hK _ _ ?_ rfl; clear hK K
    refine Dwp.condF (by simp [eval, upd]) ?_
    refine Dwp.step tT rfl fun K hK => ?_
    simp
    refine hK _ _ ?_ rfl; clear hK K
    refine Dwp.condT (by simp [eval, upd]) ?_
    refine Dwp.seq ?_
    refine Dwp.step tT rfl fun K hK => ?_
    obtain ⟨hnn, _⟩ := hnode
    rcases hnn with rfl | rfl
    · simp [Q5, ty9, ty3, Qak, init]
      refine hK _ _ ?_ rfl; clear hK K
      refine Dwp.condF (by simp [eval, upd]) (Dwp.skip ?_)
      show Dwp _ _ _ _ _ _ _ _
      refine Dwp.step tT rfl fun K hK => ?_
      simp
      refine hK _ _ (Dwp.ret ?_) rfl
      exact QaU Tryz.func100 rfl _ (by simp [upd])
    · simp [Q5, ty9, ty3, Qak, init]
      refine hK _ _ ?_ rfl; clear hK K
      refine Dwp.condT (by simp [eval, upd]) ?_
      refine Dwp.step tT rfl fun K hK => ?_
      simp
      refine hK _ _ (Dwp.ret ?_) rfl
      exact QaU Tryz.func100 rfl _ (by simp [upd])
  by_cases hk3 : k = 3
  · subst hk3
    have hwr := Qa5 3 nn x so ks r
    simp at hwr
    simp [Qar] at hnode
    rw [hwr]
    refine Dwp.step tT rfl fun K hK => ?_
    simp
    refine hK _ _ ?_ rfl; clear hK K
    refine Dwp.condF (by simp [eval, upd]) ?_
    refine Dwp.step tT rfl fun K hK => ?_
    simp
    refine hK _ _ ?_ rfl; clear hK K
    refine Dwp.condF (by simp [eval, upd]) ?_
    refine Dwp.step tT rfl fun K hK => ?_
    simp
    refine hK _ _ ?_ rfl; clear hK K
    refine Dwp.condT (by simp [eval, upd]) ?_
    have hc1 : (⟨#[34]⟩ : ByteArray).size + x.size < 4611686018427387904 := by rw [e1]; omega
    have hc2 : (⟨#[34]⟩ : ByteArray).size + x.size + (⟨#[34]⟩ : ByteArray).size < 4611686018427387904 := by simp only [e1]; omega
    refine Dwp.step tT rfl fun K hK => ?_
    simp [Q5, ty9, ty3, Qak, init, hc1, hc2]
    refine hK _ _ (Dwp.ret ?_) rfl
    exact QaU Tryz.func100 rfl _ (by simp [upd])
  by_cases hk4 : k = 4
  · subst hk4
    have hwr := Qa5 4 nn x so ks r
    simp at hwr
    simp [Qar] at hnode
    rw [hwr]
    refine Dwp.step tT rfl fun K hK => ?_
    simp
    refine hK _ _ ?_ rfl; clear hK K
    refine Dwp.condF (by simp [eval, upd]) ?_
    refine Dwp.step tT rfl fun K hK => ?_
    simp
    refine hK _ _ ?_ rfl; clear hK K
    refine Dwp.condF (by simp [eval, upd]) ?_
    refine Dwp.step tT rfl fun K hK => ?_
    simp
    refine hK _ _ ?_ rfl; clear hK K
    refine Dwp.condF (by simp [eval, upd]) ?_
    refine Dwp.step tT rfl fun K hK => ?_
    simp
    refine hK _ _ ?_ rfl; clear hK K
    refine Dwp.condT (by simp [eval, upd]) ?_
    have hc1 : (⟨#[39]⟩ : ByteArray).size + x.size < 4611686018427387904 := by rw [e1]; omega
    refine Dwp.step tT rfl fun K hK => ?_
    simp [Q5, ty9, ty3, Qak, init, hc1]
    refine hK _ _ (Dwp.ret ?_) rfl
    exact QaU Tryz.func100 rfl _ (by simp [upd])
  by_cases hk6 : k = 6
  · subst hk6
    have hwr := Qa5 6 nn x so ks r
    simp at hwr
    simp [Qar] at hnode
    rw [hwr]
    refine Dwp.step tT rfl fun K hK => ?_
    simp
    refine hK _ _ ?_ rfl; clear hK K
    refine Dwp.condF (by simp [eval, upd]) ?_
    refine Dwp.step tT rfl fun K hK => ?_
    simp
    refine hK _ _ ?_ rfl; clear hK K
    refine Dwp.condF (by simp [eval, upd]) ?_
    refine Dwp.step tT rfl fun K hK => ?_
    simp
    refine hK _ _ ?_ rfl; clear hK K
    refine Dwp.condF (by simp [eval, upd]) ?_
    refine Dwp.step tT rfl fun K hK => ?_
    simp
    refine hK _ _ ?_ rfl; clear hK K
    refine Dwp.condF (by simp [eval, upd]) ?_
    refine Dwp.step tT rfl fun K hK => ?_
    simp
    refine hK _ _ ?_ rfl; clear hK K
    refine Dwp.condT (by simp [eval, upd]) ?_
    refine Dwp.seq ?_
    rcases hu : Qh7 x with _ | _
    · have hv : wrV x so = x ++ ⟨#[58]⟩ ++ so := by simp [wrV, hu, ByteArray.append_assoc]
      simp [Qh7] at hu
      obtain ⟨hu1, hu2⟩ := hu
      have hc1 : x.size + (⟨#[58]⟩ : ByteArray).size < 4611686018427387904 := by rw [e1]; omega
      have hc2 : x.size + (⟨#[58]⟩ : ByteArray).size + so.size < 4611686018427387904 := by simp only [e1]; omega
      refine Dwp.step tT rfl fun K hK => ?_
      repeat' ((first | refine Qn.stepD rfl rfl ?_ | refine Qn.stepG rfl rfl rfl ?_ | refine Qn.stepN rfl rfl ?_ | refine Qn.stepGN rfl rfl rfl ?_); intro K1 hK1; simp [*, QO, Qw, QJ, dop, eval, Qr, upd, Qa, Qu, Qv, Qx, TyI.agg, Qg, Qs, Qi, Qj, QA, QX, goInt, QV, intCmp, Qp, Tag.isNN, Qc, DV.cells, Qd, Qt, Qk, init, ty9, Q5, Qm, hu1, hu2]; (first | (refine hK1 _ _ ?_; clear hK1 K1) | (split <;> (rename_i hsp; (try simp only [beq_iff_eq, beq_eq_false_iff_ne, ne_eq, decide_eq_true_eq, decide_eq_false_iff_not] at hsp); (try (first | have hsq := Int.not_le.2 hsp | have hsq := Int.not_lt.2 hsp | have hsq := Int.not_le.1 hsp | have hsq := Int.not_lt.1 hsp)); (try subst hsp); (try simp only [hsp])) <;> (refine hK1 _ _ ?_; clear hK1 K1))))
      refine Qn.done (hK _ _ ?_ rfl)
      clear hK K
      refine Dwp.condF (by simp [eval, upd, hu1, hu2]) (Dwp.skip ?_)
      show Dwp _ _ _ _ _ _ _ _
      refine Dwp.step tT rfl fun K hK => ?_
      simp [Q5, ty9, init, hc1, hc2]
      refine hK _ _ (Dwp.ret ?_) rfl
      rw [hv]
      exact QaU Tryz.func100 rfl _ (by simp [upd])
    · have hv : wrV x so = x := by simp [wrV, hu]
      rw [hv]
      simp [Qh7] at hu
      rcases hu with rfl | rfl
      · refine Dwp.step tT rfl fun K hK => ?_
        repeat' ((first | refine Qn.stepD rfl rfl ?_ | refine Qn.stepG rfl rfl rfl ?_ | refine Qn.stepN rfl rfl ?_ | refine Qn.stepGN rfl rfl rfl ?_); intro K1 hK1; simp [*, QO, Qw, QJ, dop, eval, Qr, upd, Qa, Qu, Qv, Qx, TyI.agg, Qg, Qs, Qi, Qj, QA, QX, goInt, QV, intCmp, Qp, Tag.isNN, Qc, DV.cells, Qd, Qt, Qk, init, ty9, Q5, Qm]; (first | (refine hK1 _ _ ?_; clear hK1 K1) | (split <;> (rename_i hsp; (try simp only [beq_iff_eq, beq_eq_false_iff_ne, ne_eq, decide_eq_true_eq, decide_eq_false_iff_not] at hsp); (try (first | have hsq := Int.not_le.2 hsp | have hsq := Int.not_lt.2 hsp | have hsq := Int.not_le.1 hsp | have hsq := Int.not_lt.1 hsp)); (try subst hsp); (try simp only [hsp])) <;> (refine hK1 _ _ ?_; clear hK1 K1))))
        refine Qn.done (hK _ _ ?_ rfl)
        clear hK K
        refine Dwp.condT (by simp [eval, upd]) ?_
        refine Dwp.step tT rfl fun K hK => ?_
        simp [Q5, ty9, init]
        refine hK _ _ (Dwp.ret ?_) rfl
        exact QaU Tryz.func100 rfl _ (by simp [upd])
      · refine Dwp.step tT rfl fun K hK => ?_
        repeat' ((first | refine Qn.stepD rfl rfl ?_ | refine Qn.stepG rfl rfl rfl ?_ | refine Qn.stepN rfl rfl ?_ | refine Qn.stepGN rfl rfl rfl ?_); intro K1 hK1; simp [*, QO, Qw, QJ, dop, eval, Qr, upd, Qa, Qu, Qv, Qx, TyI.agg, Qg, Qs, Qi, Qj, QA, QX, goInt, QV, intCmp, Qp, Tag.isNN, Qc, DV.cells, Qd, Qt, Qk, init, ty9, Q5, Qm]; (first | (refine hK1 _ _ ?_; clear hK1 K1) | (split <;> (rename_i hsp; (try simp only [beq_iff_eq, beq_eq_false_iff_ne, ne_eq, decide_eq_true_eq, decide_eq_false_iff_not] at hsp); (try (first | have hsq := Int.not_le.2 hsp | have hsq := Int.not_lt.2 hsp | have hsq := Int.not_le.1 hsp | have hsq := Int.not_lt.1 hsp)); (try subst hsp); (try simp only [hsp])) <;> (refine hK1 _ _ ?_; clear hK1 K1))))
        refine Qn.done (hK _ _ ?_ rfl)
        clear hK K
        refine Dwp.condT (by simp [eval, upd]) ?_
        refine Dwp.step tT rfl fun K hK => ?_
        simp [Q5, ty9, init]
        refine hK _ _ (Dwp.ret ?_) rfl
        exact QaU Tryz.func100 rfl _ (by simp [upd])
  by_cases hk5 : k = 5
  · subst hk5
    have hwr := Qa5 5 nn x so ks r
    simp at hwr
    simp [Qar] at hnode
    rw [hwr]
    refine Dwp.step tT rfl fun K hK => ?_
    simp
    refine hK _ _ ?_ rfl; clear hK K
    refine Dwp.condF (by simp [eval, upd]) ?_
    refine Dwp.step tT rfl fun K hK => ?_
    simp
    refine hK _ _ ?_ rfl; clear hK K
    refine Dwp.condF (by simp [eval, upd]) ?_
    refine Dwp.step tT rfl fun K hK => ?_
    simp
    refine hK _ _ ?_ rfl; clear hK K
    refine Dwp.condF (by simp [eval, upd]) ?_
    refine Dwp.step tT rfl fun K hK => ?_
    simp
    refine hK _ _ ?_ rfl; clear hK K
    refine Dwp.condF (by simp [eval, upd]) ?_
    refine Dwp.step tT rfl fun K hK => ?_
    simp
    refine hK _ _ ?_ rfl; clear hK K
    refine Dwp.condF (by simp [eval, upd]) ?_
    refine Dwp.step tT rfl fun K hK => ?_
    simp
    refine hK _ _ ?_ rfl; clear hK K
    refine Dwp.condT (by simp [eval, upd]) ?_
    have gi := g2 ks ⟨hfk, hkz⟩
    have hc1 : x.size + (⟨#[40]⟩ : ByteArray).size < 4611686018427387904 := by rw [e1]; omega
    have hc2 : x.size + (⟨#[40]⟩ : ByteArray).size + (Qbc false 0 ks).size < 4611686018427387904 := by simp only [e1]; omega
    have hc3 : x.size + (⟨#[40]⟩ : ByteArray).size + (Qbc false 0 ks).size + (⟨#[41]⟩ : ByteArray).size < 4611686018427387904 := by simp only [e1]; omega
    refine Dwp.drawStep [] mixed tT rfl rfl fun K hK => ?_
    simp [QbI, touch, QaO, Qbt, init, Q5, ty9, Qak, gi, hc1, hc2, hc3]
    refine hK _ _ (Dwp.ret ?_) rfl
    exact QaU Tryz.func100 rfl _ (by simp [upd])
  by_cases hk7 : k = 7
  · subst hk7
    have hwr := Qa5 7 nn x so ks r
    simp at hwr
    simp [Qar] at hnode
    rw [hwr]
    refine Dwp.step tT rfl fun K hK => ?_
    simp
    refine hK _ _ ?_ rfl; clear hK K
    refine Dwp.condF (by simp [eval, upd]) ?_
    refine Dwp.step tT rfl fun K hK => ?_
    simp
    refine hK _ _ ?_ rfl; clear hK K
    refine Dwp.condF (by simp [eval, upd]) ?_
    refine Dwp.step tT rfl fun K hK => ?_
    simp
    refine hK _ _ ?_ rfl; clear hK K
    refine Dwp.condF (by simp [eval, upd]) ?_
    refine Dwp.step tT rfl fun K hK => ?_
    simp
    refine hK _ _ ?_ rfl; clear hK K
    refine Dwp.condF (by simp [eval, upd]) ?_
    refine Dwp.step tT rfl fun K hK => ?_
    simp
    refine hK _ _ ?_ rfl; clear hK K
    refine Dwp.condF (by simp [eval, upd]) ?_
    refine Dwp.step tT rfl fun K hK => ?_
    simp
    refine hK _ _ ?_ rfl; clear hK K
    refine Dwp.condF (by simp [eval, upd]) ?_
    refine Dwp.step tT rfl fun K hK => ?_
    simp
    refine hK _ _ ?_ rfl; clear hK K
    refine Dwp.condT (by simp [eval, upd]) ?_
    have gi := g2 ks ⟨hfk, hkz⟩
    have hrest := hnode.2.2.2
    have gt := g3 r ((ks.length : Int) == 0) (QiV hrest)
    have htl : QfY r ((ks.length : Int) == 0) = wrR (decide (0 < ks.length)) r := by
      rw [QiX hrest]
      congr 1
      by_cases h0 : ks.length = 0
      · simp [h0]
      · have h1 : ((ks.length : Int) == 0) = false := by simp; intro e; exact h0 (by simp [e])
        have h2 : 0 < ks.length := by omega
        simp [h1, h2]
    rw [htl] at gt
    have hts := QeN (ne := decide (0 < ks.length)) hrest
    have hc1 : (⟨#[91]⟩ : ByteArray).size + (Qbc false 0 ks).size < 4611686018427387904 := by rw [e1]; omega
    have hc2 : (⟨#[91]⟩ : ByteArray).size + (Qbc false 0 ks).size + (wrR (decide (0 < ks.length)) r).size < 4611686018427387904 := by simp only [e1]; omega
    have hc3 : (⟨#[91]⟩ : ByteArray).size + (Qbc false 0 ks).size + (wrR (decide (0 < ks.length)) r).size + (⟨#[93]⟩ : ByteArray).size < 4611686018427387904 := by simp only [e1]; omega
    refine Dwp.drawStep [] mixed tT rfl rfl fun K hK => ?_
    simp [QbI, touch, QaO, Qbt, init, Q5, ty9, Qak, ty3, gi, gt, hc1, hc2, hc3]
    refine hK _ _ (Dwp.ret ?_) rfl
    exact QaU Tryz.func100 rfl _ (by simp [upd])
  by_cases hk8 : k = 8
  · subst hk8
    have hwr := Qa5 8 nn x so ks r
    simp at hwr
    simp [Qar] at hnode
    rw [hwr]
    refine Dwp.step tT rfl fun K hK => ?_
    simp
    refine hK _ _ ?_ rfl; clear hK K
    refine Dwp.condF (by simp [eval, upd]) ?_
    refine Dwp.step tT rfl fun K hK => ?_
    simp
    refine hK _ _ ?_ rfl; clear hK K
    refine Dwp.condF (by simp [eval, upd]) ?_
    refine Dwp.step tT rfl fun K hK => ?_
    simp
    refine hK _ _ ?_ rfl; clear hK K
    refine Dwp.condF (by simp [eval, upd]) ?_
    refine Dwp.step tT rfl fun K hK => ?_
    simp
    refine hK _ _ ?_ rfl; clear hK K
    refine Dwp.condF (by simp [eval, upd]) ?_
    refine Dwp.step tT rfl fun K hK => ?_
    simp
    refine hK _ _ ?_ rfl; clear hK K
    refine Dwp.condF (by simp [eval, upd]) ?_
    refine Dwp.step tT rfl fun K hK => ?_
    simp
    refine hK _ _ ?_ rfl; clear hK K
    refine Dwp.condF (by simp [eval, upd]) ?_
    refine Dwp.step tT rfl fun K hK => ?_
    simp
    refine hK _ _ ?_ rfl; clear hK K
    refine Dwp.condF (by simp [eval, upd]) (Dwp.skip ?_)
    show Dwp _ _ _ _ _ _ _ _
    have hev : ks.length % 2 = 0 := hnode.2.2.2.1
    refine Dwp.step tT rfl fun K hK => ?_
    simp
    refine hK _ _ ?_ rfl; clear hK K
    refine Dwp.seq ?_
    refine Dwp.step tT rfl fun K hK => ?_
    simp
    refine hK _ _ ?_ rfl; clear hK K
    refine Dwp.block (Dwp.loop (fun q a τ => ∃ i : Nat, i ≤ ks.length ∧ i % 2 = 0 ∧ q = ks.length - i ∧ a 1 = .row [.lit (.int .i64 8), .lit (.int .i64 nn), .lit (.string x), .lit (.string so), .slice 6 .none (ks.map Tm.cells), .slice 6 .none (r.map Tm.cells)] 0 ∧
      a 3 = .lit (.string (⟨#[123]⟩ ++ Qbc true 0 (ks.take i))) ∧ a 4 = .lit (.int .i64 i)) ks.length ⟨0, Nat.zero_le _, rfl, rfl, by simp [upd], by simp only [upd]; simp [Qbc]; exact ByteArray.append_empty.symm, by simp [upd]⟩ ?_)
    rintro q a τ ⟨i, hi, hi2, rfl, g1', g3', g4'⟩
    have wi : IntKind.i64.wrap ((i : Int) + 1) = ((i + 1 : Nat) : Int) := Qg4 i (by omega)
    by_cases hlt : i < ks.length
    · have hi1 : i + 1 < ks.length := by omega
      have hlt' : (i : Int) + 1 < (ks.length : Int) := by omega
      have hnx := Qcf true ks i hlt
      have hnx2 := Qcf true ks (i + 1) hi1
      have hle := Nat.le_trans (Qg8 true ks (i + 2)) hkt
      have hmem : ks[i] ∈ ks := List.getElem_mem _
      have hmem1 : ks[i + 1] ∈ ks := List.getElem_mem _
      have gi := g0 ks[i] (hfk _ hmem)
      have gi1 := g0 ks[i + 1] (hfk _ hmem1)
      have hs1 : Qc4 true (i + 1) = ⟨#[32, 45, 62, 32]⟩ := by simp [Qc4, show (i + 1) % 2 = 1 by omega]
      rw [hnx2, hnx, hs1] at hle
      simp only [ByteArray.size_append] at hle
      refine Dwp.seq ?_
      refine Dwp.step tT rfl fun K hK => ?_
      simp [g1', g4', Qak, Q5, ty3, wi, hlt', hi1]
      refine hK _ _ ?_ rfl; clear hK K
      refine Dwp.condT (by simp [eval, upd]) (Dwp.skip ?_)
      show Dwp _ _ _ _ _ _ _ _
      refine Dwp.seq (Dwp.block ?_)
      refine Dwp.seq ?_
      refine Dwp.step tT rfl fun K hK => ?_
      simp [g4', ty3]
      refine hK _ _ ?_ rfl
      clear hK K
      have e4 : (⟨#[32, 45, 62, 32]⟩ : ByteArray).size = 4 := rfl
      have e2 : (⟨#[44, 32]⟩ : ByteArray).size = 2 := rfl
      refine Dwp.mono (Q := fun e a' τ' => e = .normal ∧ a' 1 = a 1 ∧ a' 3 = .lit (.string (⟨#[123]⟩ ++ Qbc true 0 (ks.take i) ++ Qc4 true i)) ∧ a' 4 = .lit (.int .i64 i)) ?_ ?_
      · by_cases h0 : i = 0
        · have hd : decide (0 < i) = false := decide_eq_false (by omega)
          have hs0 : Qc4 true i = ⟨#[]⟩ := by simp [Qc4, h0]
          refine Dwp.condF (by simp [eval, upd, hd]) (Dwp.skip ?_)
          rw [hs0]
          refine ⟨rfl, by simp [upd], ?_, by simp [upd, g4']⟩
          simp only [upd]
          simp [g3']
          exact ByteArray.append_empty.symm
        · have hd : decide (0 < i) = true := decide_eq_true (by omega)
          have hs0 : Qc4 true i = ⟨#[44, 32]⟩ := by simp [Qc4, h0, hi2]
          rw [hs0] at hle ⊢
          have hcat1 : (⟨#[123]⟩ : ByteArray).size + (Qbc true 0 (ks.take i)).size + (⟨#[44, 32]⟩ : ByteArray).size < 4611686018427387904 := by rw [e1, e2]; omega
          refine Dwp.condT (by simp [eval, upd, hd]) ?_
          refine Dwp.reg tT rfl fun K hK => ?_
          simp [g3', ty9, hcat1]
          refine hK _ _ ?_ rfl
          exact ⟨rfl, by simp [upd], by simp [upd], by simp [upd, g4']⟩
      · rintro e a' τ' ⟨rfl, q1, q3, q4⟩
        rw [g1'] at q1
        show Dwp _ _ _ _ _ _ _ _
        have hz := QhP true i
        have hc1 : (wrT ks[i]).size + (⟨#[32, 45, 62, 32]⟩ : ByteArray).size < 4611686018427387904 := by rw [e4]; omega
        have hc2 : (wrT ks[i]).size + (⟨#[32, 45, 62, 32]⟩ : ByteArray).size + (wrT ks[i + 1]).size < 4611686018427387904 := by rw [e4]; omega
        have hc3 : (⟨#[123]⟩ : ByteArray).size + (Qbc true 0 (ks.take i)).size + (Qc4 true i).size + ((wrT ks[i]).size + (⟨#[32, 45, 62, 32]⟩ : ByteArray).size + (wrT ks[i + 1]).size) < 4611686018427387904 := by rw [e1, e4]; omega
        refine Dwp.draw [] mixed tT rfl rfl fun K hK => ?_
        simp [QbI, touch, QaO, Qbt, q1, q3, q4, Q5, ty9, Qak, ty3, hlt, hi1, wi, show (0 : Int) ≤ (i : Int) + 1 by omega, gi, gi1, Tm.cells_len, QT, hc1, hc2, hc3]
        refine hK _ _ ?_ rfl
        clear hK K
        show Dwp _ _ _ _ _ _ _ _
        have hfin : ⟨#[123]⟩ ++ Qbc true 0 (ks.take i) ++ Qc4 true i ++ (wrT ks[i] ++ ⟨#[32, 45, 62, 32]⟩ ++ wrT ks[i + 1]) = ⟨#[123]⟩ ++ Qbc true 0 (ks.take (i + 2)) := by
          rw [hnx2, hnx, hs1]; simp only [ByteArray.append_assoc]
        have wi2 : IntKind.i64.wrap ((i : Int) + 2) = ((i + 2 : Nat) : Int) := by rw [QaY (by omega) (by omega)]; omega
        refine Dwp.reg tT rfl fun K hK => ?_
        simp [q4, ty3, wi2]
        refine hK _ _ ?_ rfl
        exact ⟨ks.length - (i + 2), by omega, i + 2, by omega, by omega, rfl, by simp [upd, q1], by simp only [upd]; simp [hfin], by simp [upd]⟩
    · have hie : i = ks.length := by omega
      have hlt' : ¬ (i : Int) + 1 < (ks.length : Int) := by omega
      have hlt2 : ¬ i + 1 < ks.length := by omega
      rw [hie, List.take_length] at g3'
      have hrest := hnode.2.2.2.2
      have gt := g3 r ((ks.length : Int) == 0) (QiV hrest)
      have htl : QfY r ((ks.length : Int) == 0) = wrR (decide (0 < ks.length)) r := by
        rw [QiX hrest]
        congr 1
        by_cases h0 : ks.length = 0
        · simp [h0]
        · have h1 : ((ks.length : Int) == 0) = false := by simp; intro e; exact h0 (by simp [e])
          have h2 : 0 < ks.length := by omega
          simp [h1, h2]
      rw [htl] at gt
      have hts := QeN (ne := decide (0 < ks.length)) hrest
      have hc2 : (⟨#[123]⟩ : ByteArray).size + (Qbc true 0 ks).size + (wrR (decide (0 < ks.length)) r).size < 4611686018427387904 := by simp only [e1]; omega
      have hc3 : (⟨#[123]⟩ : ByteArray).size + (Qbc true 0 ks).size + (wrR (decide (0 < ks.length)) r).size + (⟨#[125]⟩ : ByteArray).size < 4611686018427387904 := by simp only [e1]; omega
      refine Dwp.seq ?_
      refine Dwp.step tT rfl fun K hK => ?_
      simp [g1', g4', Qak, Q5, ty3, wi, hlt', hlt2]
      refine hK _ _ ?_ rfl; clear hK K
      refine Dwp.condF (by simp [eval, upd]) (Dwp.exit ?_)
      show Dwp _ _ _ _ _ _ _ _
      refine Dwp.step tT rfl fun K hK => ?_
      simp [g1', g3', Q5, ty9, Qak, ty3, gt, hc2, hc3]
      refine hK _ _ (Dwp.ret ?_) rfl
      exact QaU Tryz.func100 rfl _ (by simp [upd])
  exfalso
  simp [Qar, hk1, hk2, hk3, hk4, hk5, hk6, hk7, hk8] at hnode
theorem Qji : ∀ n : Nat, Qb Tryz.prog 100 (QbT n)
  | 0 => by
    refine Qb.of_sp (T := Qf []) Tryz.func100 rfl (Nat.le_of_ble_eq_true rfl) fun E t y hy => ?_
    split at hy
    case isFalse => cases hy
    next hlim => exact absurd hlim.1 (by have := Qeg t; omega)
  | n + 1 => c100 n (Qji n)
theorem e100 (n : Nat) : Go.FA.Good Tryz.prog (100, QbT n) := ⟨Qji n, Tryz.f100, _, Tryz.func100, rfl, by decide⟩
end
end Go.Proofs.Yt
