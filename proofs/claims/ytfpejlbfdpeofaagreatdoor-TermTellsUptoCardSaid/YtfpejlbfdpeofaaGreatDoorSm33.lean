/- Contracts of functions of the program, by a machine over abstract values; part 34. No condition beyond those of each theorem. -/
import Derived.Test.YtfpejlbfdpeofaaGreatDoorSm32
set_option linter.unusedVariables false
set_option linter.unusedSimpArgs false

namespace Go.Proofs.Yt
open Go Go.FA Go.Proofs Go.RowKit
set_option maxRecDepth 100000
def QkL (t : Tm) : Prop := okT t ∧ tsz t ≤ tlim
section
attribute [local simp] QF QZ Qo QJ own Qm dop QN eval Qr Qn Ex.then Ex.inBlock upd QV Tag.isNN Qp intCmp Qv Qx TyI.agg Qa Qu Qg Qs QX QA QD mapOf QQ QC Qq Qi Qj QI DV.cells Qt Qk QE QK rowsOf QL Qd Qe Qe.go Qz QB Qc goInt
def textF (t : Tm) : ByteArray × Int := if Qas t = true then (if (wrT t).size ≤ 20000 then (wrT t, 0) else (⟨#[]⟩, 3)) else (⟨#[]⟩, 2)
open Classical in
noncomputable def sT43 : Sp := sp (QM Enc.tm) Enc.strErr (fun t => if QkL t then some (textF t) else none)
theorem wrT_ne (t : Tm) (h : Qgo t = true) : (wrT t).size ≠ 0 := by
  obtain ⟨k, n, x, s, ks, r⟩ := t
  simp only [Qgo, Bool.and_eq_true] at h
  have hn := h.1
  have e1 : ∀ c : UInt8, (⟨#[c]⟩ : ByteArray).size = 1 := fun _ => rfl
  simp only [Qar] at hn
  rw [Qa5]
  repeat' split
  all_goals simp only [ByteArray.size_append, e1, ne_eq]
  all_goals try omega
  · show ¬ (Lib.itoa n).toArray.size = 0
    have := Qkw n
    simp [this]
  · decide
  · decide
  all_goals simp [*] at hn
  have := Qla hn.2.1
  unfold wrV; split
  · exact this
  · simp only [ByteArray.size_append]; omega
set_option maxHeartbeats 4000000 in
theorem cT43 : Qb Tryz.prog 43 sT43 := by
  refine Qb.of_sp (T := Qf [(23, s23)]) Tryz.func43 rfl (Nat.le_of_ble_eq_true rfl) fun E t y hy => ?_
  split at hy
  case isFalse => cases hy
  next hlim =>
  obtain ⟨hok, hl⟩ := hlim
  cases hy
  have tT : QH Tryz.prog (Qf [(23, s23)]) := .cons e23 .nil
  have g := Qll (Qf [(23, s23)]) rfl t hok hl
  generalize Qf [(23, s23)] = T at *
  refine Dwp.step tT rfl fun K hK => ?_
  simp [init, QM, Ql.one, Enc.tm, Enc.agg, Ql.tm, Tm.cells_len, QT]
  refine hK _ _ ?_ rfl; clear hK K
  refine Dwp.seq ?_
  refine Dwp.step tT rfl fun K hK => ?_
  simp [init, Q5, Tm.cells_len, QT, g]
  refine hK _ _ ?_ rfl; clear hK K
  rcases hv : Qas t with _ | _
  · refine Dwp.condT (by simp [eval, upd, hv]) ?_
    refine Dwp.step tT rfl fun K hK => ?_
    simp
    refine hK _ _ (Dwp.ret ?_) rfl
    have hf : textF t = (⟨#[]⟩, 2) := by simp [textF, hv]
    rw [hf]
    simp [Q3, Qh, QW, frz, Q2, Q0, Ex.then, upd, Enc.strErr, Enc.tup, QR, Ql.and, Ql.one, Enc.str, Enc.i64, Enc.int]
  refine Dwp.condF (by simp [eval, upd, hv]) (Dwp.skip ?_)
  show Dwp _ _ _ _ _ _ _ _
  have hv2 := hv
  simp only [Qas, Bool.and_eq_true, decide_eq_true_eq] at hv2
  have hsz := QiD t hv2.1
  have hne := wrT_ne t hv2.1
  refine Dwp.step tT rfl fun K hK => ?_
  simp [QbS]
  refine hK _ _ ?_ rfl
  clear hK K
  have hw0 : Wr (σ0.n + 6) ⟨#[]⟩ { n := σ0.n + 3 + 3 + 1, objs := upd σ0.objs (σ0.n + 6) (some (.cells 110 [.lit (.pointer none), .lit (.slice none 0 0)])), toks := σ0.toks } :=
    ⟨by simp only []; omega, .lit (.pointer none), .lit (.slice none 0 0), by simp [upd], .inl rfl, .inl ⟨rfl, rfl⟩⟩
  have hb0 : (⟨#[]⟩ : ByteArray).size + (wrT t).size ≤ 16777216 := by
    have e0 : (⟨#[]⟩ : ByteArray).size = 0 := rfl
    rw [e0]; omega
  generalize σ0.n + 6 = id at *
  refine Dwp.stepH fun K hK => ?_
  show Rg _ _ _ _ K ([0] ++ (1 :: [])) _ _
  refine Rg.run tT rfl _ _ _ ?_
  simp [Q4, QaC, Qam, Qab, init, Q5, Tm.cells_len, QT]
  refine Rg.call (xs := [.ptr id 0, .agg t.cells]) rfl rfl rfl rfl (by rfl) (QjU tlim t id ⟨#[]⟩ _ ⟨hl, hl, hv2.1, hok⟩ (hw0.n _ (by first | omega | (simp only []; omega))) hb0) ?_
  rintro d σ1 ⟨gw1, gf1⟩
  rw [show (⟨#[]⟩ ++ wrT t : ByteArray) = wrT t from ByteArray.empty_append] at gw1
  refine Rg.nil (hK _ _ ?_)
  clear hK K
  refine Dwp.seq ?_
  refine Dwp.stepH fun K hK => ?_
  show Rg _ _ _ _ K ([0] ++ (1 :: ([2] ++ []))) _ _
  refine Rg.run tT rfl _ _ _ ?_
  simp [Q4, QaC, Qam, Qab, init, QbS, Qbr]
  refine Rg.call (xs := [.ptr id 0]) rfl rfl rfl rfl (by rfl) (h98 id (wrT t) _ (gw1.n _ (by first | omega | (simp only []; omega)))) ?_
  rintro d σ2 ⟨rfl, gw2, gf2⟩
  show Rg _ _ _ _ K ([2] ++ []) _ _
  refine Rg.run tT rfl _ _ _ ?_
  simp [Q4, QaC, Qam, Qab, init, ty3]
  refine Rg.nil (hK _ _ ?_)
  clear hK K
  by_cases h2 : (wrT t).size ≤ 20000
  case neg =>
    have hd : decide (20000 < (wrT t).size) = true := decide_eq_true (by omega)
    refine Dwp.condT (by simp [eval, upd, hd]; try omega) ?_
    refine Dwp.step tT rfl fun K hK => ?_
    simp
    refine hK _ _ (Dwp.ret ?_) rfl
    have hf : textF t = (⟨#[]⟩, 3) := by simp [textF, hv, h2]
    rw [hf]
    simp [Q3, Qh, QW, frz, Q2, Q0, Ex.then, upd, Enc.strErr, Enc.tup, QR, Ql.and, Ql.one, Enc.str, Enc.i64, Enc.int]
  have hd : decide (20000 < (wrT t).size) = false := decide_eq_false (by omega)
  refine Dwp.condF (by simp [eval, upd, hd]; try omega) (Dwp.skip ?_)
  show Dwp _ _ _ _ _ _ _ _
  have hf : textF t = (wrT t, 0) := by simp [textF, hv, h2]
  rw [hf]
  generalize wrT t = s at *
  obtain ⟨hid, p, x, ho, hp, hx⟩ := gw2
  rcases hx with ⟨_, rfl⟩ | ⟨bid, hb, rfl, hob⟩
  · exact absurd rfl hne
  refine Dwp.stepH fun K hK => ?_
  show Rg _ _ _ _ K ([0] ++ (1 :: ([2, 3] ++ []))) _ _
  refine Rg.run tT rfl _ _ _ ?_
  simp [Q4, QaC, Qam, Qab, init, QbS, Qbr]
  refine Rg.reset (f := 99) (x := .tmp 13) (tys := #[108]) (r := .string s) E.2 rfl rfl rfl rfl ⟨Tryz.f99, _, Tryz.func99, rfl, by decide⟩ ?_ ?_
  · intro C w v hs hv
    simp only [eval, QN, upd] at hv
    exact QfI (id := id) (bid := bid) (p := p) (by simpa using ho) (by simpa using hob) hne (by omega) C w v hs (by simpa using hv)
  · show Rg _ _ _ _ K ([2, 3] ++ []) _ _
    refine Rg.run tT rfl _ _ _ ?_
    simp [Q4, QaC, Qam]
    refine Rg.nil (hK _ _ (Dwp.ret ?_))
    refine ⟨.inr rfl, .tuple [.lit (.string s), .lit (.int .i64 0)], ?_, ?_⟩
    · show Qh Tryz.prog _ _ [.tmp 2, .tmp 3] = _
      simp [Qh, QW, QN, upd]
    · simp [Enc.strErr, Enc.tup, QR, Ql.and, Ql.one, Enc.str, Enc.i64, Enc.int, frz, Q0, Q2]
theorem eT43 : Go.FA.Good Tryz.prog (43, sT43) := ⟨cT43, Tryz.f43, _, Tryz.func43, rfl, by decide⟩
open Classical in
noncomputable def sT44 : Sp := sp (QM Enc.tm) Enc.strErr (fun t => if QkL t then some (textF t) else none)
set_option maxHeartbeats 4000000 in
theorem cT44 : Qb Tryz.prog 44 sT44 := by
  refine Qb.of_sp (T := Qf [(24, sT24), (100, QbT tlim)]) Tryz.func44 rfl (Nat.le_of_ble_eq_true rfl) fun E t y hy => ?_
  split at hy
  case isFalse => cases hy
  next hlim =>
  obtain ⟨hok, hl⟩ := hlim
  cases hy
  have tT : QH Tryz.prog (Qf [(24, sT24), (100, QbT tlim)]) := .cons e24 (.cons (e100 tlim) .nil)
  have g := QiH (Qf [(24, sT24), (100, QbT tlim)]) rfl t hok hl
  have g1 := Qie (Qf [(24, sT24), (100, QbT tlim)]) rfl t
  generalize Qf [(24, sT24), (100, QbT tlim)] = T at *
  refine Dwp.step tT rfl fun K hK => ?_
  simp [init, QM, Ql.one, Enc.tm, Enc.agg, Ql.tm, Tm.cells_len, QT]
  refine hK _ _ ?_ rfl; clear hK K
  refine Dwp.seq ?_
  refine Dwp.step tT rfl fun K hK => ?_
  simp [init, Q5, Tm.cells_len, QT, g]
  refine hK _ _ ?_ rfl; clear hK K
  rcases hv : Qas t with _ | _
  · refine Dwp.condT (by simp [eval, upd, hv]) ?_
    refine Dwp.step tT rfl fun K hK => ?_
    simp
    refine hK _ _ (Dwp.ret ?_) rfl
    have hf : textF t = (⟨#[]⟩, 2) := by simp [textF, hv]
    rw [hf]
    simp [Q3, Qh, QW, frz, Q2, Q0, Ex.then, upd, Enc.strErr, Enc.tup, QR, Ql.and, Ql.one, Enc.str, Enc.i64, Enc.int]
  refine Dwp.condF (by simp [eval, upd, hv]) (Dwp.skip ?_)
  show Dwp _ _ _ _ _ _ _ _
  have hv2 := hv
  simp only [Qas, Bool.and_eq_true, decide_eq_true_eq] at hv2
  have g1 := g1 ⟨hl, hl, hv2.1, hok⟩
  refine Dwp.step tT rfl fun K hK => ?_
  simp [init, Q5, Tm.cells_len, QT, g1]
  refine hK _ _ ?_ rfl; clear hK K
  refine Dwp.seq ?_
  by_cases h2 : (wrT t).size ≤ 20000
  case neg =>
    have hd : decide (20000 < (wrT t).size) = true := decide_eq_true (by omega)
    refine Dwp.step tT rfl fun K hK => ?_
    simp [init, ty9, ty3]
    refine hK _ _ ?_ rfl; clear hK K
    refine Dwp.condT (by simp [eval, upd, hd]; try omega) ?_
    refine Dwp.step tT rfl fun K hK => ?_
    simp
    refine hK _ _ (Dwp.ret ?_) rfl
    have hf : textF t = (⟨#[]⟩, 3) := by simp [textF, hv, h2]
    rw [hf]
    simp [Q3, Qh, QW, frz, Q2, Q0, Ex.then, upd, Enc.strErr, Enc.tup, QR, Ql.and, Ql.one, Enc.str, Enc.i64, Enc.int]
  have hd : decide (20000 < (wrT t).size) = false := decide_eq_false (by omega)
  refine Dwp.step tT rfl fun K hK => ?_
  simp [init, ty9, ty3]
  refine hK _ _ ?_ rfl; clear hK K
  refine Dwp.condF (by simp [eval, upd, hd]; try omega) (Dwp.skip ?_)
  show Dwp _ _ _ _ _ _ _ _
  have hf : textF t = (wrT t, 0) := by simp [textF, hv, h2]
  rw [hf]
  refine Dwp.step tT rfl fun K hK => ?_
  simp
  refine hK _ _ (Dwp.ret ?_) rfl
  simp [Q3, Qh, QW, frz, Q2, Q0, Ex.then, upd, Enc.strErr, Enc.tup, QR, Ql.and, Ql.one, Enc.str, Enc.i64, Enc.int]
theorem eT44 : Go.FA.Good Tryz.prog (44, sT44) := ⟨cT44, Tryz.f44, _, Tryz.func44, rfl, by decide⟩
def QgT (t : Tm) : Int × Int := if Qas t = true then (Qjy t, 0) else (0, 2)
def QdG (t : Tm) : Int × Int := if Qas t = true then (hiP t, 0) else (0, 2)
open Classical in
noncomputable def sT38 : Sp := sp (QM Enc.tm) Enc.sz2 (fun t => if QkL t then some (QgT t) else none)
open Classical in
noncomputable def sT40 : Sp := sp (QM Enc.tm) Enc.sz2 (fun t => if QkL t then some (QdG t) else none)
theorem cT38 : Qb Tryz.prog 38 sT38 := by
  refine Qb.of_sp (T := Qf [(24, sT24), (53, Qi8 tlim)]) Tryz.func38 rfl (Nat.le_of_ble_eq_true rfl) fun E t y hy => ?_
  split at hy
  case isFalse => cases hy
  next hlim =>
  obtain ⟨hok, hl⟩ := hlim
  cases hy
  have tT : QH Tryz.prog (Qf [(24, sT24), (53, Qi8 tlim)]) := .cons e24 (.cons (e53 tlim) .nil)
  have g := QiH (Qf [(24, sT24), (53, Qi8 tlim)]) rfl t hok hl
  have g1 := Qli (Qf [(24, sT24), (53, Qi8 tlim)]) rfl t ⟨hl, hl, hok⟩
  generalize Qf [(24, sT24), (53, Qi8 tlim)] = T at *
  refine Dwp.step tT rfl fun K hK => ?_
  simp [init, QM, Ql.one, Enc.tm, Enc.agg, Ql.tm, Tm.cells_len, QT]
  refine hK _ _ ?_ rfl; clear hK K
  refine Dwp.seq ?_
  refine Dwp.step tT rfl fun K hK => ?_
  simp [init, Q5, Tm.cells_len, QT, g]
  refine hK _ _ ?_ rfl; clear hK K
  rcases hv : Qas t with _ | _
  · refine Dwp.condT (by simp [eval, upd, hv]) ?_
    refine Dwp.step tT rfl fun K hK => ?_
    simp
    refine hK _ _ (Dwp.ret ?_) rfl
    simp [Q3, Qh, QW, frz, Q2, Q0, Ex.then, upd, Enc.sz2, Enc.tup, QR, Ql.and, Ql.one, Enc.i64, Enc.int, QgT, hv]
  refine Dwp.condF (by simp [eval, upd, hv]) (Dwp.skip ?_)
  show Dwp _ _ _ _ _ _ _ _
  refine Dwp.step tT rfl fun K hK => ?_
  simp [init, Q5, Tm.cells_len, QT, g1]
  refine hK _ _ (Dwp.ret ?_) rfl
  simp [Q3, Qh, QW, frz, Q2, Q0, Ex.then, upd, Enc.sz2, Enc.tup, QR, Ql.and, Ql.one, Enc.i64, Enc.int, QgT, hv]
theorem cT40 : Qb Tryz.prog 40 sT40 := by
  refine Qb.of_sp (T := Qf [(24, sT24), (54, Qi0 tlim)]) Tryz.func40 rfl (Nat.le_of_ble_eq_true rfl) fun E t y hy => ?_
  split at hy
  case isFalse => cases hy
  next hlim =>
  obtain ⟨hok, hl⟩ := hlim
  cases hy
  have tT : QH Tryz.prog (Qf [(24, sT24), (54, Qi0 tlim)]) := .cons e24 (.cons (e54 tlim) .nil)
  have g := QiH (Qf [(24, sT24), (54, Qi0 tlim)]) rfl t hok hl
  have g1 := Qlo (Qf [(24, sT24), (54, Qi0 tlim)]) rfl t ⟨hl, hl, hok⟩
  generalize Qf [(24, sT24), (54, Qi0 tlim)] = T at *
  refine Dwp.step tT rfl fun K hK => ?_
  simp [init, QM, Ql.one, Enc.tm, Enc.agg, Ql.tm, Tm.cells_len, QT]
  refine hK _ _ ?_ rfl; clear hK K
  refine Dwp.seq ?_
  refine Dwp.step tT rfl fun K hK => ?_
  simp [init, Q5, Tm.cells_len, QT, g]
  refine hK _ _ ?_ rfl; clear hK K
  rcases hv : Qas t with _ | _
  · refine Dwp.condT (by simp [eval, upd, hv]) ?_
    refine Dwp.step tT rfl fun K hK => ?_
    simp
    refine hK _ _ (Dwp.ret ?_) rfl
    simp [Q3, Qh, QW, frz, Q2, Q0, Ex.then, upd, Enc.sz2, Enc.tup, QR, Ql.and, Ql.one, Enc.i64, Enc.int, QdG, hv]
  refine Dwp.condF (by simp [eval, upd, hv]) (Dwp.skip ?_)
  show Dwp _ _ _ _ _ _ _ _
  refine Dwp.step tT rfl fun K hK => ?_
  simp [init, Q5, Tm.cells_len, QT, g1]
  refine hK _ _ (Dwp.ret ?_) rfl
  simp [Q3, Qh, QW, frz, Q2, Q0, Ex.then, upd, Enc.sz2, Enc.tup, QR, Ql.and, Ql.one, Enc.i64, Enc.int, QdG, hv]
theorem eT38 : Go.FA.Good Tryz.prog (38, sT38) := ⟨cT38, Tryz.f38, _, Tryz.func38, rfl, by decide⟩
theorem eT40 : Go.FA.Good Tryz.prog (40, sT40) := ⟨cT40, Tryz.f40, _, Tryz.func40, rfl, by decide⟩
theorem hc_arg {f : FuncId} {σ : St} {xs ys : List DV} {R : DV → St → Prop} (h : HC Tryz.prog f ys σ R) (hr : ∀ C w vs, QP C w xs vs → QP C w ys vs) : HC Tryz.prog f xs σ R :=
  ⟨h.1, fun E C w args hl hs => h.2 E C w args (hr _ _ _ hl) hs⟩
open Classical in
noncomputable def sT42 : Sp := sp (QM Enc.tm) Enc.strsErr (fun t => if okT t ∧ tsz t ≤ tlim then some (QcC t) else none)
set_option maxHeartbeats 4000000 in
theorem cT42 : Qb Tryz.prog 42 sT42 := by
  refine Qb.of_sp (T := Qf [(24, sT24)]) Tryz.func42 rfl (Nat.le_of_ble_eq_true rfl) fun E t y hy => ?_
  split at hy
  case isFalse => cases hy
  next hlim =>
  obtain ⟨hok, hl⟩ := hlim
  cases hy
  have tT : QH Tryz.prog (Qf [(24, sT24)]) := .cons e24 .nil
  have g := QiH (Qf [(24, sT24)]) rfl t hok hl
  generalize Qf [(24, sT24)] = T at *
  refine Dwp.step tT rfl fun K hK => ?_
  simp [init, QM, Ql.one, Enc.tm, Enc.agg, Ql.tm, Tm.cells_len, QT]
  refine hK _ _ ?_ rfl; clear hK K
  refine Dwp.seq ?_
  refine Dwp.step tT rfl fun K hK => ?_
  simp [init, Q5, Tm.cells_len, QT, g]
  refine hK _ _ ?_ rfl; clear hK K
  rcases hv : Qas t with _ | _
  · refine Dwp.condT (by simp [eval, upd, hv]) ?_
    refine Dwp.step tT rfl fun K hK => ?_
    simp
    refine hK _ _ (Dwp.ret ?_) rfl
    have hf : QcC t = ([], 2) := by simp [QcC, hv]
    rw [hf]
    simp [Q3, Qh, QW, frz, Q2, Q0, Ex.then, upd, Enc.strsErr, Enc.tup, QR, Ql.and, Ql.one, Enc.strs, Enc.slice, Enc.str, Enc.i64, Enc.int]
  refine Dwp.condF (by simp [eval, upd, hv]) (Dwp.skip ?_)
  show Dwp _ _ _ _ _ _ _ _
  have hf : QcC t = (QdF t [], 0) := by rw [← vars_same]; simp [QcC, hv]
  rw [hf]
  refine Dwp.stepH fun K hK => ?_
  show Rg _ _ _ _ K ([0] ++ (1 :: ([2, 3] ++ []))) _ _
  refine Rg.run tT rfl _ _ _ ?_
  simp [Q4, QaC, Qam, init, Q5, Tm.cells_len, QT]
  have hh := fun σ' => Qko tlim t [] (.slice 1 .full (Qal [])) σ' hl hl hok ⟨.full, rfl, rfl⟩ (by unfold tlim at hl; simp; omega)
  refine Rg.call (xs := [.lit (.slice none 0 0), .agg t.cells]) rfl rfl rfl rfl (by rfl) (hc_arg (hh _) ?_) ?_
  · intro C w vs h
    match vs, h with
    | [v1, v2], h =>
      simp only [QP, Qy] at h ⊢
      exact ⟨.inr ⟨none, h.1, rfl, trivial⟩, h.2⟩
  rintro d τ ⟨⟨tag, htag, rfl⟩, hn⟩
  show Rg _ _ _ _ K ([2, 3] ++ []) _ _
  refine Rg.run tT rfl _ _ _ ?_
  simp [Q4, QaC, Qam]
  refine Rg.nil (hK _ _ (Dwp.ret ?_))
  generalize QdF t [] = l at *
  refine ⟨.inr rfl, .tuple [.slice 1 tag (Qal l), .lit (.int .i64 0)], ?_, ?_⟩
  · show Qh Tryz.prog _ _ [.tmp 2, .tmp 3] = _
    simp [Qh, QW, QN, upd]
  · exact Enc.strsErr.de (l, 0)
theorem eT42 : Go.FA.Good Tryz.prog (42, sT42) := ⟨cT42, Tryz.f42, _, Tryz.func42, rfl, by decide⟩
open Classical in
theorem callT41 (T : Tab) (hT : T 41 = some sT41) (t : Tm) (h : okT t ∧ tsz t ≤ tlim) : dcall T 41 [.agg t.cells] = some (.tuple [.slice 1 .none ((QcC t).1.map fun x => [DV.lit (.string x)]), .lit (.int .i64 (QcC t).2)]) :=
  Qad (A := Enc.tm) (B := Enc.strsErr) hT (if_pos h)
open Classical in
theorem callT42 (T : Tab) (hT : T 42 = some sT42) (t : Tm) (h : okT t ∧ tsz t ≤ tlim) : dcall T 42 [.agg t.cells] = some (.tuple [.slice 1 .none ((QcC t).1.map fun x => [DV.lit (.string x)]), .lit (.int .i64 (QcC t).2)]) :=
  Qad (A := Enc.tm) (B := Enc.strsErr) hT (if_pos h)
open Classical in
theorem callS43 (T : Tab) (hT : T 43 = some sT43) (t : Tm) (h : QkL t) : dcall T 43 [.agg t.cells] = some (.tuple [.lit (.string (textF t).1), .lit (.int .i64 (textF t).2)]) :=
  Qad (A := Enc.tm) (B := Enc.strErr) hT (if_pos h)
open Classical in
theorem callS44 (T : Tab) (hT : T 44 = some sT44) (t : Tm) (h : QkL t) : dcall T 44 [.agg t.cells] = some (.tuple [.lit (.string (textF t).1), .lit (.int .i64 (textF t).2)]) :=
  Qad (A := Enc.tm) (B := Enc.strErr) hT (if_pos h)
open Classical in
theorem callS38 (T : Tab) (hT : T 38 = some sT38) (t : Tm) (h : QkL t) : dcall T 38 [.agg t.cells] = some (.tuple [.lit (.int .i64 (QgT t).1), .lit (.int .i64 (QgT t).2)]) :=
  Qad (A := Enc.tm) (B := Enc.sz2) hT (if_pos h)
open Classical in
theorem callS40 (T : Tab) (hT : T 40 = some sT40) (t : Tm) (h : QkL t) : dcall T 40 [.agg t.cells] = some (.tuple [.lit (.int .i64 (QdG t).1), .lit (.int .i64 (QdG t).2)]) :=
  Qad (A := Enc.tm) (B := Enc.sz2) hT (if_pos h)
theorem meas_sizeR (t : Tm) : (QbU t).1 = (QgT t).1 ∧ (QbU t).2.2 = (QgT t).2 ∧ (QbU t).2.1 = (QdG t).1 ∧ (QbU t).2.2 = (QdG t).2 := by
  unfold QbU QgT QdG
  split
  · next h =>
    simp only [Qas, Bool.and_eq_true] at h
    obtain ⟨h1, h2⟩ := Qj6 t h.1
    exact ⟨h1.symm, rfl, h2.symm, rfl⟩
  · exact ⟨rfl, rfl, rfl, rfl⟩
theorem varsF_len (t : Tm) (h : tsz t ≤ tlim) : (QcC t).1.length ≤ 1048576 := by
  unfold QcC
  split
  · have h1 := Qg9 t
    have h2 := Qft ((QaT (Qce t)).map bl)
    rw [List.length_map, Qbs] at h2
    simp only [Qdc, List.length_map]
    unfold tlim at h; omega
  · simp
open Classical in
noncomputable def sT5 : Sp := sp (QM Enc.tm) Enc.bool (fun t => if QkL t then some true else none)
noncomputable abbrev TL5 : Tab := Qf [(21, s21), (22, s22x), (37, sT37), (38, sT38), (39, sT39), (40, sT40), (41, sT41), (42, sT42), (43, sT43), (44, sT44)]
theorem tabL5 : QH Tryz.prog TL5 := .cons e21 (.cons e22x (.cons e37 (.cons eT38 (.cons e39 (.cons eT40 (.cons eT41 (.cons eT42 (.cons eT43 (.cons eT44 .nil)))))))))
set_option maxHeartbeats 16000000 in
theorem cL5 : Qb Tryz.prog 5 sT5 := by
  refine Qb.of_sp (T := TL5) Tryz.func5 rfl (Nat.le_of_ble_eq_true rfl) fun E t y hy => ?_
  split at hy
  case isFalse => cases hy
  next hlim =>
  cases hy
  have tT := tabL5
  have gf := call21 TL5 rfl t hlim.1
  have ga := call22 TL5 rfl
  have g37 := call37 TL5 rfl t hlim
  have g38 := callS38 TL5 rfl t hlim
  have g39 := call39 TL5 rfl t hlim
  have g40 := callS40 TL5 rfl t hlim
  have g41 := callT41 TL5 rfl t hlim
  have g42 := callT42 TL5 rfl t hlim
  have g43 := callS43 TL5 rfl t hlim
  have g44 := callS44 TL5 rfl t hlim
  obtain ⟨m1, m2, m3, m4⟩ := meas_sizeR t
  rw [m1, m2] at g37
  rw [m3, m4] at g39
  have hll := varsF_len t hlim.2
  generalize TL5 = T at *
  clear hlim m1 m2 m3 m4
  generalize QgT t = p1 at *
  generalize QdG t = p2 at *
  generalize QcC t = p3 at *
  generalize textF t = p4 at *
  obtain ⟨n1, r1⟩ := p1
  obtain ⟨n2, r2⟩ := p2
  obtain ⟨l, r3⟩ := p3
  obtain ⟨x, r4⟩ := p4
  simp only [] at *
  refine Dwp.step tT rfl fun K hK => ?_
  simp [init, QM, Ql.one, Enc.tm, Enc.agg, Ql.tm, Tm.cells_len, QT]
  refine hK _ _ ?_ rfl; clear hK K
  refine Dwp.seq ?_
  refine Dwp.step tT rfl fun K hK => ?_
  generalize decide (0 ≤ QaL [t] 2600 0) = b1 at *
  cases b1
  ·
    repeat' ((first | refine Qn.stepD rfl rfl ?_ | refine Qn.stepG rfl rfl rfl ?_ | refine Qn.stepN rfl rfl ?_ | refine Qn.stepGN rfl rfl rfl ?_); intro K1 hK1; simp [*, QO, Qw, QJ, dop, eval, Qr, upd, Qa, Qu, Qv, Qx, TyI.agg, Qg, Qs, Qi, Qj, QA, QX, goInt, QV, intCmp, Qp, Tag.isNN, Qc, DV.cells, Qd, Qt, Qk, init, QaB, ty3, ty9, Qak, Q5, Qm, Tm.cells_len, QT]; (first | (refine hK1 _ _ ?_; clear hK1 K1) | (split <;> (rename_i hsp; (try simp only [beq_iff_eq, beq_eq_false_iff_ne, ne_eq, decide_eq_true_eq, decide_eq_false_iff_not] at hsp); (try (first | have hsq := Int.not_le.2 hsp | have hsq := Int.not_lt.2 hsp | have hsq := Int.not_le.1 hsp | have hsq := Int.not_lt.1 hsp)); (try subst hsp); (try simp only [hsp])) <;> (refine hK1 _ _ ?_; clear hK1 K1))))
    refine Qn.done (hK _ _ ?_ rfl)
    refine Dwp.condT (by simp [eval, upd]) ?_
    refine Dwp.step tT rfl fun K hK => ?_
    simp [ga]
    refine hK _ _ (Dwp.ret ?_) rfl
    exact QaE Tryz.func5 rfl _ (by simp [upd])
  repeat' ((first | refine Qn.stepD rfl rfl ?_ | refine Qn.stepG rfl rfl rfl ?_ | refine Qn.stepN rfl rfl ?_ | refine Qn.stepGN rfl rfl rfl ?_); intro K1 hK1; simp [*, QO, Qw, QJ, dop, eval, Qr, upd, Qa, Qu, Qv, Qx, TyI.agg, Qg, Qs, Qi, Qj, QA, QX, goInt, QV, intCmp, Qp, Tag.isNN, Qc, DV.cells, Qd, Qt, Qk, init, QaB, ty3, ty9, Qak, Q5, Qm, Tm.cells_len, QT]; (first | (refine hK1 _ _ ?_; clear hK1 K1) | (split <;> (rename_i hsp; (try simp only [beq_iff_eq, beq_eq_false_iff_ne, ne_eq, decide_eq_true_eq, decide_eq_false_iff_not] at hsp); (try (first | have hsq := Int.not_le.2 hsp | have hsq := Int.not_lt.2 hsp | have hsq := Int.not_le.1 hsp | have hsq := Int.not_lt.1 hsp)); (try subst hsp); (try simp only [hsp])) <;> (refine hK1 _ _ ?_; clear hK1 K1))))
  refine Qn.done (hK _ _ ?_ rfl)
  refine Dwp.condF (by simp [eval, upd]) (Dwp.skip ?_)
  show Dwp _ _ _ _ _ _ _ _
  refine Dwp.step tT rfl fun K hK => ?_
  simp [init, Q5, Tm.cells_len, QT, g37]
  refine hK _ _ ?_ rfl; clear hK K
  refine Dwp.step tT rfl fun K hK => ?_
  simp [init, Q5, Tm.cells_len, QT, g38]
  refine hK _ _ ?_ rfl; clear hK K
  refine Dwp.seq ?_
  refine Dwp.step tT rfl fun K hK => ?_
  repeat' ((first | refine Qn.stepD rfl rfl ?_ | refine Qn.stepG rfl rfl rfl ?_ | refine Qn.stepN rfl rfl ?_ | refine Qn.stepGN rfl rfl rfl ?_); intro K1 hK1; simp [*, QO, Qw, QJ, dop, eval, Qr, upd, Qa, Qu, Qv, Qx, TyI.agg, Qg, Qs, Qi, Qj, QA, QX, goInt, QV, intCmp, Qp, Tag.isNN, Qc, DV.cells, Qd, Qt, Qk, init, ty3, Qm]; (first | (refine hK1 _ _ ?_; clear hK1 K1) | (split <;> (rename_i hsp; (try simp only [beq_iff_eq, beq_eq_false_iff_ne, ne_eq, decide_eq_true_eq, decide_eq_false_iff_not] at hsp); (try (first | have hsq := Int.not_le.2 hsp | have hsq := Int.not_lt.2 hsp | have hsq := Int.not_le.1 hsp | have hsq := Int.not_lt.1 hsp)); (try subst hsp); (try simp only [hsp])) <;> (refine hK1 _ _ ?_; clear hK1 K1))))
  refine Qn.done (hK _ _ ?_ rfl)
  refine Dwp.condF (by simp [eval, upd]) (Dwp.skip ?_)
  show Dwp _ _ _ _ _ _ _ _
  refine Dwp.step tT rfl fun K hK => ?_
  simp [init, Q5, Tm.cells_len, QT, g39]
  refine hK _ _ ?_ rfl; clear hK K
  refine Dwp.step tT rfl fun K hK => ?_
  simp [init, Q5, Tm.cells_len, QT, g40]
  refine hK _ _ ?_ rfl; clear hK K
  refine Dwp.seq ?_
  refine Dwp.step tT rfl fun K hK => ?_
  repeat' ((first | refine Qn.stepD rfl rfl ?_ | refine Qn.stepG rfl rfl rfl ?_ | refine Qn.stepN rfl rfl ?_ | refine Qn.stepGN rfl rfl rfl ?_); intro K1 hK1; simp [*, QO, Qw, QJ, dop, eval, Qr, upd, Qa, Qu, Qv, Qx, TyI.agg, Qg, Qs, Qi, Qj, QA, QX, goInt, QV, intCmp, Qp, Tag.isNN, Qc, DV.cells, Qd, Qt, Qk, init, ty3, Qm]; (first | (refine hK1 _ _ ?_; clear hK1 K1) | (split <;> (rename_i hsp; (try simp only [beq_iff_eq, beq_eq_false_iff_ne, ne_eq, decide_eq_true_eq, decide_eq_false_iff_not] at hsp); (try (first | have hsq := Int.not_le.2 hsp | have hsq := Int.not_lt.2 hsp | have hsq := Int.not_le.1 hsp | have hsq := Int.not_lt.1 hsp)); (try subst hsp); (try simp only [hsp])) <;> (refine hK1 _ _ ?_; clear hK1 K1))))
  refine Qn.done (hK _ _ ?_ rfl)
  refine Dwp.condF (by simp [eval, upd]) (Dwp.skip ?_)
  show Dwp _ _ _ _ _ _ _ _
  refine Dwp.step tT rfl fun K hK => ?_
  simp [init, Q5, Tm.cells_len, QT, g41]
  refine hK _ _ ?_ rfl; clear hK K
  refine Dwp.step tT rfl fun K hK => ?_
  simp [init, Q5, Tm.cells_len, QT, g42]
  refine hK _ _ ?_ rfl; clear hK K
  refine Dwp.seq ?_
  refine Dwp.step tT rfl fun K hK => ?_
  repeat' ((first | refine Qn.stepD rfl rfl ?_ | refine Qn.stepG rfl rfl rfl ?_ | refine Qn.stepN rfl rfl ?_ | refine Qn.stepGN rfl rfl rfl ?_); intro K1 hK1; simp [*, QO, Qw, QJ, dop, eval, Qr, upd, Qa, Qu, Qv, Qx, TyI.agg, Qg, Qs, Qi, Qj, QA, QX, goInt, QV, intCmp, Qp, Tag.isNN, Qc, DV.cells, Qd, Qt, Qk, init, ty3, Qah, Qm]; (first | (refine hK1 _ _ ?_; clear hK1 K1) | (split <;> (rename_i hsp; (try simp only [beq_iff_eq, beq_eq_false_iff_ne, ne_eq, decide_eq_true_eq, decide_eq_false_iff_not] at hsp); (try (first | have hsq := Int.not_le.2 hsp | have hsq := Int.not_lt.2 hsp | have hsq := Int.not_le.1 hsp | have hsq := Int.not_lt.1 hsp)); (try subst hsp); (try simp only [hsp])) <;> (refine hK1 _ _ ?_; clear hK1 K1))))
  refine Qn.done (hK _ _ ?_ rfl)
  refine Dwp.condF (by simp [eval, upd]) (Dwp.skip ?_)
  show Dwp _ _ _ _ _ _ _ _
  refine Dwp.seq ?_
  refine Dwp.step tT rfl fun K hK => ?_
  simp [Qah]
  refine hK _ _ ?_ rfl; clear hK K
  clear g37 g38 g39 g40 g41 g42 gf
  refine Dwp.range tT l.length (fun i a τ => a 1 = .row t.cells 0 ∧ a 7 = .slice 1 .none (l.map fun x => [DV.lit (.string x)]) ∧ a 8 = .slice 1 .none (l.map fun x => [DV.lit (.string x)]))
    ⟨rfl, rfl, rfl⟩ ⟨rfl, rfl, rfl⟩ ⟨rfl, rfl, rfl⟩ (by decide) (by decide) (by omega) (by simp [upd]) (by simp [upd]) ⟨by simp [upd], by simp [upd], by simp [upd]⟩ ?_ ?_
  · rintro i a τ hi hidx hlen2 ⟨g1, g7, g8⟩
    refine Dwp.step tT rfl fun K hK => ?_
    simp [hidx]
    refine hK _ _ ?_ rfl; clear hK K
    refine Dwp.drawStep [] mixed tT rfl rfl fun K hK => ?_
    simp [QbI, touch, QaO, Qbt, g7, g8, Qah, ty9, hi]
    refine hK _ _ ?_ rfl; clear hK K
    refine Dwp.condF (by simp [eval, upd]) (Dwp.skip ?_)
    exact ⟨by simp [upd, hidx], by simp [upd, hlen2], by simp [upd, g1], by simp [upd, g7], by simp [upd, g8]⟩
  · rintro a τ hidx hlen2 ⟨g1, g7, g8⟩
    show Dwp _ _ _ _ _ _ _ _
    refine Dwp.step tT rfl fun K hK => ?_
    simp [g1, Q5, Tm.cells_len, QT, g43]
    refine hK _ _ ?_ rfl; clear hK K
    refine Dwp.step tT rfl fun K hK => ?_
    simp [g1, Q5, Tm.cells_len, QT, g44]
    refine hK _ _ ?_ rfl; clear hK K
    refine Dwp.step tT rfl fun K hK => ?_
    repeat' ((first | refine Qn.stepD rfl rfl ?_ | refine Qn.stepG rfl rfl rfl ?_ | refine Qn.stepN rfl rfl ?_ | refine Qn.stepGN rfl rfl rfl ?_); intro K1 hK1; simp [*, QO, Qw, QJ, dop, eval, Qr, upd, Qa, Qu, Qv, Qx, TyI.agg, Qg, Qs, Qi, Qj, QA, QX, goInt, QV, intCmp, Qp, Tag.isNN, Qc, DV.cells, Qd, Qt, Qk, ty9, Qm]; (first | (refine hK1 _ _ ?_; clear hK1 K1) | (split <;> (rename_i hsp; (try simp only [beq_iff_eq, beq_eq_false_iff_ne, ne_eq, decide_eq_true_eq, decide_eq_false_iff_not] at hsp); (try (first | have hsq := Int.not_le.2 hsp | have hsq := Int.not_lt.2 hsp | have hsq := Int.not_le.1 hsp | have hsq := Int.not_lt.1 hsp)); (try subst hsp); (try simp only [hsp])) <;> (refine hK1 _ _ ?_; clear hK1 K1))))
    refine Qn.done (hK _ _ (Dwp.ret ?_) rfl)
    exact QaE Tryz.func5 rfl _ (by simp [upd])
end
end Go.Proofs.Yt
