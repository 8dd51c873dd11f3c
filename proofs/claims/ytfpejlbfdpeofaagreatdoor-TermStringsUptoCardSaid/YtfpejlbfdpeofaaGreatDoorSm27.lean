/- Contracts of functions of the program, by a machine over abstract values; part 28. No condition beyond those of each theorem. -/
import Derived.Test.YtfpejlbfdpeofaaGreatDoorSm26
set_option linter.unusedVariables false
set_option linter.unusedSimpArgs false
namespace Go.Proofs.Yt
open Go Go.FA Go.Proofs Go.RowKit
set_option linter.unusedSimpArgs false
set_option maxRecDepth 100000
theorem call22 (T : Tab) (hT : T 22 = some s22x) : dcall T 22 [] = some (.lit (.bool true)) := by
  simp [dcall, hT, s22x]
end Go.Proofs.Yt


namespace Go.Proofs.Yt
open Go Go.FA Go.Proofs Go.RowKit
set_option linter.unusedSimpArgs false
set_option maxRecDepth 100000
abbrev QI.ex : QI (ByteArray × ByteArray) := (QI.one Enc.str).and (QI.one Enc.str)
abbrev Enc.ex : Enc (ByteArray × ByteArray) := Enc.agg QI.ex
def swN (a b s : ByteArray) : ByteArray := if s = a then b else if s = b then a else s
end Go.Proofs.Yt






namespace Go.Proofs.Yt
open Go Go.FA Go.Proofs Go.RowKit
set_option linter.unusedSimpArgs false
theorem QbY {k n : Int} {x s : ByteArray} {ks r : List Tm} (h : Qfe (.mk k n x s ks r) = true) : ks = [] ∧ r = [] := by
  simpa [Qfe] using h
end Go.Proofs.Yt
namespace Go.Proofs.Yt
open Go Go.FA Go.Proofs Go.RowKit
set_option linter.unusedSimpArgs false
set_option maxRecDepth 100000
def Qed (mp : Bool) (i : Nat) : ByteArray := if i = 0 then ⟨#[]⟩ else if mp = true ∧ i % 2 = 1 then ⟨#[32, 45, 62, 32]⟩ else ⟨#[44, 32]⟩
mutual
def wrT : Tm → ByteArray
  | .mk k n x s ks r =>
    if k = 1 then ⟨(Lib.itoa n).toArray⟩
    else if k = 2 then (if n = 1 then ⟨#[116, 114, 117, 101]⟩ else ⟨#[102, 97, 108, 115, 101]⟩)
    else if k = 3 then ⟨#[34]⟩ ++ x ++ ⟨#[34]⟩
    else if k = 4 then ⟨#[39]⟩ ++ x
    else if k = 5 then x ++ ⟨#[40]⟩ ++ Qbb false 0 ks ++ ⟨#[41]⟩
    else if k = 6 then wrV x s
    else if k = 7 then ⟨#[91]⟩ ++ Qbb false 0 ks ++ wrR (decide (0 < ks.length)) r ++ ⟨#[93]⟩
    else if k = 8 then ⟨#[123]⟩ ++ Qbb true 0 ks ++ wrR (decide (0 < ks.length)) r ++ ⟨#[125]⟩
    else ⟨#[]⟩
def Qbb (mp : Bool) (i : Nat) : List Tm → ByteArray
  | [] => ⟨#[]⟩
  | t :: l => Qed mp i ++ wrT t ++ Qbb mp (i + 1) l
end
theorem Qf8 (mp : Bool) : ∀ (l : List Tm) (i : Nat), Qbb mp i l = Qea (fun i t => Qed mp i ++ wrT t) i l
  | [], i => by simp [Qbb, Qea]
  | t :: l, i => by simp only [Qbb, Qea, Qf8 mp l (i + 1)]
theorem QeV (mp : Bool) (l : List Tm) (i : Nat) (hi : i < l.length) : Qbb mp 0 (l.take (i + 1)) = Qbb mp 0 (l.take i) ++ (Qed mp i ++ wrT l[i]) := by
  simp only [Qf8]; exact QgF _ l i hi
theorem QiL (mp : Bool) (l : List Tm) (i : Nat) : (Qbb mp 0 (l.take i)).size ≤ (Qbb mp 0 l).size := by
  simp only [Qf8]; exact QiE _ l i
def fitN (n : Nat) (t : Tm) : Prop := tsz t ≤ n ∧ tsz t ≤ tlim ∧ Qd5 t = true ∧ okT t
def H97 (n : Nat) : Prop := ∀ (t : Tm) (id : Nat) (s : ByteArray) (σ : St), fitN n t → Wr id s σ → s.size + (wrT t).size ≤ 16777216 →
  HC Tryz.prog 97 [.ptr id 0, .agg t.cells] σ (fun _ σ' => Wr id (s ++ wrT t) σ' ∧ Fr id σ σ')
set_option maxHeartbeats 4000000 in
theorem h165 (n : Nat) (ih : H97 n) (id : Nat) (s : ByteArray) (ks : List Tm) (σ : St) (hw : Wr id s σ) (hf : ∀ t ∈ ks, fitN n t) (hlen : ks.length ≤ 1048576) (hl : s.size + (Qbb false 0 ks).size ≤ 16777216) :
    HC Tryz.prog 165 [.ptr id 0, .slice 6 .none (ks.map Tm.cells)] σ (fun _ σ' => Wr id (s ++ Qbb false 0 ks) σ' ∧ Fr id σ σ') := by
  have tT := Q7 (P := Tryz.prog)
  refine HC.of_body (T := QF []) Tryz.func165 rfl (by decide) (Nat.le_of_ble_eq_true rfl) fun E => ?_
  generalize QF [] = T at *
  have hid := hw.1
  refine Dwp.step tT rfl fun K hK => ?_
  simp [QB, QE, Ql, QK, own, Qm, dop, QJ, eval, Qy, QG, Ex.then, Ex.inBlock, upd, QL, Tag.isNN, Qn, intCmp, Qz, QA, TyI.agg, Qb, Qs, Qd, Qr, QM, QC, Qp, mapOf, Qx, Qo, Qe, Qk, Qg, Qu, DV.cells, Qt, Qh, Qq, Qv, rowsOf, Qw, Qf, Qa, Qa.go, Qi, Qj, Qc, goInt, init, QaL]
  refine hK _ _ ?_ rfl; clear hK K
  refine Dwp.range tT ks.length (fun i a τ => a 0 = .ptr id 0 ∧ a 6 = .slice 6 .none (ks.map Tm.cells) ∧ Wr id (s ++ Qbb false 0 (ks.take i)) τ ∧ Fr id σ τ)
    ⟨rfl, rfl, rfl⟩ ⟨rfl, rfl, rfl⟩ ⟨rfl, rfl, rfl⟩ (by decide) (by decide) (by omega) (by simp [upd]) (by simp [upd]) ⟨by simp [upd, init], by simp [upd], ?_, ?_⟩ ?_ ?_
  · have h0 : s ++ Qbb false 0 (ks.take 0) = s := by simp only [List.take_zero, Qbb]; exact ByteArray.append_empty
    rw [h0]; exact hw.n _ (by first | omega | (simp only []; omega))
  · exact .n _ (by first | omega | (simp only []; omega)) (.refl _ _)
  · rintro i a τ hi hidx hlen2 ⟨g0, g6, gw, gf⟩
    have hnx := QeV false ks i hi
    have hle : s.size + (Qbb false 0 (ks.take (i + 1))).size ≤ 16777216 := Nat.le_trans (Nat.add_le_add_left (QiL false ks (i + 1)) _) hl
    have hmem : ks[i] ∈ ks := List.getElem_mem _
    refine Dwp.step tT rfl fun K hK => ?_
    simp [QB, QE, Ql, QK, own, Qm, dop, QJ, eval, Qy, QG, Ex.then, Ex.inBlock, upd, QL, Tag.isNN, Qn, intCmp, Qz, QA, TyI.agg, Qb, Qs, Qd, Qr, QM, QC, Qp, mapOf, Qx, Qo, Qe, Qk, Qg, Qu, DV.cells, Qt, Qh, Qq, Qv, rowsOf, Qw, Qf, Qa, Qa.go, Qi, Qj, Qc, goInt, g6, hidx, QaL, Qar, hi, Tm.cells_len, Qah, set6]
    refine hK _ _ ?_ rfl; clear hK K
    refine Dwp.seq ?_
    refine Dwp.step tT rfl fun K hK => ?_
    simp [QB, QE, Ql, QK, own, Qm, dop, QJ, eval, Qy, QG, Ex.then, Ex.inBlock, upd, QL, Tag.isNN, Qn, intCmp, Qz, QA, TyI.agg, Qb, Qs, Qd, Qr, QM, QC, Qp, mapOf, Qx, Qo, Qe, Qk, Qg, Qu, DV.cells, Qt, Qh, Qq, Qv, rowsOf, Qw, Qf, Qa, Qa.go, Qi, Qj, Qc, goInt]
    refine hK _ _ ?_ rfl
    have hid2 := gw.1
    have gw1 : Wr id (s ++ Qbb false 0 (ks.take i)) { n := τ.n + 1 + 6 + 2, objs := upd (upd τ.objs (τ.n + 1 + 3) (some (.cells 30 [.lit (.int .i64 0), .lit (.int .i64 0), .lit (.string ⟨#[]⟩), .lit (.string ⟨#[]⟩), .lit (.slice none 0 0), .lit (.slice none 0 0)]))) (τ.n + 1 + 3) (some (.cells 30 ks[i].cells)), toks := τ.toks } := gw.upd (by simp only []; omega) fun j hj => by
      have : j ≠ τ.n + 1 + 3 := by omega
      simp [upd, this]
    have gf1 : Fr id σ { n := τ.n + 1 + 6 + 2, objs := upd (upd τ.objs (τ.n + 1 + 3) (some (.cells 30 [.lit (.int .i64 0), .lit (.int .i64 0), .lit (.string ⟨#[]⟩), .lit (.string ⟨#[]⟩), .lit (.slice none 0 0), .lit (.slice none 0 0)]))) (τ.n + 1 + 3) (some (.cells 30 ks[i].cells)), toks := τ.toks } := gf.upd (by simp only []; omega) fun j hj => by
      have : j ≠ τ.n + 1 + 3 := by omega
      simp [upd, this]
    have hm : τ.n + 1 + 3 < τ.n + 1 + 6 + 2 := by omega
    have hmi : τ.n + 1 + 3 ≠ id := by omega
    have hv2 : (⟨#[44, 32]⟩ : ByteArray).size ≠ 0 := by decide
    have hle2 : (s ++ Qbb false 0 (ks.take i)).size + ((Qed false i).size + (wrT ks[i]).size) ≤ 16777216 := by
      rw [hnx] at hle; simp only [ByteArray.size_append] at hle ⊢; omega
    have hob : ∀ z, (upd (upd τ.objs (τ.n + 1 + 3) z) (τ.n + 1 + 3) (some (.cells 30 ks[i].cells))) (τ.n + 1 + 3) = some (.cells 30 ks[i].cells) := fun z => by simp [upd]
    generalize hmm : τ.n + 1 + 3 = m at *
    refine Dwp.mono (Q := fun e a' τ' => e = .normal ∧ a' 0 = .ptr id 0 ∧ a' 6 = .slice 6 .none (ks.map Tm.cells) ∧
      a' 7 = .lit (.int .i64 ks.length) ∧ a' 8 = .lit (.int .i64 i) ∧ a' 5 = .ptr m 0 ∧ τ'.objs m = some (.cells 30 ks[i].cells) ∧ Wr id (s ++ Qbb false 0 (ks.take i) ++ Qed false i) τ' ∧ Fr id σ τ') ?_ ?_
    · by_cases h0 : i = 0
      · have hd : decide (0 < i) = false := decide_eq_false (by omega)
        refine Dwp.condF (by simp [eval, upd, hd]) (Dwp.skip ?_)
        refine ⟨rfl, by simp [upd, g0], by simp [upd, g6], by simp [upd, hlen2], by simp [upd, hidx], by simp [upd], hob _, ?_, gf1⟩
        have : Qed false i = ⟨#[]⟩ := by simp [Qed, h0]
        rw [this, show ∀ y : ByteArray, y ++ (⟨#[]⟩ : ByteArray) = y from fun y => ByteArray.append_empty]
        exact gw1
      · have hd : decide (0 < i) = true := decide_eq_true (by omega)
        have hsep : Qed false i = ⟨#[44, 32]⟩ := by simp [Qed, h0]
        rw [hsep] at hle2 ⊢
        refine Dwp.condT (by simp [eval, upd, hd]) ?_
        refine Dwp.regH fun K hK => ?_
        show Rg _ _ _ _ K ([0, 1, 2] ++ (3 :: [])) _ _
        refine Rg.run tT rfl _ _ _ ?_
        simp [Qac, Qa5, Qay, QB, QE, Ql, QK, own, Qm, dop, QJ, eval, Qy, QG, Ex.then, Ex.inBlock, upd, QL, Tag.isNN, Qn, intCmp, Qz, QA, TyI.agg, Qb, Qs, Qd, Qr, QM, QC, Qp, mapOf, Qx, Qo, Qe, Qk, Qg, Qu, DV.cells, Qt, Qh, Qq, Qv, rowsOf, Qw, Qf, Qa, Qa.go, Qi, Qj, Qc, goInt, Q9, g0, Qbu, Qa9]
        refine Rg.call (xs := [.ptr id 0, .lit (.string ⟨#[44, 32]⟩)]) rfl rfl rfl rfl (by rfl) (Qgj id _ ⟨#[44, 32]⟩ _ (gw1.n _ (by first | omega | (simp only []; omega))) hv2 (by omega)) ?_
        rintro d σ1 ⟨gw2, gf2⟩
        refine Rg.nil (hK _ _ ?_)
        have gf3 := gf2.2 m (by simp only []; omega) hmi (by intro t bs; simp only [hob]; simp)
        simp only [hob] at gf3
        exact ⟨rfl, by simp [QJ, upd, g0], by simp [QJ, upd, g6], by simp [QJ, upd, hlen2], by simp [QJ, upd, hidx], by simp [QJ, upd], gf3, gw2, gf1.trans (gf2.n _ (by first | omega | (simp only []; omega)))⟩
    · rintro e a' τ' ⟨rfl, h0, h6, h7, h8, h5, hq, h10, h11⟩
      show Dwp _ _ _ _ _ _ _ _
      refine Dwp.regH fun K hK => ?_
      show Rg _ _ _ _ K ([0, 1] ++ (2 :: [])) _ _
      refine Rg.run tT rfl _ _ _ ?_
      simp [Qac, Qa5, Qay, QB, QE, Ql, QK, own, Qm, dop, QJ, eval, Qy, QG, Ex.then, Ex.inBlock, upd, QL, Tag.isNN, Qn, intCmp, Qz, QA, TyI.agg, Qb, Qs, Qd, Qr, QM, QC, Qp, mapOf, Qx, Qo, Qe, Qk, Qg, Qu, DV.cells, Qt, Qh, Qq, Qv, rowsOf, Qw, Qf, Qa, Qa.go, Qi, Qj, Qc, goInt, Q9, h0, h5, hq, Qar, Tm.cells_len, Qah]
      refine Rg.call (xs := [.ptr id 0, .agg ks[i].cells]) rfl rfl rfl rfl (by rfl) (ih ks[i] id _ _ (hf _ hmem) (h10.n _ (by first | omega | (simp only []; omega))) (by rw [ByteArray.size_append]; omega)) ?_
      rintro d σ1 ⟨gw2, gf2⟩
      have hfin : s ++ Qbb false 0 (ks.take i) ++ Qed false i ++ wrT ks[i] = s ++ Qbb false 0 (ks.take (i + 1)) := by
        rw [hnx]; simp only [ByteArray.append_assoc]
      exact Rg.nil (hK _ _ ⟨by simp [QJ, upd, h8], by simp [QJ, upd, h7], by simp [QJ, upd, h0], by simp [QJ, upd, h6], by rw [← hfin]; exact gw2.n _ (Nat.le_add_right _ _), (h11.trans (gf2.n _ (by first | omega | (simp only []; omega)))).m (Nat.le_add_right _ _)⟩)
  · rintro a τ hidx hlen2 ⟨g0, g6, gw, gf⟩
    rw [List.take_length] at gw
    exact ⟨.inl rfl, .tuple [], by show QH Tryz.prog _ _ [] = _; simp [QH, QX], gw.n _ (by first | omega | (simp only []; omega)), gf.trans (.n _ (by first | omega | (simp only []; omega)) (.refl _ _))⟩
set_option maxHeartbeats 4000000 in
theorem h168 (n : Nat) (ih : H97 n) (id : Nat) (s : ByteArray) (ks : List Tm) (σ : St) (hw : Wr id s σ) (hf : ∀ t ∈ ks, fitN n t) (hev : ks.length % 2 = 0) (hlen : ks.length ≤ 1048576) (hl : s.size + (Qbb true 0 ks).size ≤ 16777216) :
    HC Tryz.prog 168 [.ptr id 0, .slice 6 .none (ks.map Tm.cells)] σ (fun _ σ' => Wr id (s ++ Qbb true 0 ks) σ' ∧ Fr id σ σ') := by
  have tT := Q7 (P := Tryz.prog)
  refine HC.of_body (T := QF []) Tryz.func168 rfl (by decide) (Nat.le_of_ble_eq_true rfl) fun E => ?_
  generalize QF [] = T at *
  have hid := hw.1
  refine Dwp.step tT rfl fun K hK => ?_
  simp [QB, QE, Ql, QK, own, Qm, dop, QJ, eval, Qy, QG, Ex.then, Ex.inBlock, upd, QL, Tag.isNN, Qn, intCmp, Qz, QA, TyI.agg, Qb, Qs, Qd, Qr, QM, QC, Qp, mapOf, Qx, Qo, Qe, Qk, Qg, Qu, DV.cells, Qt, Qh, Qq, Qv, rowsOf, Qw, Qf, Qa, Qa.go, Qi, Qj, Qc, goInt, init]
  refine hK _ _ ?_ rfl; clear hK K
  refine Dwp.block (Dwp.loop (fun q a τ => ∃ i : Nat, i ≤ ks.length ∧ i % 2 = 0 ∧ q = ks.length - i ∧ a 0 = .ptr id 0 ∧ a 1 = .slice 6 .none (ks.map Tm.cells) ∧ a 4 = .lit (.int .i64 i) ∧ Wr id (s ++ Qbb true 0 (ks.take i)) τ ∧ Fr id σ τ) ks.length
    ⟨0, Nat.zero_le _, rfl, rfl, by simp [upd, init], by simp [upd, init], by simp [upd], ?_, ?_⟩ ?_)
  · have h0 : s ++ Qbb true 0 (ks.take 0) = s := by simp only [List.take_zero, Qbb]; exact ByteArray.append_empty
    rw [h0]; exact hw.n _ (by first | omega | (simp only []; omega))
  · exact .n _ (by first | omega | (simp only []; omega)) (.refl _ _)
  rintro q a τ ⟨i, hi, hi2, rfl, g0, g1, g4, gw, gf⟩
  have hid2 := gw.1
  by_cases hlt : i < ks.length
  · have hi1 : i + 1 < ks.length := by omega
    have hnx := QeV true ks i hlt
    have hnx2 := QeV true ks (i + 1) hi1
    have hle : s.size + (Qbb true 0 (ks.take (i + 2))).size ≤ 16777216 := Nat.le_trans (Nat.add_le_add_left (QiL true ks (i + 2)) _) hl
    have hmem : ks[i] ∈ ks := List.getElem_mem _
    have hmem1 : ks[i + 1] ∈ ks := List.getElem_mem _
    refine Dwp.seq ?_
    refine Dwp.step tT rfl fun K hK => ?_
    simp [QB, QE, Ql, QK, own, Qm, dop, QJ, eval, Qy, QG, Ex.then, Ex.inBlock, upd, QL, Tag.isNN, Qn, intCmp, Qz, QA, TyI.agg, Qb, Qs, Qd, Qr, QM, QC, Qp, mapOf, Qx, Qo, Qe, Qk, Qg, Qu, DV.cells, Qt, Qh, Qq, Qv, rowsOf, Qw, Qf, Qa, Qa.go, Qi, Qj, Qc, goInt, g1, g4, QaL, hlt]
    refine hK _ _ ?_ rfl; clear hK K
    refine Dwp.condT (by simp [eval, upd]) (Dwp.skip ?_)
    show Dwp _ _ _ _ _ _ _ _
    refine Dwp.seq (Dwp.block ?_)
    refine Dwp.seq ?_
    refine Dwp.step tT rfl fun K hK => ?_
    simp [QB, QE, Ql, QK, own, Qm, dop, QJ, eval, Qy, QG, Ex.then, Ex.inBlock, upd, QL, Tag.isNN, Qn, intCmp, Qz, QA, TyI.agg, Qb, Qs, Qd, Qr, QM, QC, Qp, mapOf, Qx, Qo, Qe, Qk, Qg, Qu, DV.cells, Qt, Qh, Qq, Qv, rowsOf, Qw, Qf, Qa, Qa.go, Qi, Qj, Qc, goInt, g4]
    refine hK _ _ ?_ rfl
    clear hK K
    have hs1 : Qed true (i + 1) = ⟨#[32, 45, 62, 32]⟩ := by simp [Qed, show (i + 1) % 2 = 1 by omega]
    have hle2 : (s ++ Qbb true 0 (ks.take i)).size + ((Qed true i).size + (wrT ks[i]).size + 4 + (wrT ks[i + 1]).size) ≤ 16777216 := by
      rw [hnx2, hnx, hs1] at hle
      have : (⟨#[32, 45, 62, 32]⟩ : ByteArray).size = 4 := rfl
      simp only [ByteArray.size_append, this] at hle ⊢; omega
    refine Dwp.mono (Q := fun e a' τ' => e = .normal ∧ a' 0 = .ptr id 0 ∧ a' 1 = .slice 6 .none (ks.map Tm.cells) ∧ a' 4 = .lit (.int .i64 i) ∧ Wr id (s ++ Qbb true 0 (ks.take i) ++ Qed true i) τ' ∧ Fr id σ τ') ?_ ?_
    · by_cases h0 : i = 0
      · have hd : decide (0 < i) = false := decide_eq_false (by omega)
        refine Dwp.condF (by simp [eval, upd, hd]) (Dwp.skip ?_)
        refine ⟨rfl, by simp [upd, g0], by simp [upd, g1], by simp [upd, g4], ?_, gf.m (by first | omega | (simp only []; omega))⟩
        have : Qed true i = ⟨#[]⟩ := by simp [Qed, h0]
        rw [this, show ∀ y : ByteArray, y ++ (⟨#[]⟩ : ByteArray) = y from fun y => ByteArray.append_empty]
        exact gw.n _ (by first | omega | (simp only []; omega))
      · have hd : decide (0 < i) = true := decide_eq_true (by omega)
        have hsep : Qed true i = ⟨#[44, 32]⟩ := by simp [Qed, h0, hi2]
        have hv2 : (⟨#[44, 32]⟩ : ByteArray).size ≠ 0 := by decide
        rw [hsep] at hle2 ⊢
        refine Dwp.condT (by simp [eval, upd, hd]) ?_
        refine Dwp.regH fun K hK => ?_
        show Rg _ _ _ _ K ([0, 1, 2] ++ (3 :: [])) _ _
        refine Rg.run tT rfl _ _ _ ?_
        simp [Qac, Qa5, Qay, QB, QE, Ql, QK, own, Qm, dop, QJ, eval, Qy, QG, Ex.then, Ex.inBlock, upd, QL, Tag.isNN, Qn, intCmp, Qz, QA, TyI.agg, Qb, Qs, Qd, Qr, QM, QC, Qp, mapOf, Qx, Qo, Qe, Qk, Qg, Qu, DV.cells, Qt, Qh, Qq, Qv, rowsOf, Qw, Qf, Qa, Qa.go, Qi, Qj, Qc, goInt, Q9, g0, Qbu, Qa9]
        refine Rg.call (xs := [.ptr id 0, .lit (.string ⟨#[44, 32]⟩)]) rfl rfl rfl rfl (by rfl) (Qgj id _ ⟨#[44, 32]⟩ _ (gw.n _ (by first | omega | (simp only []; omega))) hv2 (by omega)) ?_
        rintro d σ1 ⟨gw2, gf2⟩
        exact Rg.nil (hK _ _ ⟨rfl, by simp [QJ, upd, g0], by simp [QJ, upd, g1], by simp [QJ, upd, g4], gw2, gf.trans (gf2.n _ (by first | omega | (simp only []; omega)))⟩)
    · rintro e a' τ' ⟨rfl, h0, h1, h4, h10, h11⟩
      show Dwp _ _ _ _ _ _ _ _
      refine Dwp.stepH fun K hK => ?_
      show Rg _ _ _ _ K ([0, 1, 2, 3, 4] ++ (5 :: [])) _ _
      refine Rg.run tT rfl _ _ _ ?_
      simp [Qac, Qa5, Qay, QB, QE, Ql, QK, own, Qm, dop, QJ, eval, Qy, QG, Ex.then, Ex.inBlock, upd, QL, Tag.isNN, Qn, intCmp, Qz, QA, TyI.agg, Qb, Qs, Qd, Qr, QM, QC, Qp, mapOf, Qx, Qo, Qe, Qk, Qg, Qu, DV.cells, Qt, Qh, Qq, Qv, rowsOf, Qw, Qf, Qa, Qa.go, Qi, Qj, Qc, goInt, Q9, h0, h1, h4, QaL, Qar, hlt, Tm.cells_len, Qah]
      refine Rg.call (xs := [.ptr id 0, .agg ks[i].cells]) rfl rfl rfl rfl (by rfl) (ih ks[i] id _ _ (hf _ hmem) (h10.n _ (by first | omega | (simp only []; omega))) (by rw [ByteArray.size_append]; omega)) ?_
      rintro d σ1 ⟨gw2, gf2⟩
      have gf3 := h11.trans (gf2.n _ (by first | omega | (simp only []; omega)))
      refine Rg.nil (hK _ _ ?_)
      clear hK K
      have hv4 : (⟨#[32, 45, 62, 32]⟩ : ByteArray).size ≠ 0 := by decide
      have e4 : (⟨#[32, 45, 62, 32]⟩ : ByteArray).size = 4 := rfl
      refine Dwp.stepH fun K hK => ?_
      show Rg _ _ _ _ K ([0, 1, 2] ++ (3 :: [])) _ _
      refine Rg.run tT rfl _ _ _ ?_
      simp [Qac, Qa5, Qay, QB, QE, Ql, QK, own, Qm, dop, QJ, eval, Qy, QG, Ex.then, Ex.inBlock, upd, QL, Tag.isNN, Qn, intCmp, Qz, QA, TyI.agg, Qb, Qs, Qd, Qr, QM, QC, Qp, mapOf, Qx, Qo, Qe, Qk, Qg, Qu, DV.cells, Qt, Qh, Qq, Qv, rowsOf, Qw, Qf, Qa, Qa.go, Qi, Qj, Qc, goInt, Q9, h0, Qbu, Qa9]
      refine Rg.call (xs := [.ptr id 0, .lit (.string ⟨#[32, 45, 62, 32]⟩)]) rfl rfl rfl rfl (by rfl) (Qgj id _ ⟨#[32, 45, 62, 32]⟩ _ (gw2.n _ (by first | omega | (simp only []; omega))) hv4 (by simp only [ByteArray.size_append, e4] at hle2 ⊢; omega)) ?_
      rintro d σ2 ⟨gw4, gf4⟩
      have gf5 := gf3.trans (gf4.n _ (by first | omega | (simp only []; omega)))
      refine Rg.nil (hK _ _ ?_)
      clear hK K
      have wi : IntKind.i64.wrap ((i : Int) + 1) = ((i + 1 : Nat) : Int) := Qh9 i (by omega)
      refine Dwp.regH fun K hK => ?_
      show Rg _ _ _ _ K ([0, 1, 2, 3, 4, 5] ++ (6 :: [])) _ _
      refine Rg.run tT rfl _ _ _ ?_
      simp [Qac, Qa5, Qay, QB, QE, Ql, QK, own, Qm, dop, QJ, eval, Qy, QG, Ex.then, Ex.inBlock, upd, QL, Tag.isNN, Qn, intCmp, Qz, QA, TyI.agg, Qb, Qs, Qd, Qr, QM, QC, Qp, mapOf, Qx, Qo, Qe, Qk, Qg, Qu, DV.cells, Qt, Qh, Qq, Qv, rowsOf, Qw, Qf, Qa, Qa.go, Qi, Qj, Qc, goInt, Q9, h0, h1, h4, QaL, Qar, ty3, hi1, wi, show (0 : Int) ≤ (i : Int) + 1 by omega, Tm.cells_len, Qah]
      refine Rg.call (xs := [.ptr id 0, .agg ks[i + 1].cells]) rfl rfl rfl rfl (by rfl) (ih ks[i + 1] id _ _ (hf _ hmem1) (gw4.n _ (by first | omega | (simp only []; omega))) (by simp only [ByteArray.size_append, e4] at hle2 ⊢; omega)) ?_
      rintro d σ3 ⟨gw6, gf6⟩
      have gf7 := gf5.trans (gf6.n _ (by first | omega | (simp only []; omega)))
      refine Rg.nil (hK _ _ ?_)
      clear hK K
      show Dwp _ _ _ _ _ _ _ _
      have hfin : s ++ Qbb true 0 (ks.take i) ++ Qed true i ++ wrT ks[i] ++ ⟨#[32, 45, 62, 32]⟩ ++ wrT ks[i + 1] = s ++ Qbb true 0 (ks.take (i + 2)) := by
        rw [hnx2, hnx, hs1]; simp only [ByteArray.append_assoc]
      rw [hfin] at gw6
      have wi2 : IntKind.i64.wrap ((i : Int) + 2) = ((i + 2 : Nat) : Int) := by rw [QfU (by omega) (by omega)]; omega
      refine Dwp.reg tT rfl fun K hK => ?_
      simp [QB, QE, Ql, QK, own, Qm, dop, QJ, eval, Qy, QG, Ex.then, Ex.inBlock, upd, QL, Tag.isNN, Qn, intCmp, Qz, QA, TyI.agg, Qb, Qs, Qd, Qr, QM, QC, Qp, mapOf, Qx, Qo, Qe, Qk, Qg, Qu, DV.cells, Qt, Qh, Qq, Qv, rowsOf, Qw, Qf, Qa, Qa.go, Qi, Qj, Qc, goInt, QJ, h0, h1, h4, ty3, wi2]
      refine hK _ _ ?_ rfl
      exact ⟨ks.length - (i + 2), by omega, i + 2, by omega, by omega, rfl, by simp [upd, h0], by simp [upd, h1], by simp [upd], gw6.n _ (by first | omega | (simp only []; omega)), gf7.m (by first | omega | (simp only []; omega))⟩
  · have hie : i = ks.length := by omega
    refine Dwp.seq ?_
    refine Dwp.step tT rfl fun K hK => ?_
    simp [QB, QE, Ql, QK, own, Qm, dop, QJ, eval, Qy, QG, Ex.then, Ex.inBlock, upd, QL, Tag.isNN, Qn, intCmp, Qz, QA, TyI.agg, Qb, Qs, Qd, Qr, QM, QC, Qp, mapOf, Qx, Qo, Qe, Qk, Qg, Qu, DV.cells, Qt, Qh, Qq, Qv, rowsOf, Qw, Qf, Qa, Qa.go, Qi, Qj, Qc, goInt, g1, g4, QaL, hlt]
    refine hK _ _ ?_ rfl; clear hK K
    refine Dwp.condF (by simp [eval, upd]) (Dwp.exit ?_)
    rw [hie, List.take_length] at gw
    exact ⟨.inl rfl, .tuple [], by show QH Tryz.prog _ _ [] = _; simp [QH, QX], gw.n _ (by first | omega | (simp only []; omega)), gf.m (by first | omega | (simp only []; omega))⟩
theorem Qjt {f : FuncId} {fn : Func} {t : Nat} (hf : Tryz.prog.funcs[f]? = some fn) (hr : fn.results.toList = [.tmp t]) (x : ByteArray) {a : Nat → DV} {σ : St} (h : a t = .lit (.string x)) : Q4 Tryz.prog fn.results Enc.str x Ex.ret a σ := by
  refine ⟨.inr rfl, .lit (.string x), ?_, by simp [Q4, QH, QX, frz, Q0, QY, Enc.str]⟩
  rw [hr]; simp [QH, QX, h]
def boolT (b : Bool) : ByteArray := if b = true then ⟨#[116, 114, 117, 101]⟩ else ⟨#[102, 97, 108, 115, 101]⟩
def s264 : Sp := sp (QS Enc.bool) Enc.str (fun b => some (boolT b))
def s164 : Sp := sp (QS Enc.bool) Enc.str (fun b => some (boolT b))
theorem c264 : QD Tryz.prog 264 s264 := by
  refine QD.of_sp (T := QF []) Tryz.func264 rfl (Nat.le_of_ble_eq_true rfl) fun E b y hy => ?_
  cases hy
  have tT := Q7 (P := Tryz.prog)
  refine Dwp.step tT rfl fun K hK => ?_
  simp [QB, QE, Ql, QK, own, Qm, dop, QJ, eval, Qy, QG, Ex.then, Ex.inBlock, upd, QL, Tag.isNN, Qn, intCmp, Qz, QA, TyI.agg, Qb, Qs, Qd, Qr, QM, QC, Qp, mapOf, Qx, Qo, Qe, Qk, Qg, Qu, DV.cells, Qt, Qh, Qq, Qv, rowsOf, Qw, Qf, Qa, Qa.go, Qi, Qj, Qc, goInt, init, QS, QI.one, Enc.bool]
  refine hK _ _ ?_ rfl; clear hK K
  refine Dwp.seq ?_
  refine Dwp.step tT rfl fun K hK => ?_
  simp [QB, QE, Ql, QK, own, Qm, dop, QJ, eval, Qy, QG, Ex.then, Ex.inBlock, upd, QL, Tag.isNN, Qn, intCmp, Qz, QA, TyI.agg, Qb, Qs, Qd, Qr, QM, QC, Qp, mapOf, Qx, Qo, Qe, Qk, Qg, Qu, DV.cells, Qt, Qh, Qq, Qv, rowsOf, Qw, Qf, Qa, Qa.go, Qi, Qj, Qc, goInt, init]
  refine hK _ _ ?_ rfl; clear hK K
  cases b
  · refine Dwp.condF (by simp [eval, upd]) (Dwp.skip ?_)
    show Dwp _ _ _ _ _ _ _ _
    refine Dwp.step tT rfl fun K hK => ?_
    simp [QB, QE, Ql, QK, own, Qm, dop, QJ, eval, Qy, QG, Ex.then, Ex.inBlock, upd, QL, Tag.isNN, Qn, intCmp, Qz, QA, TyI.agg, Qb, Qs, Qd, Qr, QM, QC, Qp, mapOf, Qx, Qo, Qe, Qk, Qg, Qu, DV.cells, Qt, Qh, Qq, Qv, rowsOf, Qw, Qf, Qa, Qa.go, Qi, Qj, Qc, goInt]
    refine hK _ _ (Dwp.ret ?_) rfl
    exact Qjt Tryz.func264 rfl _ (by simp [upd, boolT])
  · refine Dwp.condT (by simp [eval, upd]) ?_
    refine Dwp.step tT rfl fun K hK => ?_
    simp [QB, QE, Ql, QK, own, Qm, dop, QJ, eval, Qy, QG, Ex.then, Ex.inBlock, upd, QL, Tag.isNN, Qn, intCmp, Qz, QA, TyI.agg, Qb, Qs, Qd, Qr, QM, QC, Qp, mapOf, Qx, Qo, Qe, Qk, Qg, Qu, DV.cells, Qt, Qh, Qq, Qv, rowsOf, Qw, Qf, Qa, Qa.go, Qi, Qj, Qc, goInt]
    refine hK _ _ (Dwp.ret ?_) rfl
    exact Qjt Tryz.func264 rfl _ (by simp [upd, boolT])
theorem e264 : Go.FA.Good Tryz.prog (264, s264) := ⟨c264, Tryz.f264, _, Tryz.func264, rfl, by decide⟩
theorem c164 : QD Tryz.prog 164 s164 := by
  refine QD.of_sp (T := QF [(264, s264)]) Tryz.func164 rfl (Nat.le_of_ble_eq_true rfl) fun E b y hy => ?_
  cases hy
  have tT : QP Tryz.prog (QF [(264, s264)]) := .cons e264 .nil
  have g : dcall (QF [(264, s264)]) 264 [.lit (.bool b)] = some (.lit (.string (boolT b))) := QaN (A := Enc.bool) (B := Enc.str) rfl rfl
  generalize QF [(264, s264)] = T at *
  refine Dwp.step tT rfl fun K hK => ?_
  simp [QB, QE, Ql, QK, own, Qm, dop, QJ, eval, Qy, QG, Ex.then, Ex.inBlock, upd, QL, Tag.isNN, Qn, intCmp, Qz, QA, TyI.agg, Qb, Qs, Qd, Qr, QM, QC, Qp, mapOf, Qx, Qo, Qe, Qk, Qg, Qu, DV.cells, Qt, Qh, Qq, Qv, rowsOf, Qw, Qf, Qa, Qa.go, Qi, Qj, Qc, goInt, init, QS, QI.one, Enc.bool]
  refine hK _ _ ?_ rfl; clear hK K
  refine Dwp.step tT rfl fun K hK => ?_
  simp [QB, QE, Ql, QK, own, Qm, dop, QJ, eval, Qy, QG, Ex.then, Ex.inBlock, upd, QL, Tag.isNN, Qn, intCmp, Qz, QA, TyI.agg, Qb, Qs, Qd, Qr, QM, QC, Qp, mapOf, Qx, Qo, Qe, Qk, Qg, Qu, DV.cells, Qt, Qh, Qq, Qv, rowsOf, Qw, Qf, Qa, Qa.go, Qi, Qj, Qc, goInt, init, g]
  refine hK _ _ (Dwp.ret ?_) rfl
  exact Qjt Tryz.func164 rfl _ (by simp [upd])
theorem e164 : Go.FA.Good Tryz.prog (164, s164) := ⟨c164, Tryz.f164, _, Tryz.func164, rfl, by decide⟩
theorem e163 : Go.FA.Good Tryz.prog (163, s163) := ⟨c163, Tryz.f163, _, Tryz.func163, rfl, by decide⟩
theorem call163 (T : Tab) (hT : T 163 = some s163) (n : Int) (h1 : -9223372036854775808 ≤ n) (h2 : n ≤ 9223372036854775807) : dcall T 163 [.lit (.int .i64 n)] = some (.lit (.string ⟨(Lib.itoa n).toArray⟩)) := by
  simp [dcall, hT, s163, h1, h2]
theorem call164 (T : Tab) (hT : T 164 = some s164) (b : Bool) : dcall T 164 [.lit (.bool b)] = some (.lit (.string (boolT b))) := QaN (A := Enc.bool) (B := Enc.str) hT rfl
theorem Qgo : ∀ (l : List Tm) (t : Tm), Qa1 l = true → t ∈ l → Qd5 t = true
  | x :: l, t, h, hm => by
    simp only [Qa1, Bool.and_eq_true] at h
    rcases List.mem_cons.1 hm with rfl | hm
    · exact h.1
    · exact Qgo l t h.2 hm
theorem Qje (n : Int) : Lib.itoa n ≠ [] := by
  unfold Lib.itoa
  split
  · simp
  · intro h
    have h1 := congrArg List.length h
    rw [Lib.decDigits_length] at h1
    have := Lib.nDigits_pos n.toNat
    simp at h1
    omega
end Go.Proofs.Yt
