/- Contracts of functions of the program, by a machine over abstract values; part 31. No condition beyond those of each theorem. -/
import Derived.Test.YtfpejlbfdpeofaaGreatDoorSm29
set_option linter.unusedVariables false
set_option linter.unusedSimpArgs false
namespace Go.Proofs.Yt
open Go Go.FA Go.Proofs Go.RowKit
set_option maxRecDepth 100000
section
attribute [local simp] QF QZ Qo QJ own Qm dop QN eval Qr Qn Ex.then Ex.inBlock upd QV Tag.isNN Qp intCmp Qv Qx TyI.agg Qa Qu Qg Qs QX QA QD mapOf QQ QC Qq Qi Qj QI DV.cells Qt Qk QE QK rowsOf QL Qd Qe Qe.go Qz QB Qc goInt
theorem name_ne {x : ByteArray} (h : QU x = true) : x.size ≠ 0 := by
  intro h0
  have : x = ⟨#[]⟩ := by
    apply ByteArray.ext
    exact Array.eq_empty_of_size_eq_zero h0
  subst this
  exact absurd h (by decide)
theorem Qla {x so : ByteArray} (h : Qkv x so = true) : x.size ≠ 0 := by
  unfold Qkv at h
  split at h
  · next hu =>
    intro h0
    have : x = ⟨#[]⟩ := by
      apply ByteArray.ext
      exact Array.eq_empty_of_size_eq_zero h0
    subst this
    exact absurd hu (by decide)
  · simp only [Bool.and_eq_true] at h
    exact name_ne h.1
theorem QjK (c : UInt8) (x : ByteArray) : (⟨#[c]⟩ ++ x : ByteArray).size ≠ 0 ∧ (x ++ ⟨#[c]⟩ : ByteArray).size ≠ 0 := by
  have e : (⟨#[c]⟩ : ByteArray).size = 1 := rfl
  simp only [ByteArray.size_append, e]; omega
theorem Qa5 (k n : Int) (x s : ByteArray) (ks r : List Tm) : wrT (.mk k n x s ks r) =
    if k = 1 then ⟨(Lib.itoa n).toArray⟩
    else if k = 2 then (if n = 1 then ⟨#[116, 114, 117, 101]⟩ else ⟨#[102, 97, 108, 115, 101]⟩)
    else if k = 3 then ⟨#[34]⟩ ++ x ++ ⟨#[34]⟩
    else if k = 4 then ⟨#[39]⟩ ++ x
    else if k = 5 then x ++ ⟨#[40]⟩ ++ Qbc false 0 ks ++ ⟨#[41]⟩
    else if k = 6 then wrV x s
    else if k = 7 then ⟨#[91]⟩ ++ Qbc false 0 ks ++ wrR (decide (0 < ks.length)) r ++ ⟨#[93]⟩
    else if k = 8 then ⟨#[123]⟩ ++ Qbc true 0 ks ++ wrR (decide (0 < ks.length)) r ++ ⟨#[125]⟩
    else ⟨#[]⟩ := by rw [wrT]
set_option maxHeartbeats 16000000 in
theorem h97 (n : Nat) (ih : H97 n) : H97 (n + 1) := by
  intro t id s σ hfit hw hl
  obtain ⟨hn, hlim, hall, hok⟩ := hfit
  obtain ⟨k, nn, x, so, ks, r⟩ := t
  have tT : QH Tryz.prog (Qf [(163, s163), (164, s164)]) := .cons e163 (.cons e164 .nil)
  refine HC.of_body (T := Qf [(163, s163), (164, s164)]) Tryz.func97 rfl (by decide) (Nat.le_of_ble_eq_true rfl) fun E => ?_
  have g1 := call163 (Qf [(163, s163), (164, s164)]) rfl nn
  have g2 := call164 (Qf [(163, s163), (164, s164)]) rfl
  generalize Qf [(163, s163), (164, s164)] = T at *
  simp only [Qgo, Bool.and_eq_true] at hall
  obtain ⟨hnode, hks, hrs⟩ := hall
  simp only [okT] at hok
  simp only [tsz] at hn hlim
  have hkl : ks.length ≤ 1048576 := by have := Qao ks; unfold tlim at hlim; omega
  have hrl : r.length ≤ 1048576 := by have := Qao r; unfold tlim at hlim; omega
  have hfk : ∀ t ∈ ks, QkK n t := fun t ht => by
    have := Qac ks t ht
    exact ⟨by omega, by omega, QfD ks t hks ht, QaQ ks t hok.2.2.2.2.1 ht⟩
  have hid := hw.1
  have fin : ∀ (a : Nat → DV) (σ' : St), Wr id (s ++ wrT (.mk k nn x so ks r)) σ' → Fr id σ σ' → Qf2 Tryz.prog Tryz.f97.results (fun _ σ' => Wr id (s ++ wrT (.mk k nn x so ks r)) σ' ∧ Fr id σ σ') Ex.normal a σ' := fun a σ' h1 h2 =>
    ⟨.inl rfl, .tuple [], by show Qh Tryz.prog σ' a [] = _; simp [Qh, QW], h1, h2⟩
  clear hn hlim hks hrs hok
  simp only [QG]
  refine Dwp.step tT rfl fun K hK => ?_
  simp [init, QG]
  refine hK _ _ ?_ rfl; clear hK K
  refine Dwp.step tT rfl fun K hK => ?_
  simp [QaB, Q5]
  refine hK _ _ ?_ rfl; clear hK K
  refine Dwp.block ?_
  by_cases hk1 : k = 1
  · subst hk1
    have hwr := Qa5 1 nn x so ks r
    simp at hwr
    simp [Qar] at hnode
    refine Dwp.step tT rfl fun K hK => ?_
    simp
    refine hK _ _ ?_ rfl; clear hK K
    refine Dwp.condT (by simp [eval, upd]) ?_
    have hne : (⟨(Lib.itoa nn).toArray⟩ : ByteArray).size ≠ 0 := by
      show (Lib.itoa nn).toArray.size ≠ 0
      have := Qkw nn
      simp [this]
    rw [hwr] at hl fin
    have g1' := g1 (by omega) (by omega)
    refine Dwp.ordH ([[0, 1, 2, 3, 4, 5], [0, 1, 3, 2, 4, 5], [0, 1, 3, 4, 2, 5], [0, 1, 3, 4, 5, 2], [0, 3, 1, 2, 4, 5], [0, 3, 1, 4, 2, 5], [0, 3, 1, 4, 5, 2], [0, 3, 4, 1, 2, 5], [0, 3, 4, 1, 5, 2], [0, 3, 4, 5, 1, 2], [3, 0, 1, 2, 4, 5], [3, 0, 1, 4, 2, 5], [3, 0, 1, 4, 5, 2], [3, 0, 4, 1, 2, 5], [3, 0, 4, 1, 5, 2], [3, 0, 4, 5, 1, 2], [3, 4, 0, 1, 2, 5], [3, 4, 0, 1, 5, 2], [3, 4, 0, 5, 1, 2], [3, 4, 5, 0, 1, 2]].map (· ++ [6])) mixed (by kernel_rfl) fun K hK => ?_
    intro lq hq
    obtain ⟨lp, hp9, rfl⟩ := List.mem_map.1 hq
    refine Rg.run tT rfl _ _ _ ?_
    simp only [List.mem_cons, List.not_mem_nil, or_false] at hp9
    rcases hp9 with rfl | rfl | rfl | rfl | rfl | rfl | rfl | rfl | rfl | rfl | rfl | rfl | rfl | rfl | rfl | rfl | rfl | rfl | rfl | rfl
    all_goals
      simp [Q4, QaC, Qam, Qab, init, g1', Q5, QbS, Qbr, ty9, ty3]
      refine Rg.call (xs := [.ptr id 0, .lit (.string (⟨(Lib.itoa nn).toArray⟩))]) rfl rfl rfl rfl (by rfl) (Qha id _ (⟨(Lib.itoa nn).toArray⟩) _ (hw.n _ (by first | omega | (simp only []; omega))) (by assumption) (by assumption)) ?_
      rintro d σ1 ⟨gw, gf⟩
      refine Rg.nil ?_
      exact hK _ _ (fin _ _ gw (gf.n _ (by first | omega | (simp only []; omega))))
  by_cases hk2 : k = 2
  · subst hk2
    have hwr := Qa5 2 nn x so ks r
    simp at hwr
    simp [Qar] at hnode
    refine Dwp.step tT rfl fun K hK => ?_
    simp
    refine hK _ _ ?_ rfl; clear hK K
    refine Dwp.condF (by simp [eval, upd]) ?_
    refine Dwp.step tT rfl fun K hK => ?_
    simp
    refine hK _ _ ?_ rfl; clear hK K
    refine Dwp.condT (by simp [eval, upd]) ?_
    obtain ⟨hnn, _⟩ := hnode
    have hne : ∀ b, (boolT b).size ≠ 0 := by intro b; unfold boolT; split <;> decide
    rcases hnn with rfl | rfl
    · have hb : wrT (.mk 2 0 x so ks r) = boolT false := by rw [Qa5]; simp [boolT]
      rw [hb] at hl fin
      have g2' := g2 false
      have hne' := hne false
      refine Dwp.ordH ([[0, 1, 2, 3, 4, 5, 6], [0, 1, 3, 2, 4, 5, 6], [0, 1, 3, 4, 2, 5, 6], [0, 1, 3, 4, 5, 2, 6], [0, 1, 3, 4, 5, 6, 2], [0, 3, 1, 2, 4, 5, 6], [0, 3, 1, 4, 2, 5, 6], [0, 3, 1, 4, 5, 2, 6], [0, 3, 1, 4, 5, 6, 2], [0, 3, 4, 1, 2, 5, 6], [0, 3, 4, 1, 5, 2, 6], [0, 3, 4, 1, 5, 6, 2], [0, 3, 4, 5, 1, 2, 6], [0, 3, 4, 5, 1, 6, 2], [0, 3, 4, 5, 6, 1, 2], [3, 0, 1, 2, 4, 5, 6], [3, 0, 1, 4, 2, 5, 6], [3, 0, 1, 4, 5, 2, 6], [3, 0, 1, 4, 5, 6, 2], [3, 0, 4, 1, 2, 5, 6], [3, 0, 4, 1, 5, 2, 6], [3, 0, 4, 1, 5, 6, 2], [3, 0, 4, 5, 1, 2, 6], [3, 0, 4, 5, 1, 6, 2], [3, 0, 4, 5, 6, 1, 2], [3, 4, 0, 1, 2, 5, 6], [3, 4, 0, 1, 5, 2, 6], [3, 4, 0, 1, 5, 6, 2], [3, 4, 0, 5, 1, 2, 6], [3, 4, 0, 5, 1, 6, 2], [3, 4, 0, 5, 6, 1, 2], [3, 4, 5, 0, 1, 2, 6], [3, 4, 5, 0, 1, 6, 2], [3, 4, 5, 0, 6, 1, 2], [3, 4, 5, 6, 0, 1, 2]].map (· ++ [7])) mixed (by kernel_rfl) fun K hK => ?_
      intro lq hq
      obtain ⟨lp, hp9, rfl⟩ := List.mem_map.1 hq
      refine Rg.run tT rfl _ _ _ ?_
      simp only [List.mem_cons, List.not_mem_nil, or_false] at hp9
      rcases hp9 with rfl | rfl | rfl | rfl | rfl | rfl | rfl | rfl | rfl | rfl | rfl | rfl | rfl | rfl | rfl | rfl | rfl | rfl | rfl | rfl | rfl | rfl | rfl | rfl | rfl | rfl | rfl | rfl | rfl | rfl | rfl | rfl | rfl | rfl | rfl
      all_goals
        simp [Q4, QaC, Qam, Qab, init, g2', Q5, QbS, Qbr, ty9, ty3]
        refine Rg.call (xs := [.ptr id 0, .lit (.string (boolT false))]) rfl rfl rfl rfl (by rfl) (Qha id _ (boolT false) _ (hw.n _ (by first | omega | (simp only []; omega))) (by assumption) (by assumption)) ?_
        rintro d σ1 ⟨gw, gf⟩
        refine Rg.nil ?_
        exact hK _ _ (fin _ _ gw (gf.n _ (by first | omega | (simp only []; omega))))
    · have hb : wrT (.mk 2 1 x so ks r) = boolT true := by rw [Qa5]; simp [boolT]
      rw [hb] at hl fin
      have g2' := g2 true
      have hne' := hne true
      refine Dwp.ordH ([[0, 1, 2, 3, 4, 5, 6], [0, 1, 3, 2, 4, 5, 6], [0, 1, 3, 4, 2, 5, 6], [0, 1, 3, 4, 5, 2, 6], [0, 1, 3, 4, 5, 6, 2], [0, 3, 1, 2, 4, 5, 6], [0, 3, 1, 4, 2, 5, 6], [0, 3, 1, 4, 5, 2, 6], [0, 3, 1, 4, 5, 6, 2], [0, 3, 4, 1, 2, 5, 6], [0, 3, 4, 1, 5, 2, 6], [0, 3, 4, 1, 5, 6, 2], [0, 3, 4, 5, 1, 2, 6], [0, 3, 4, 5, 1, 6, 2], [0, 3, 4, 5, 6, 1, 2], [3, 0, 1, 2, 4, 5, 6], [3, 0, 1, 4, 2, 5, 6], [3, 0, 1, 4, 5, 2, 6], [3, 0, 1, 4, 5, 6, 2], [3, 0, 4, 1, 2, 5, 6], [3, 0, 4, 1, 5, 2, 6], [3, 0, 4, 1, 5, 6, 2], [3, 0, 4, 5, 1, 2, 6], [3, 0, 4, 5, 1, 6, 2], [3, 0, 4, 5, 6, 1, 2], [3, 4, 0, 1, 2, 5, 6], [3, 4, 0, 1, 5, 2, 6], [3, 4, 0, 1, 5, 6, 2], [3, 4, 0, 5, 1, 2, 6], [3, 4, 0, 5, 1, 6, 2], [3, 4, 0, 5, 6, 1, 2], [3, 4, 5, 0, 1, 2, 6], [3, 4, 5, 0, 1, 6, 2], [3, 4, 5, 0, 6, 1, 2], [3, 4, 5, 6, 0, 1, 2]].map (· ++ [7])) mixed (by kernel_rfl) fun K hK => ?_
      intro lq hq
      obtain ⟨lp, hp9, rfl⟩ := List.mem_map.1 hq
      refine Rg.run tT rfl _ _ _ ?_
      simp only [List.mem_cons, List.not_mem_nil, or_false] at hp9
      rcases hp9 with rfl | rfl | rfl | rfl | rfl | rfl | rfl | rfl | rfl | rfl | rfl | rfl | rfl | rfl | rfl | rfl | rfl | rfl | rfl | rfl | rfl | rfl | rfl | rfl | rfl | rfl | rfl | rfl | rfl | rfl | rfl | rfl | rfl | rfl | rfl
      all_goals
        simp [Q4, QaC, Qam, Qab, init, g2', Q5, QbS, Qbr, ty9, ty3]
        refine Rg.call (xs := [.ptr id 0, .lit (.string (boolT true))]) rfl rfl rfl rfl (by rfl) (Qha id _ (boolT true) _ (hw.n _ (by first | omega | (simp only []; omega))) (by assumption) (by assumption)) ?_
        rintro d σ1 ⟨gw, gf⟩
        refine Rg.nil ?_
        exact hK _ _ (fin _ _ gw (gf.n _ (by first | omega | (simp only []; omega))))
  by_cases hk3 : k = 3
  · subst hk3
    have hwr := Qa5 3 nn x so ks r
    simp at hwr
    simp [Qar] at hnode
    refine Dwp.step tT rfl fun K hK => ?_
    simp
    refine hK _ _ ?_ rfl; clear hK K
    refine Dwp.condF (by simp [eval, upd]) ?_
    refine Dwp.step tT rfl fun K hK => ?_
    simp
    refine hK _ _ ?_ rfl; clear hK K
    refine Dwp.condF (by simp [eval, upd]) ?_
    refine Dwp.step tT rfl fun K hK => ?_
    simp
    refine hK _ _ ?_ rfl; clear hK K
    refine Dwp.condT (by simp [eval, upd]) ?_
    rw [hwr] at hl fin
    have hne := (QjK 34 (⟨#[34]⟩ ++ x)).2
    have e34 : (⟨#[34]⟩ : ByteArray).size = 1 := rfl
    have hz := hl
    simp only [ByteArray.size_append, e34] at hz
    have hcat : (⟨#[34]⟩ : ByteArray).size + x.size < 4611686018427387904 := by omega
    have hcat2 : (⟨#[34]⟩ : ByteArray).size + x.size + (⟨#[34]⟩ : ByteArray).size < 4611686018427387904 := by omega
    refine Dwp.ordH ([[0, 1, 2, 3, 4, 5, 6], [0, 1, 3, 2, 4, 5, 6], [0, 1, 3, 4, 2, 5, 6], [0, 1, 3, 4, 5, 2, 6], [0, 1, 3, 4, 5, 6, 2], [0, 3, 1, 2, 4, 5, 6], [0, 3, 1, 4, 2, 5, 6], [0, 3, 1, 4, 5, 2, 6], [0, 3, 1, 4, 5, 6, 2], [0, 3, 4, 1, 2, 5, 6], [0, 3, 4, 1, 5, 2, 6], [0, 3, 4, 1, 5, 6, 2], [0, 3, 4, 5, 1, 2, 6], [0, 3, 4, 5, 1, 6, 2], [0, 3, 4, 5, 6, 1, 2], [3, 0, 1, 2, 4, 5, 6], [3, 0, 1, 4, 2, 5, 6], [3, 0, 1, 4, 5, 2, 6], [3, 0, 1, 4, 5, 6, 2], [3, 0, 4, 1, 2, 5, 6], [3, 0, 4, 1, 5, 2, 6], [3, 0, 4, 1, 5, 6, 2], [3, 0, 4, 5, 1, 2, 6], [3, 0, 4, 5, 1, 6, 2], [3, 0, 4, 5, 6, 1, 2], [3, 4, 0, 1, 2, 5, 6], [3, 4, 0, 1, 5, 2, 6], [3, 4, 0, 1, 5, 6, 2], [3, 4, 0, 5, 1, 2, 6], [3, 4, 0, 5, 1, 6, 2], [3, 4, 0, 5, 6, 1, 2], [3, 4, 5, 0, 1, 2, 6], [3, 4, 5, 0, 1, 6, 2], [3, 4, 5, 0, 6, 1, 2], [3, 4, 5, 6, 0, 1, 2]].map (· ++ [7])) mixed (by kernel_rfl) fun K hK => ?_
    intro lq hq
    obtain ⟨lp, hp9, rfl⟩ := List.mem_map.1 hq
    refine Rg.run tT rfl _ _ _ ?_
    simp only [List.mem_cons, List.not_mem_nil, or_false] at hp9
    rcases hp9 with rfl | rfl | rfl | rfl | rfl | rfl | rfl | rfl | rfl | rfl | rfl | rfl | rfl | rfl | rfl | rfl | rfl | rfl | rfl | rfl | rfl | rfl | rfl | rfl | rfl | rfl | rfl | rfl | rfl | rfl | rfl | rfl | rfl | rfl | rfl
    all_goals
      simp [Q4, QaC, Qam, Qab, init, hcat, hcat2, Q5, QbS, Qbr, ty9, ty3]
      refine Rg.call (xs := [.ptr id 0, .lit (.string (⟨#[34]⟩ ++ x ++ ⟨#[34]⟩))]) rfl rfl rfl rfl (by rfl) (Qha id _ (⟨#[34]⟩ ++ x ++ ⟨#[34]⟩) _ (hw.n _ (by first | omega | (simp only []; omega))) (by assumption) (by assumption)) ?_
      rintro d σ1 ⟨gw, gf⟩
      refine Rg.nil ?_
      exact hK _ _ (fin _ _ gw (gf.n _ (by first | omega | (simp only []; omega))))
  by_cases hk4 : k = 4
  · subst hk4
    have hwr := Qa5 4 nn x so ks r
    simp at hwr
    simp [Qar] at hnode
    refine Dwp.step tT rfl fun K hK => ?_
    simp
    refine hK _ _ ?_ rfl; clear hK K
    refine Dwp.condF (by simp [eval, upd]) ?_
    refine Dwp.step tT rfl fun K hK => ?_
    simp
    refine hK _ _ ?_ rfl; clear hK K
    refine Dwp.condF (by simp [eval, upd]) ?_
    refine Dwp.step tT rfl fun K hK => ?_
    simp
    refine hK _ _ ?_ rfl; clear hK K
    refine Dwp.condF (by simp [eval, upd]) ?_
    refine Dwp.step tT rfl fun K hK => ?_
    simp
    refine hK _ _ ?_ rfl; clear hK K
    refine Dwp.condT (by simp [eval, upd]) ?_
    rw [hwr] at hl fin
    have hne := (QjK 39 x).1
    have e39 : (⟨#[39]⟩ : ByteArray).size = 1 := rfl
    have hz := hl
    simp only [ByteArray.size_append, e39] at hz
    have hcat : (⟨#[39]⟩ : ByteArray).size + x.size < 4611686018427387904 := by omega
    refine Dwp.ordH ([[0, 1, 2, 3, 4, 5], [0, 1, 3, 2, 4, 5], [0, 1, 3, 4, 2, 5], [0, 1, 3, 4, 5, 2], [0, 3, 1, 2, 4, 5], [0, 3, 1, 4, 2, 5], [0, 3, 1, 4, 5, 2], [0, 3, 4, 1, 2, 5], [0, 3, 4, 1, 5, 2], [0, 3, 4, 5, 1, 2], [3, 0, 1, 2, 4, 5], [3, 0, 1, 4, 2, 5], [3, 0, 1, 4, 5, 2], [3, 0, 4, 1, 2, 5], [3, 0, 4, 1, 5, 2], [3, 0, 4, 5, 1, 2], [3, 4, 0, 1, 2, 5], [3, 4, 0, 1, 5, 2], [3, 4, 0, 5, 1, 2], [3, 4, 5, 0, 1, 2]].map (· ++ [6])) mixed (by kernel_rfl) fun K hK => ?_
    intro lq hq
    obtain ⟨lp, hp9, rfl⟩ := List.mem_map.1 hq
    refine Rg.run tT rfl _ _ _ ?_
    simp only [List.mem_cons, List.not_mem_nil, or_false] at hp9
    rcases hp9 with rfl | rfl | rfl | rfl | rfl | rfl | rfl | rfl | rfl | rfl | rfl | rfl | rfl | rfl | rfl | rfl | rfl | rfl | rfl | rfl
    all_goals
      simp [Q4, QaC, Qam, Qab, init, hcat, Q5, QbS, Qbr, ty9, ty3]
      refine Rg.call (xs := [.ptr id 0, .lit (.string (⟨#[39]⟩ ++ x))]) rfl rfl rfl rfl (by rfl) (Qha id _ (⟨#[39]⟩ ++ x) _ (hw.n _ (by first | omega | (simp only []; omega))) (by assumption) (by assumption)) ?_
      rintro d σ1 ⟨gw, gf⟩
      refine Rg.nil ?_
      exact hK _ _ (fin _ _ gw (gf.n _ (by first | omega | (simp only []; omega))))
  by_cases hk5 : k = 5
  · subst hk5
    have hwr := Qa5 5 nn x so ks r
    simp at hwr
    simp [Qar] at hnode
    refine Dwp.step tT rfl fun K hK => ?_
    simp
    refine hK _ _ ?_ rfl; clear hK K
    refine Dwp.condF (by simp [eval, upd]) ?_
    refine Dwp.step tT rfl fun K hK => ?_
    simp
    refine hK _ _ ?_ rfl; clear hK K
    refine Dwp.condF (by simp [eval, upd]) ?_
    refine Dwp.step tT rfl fun K hK => ?_
    simp
    refine hK _ _ ?_ rfl; clear hK K
    refine Dwp.condF (by simp [eval, upd]) ?_
    refine Dwp.step tT rfl fun K hK => ?_
    simp
    refine hK _ _ ?_ rfl; clear hK K
    refine Dwp.condF (by simp [eval, upd]) ?_
    refine Dwp.step tT rfl fun K hK => ?_
    simp
    refine hK _ _ ?_ rfl; clear hK K
    refine Dwp.condT (by simp [eval, upd]) ?_
    rw [hwr] at hl fin
    have hne := (QjK 40 x).2
    have e40 : (⟨#[40]⟩ : ByteArray).size = 1 := rfl
    have e41 : (⟨#[41]⟩ : ByteArray).size = 1 := rfl
    have hv41 : (⟨#[41]⟩ : ByteArray).size ≠ 0 := by decide
    have hz := hl
    simp only [ByteArray.size_append, e40, e41] at hz
    have hcat : x.size + (⟨#[40]⟩ : ByteArray).size < 4611686018427387904 := by omega
    have hx1 : s.size + (x ++ ⟨#[40]⟩).size ≤ 16777216 := by rw [ByteArray.size_append]; omega
    refine Dwp.ordStepH ([[0, 1, 2, 3, 4, 5], [0, 1, 3, 2, 4, 5], [0, 1, 3, 4, 2, 5], [0, 1, 3, 4, 5, 2], [0, 3, 1, 2, 4, 5], [0, 3, 1, 4, 2, 5], [0, 3, 1, 4, 5, 2], [0, 3, 4, 1, 2, 5], [0, 3, 4, 1, 5, 2], [0, 3, 4, 5, 1, 2], [3, 0, 1, 2, 4, 5], [3, 0, 1, 4, 2, 5], [3, 0, 1, 4, 5, 2], [3, 0, 4, 1, 2, 5], [3, 0, 4, 1, 5, 2], [3, 0, 4, 5, 1, 2], [3, 4, 0, 1, 2, 5], [3, 4, 0, 1, 5, 2], [3, 4, 0, 5, 1, 2], [3, 4, 5, 0, 1, 2]].map (· ++ [6])) mixed (by kernel_rfl) fun K hK => ?_
    have cont : ∀ (a' : Nat → DV) (σ' : St), a' 0 = .ptr id 0 → a' 3 = .row [.lit (.int .i64 5), .lit (.int .i64 nn), .lit (.string x), .lit (.string so), .slice 6 .none (ks.map Tm.cells), .slice 6 .none (r.map Tm.cells)] 0 → Wr id (s ++ (x ++ ⟨#[40]⟩)) σ' → Fr id σ σ' → K a' σ' := by
      intro a' σ' h0 h3 hw2 hf2
      refine hK _ _ ?_
      clear hK K
      refine Dwp.stepH fun K hK => ?_
      show Rg _ _ _ _ K ([0, 1, 2] ++ (3 :: [])) _ _
      refine Rg.run tT rfl _ _ _ ?_
      simp [Q4, QaC, Qam, Qab, h0, h3, Q5, Qak]
      refine Rg.call (xs := [.ptr id 0, .slice 6 .none (ks.map Tm.cells)]) rfl rfl rfl rfl (by rfl) (h165 n ih id _ ks _ (hw2.n _ (by first | omega | (simp only []; omega))) hfk hkl (by first | omega | (simp only [ByteArray.size_append]; omega) | (simp only [ByteArray.size_append] at hz ⊢; omega))) ?_
      rintro d σ1 ⟨gw2, gf2⟩
      have gf3 := hf2.trans (gf2.n _ (by first | omega | (simp only []; omega)))
      refine Rg.nil (hK _ _ ?_)
      clear hK K
      refine Dwp.regH fun K hK => ?_
      show Rg _ _ _ _ K ([0, 1, 2] ++ (3 :: [])) _ _
      refine Rg.run tT rfl _ _ _ ?_
      simp [Q4, QaC, Qam, Qab, h0, QbS, Qbr]
      refine Rg.call (xs := [.ptr id 0, .lit (.string ⟨#[41]⟩)]) rfl rfl rfl rfl (by rfl) (Qha id _ ⟨#[41]⟩ _ (gw2.n _ (by first | omega | (simp only []; omega))) hv41 (by first | omega | (simp only [ByteArray.size_append]; omega) | (simp only [ByteArray.size_append] at hz ⊢; omega))) ?_
      rintro d σ2 ⟨gw4, gf4⟩
      exact Rg.nil (hK _ _ (fin _ _ (by simpa only [ByteArray.append_assoc] using gw4) (gf3.trans (gf4.n _ (by first | omega | (simp only []; omega))))))
    intro lq hq
    obtain ⟨lp, hp9, rfl⟩ := List.mem_map.1 hq
    refine Rg.run tT rfl _ _ _ ?_
    simp only [List.mem_cons, List.not_mem_nil, or_false] at hp9
    rcases hp9 with rfl | rfl | rfl | rfl | rfl | rfl | rfl | rfl | rfl | rfl | rfl | rfl | rfl | rfl | rfl | rfl | rfl | rfl | rfl | rfl
    all_goals
      simp [Q4, QaC, Qam, Qab, init, hcat, Q5, QbS, Qbr, ty9, ty3]
      refine Rg.call (xs := [.ptr id 0, .lit (.string (x ++ ⟨#[40]⟩))]) rfl rfl rfl rfl (by rfl) (Qha id _ (x ++ ⟨#[40]⟩) _ (hw.n _ (by first | omega | (simp only []; omega))) (by assumption) (by assumption)) ?_
      rintro d σ1 ⟨gw, gf⟩
      refine Rg.nil ?_
      exact cont _ _ (by simp [QN, upd, init]) (by simp [QN, upd]) gw (gf.n _ (by first | omega | (simp only []; omega)))
  by_cases hk6 : k = 6
  · subst hk6
    have hwr := Qa5 6 nn x so ks r
    simp at hwr
    simp [Qar] at hnode
    refine Dwp.step tT rfl fun K hK => ?_
    simp
    refine hK _ _ ?_ rfl; clear hK K
    refine Dwp.condF (by simp [eval, upd]) ?_
    refine Dwp.step tT rfl fun K hK => ?_
    simp
    refine hK _ _ ?_ rfl; clear hK K
    refine Dwp.condF (by simp [eval, upd]) ?_
    refine Dwp.step tT rfl fun K hK => ?_
    simp
    refine hK _ _ ?_ rfl; clear hK K
    refine Dwp.condF (by simp [eval, upd]) ?_
    refine Dwp.step tT rfl fun K hK => ?_
    simp
    refine hK _ _ ?_ rfl; clear hK K
    refine Dwp.condF (by simp [eval, upd]) ?_
    refine Dwp.step tT rfl fun K hK => ?_
    simp
    refine hK _ _ ?_ rfl; clear hK K
    refine Dwp.condF (by simp [eval, upd]) ?_
    refine Dwp.step tT rfl fun K hK => ?_
    simp
    refine hK _ _ ?_ rfl; clear hK K
    refine Dwp.condT (by simp [eval, upd]) ?_
    rw [hwr] at hl fin
    refine Dwp.regH fun K hK => ?_
    show Rg _ _ _ _ K ([0, 1] ++ (2 :: [])) _ _
    refine Rg.run tT rfl _ _ _ ?_
    simp [Q4, QaC, Qam, Qab, init, Q5]
    refine Rg.call (xs := [.ptr id 0, .agg (Tm.mk 6 nn x so ks r).cells]) rfl rfl rfl rfl (by simp only [QG]; rfl) (h166 id s 6 nn x so ks r _ (hw.n _ (by first | omega | (simp only []; omega))) (Qla hnode.2.1) hl) ?_
    rintro d σ1 ⟨gw2, gf2⟩
    exact Rg.nil (hK _ _ (fin _ _ gw2 (gf2.n _ (by first | omega | (simp only []; omega)))))
  by_cases hk7 : k = 7
  · subst hk7
    have hwr := Qa5 7 nn x so ks r
    simp at hwr
    simp [Qar] at hnode
    refine Dwp.step tT rfl fun K hK => ?_
    simp
    refine hK _ _ ?_ rfl; clear hK K
    refine Dwp.condF (by simp [eval, upd]) ?_
    refine Dwp.step tT rfl fun K hK => ?_
    simp
    refine hK _ _ ?_ rfl; clear hK K
    refine Dwp.condF (by simp [eval, upd]) ?_
    refine Dwp.step tT rfl fun K hK => ?_
    simp
    refine hK _ _ ?_ rfl; clear hK K
    refine Dwp.condF (by simp [eval, upd]) ?_
    refine Dwp.step tT rfl fun K hK => ?_
    simp
    refine hK _ _ ?_ rfl; clear hK K
    refine Dwp.condF (by simp [eval, upd]) ?_
    refine Dwp.step tT rfl fun K hK => ?_
    simp
    refine hK _ _ ?_ rfl; clear hK K
    refine Dwp.condF (by simp [eval, upd]) ?_
    refine Dwp.step tT rfl fun K hK => ?_
    simp
    refine hK _ _ ?_ rfl; clear hK K
    refine Dwp.condF (by simp [eval, upd]) ?_
    refine Dwp.step tT rfl fun K hK => ?_
    simp
    refine hK _ _ ?_ rfl; clear hK K
    refine Dwp.condT (by simp [eval, upd]) ?_
    rw [hwr] at hl fin
    have eo : (⟨#[91]⟩ : ByteArray).size = 1 := rfl
    have ec : (⟨#[93]⟩ : ByteArray).size = 1 := rfl
    have hvo : (⟨#[91]⟩ : ByteArray).size ≠ 0 := by decide
    have hvc : (⟨#[93]⟩ : ByteArray).size ≠ 0 := by decide
    have hz := hl
    simp only [ByteArray.size_append, eo, ec] at hz
    refine Dwp.stepH fun K hK => ?_
    show Rg _ _ _ _ K ([0, 1, 2] ++ (3 :: [])) _ _
    refine Rg.run tT rfl _ _ _ ?_
    simp [Q4, QaC, Qam, Qab, init, QbS, Qbr]
    refine Rg.call (xs := [.ptr id 0, .lit (.string ⟨#[91]⟩)]) rfl rfl rfl rfl (by rfl) (Qha id _ ⟨#[91]⟩ _ (hw.n _ (by first | omega | (simp only []; omega))) hvo (by first | omega | (simp only [ByteArray.size_append]; omega) | (simp only [ByteArray.size_append] at hz ⊢; omega))) ?_
    rintro d0 σ1 ⟨gw1, gf1⟩
    have gf1 := gf1.n _ (by first | omega | (simp only []; omega))
    refine Rg.nil (hK _ _ ?_)
    clear hK K
    refine Dwp.stepH fun K hK => ?_
    show Rg _ _ _ _ K ([0, 1, 2] ++ (3 :: [])) _ _
    refine Rg.run tT rfl _ _ _ ?_
    simp [Q4, QaC, Qam, Qab, init, Q5, Qak]
    refine Rg.call (xs := [.ptr id 0, .slice 6 .none (ks.map Tm.cells)]) rfl rfl rfl rfl (by rfl) (h165 n ih id _ ks _ (gw1.n _ (by first | omega | (simp only []; omega))) hfk hkl (by first | omega | (simp only [ByteArray.size_append]; omega) | (simp only [ByteArray.size_append] at hz ⊢; omega))) ?_
    rintro d1 σ2 ⟨gw2, gf2⟩
    have gf2 := gf1.trans (gf2.n _ (by first | omega | (simp only []; omega)))
    refine Rg.nil (hK _ _ ?_)
    clear hK K
    refine Dwp.stepH fun K hK => ?_
    show Rg _ _ _ _ K ([0, 1] ++ (2 :: [])) _ _
    refine Rg.run tT rfl _ _ _ ?_
    simp [Q4, QaC, Qam, Qab, init, Q5, Qak]
    refine Rg.call (xs := [.ptr id 0, .agg (Tm.mk 7 nn x so ks r).cells]) rfl rfl rfl rfl (by simp only [QG]; rfl) (h167 id _ 7 nn x so ks r _ (gw2.n _ (by first | omega | (simp only []; omega))) ⟨hrl, hkl⟩ (by first | omega | (simp only [ByteArray.size_append]; omega) | (simp only [ByteArray.size_append] at hz ⊢; omega))) ?_
    rintro d2 σ3 ⟨gw3, gf3⟩
    have gf3 := gf2.trans (gf3.n _ (by first | omega | (simp only []; omega)))
    refine Rg.nil (hK _ _ ?_)
    clear hK K
    refine Dwp.regH fun K hK => ?_
    show Rg _ _ _ _ K ([0, 1, 2] ++ (3 :: [])) _ _
    refine Rg.run tT rfl _ _ _ ?_
    simp [Q4, QaC, Qam, Qab, init, QbS, Qbr]
    refine Rg.call (xs := [.ptr id 0, .lit (.string ⟨#[93]⟩)]) rfl rfl rfl rfl (by rfl) (Qha id _ ⟨#[93]⟩ _ (gw3.n _ (by first | omega | (simp only []; omega))) hvc (by first | omega | (simp only [ByteArray.size_append]; omega) | (simp only [ByteArray.size_append] at hz ⊢; omega))) ?_
    rintro d3 σ4 ⟨gw4, gf4⟩
    exact Rg.nil (hK _ _ (fin _ _ (by simpa only [ByteArray.append_assoc] using gw4) (gf3.trans (gf4.n _ (by first | omega | (simp only []; omega))))))
  by_cases hk8 : k = 8
  · subst hk8
    have hwr := Qa5 8 nn x so ks r
    simp at hwr
    simp [Qar] at hnode
    refine Dwp.step tT rfl fun K hK => ?_
    simp
    refine hK _ _ ?_ rfl; clear hK K
    refine Dwp.condF (by simp [eval, upd]) ?_
    refine Dwp.step tT rfl fun K hK => ?_
    simp
    refine hK _ _ ?_ rfl; clear hK K
    refine Dwp.condF (by simp [eval, upd]) ?_
    refine Dwp.step tT rfl fun K hK => ?_
    simp
    refine hK _ _ ?_ rfl; clear hK K
    refine Dwp.condF (by simp [eval, upd]) ?_
    refine Dwp.step tT rfl fun K hK => ?_
    simp
    refine hK _ _ ?_ rfl; clear hK K
    refine Dwp.condF (by simp [eval, upd]) ?_
    refine Dwp.step tT rfl fun K hK => ?_
    simp
    refine hK _ _ ?_ rfl; clear hK K
    refine Dwp.condF (by simp [eval, upd]) ?_
    refine Dwp.step tT rfl fun K hK => ?_
    simp
    refine hK _ _ ?_ rfl; clear hK K
    refine Dwp.condF (by simp [eval, upd]) ?_
    refine Dwp.step tT rfl fun K hK => ?_
    simp
    refine hK _ _ ?_ rfl; clear hK K
    refine Dwp.condF (by simp [eval, upd]) ?_
    refine Dwp.step tT rfl fun K hK => ?_
    simp
    refine hK _ _ ?_ rfl; clear hK K
    refine Dwp.condT (by simp [eval, upd]) ?_
    rw [hwr] at hl fin
    have eo : (⟨#[123]⟩ : ByteArray).size = 1 := rfl
    have ec : (⟨#[125]⟩ : ByteArray).size = 1 := rfl
    have hvo : (⟨#[123]⟩ : ByteArray).size ≠ 0 := by decide
    have hvc : (⟨#[125]⟩ : ByteArray).size ≠ 0 := by decide
    have hz := hl
    simp only [ByteArray.size_append, eo, ec] at hz
    refine Dwp.stepH fun K hK => ?_
    show Rg _ _ _ _ K ([0, 1, 2] ++ (3 :: [])) _ _
    refine Rg.run tT rfl _ _ _ ?_
    simp [Q4, QaC, Qam, Qab, init, QbS, Qbr]
    refine Rg.call (xs := [.ptr id 0, .lit (.string ⟨#[123]⟩)]) rfl rfl rfl rfl (by rfl) (Qha id _ ⟨#[123]⟩ _ (hw.n _ (by first | omega | (simp only []; omega))) hvo (by first | omega | (simp only [ByteArray.size_append]; omega) | (simp only [ByteArray.size_append] at hz ⊢; omega))) ?_
    rintro d0 σ1 ⟨gw1, gf1⟩
    have gf1 := gf1.n _ (by first | omega | (simp only []; omega))
    refine Rg.nil (hK _ _ ?_)
    clear hK K
    refine Dwp.stepH fun K hK => ?_
    show Rg _ _ _ _ K ([0, 1, 2] ++ (3 :: [])) _ _
    refine Rg.run tT rfl _ _ _ ?_
    simp [Q4, QaC, Qam, Qab, init, Q5, Qak]
    refine Rg.call (xs := [.ptr id 0, .slice 6 .none (ks.map Tm.cells)]) rfl rfl rfl rfl (by rfl) (h168 n ih id _ ks _ (gw1.n _ (by first | omega | (simp only []; omega))) hfk hnode.2.2.2.1 hkl (by first | omega | (simp only [ByteArray.size_append]; omega) | (simp only [ByteArray.size_append] at hz ⊢; omega))) ?_
    rintro d1 σ2 ⟨gw2, gf2⟩
    have gf2 := gf1.trans (gf2.n _ (by first | omega | (simp only []; omega)))
    refine Rg.nil (hK _ _ ?_)
    clear hK K
    refine Dwp.stepH fun K hK => ?_
    show Rg _ _ _ _ K ([0, 1] ++ (2 :: [])) _ _
    refine Rg.run tT rfl _ _ _ ?_
    simp [Q4, QaC, Qam, Qab, init, Q5, Qak]
    refine Rg.call (xs := [.ptr id 0, .agg (Tm.mk 8 nn x so ks r).cells]) rfl rfl rfl rfl (by simp only [QG]; rfl) (h167 id _ 8 nn x so ks r _ (gw2.n _ (by first | omega | (simp only []; omega))) ⟨hrl, hkl⟩ (by first | omega | (simp only [ByteArray.size_append]; omega) | (simp only [ByteArray.size_append] at hz ⊢; omega))) ?_
    rintro d2 σ3 ⟨gw3, gf3⟩
    have gf3 := gf2.trans (gf3.n _ (by first | omega | (simp only []; omega)))
    refine Rg.nil (hK _ _ ?_)
    clear hK K
    refine Dwp.regH fun K hK => ?_
    show Rg _ _ _ _ K ([0, 1, 2] ++ (3 :: [])) _ _
    refine Rg.run tT rfl _ _ _ ?_
    simp [Q4, QaC, Qam, Qab, init, QbS, Qbr]
    refine Rg.call (xs := [.ptr id 0, .lit (.string ⟨#[125]⟩)]) rfl rfl rfl rfl (by rfl) (Qha id _ ⟨#[125]⟩ _ (gw3.n _ (by first | omega | (simp only []; omega))) hvc (by first | omega | (simp only [ByteArray.size_append]; omega) | (simp only [ByteArray.size_append] at hz ⊢; omega))) ?_
    rintro d3 σ4 ⟨gw4, gf4⟩
    exact Rg.nil (hK _ _ (fin _ _ (by simpa only [ByteArray.append_assoc] using gw4) (gf3.trans (gf4.n _ (by first | omega | (simp only []; omega))))))
  exfalso
  simp [Qar, hk1, hk2, hk3, hk4, hk5, hk6, hk7, hk8] at hnode
end
end Go.Proofs.Yt
