/- Contracts of functions of the program, by a machine over abstract values; part 17. No condition beyond those of each theorem. -/
import Derived.Test.YtfpejlbfdpeofaaGreatDoorSm15
set_option linter.unusedVariables false
set_option linter.unusedSimpArgs false
namespace Go.Proofs.Yt
open Go Go.FA Go.Proofs Go.RowKit
set_option maxRecDepth 100000
section
attribute [local simp] QF QZ Qo QJ own Qm dop QN eval Qr Qn Ex.then Ex.inBlock upd QV Tag.isNN Qp intCmp Qv Qx TyI.agg Qa Qu Qg Qs QX QA QD mapOf QQ QC Qq Qi Qj QI DV.cells Qt Qk QE QK rowsOf QL Qd Qe Qe.go Qz QB Qc goInt
def wrV (x s : ByteArray) : ByteArray := if Qh7 x = true then x else x ++ (⟨#[58]⟩ ++ s)
theorem Wr.n {id : Nat} {s : ByteArray} {σ : St} (h : Wr id s σ) (n : Nat) (hn : σ.n ≤ n) : Wr id s { σ with n := n } := by
  obtain ⟨h1, p, x, h2, h3, h4⟩ := h
  refine ⟨Nat.lt_of_lt_of_le h1 hn, p, x, h2, h3, ?_⟩
  rcases h4 with h4 | ⟨b, h5, h6⟩
  · exact .inl h4
  · exact .inr ⟨b, Nat.lt_of_lt_of_le h5 hn, h6⟩
theorem Fr.n {id : Nat} {σ σ' : St} (n : Nat) (hn : σ.n ≤ n) (h : Fr id { σ with n := n } σ') : Fr id σ σ' :=
  ⟨Nat.le_trans hn h.1, fun j hj h1 h2 => h.2 j (Nat.lt_of_lt_of_le hj hn) h1 h2⟩
set_option maxHeartbeats 4000000 in
theorem h166 (id : Nat) (s : ByteArray) (k n : Int) (x so : ByteArray) (ks r : List Tm) (σ : St) (hw : Wr id s σ) (ht : x.size ≠ 0) (hl : s.size + (wrV x so).size ≤ 16777216) :
    HC Tryz.prog 166 [.ptr id 0, .agg (Tm.mk k n x so ks r).cells] σ (fun _ σ' => Wr id (s ++ wrV x so) σ' ∧ Fr id σ σ') := by
  have tT : QH Tryz.prog (Qf [(178, s178)]) := .cons e178 .nil
  refine HC.of_body (T := Qf [(178, s178)]) Tryz.func166 rfl (by decide) (Nat.le_of_ble_eq_true rfl) fun E => ?_
  have g := QjB (Qf [(178, s178)]) rfl x
  generalize Qf [(178, s178)] = T at *
  have fin : ∀ (a : Nat → DV) (σ' : St), Wr id (s ++ wrV x so) σ' → Fr id σ σ' → Qf2 Tryz.prog Tryz.f166.results (fun _ σ' => Wr id (s ++ wrV x so) σ' ∧ Fr id σ σ') Ex.normal a σ' := fun a σ' h1 h2 =>
    ⟨.inl rfl, .tuple [], by show Qh Tryz.prog σ' a [] = _; simp [Qh, QW], h1, h2⟩
  simp only [QG]
  refine Dwp.step tT rfl fun K hK => ?_
  simp [init, QG]
  refine hK _ _ ?_ rfl; clear hK K
  have hx1 : s.size + x.size ≤ 16777216 := by
    refine Nat.le_trans (Nat.add_le_add_left ?_ _) hl
    unfold wrV; split
    · exact Nat.le_refl _
    · simp only [ByteArray.size_append]; omega
  have ht2 : (⟨#[58]⟩ ++ so : ByteArray).size ≠ 0 := by
    have h1 : (⟨#[58]⟩ : ByteArray).size = 1 := rfl
    rw [ByteArray.size_append]; omega
  have hid := hw.1
  refine Dwp.ordStepH ([[0, 1, 2, 3, 4], [0, 1, 3, 2, 4], [0, 1, 3, 4, 2], [0, 3, 1, 2, 4], [0, 3, 1, 4, 2], [0, 3, 4, 1, 2], [3, 0, 1, 2, 4], [3, 0, 1, 4, 2], [3, 0, 4, 1, 2], [3, 4, 0, 1, 2]].map (· ++ [5])) mixed (by kernel_rfl) fun K hK => ?_
  have cont : ∀ (a' : Nat → DV) (σ' : St), a' 0 = .ptr id 0 → a' 3 = .row [.lit (.int .i64 k), .lit (.int .i64 n), .lit (.string x), .lit (.string so), .slice 6 .none (ks.map Tm.cells), .slice 6 .none (r.map Tm.cells)] 0 → Wr id (s ++ x) σ' → Fr id σ σ' → K a' σ' := by
    intro a' σ' h0 h3 hw2 hf2
    refine hK _ _ ?_
    clear hK K
    refine Dwp.step tT rfl fun K hK => ?_
    simp [h3, Q5, ty9, g]
    refine hK _ _ ?_ rfl; clear hK K
    rcases hu : Qh7 x with _ | _
    · refine Dwp.condT (by simp [eval, upd, hu]) ?_
      refine Dwp.ordH ([[0, 1, 2, 3, 4, 5], [0, 1, 3, 2, 4, 5], [0, 1, 3, 4, 2, 5], [0, 1, 3, 4, 5, 2], [0, 3, 1, 2, 4, 5], [0, 3, 1, 4, 2, 5], [0, 3, 1, 4, 5, 2], [0, 3, 4, 1, 2, 5], [0, 3, 4, 1, 5, 2], [0, 3, 4, 5, 1, 2], [3, 0, 1, 2, 4, 5], [3, 0, 1, 4, 2, 5], [3, 0, 1, 4, 5, 2], [3, 0, 4, 1, 2, 5], [3, 0, 4, 1, 5, 2], [3, 0, 4, 5, 1, 2], [3, 4, 0, 1, 2, 5], [3, 4, 0, 1, 5, 2], [3, 4, 0, 5, 1, 2], [3, 4, 5, 0, 1, 2]].map (· ++ [6])) mixed (by kernel_rfl) fun K hK => ?_
      have hv : wrV x so = x ++ (⟨#[58]⟩ ++ so) := by simp [wrV, hu]
      have hl2 : (s ++ x).size + (⟨#[58]⟩ ++ so : ByteArray).size ≤ 16777216 := by
        rw [hv] at hl; simp only [ByteArray.size_append] at hl ⊢; omega
      have hcat : (⟨#[58]⟩ : ByteArray).size + so.size < 4611686018427387904 := by
        simp only [ByteArray.size_append] at hl2; omega
      intro lq hq
      obtain ⟨lp, hp9, rfl⟩ := List.mem_map.1 hq
      refine Rg.run tT rfl _ _ _ ?_
      simp only [List.mem_cons, List.not_mem_nil, or_false] at hp9
      rcases hp9 with rfl | rfl | rfl | rfl | rfl | rfl | rfl | rfl | rfl | rfl | rfl | rfl | rfl | rfl | rfl | rfl | rfl | rfl | rfl | rfl
      all_goals
        simp [Q4, QaC, Qam, Qab, h0, h3, Q5, QbS, Qbr, ty9, hcat]
        refine Rg.call (xs := [.ptr id 0, .lit (.string (⟨#[58]⟩ ++ so))]) rfl rfl rfl rfl (by rfl) (Qha id _ (⟨#[58]⟩ ++ so) _ (hw2.n _ (by first | omega | (simp only []; omega))) (by assumption) (by assumption)) ?_
        rintro d σ1 ⟨gw, gf⟩
        refine Rg.nil ?_
        exact hK _ _ (fin _ _ (by rw [hv, ← ByteArray.append_assoc]; exact gw) (hf2.trans (gf.n _ (by first | omega | (simp only []; omega)))))
    · refine Dwp.condF (by simp [eval, upd, hu]) (Dwp.skip ?_)
      have hv : wrV x so = x := by simp [wrV, hu]
      refine fin _ _ (by rw [hv]; exact hw2.n _ (by first | omega | (simp only []; omega))) ?_
      exact hf2.trans (.n _ (by first | omega | (simp only []; omega)) (.refl _ _))
  intro lq hq
  obtain ⟨lp, hp9, rfl⟩ := List.mem_map.1 hq
  refine Rg.run tT rfl _ _ _ ?_
  simp only [List.mem_cons, List.not_mem_nil, or_false] at hp9
  rcases hp9 with rfl | rfl | rfl | rfl | rfl | rfl | rfl | rfl | rfl | rfl
  all_goals
    simp [Q4, QaC, Qam, Qab, init, Q5, QbS, Qbr]
    refine Rg.call (xs := [.ptr id 0, .lit (.string (x))]) rfl rfl rfl rfl (by rfl) (Qha id _ (x) _ (hw.n _ (by first | omega | (simp only []; omega))) (by assumption) (by assumption)) ?_
    rintro d σ1 ⟨gw, gf⟩
    refine Rg.nil ?_
    exact cont _ _ (by simp [QN, upd, init]) (by simp [QN, upd]) gw (gf.n _ (by first | omega | (simp only []; omega)))
end
end Go.Proofs.Yt
