/- Contracts of functions of the program, by a machine over abstract values; part 18. No condition beyond those of each theorem. -/
import Derived.Test.YtfpejlbfdpeofaaGreatDoorSm16
set_option linter.unusedVariables false
set_option linter.unusedSimpArgs false
namespace Go.Proofs.Yt
open Go Go.FA Go.Proofs Go.RowKit
set_option maxRecDepth 100000
section
attribute [local simp] QF QZ Qo QJ own Qm dop QN eval Qr Qn Ex.then Ex.inBlock upd QV Tag.isNN Qp intCmp Qv Qx TyI.agg Qa Qu Qg Qs QX QA QD mapOf QQ QC Qq Qi Qj QI DV.cells Qt Qk QE QK rowsOf QL Qd Qe Qe.go Qz QB Qc goInt
def QfW {α : Type} (f : Nat → α → ByteArray) : Nat → List α → ByteArray
  | _, [] => ⟨#[]⟩
  | i, x :: l => f i x ++ QfW f (i + 1) l
theorem QgI {α : Type} (f : Nat → α → ByteArray) : ∀ (l m : List α) (i : Nat), QfW f i (l ++ m) = QfW f i l ++ QfW f (i + l.length) m
  | [], m, i => by simp only [QfW, List.nil_append, List.length_nil, Nat.add_zero]; exact ByteArray.empty_append.symm
  | x :: l, m, i => by simp only [QfW, List.cons_append, QgI f l m (i + 1), List.length_cons, ByteArray.append_assoc]; rw [show i + 1 + l.length = i + (l.length + 1) by omega]
theorem Qho {α : Type} (f : Nat → α → ByteArray) (l : List α) (i : Nat) (hi : i < l.length) : QfW f 0 (l.take (i + 1)) = QfW f 0 (l.take i) ++ f i l[i] := by
  rw [List.take_succ_eq_append_getElem hi, QgI]
  simp only [QfW, List.length_take, Nat.zero_add, Nat.min_eq_left (Nat.le_of_lt hi)]
  rw [show (f i l[i] ++ (⟨#[]⟩ : ByteArray)) = f i l[i] from ByteArray.append_empty]
theorem QjE {α : Type} (f : Nat → α → ByteArray) (l : List α) (i : Nat) : (QfW f 0 (l.take i)).size ≤ (QfW f 0 l).size := by
  have h : QfW f 0 l = QfW f 0 (l.take i ++ l.drop i) := by rw [List.take_append_drop]
  rw [h, QgI, ByteArray.size_append]; omega
theorem Wr.upd {id : Nat} {s : ByteArray} {τ τ' : St} (h : Wr id s τ) (hn : τ.n ≤ τ'.n) (he : ∀ j, j < τ.n → τ'.objs j = τ.objs j) : Wr id s τ' := by
  obtain ⟨h1, p, x, h2, h3, h4⟩ := h
  refine ⟨Nat.lt_of_lt_of_le h1 hn, p, x, by rw [he _ h1]; exact h2, h3, ?_⟩
  rcases h4 with h4 | ⟨b, h5, h6, h7⟩
  · exact .inl h4
  · exact .inr ⟨b, Nat.lt_of_lt_of_le h5 hn, h6, by rw [he _ h5]; exact h7⟩
theorem Fr.upd {id : Nat} {σ τ τ' : St} (h : Fr id σ τ) (hn : τ.n ≤ τ'.n) (he : ∀ j, j < τ.n → τ'.objs j = τ.objs j) : Fr id σ τ' :=
  h.trans ⟨hn, fun j hj _ _ => he j hj⟩
theorem Fr.m {id n : Nat} {σ τ : St} (h : Fr id σ τ) (hn : τ.n ≤ n) : Fr id σ { τ with n := n } := h.upd hn fun _ _ => rfl
def wrR (ne : Bool) (r : List Tm) : ByteArray := QfW (fun _ v => (if ne = true then ⟨#[32]⟩ else ⟨#[]⟩) ++ (⟨#[124, 32]⟩ ++ v.text)) 0 r
set_option maxHeartbeats 4000000 in
theorem h167 (id : Nat) (s : ByteArray) (k n : Int) (x so : ByteArray) (ks r : List Tm) (σ : St) (hw : Wr id s σ) (hlen : r.length ≤ 1048576 ∧ ks.length ≤ 1048576) (hl : s.size + (wrR (decide (0 < ks.length)) r).size ≤ 16777216) :
    HC Tryz.prog 167 [.ptr id 0, .agg (Tm.mk k n x so ks r).cells] σ (fun _ σ' => Wr id (s ++ wrR (decide (0 < ks.length)) r) σ' ∧ Fr id σ σ') := by
  have tT := Q9 (P := Tryz.prog)
  refine HC.of_body (T := Qf []) Tryz.func167 rfl (by decide) (Nat.le_of_ble_eq_true rfl) fun E => ?_
  generalize Qf [] = T at *
  obtain ⟨ne, hne⟩ : ∃ b, b = decide (0 < ks.length) := ⟨_, rfl⟩
  rw [← hne] at hl ⊢
  simp only [QG]
  obtain ⟨hr1, hk1⟩ := hlen
  refine Dwp.step tT rfl fun K hK => ?_
  simp [init, QG]
  refine hK _ _ ?_ rfl; clear hK K
  have hid := hw.1
  refine Dwp.step tT rfl fun K hK => ?_
  simp [Q5, Qak]
  refine hK _ _ ?_ rfl; clear hK K
  refine Dwp.range tT r.length (fun i a τ => a 0 = .ptr id 0 ∧ a 3 = .row [.lit (.int .i64 k), .lit (.int .i64 n), .lit (.string x), .lit (.string so), .slice 6 .none (ks.map Tm.cells), .slice 6 .none (r.map Tm.cells)] 0 ∧ a 7 = .slice 6 .none (r.map Tm.cells) ∧ Wr id (s ++ wrR ne (r.take i)) τ ∧ Fr id σ τ)
    ⟨rfl, rfl, rfl⟩ ⟨rfl, rfl, rfl⟩ ⟨rfl, rfl, rfl⟩ (by decide) (by decide) (by omega) (by simp [upd]) (by simp [upd]) ⟨by simp [upd, init], by simp [upd], by simp [upd], ?_, ?_⟩ ?_ ?_
  · have h0 : s ++ wrR ne (r.take 0) = s := by simp only [List.take_zero, wrR, QfW]; exact ByteArray.append_empty
    rw [h0]; exact hw.n _ (by first | omega | (simp only []; omega))
  · exact .n _ (by first | omega | (simp only []; omega)) (.refl _ _)
  · rintro i a τ hi hidx hlen ⟨g0, g3, g7, gw, gf⟩
    have hnx : wrR ne (r.take (i + 1)) = wrR ne (r.take i) ++ ((if ne = true then ⟨#[32]⟩ else ⟨#[]⟩) ++ (⟨#[124, 32]⟩ ++ r[i].text)) := Qho _ r i hi
    have hle : s.size + (wrR ne (r.take (i + 1))).size ≤ 16777216 := Nat.le_trans (Nat.add_le_add_left (QjE _ r (i + 1)) _) hl
    refine Dwp.step tT rfl fun K hK => ?_
    simp [g7, hidx, Qak, Q5, hi, Tm.cells_len, QT, Qky]
    refine hK _ _ ?_ rfl; clear hK K
    refine Dwp.seq ?_
    refine Dwp.step tT rfl fun K hK => ?_
    simp [g3, Qak, Q5]
    refine hK _ _ ?_ rfl
    have hid2 := gw.1
    have gw1 : Wr id (s ++ wrR ne (r.take i)) { n := τ.n + 1 + 4 + 4, objs := upd (upd τ.objs (τ.n + 1 + 2) (some (.cells 30 [.lit (.int .i64 0), .lit (.int .i64 0), .lit (.string ⟨#[]⟩), .lit (.string ⟨#[]⟩), .lit (.slice none 0 0), .lit (.slice none 0 0)]))) (τ.n + 1 + 2) (some (.cells 30 r[i].cells)), toks := τ.toks } :=
      gw.upd (by simp only []; omega) fun j hj => by have : j ≠ τ.n + 1 + 2 := by omega
                                                     simp [upd, this]
    have gf1 : Fr id σ { n := τ.n + 1 + 4 + 4, objs := upd (upd τ.objs (τ.n + 1 + 2) (some (.cells 30 [.lit (.int .i64 0), .lit (.int .i64 0), .lit (.string ⟨#[]⟩), .lit (.string ⟨#[]⟩), .lit (.slice none 0 0), .lit (.slice none 0 0)]))) (τ.n + 1 + 2) (some (.cells 30 r[i].cells)), toks := τ.toks } :=
      gf.upd (by simp only []; omega) fun j hj => by have : j ≠ τ.n + 1 + 2 := by omega
                                                     simp [upd, this]
    have gk : decide (0 < ks.length) = ne := hne.symm
    simp only [gk]
    have hm : τ.n + 1 + 2 < τ.n + 1 + 4 + 4 := by omega
    have hmi : τ.n + 1 + 2 ≠ id := by omega
    have hv1 : (⟨#[32]⟩ : ByteArray).size ≠ 0 := by decide
    have e32 : (⟨#[32]⟩ : ByteArray).size = 1 := rfl
    have e124 : (⟨#[124, 32]⟩ : ByteArray).size = 2 := rfl
    have ht2 : (⟨#[124, 32]⟩ ++ r[i].text : ByteArray).size ≠ 0 := by
      rw [ByteArray.size_append]; omega
    have hle2 : (s ++ wrR ne (r.take i)).size + ((if ne = true then ⟨#[32]⟩ else ⟨#[]⟩ : ByteArray).size + (⟨#[124, 32]⟩ ++ r[i].text : ByteArray).size) ≤ 16777216 := by
      rw [hnx] at hle; simp only [ByteArray.size_append] at hle ⊢; omega
    have hcat : (⟨#[124, 32]⟩ : ByteArray).size + r[i].text.size < 4611686018427387904 := by
      simp only [ByteArray.size_append] at hle2; omega
    have hob : ∀ z, (upd (upd τ.objs (τ.n + 1 + 2) z) (τ.n + 1 + 2) (some (.cells 30 r[i].cells))) (τ.n + 1 + 2) = some (.cells 30 r[i].cells) := fun z => by simp [upd]
    generalize hmm : τ.n + 1 + 2 = m at *
    refine Dwp.mono (Q := fun e a' τ' => e = .normal ∧ a' 0 = .ptr id 0 ∧ a' 3 = .row [.lit (.int .i64 k), .lit (.int .i64 n), .lit (.string x), .lit (.string so), .slice 6 .none (ks.map Tm.cells), .slice 6 .none (r.map Tm.cells)] 0 ∧ a' 7 = .slice 6 .none (r.map Tm.cells) ∧
      a' 8 = .lit (.int .i64 r.length) ∧ a' 9 = .lit (.int .i64 i) ∧ a' 5 = .ptr m 0 ∧ τ'.objs m = some (.cells 30 r[i].cells) ∧ Wr id (s ++ wrR ne (r.take i) ++ (if ne = true then ⟨#[32]⟩ else ⟨#[]⟩)) τ' ∧ Fr id σ τ') ?_ ?_
    · cases ne
      · refine Dwp.condF (by simp [eval, upd]) (Dwp.skip ?_)
        refine ⟨rfl, by simp [upd, g0], by simp [upd, g3], by simp [upd, g7], by simp [upd, hlen], by simp [upd, hidx], by simp [upd], hob _, ?_, gf1⟩
        rw [if_neg (by decide), show ∀ y : ByteArray, y ++ (⟨#[]⟩ : ByteArray) = y from fun y => ByteArray.append_empty]
        exact gw1
      · refine Dwp.condT (by simp [eval, upd]) ?_
        refine Dwp.regH fun K hK => ?_
        show Rg _ _ _ _ K ([0, 1, 2] ++ (3 :: [])) _ _
        refine Rg.run tT rfl _ _ _ ?_
        simp [Q4, QaC, Qam, Qab, g0, QbS, Qbr]
        refine Rg.call (xs := [.ptr id 0, .lit (.string ⟨#[32]⟩)]) rfl rfl rfl rfl (by rfl) (Qha id _ ⟨#[32]⟩ _ (gw1.n _ (by first | omega | (simp only []; omega))) hv1 (by rw [if_pos rfl] at hle2; omega)) ?_
        rintro d σ1 ⟨gw2, gf2⟩
        refine Rg.nil (hK _ _ ?_)
        have gf3 := gf2.2 m (by simp only []; omega) hmi (by intro t bs; simp only [hob]; simp)
        simp only [hob] at gf3
        refine ⟨rfl, by simp [QN, upd, g0], by simp [QN, upd, g3], by simp [QN, upd, g7], by simp [QN, upd, hlen], by simp [QN, upd, hidx], by simp [QN, upd], gf3, gw2, gf1.trans (gf2.n _ (by first | omega | (simp only []; omega)))⟩
    · rintro e a' τ' ⟨rfl, h0, h3, h7, h8, h9, h5, h6, h10, h11⟩
      show Dwp _ _ _ _ _ _ _ _
      refine Dwp.ordH ([[0, 1, 2, 3, 4, 5], [0, 1, 3, 2, 4, 5], [0, 1, 3, 4, 2, 5], [0, 1, 3, 4, 5, 2], [0, 3, 1, 2, 4, 5], [0, 3, 1, 4, 2, 5], [0, 3, 1, 4, 5, 2], [0, 3, 4, 1, 2, 5], [0, 3, 4, 1, 5, 2], [0, 3, 4, 5, 1, 2], [3, 0, 1, 2, 4, 5], [3, 0, 1, 4, 2, 5], [3, 0, 1, 4, 5, 2], [3, 0, 4, 1, 2, 5], [3, 0, 4, 1, 5, 2], [3, 0, 4, 5, 1, 2], [3, 4, 0, 1, 2, 5], [3, 4, 0, 1, 5, 2], [3, 4, 0, 5, 1, 2], [3, 4, 5, 0, 1, 2]].map (· ++ [6])) mixed (by kernel_rfl) fun K hK => ?_
      have hl2 : (s ++ wrR ne (r.take i) ++ (if ne = true then ⟨#[32]⟩ else ⟨#[]⟩)).size + (⟨#[124, 32]⟩ ++ r[i].text : ByteArray).size ≤ 16777216 := by
        rw [ByteArray.size_append]; omega
      have hc2 : r[i].cells[2]? = some (.lit (.string r[i].text)) := by cases r[i]; rfl
      have hfin : s ++ wrR ne (r.take i) ++ (if ne = true then ⟨#[32]⟩ else ⟨#[]⟩) ++ (⟨#[124, 32]⟩ ++ r[i].text) = s ++ wrR ne (r.take (i + 1)) := by
        rw [hnx]; simp only [ByteArray.append_assoc]
      intro lq hq
      obtain ⟨lp, hp9, rfl⟩ := List.mem_map.1 hq
      refine Rg.run tT rfl _ _ _ ?_
      simp only [List.mem_cons, List.not_mem_nil, or_false] at hp9
      rcases hp9 with rfl | rfl | rfl | rfl | rfl | rfl | rfl | rfl | rfl | rfl | rfl | rfl | rfl | rfl | rfl | rfl | rfl | rfl | rfl | rfl
      all_goals
        simp [Q4, QaC, Qam, Qab, h0, h5, h6, hc2, Q5, QbS, Qbr, ty9, hcat]
        refine Rg.call (xs := [.ptr id 0, .lit (.string (⟨#[124, 32]⟩ ++ r[i].text))]) rfl rfl rfl rfl (by rfl) (Qha id _ (⟨#[124, 32]⟩ ++ r[i].text) _ (h10.n _ (by first | omega | (simp only []; omega))) (by assumption) (by assumption)) ?_
        rintro d σ1 ⟨gw, gf⟩
        refine Rg.nil ?_
        exact hK _ _ ⟨by simp [QN, upd, h9], by simp [QN, upd, h8], by simp [QN, upd, h0], by simp [QN, upd, h3], by simp [QN, upd, h7], by rw [← hfin]; exact gw.n _ (Nat.le_add_right _ _), (h11.trans (gf.n _ (by first | omega | (simp only []; omega)))).m (Nat.le_add_right _ _)⟩
  · rintro a τ hidx hlen ⟨g0, g3, g7, gw, gf⟩
    rw [List.take_length] at gw
    exact ⟨.inl rfl, .tuple [], by show Qh Tryz.prog _ _ [] = _; simp [Qh, QW], gw.n _ (by first | omega | (simp only []; omega)), gf.trans (.n _ (by first | omega | (simp only []; omega)) (.refl _ _))⟩
end
end Go.Proofs.Yt
