/- Contracts of functions of the program, by a machine over abstract values; part 14. No condition beyond those of each theorem. -/
import Derived.Test.YtfpejlbfdpeofaaGreatDoorSm12
set_option linter.unusedVariables false
set_option linter.unusedSimpArgs false
namespace Go.Proofs.Yt
open Go Go.FA Go.Proofs Go.RowKit
set_option linter.unusedSimpArgs false
set_option maxRecDepth 100000
def mxI (a b : Int) : Int := if b > a then b else a
def QcN (t : Tm) (lv : Int) (x : Int × Int) : Bool × (Int × Int) := (decide (x.1 + 1 ≤ 2000) && (decide (mxI x.2 lv ≤ 60) && Qau t), (x.1 + 1, mxI x.2 lv))
def minv (id1 id2 : Nat) (x : Int × Int) (σ : St) : Prop := id1 ≠ id2 ∧ id1 < σ.n ∧ id2 < σ.n ∧ σ.objs id1 = some (.cells 3 [.lit (.int .i64 x.1)]) ∧ σ.objs id2 = some (.cells 3 [.lit (.int .i64 x.2)])
set_option maxHeartbeats 2000000 in
theorem h124 (id1 id2 : Nat) (t : Tm) (lv : Int) (x : Int × Int) (σ : St) (hok : okT t) (hlv0 : 0 ≤ lv) (hlv : lv ≤ 1099511627776) (hx : 0 ≤ x.1 ∧ x.1 ≤ 2000) (hi : minv id1 id2 x σ) :
    HC Tryz.prog 124 [.agg t.cells, .lit (.int .i64 lv), .ptr id1 0, .ptr id2 0] σ (fun e σ' => e = .lit (.bool (QcN t lv x).1) ∧ σ.n ≤ σ'.n ∧ minv id1 id2 (QcN t lv x).2 σ') := by
  obtain ⟨k, nn, z, s, ks, r⟩ := t
  obtain ⟨sz, dp⟩ := x
  obtain ⟨hne, hl1, hl2, ho1, ho2⟩ := hi
  have tT : QO Tryz.prog (QD [(125, s125)]) := .cons e125 .nil
  refine HC.of_body (T := QD [(125, s125)]) Tryz.func124 rfl (by decide) (Nat.le_of_ble_eq_true rfl) fun E => ?_
  have g := call125 (QD [(125, s125)]) rfl (.mk k nn z s ks r) hok
  generalize QD [(125, s125)] = T at *
  obtain ⟨nd, hnd⟩ : ∃ b, Qau (.mk k nn z s ks r) = b := ⟨_, rfl⟩
  obtain ⟨mx, hmx⟩ : ∃ m, mxI dp lv = m := ⟨_, rfl⟩
  obtain ⟨s1, hs1⟩ : ∃ m, sz + 1 = m := ⟨_, rfl⟩
  have hst : QcN (.mk k nn z s ks r) lv (sz, dp) = (decide (s1 ≤ 2000) && (decide (mx ≤ 60) && nd), (s1, mx)) := by simp only [QcN, hnd, hmx, hs1]
  rw [hst]
  have hne' : ¬ id1 = id2 := hne
  have hne2 : ¬ id2 = id1 := fun e => hne e.symm
  have hw : IntKind.i64.wrap (sz + 1) = s1 := by rw [← hs1]; exact Qed (by simp only [] at hx; omega) (by simp only [] at hx; omega)
  have hmx2 : (if dp < lv then lv else dp) = mx := hmx
  simp only [Q8] at g ⊢
  rw [hnd] at g
  let R : DV → St → Prop := fun e σ' => e = .lit (.bool (decide (s1 ≤ 2000) && (decide (mx ≤ 60) && nd))) ∧ σ.n ≤ σ'.n ∧ minv id1 id2 (s1, mx) σ'
  have fin : ∀ (a : Nat → DV) (σ' : St), a 6 = .lit (.bool (decide (s1 ≤ 2000) && (decide (mx ≤ 60) && nd))) → σ.n ≤ σ'.n → σ'.objs id1 = some (.cells 3 [.lit (.int .i64 s1)]) → σ'.objs id2 = some (.cells 3 [.lit (.int .i64 mx)]) → HDone Tryz.prog Tryz.f124.results R Ex.ret a σ' := by
    intro a σ' h6 hn q1 q2
    refine ⟨.inr rfl, _, ?_, rfl, hn, hne, by omega, by omega, q1, q2⟩
    show QG Tryz.prog σ' _ [ResultVar.tmp 6] = _
    simp [QG, QY, h6]
  refine Dwp.step tT rfl fun K hK => ?_
  simp [QB, QE, Qk, QJ, own, Ql, dop, QI, eval, Qx, QF, Ex.then, Ex.inBlock, upd, QK, Tag.isNN, Qm, intCmp, Qz, QA, TyI.agg, Qb, Qs, Qd, Qq, QL, QC, Qo, mapOf, Qw, Qn, Qe, Qh, Qf, Qt, DV.cells, Qr, Qg, Qp, Qu, rowsOf, Qv, growLimit, Qa, Qa.go, Qi, Qj, Qc, goInt, init, Q8]
  refine hK _ _ ?_ rfl; clear hK K
  refine Dwp.step tT rfl fun K hK => ?_
  simp [QB, QE, Qk, QJ, own, Ql, dop, QI, eval, Qx, QF, Ex.then, Ex.inBlock, upd, QK, Tag.isNN, Qm, intCmp, Qz, QA, TyI.agg, Qb, Qs, Qd, Qq, QL, QC, Qo, mapOf, Qw, Qn, Qe, Qh, Qf, Qt, DV.cells, Qr, Qg, Qp, Qu, rowsOf, Qv, growLimit, Qa, Qa.go, Qi, Qj, Qc, goInt, init, ty3, ho1, hw, setAt]
  refine hK _ _ ?_ rfl; clear hK K
  refine Dwp.step tT rfl fun K hK => ?_
  simp [QB, QE, Qk, QJ, own, Ql, dop, QI, eval, Qx, QF, Ex.then, Ex.inBlock, upd, QK, Tag.isNN, Qm, intCmp, Qz, QA, TyI.agg, Qb, Qs, Qd, Qq, QL, QC, Qo, mapOf, Qw, Qn, Qe, Qh, Qf, Qt, DV.cells, Qr, Qg, Qp, Qu, rowsOf, Qv, growLimit, Qa, Qa.go, Qi, Qj, Qc, goInt, init, ty3, ho2, hne2, setAt, hmx2]
  refine hK _ _ ?_ rfl; clear hK K
  clear hst hmx hs1 hnd hx hok hw
  refine Dwp.step tT rfl fun K hK => ?_
  repeat' ((first | refine QF.stepD rfl rfl ?_ | refine QF.stepG rfl rfl rfl ?_ | refine QF.stepN rfl rfl ?_ | refine QF.stepGN rfl rfl rfl ?_); intro K1 hK1; simp [*, QZ, QN, QJ, dop, eval, Qx, upd, Qb, Qs, Qz, QA, TyI.agg, Qd, Qq, Qh, Qf, QC, QL, goInt, QK, intCmp, Qm, Tag.isNN, Qc, DV.cells, growLimit, Qr, Qg, init, Qa0, ty3, ty9, QaF, Qaf, Q8, Ql]; (first | (refine hK1 _ _ ?_; clear hK1 K1) | (split <;> (rename_i hsp; (try simp only [beq_iff_eq, beq_eq_false_iff_ne, ne_eq, decide_eq_true_eq, decide_eq_false_iff_not] at hsp); (try (first | have hsq := Int.not_le.2 hsp | have hsq := Int.not_lt.2 hsp | have hsq := Int.not_le.1 hsp | have hsq := Int.not_lt.1 hsp)); (try subst hsp); (try simp only [hsp])) <;> (refine hK1 _ _ ?_; clear hK1 K1))))
  all_goals refine QF.done (hK _ _ (Dwp.ret ?_) rfl)
  all_goals refine fin _ _ ?_ ?_ ?_ ?_
  all_goals first | (show σ.n ≤ _; simp only []; omega) | (simp [upd, *])
def Qgb (id1 id2 : Nat) : Seer where
  X := Int × Int
  f := 124
  capt := [.ptr id1 0, .ptr id2 0]
  step := QcN
  inv := fun x σ => 0 ≤ x.1 ∧ x.1 ≤ 2000 ∧ minv id1 id2 x σ
  out := fun x σ => minv id1 id2 x σ
  call := fun t lv x σ hok h1 h2 ⟨hx1, hx2, hi⟩ => (h124 id1 id2 t lv x σ hok h1 h2 ⟨hx1, hx2⟩ hi).mono fun e σ' ⟨r1, r2, r3⟩ => ⟨r1, r2, fun hb => by
    simp only [QcN, Bool.and_eq_true, decide_eq_true_eq] at hb
    exact ⟨by simp only [QcN]; omega, by simp only [QcN]; omega, r3⟩, fun _ => r3⟩
  mono := fun x σ σ' ⟨hx1, hx2, h1, h2, h3, h4, h5⟩ hn ho ht => ⟨hx1, hx2, h1, by omega, by omega, by rw [ho _ h2]; exact h4, by rw [ho _ h3]; exact h5⟩
  monoO := fun x σ σ' ⟨h1, h2, h3, h4, h5⟩ hn ho ht => ⟨h1, by omega, by omega, by rw [ho _ h2]; exact h4, by rw [ho _ h3]; exact h5⟩
mutual
def Qgd : Tm → Bool
  | .mk k n x s ks r => Qau (.mk k n x s ks r) && (QaT ks && QaT r)
def QaT : List Tm → Bool
  | [] => true
  | t :: l => Qgd t && QaT l
end
mutual
def Qdc : Tm → Int
  | .mk k n x s ks r => 1 + mxI (QaY ks) (QaY r)
def QaY : List Tm → Int
  | [] => 0
  | t :: l => mxI (Qdc t) (QaY l)
end
def Gd (b : Bool) (n : Nat) (d lv : Int) (x : Int × Int) : Prop := b = true ∧ x.1 + n ≤ 2000 ∧ lv + d - 1 ≤ 60
def Rs (n : Nat) (d lv : Int) (x : Int × Int) : Int × Int := (x.1 + n, mxI x.2 (lv + d - 1))
mutual
theorem Qge : ∀ t : Tm, 1 ≤ Qdc t
  | .mk k n x s ks r => by have := QbQ ks; have := QbQ r; simp only [Qdc, mxI]; split <;> omega
theorem QbQ : ∀ l : List Tm, 0 ≤ QaY l
  | [] => by simp [QaY]
  | t :: l => by have := Qge t; have := QbQ l; simp only [QaY, mxI]; split <;> omega
end
mutual
theorem visT : ∀ (t : Tm) (lv : Int) (x : Int × Int), x.1 ≤ 2000 → 1 ≤ lv → lv - 1 ≤ x.2 → x.2 ≤ 60 →
    (Gd (Qgd t) (tsz t) (Qdc t) lv x → Qik QcN t lv x = (true, Rs (tsz t) (Qdc t) lv x)) ∧ (¬ Gd (Qgd t) (tsz t) (Qdc t) lv x → (Qik QcN t lv x).1 = false)
  | .mk k n z s ks r, lv, (a, b), h0, h1, h2, h3 => by
    have hd1 := QbQ ks
    have hd2 := QbQ r
    have hst : QcN (.mk k n z s ks r) lv (a, b) = (decide (a + 1 ≤ 2000) && (decide (mxI b lv ≤ 60) && Qau (.mk k n z s ks r)), (a + 1, mxI b lv)) := rfl
    rw [Qik, hst]
    simp only [Qgd, tsz, Qdc]
    simp only [] at h2 h3
    by_cases hs : (decide (a + 1 ≤ 2000) && (decide (mxI b lv ≤ 60) && Qau (.mk k n z s ks r))) = true
    · simp only [hs, if_true]
      simp only [Bool.and_eq_true, decide_eq_true_eq] at hs
      obtain ⟨s1, s2, s3⟩ := hs
      have hmb : lv ≤ mxI b lv ∧ b ≤ mxI b lv := by unfold mxI; split <;> omega
      obtain ⟨g1, g2⟩ := vissT ks (lv + 1) (a + 1, mxI b lv) s1 (by omega) (by simp only []; omega) s2
      by_cases hk : Gd (QaT ks) (Qbf ks) (QaY ks) (lv + 1) (a + 1, mxI b lv)
      · rw [g1 hk]
        simp only [if_true]
        obtain ⟨k1, k2, k3⟩ := hk
        simp only [] at k2
        have hmr : lv ≤ mxI (mxI b lv) (lv + 1 + QaY ks - 1) ∧ mxI (mxI b lv) (lv + 1 + QaY ks - 1) ≤ 60 := by
          have := s2; unfold mxI at *; constructor <;> (repeat' split) <;> (repeat' split at this) <;> omega
        obtain ⟨r1, r2⟩ := vissT r (lv + 1) (Rs (Qbf ks) (QaY ks) (lv + 1) (a + 1, mxI b lv)) (by simp only [Rs]; omega) (by omega) (by simp only [Rs]; omega) hmr.2
        constructor
        · intro hg
          obtain ⟨q1, q2, q3⟩ := hg
          simp only [Bool.and_eq_true] at q1
          simp only [] at q2
          rw [r1 ⟨q1.2.2, by simp only [Rs]; omega, by unfold mxI at q3; split at q3 <;> omega⟩]
          simp only [Rs, Prod.mk.injEq, true_and]
          constructor
          · omega
          · unfold mxI; (repeat' split) <;> omega
        · intro hg
          refine r2 fun hgr => hg ?_
          obtain ⟨q1, q2, q3⟩ := hgr
          simp only [Rs] at q2
          refine ⟨by simp [s3, k1, q1], by simp only []; omega, ?_⟩
          unfold mxI; split <;> omega
      · have hf := g2 hk
        rw [hf]
        simp only [Bool.false_eq_true, if_false]
        refine ⟨fun hg => absurd ?_ hk, fun _ => trivial⟩
        obtain ⟨q1, q2, q3⟩ := hg
        simp only [Bool.and_eq_true] at q1
        simp only [] at q2
        exact ⟨q1.2.1, by simp only []; omega, by unfold mxI at q3; split at q3 <;> omega⟩
    · have hs' : (decide (a + 1 ≤ 2000) && (decide (mxI b lv ≤ 60) && Qau (.mk k n z s ks r))) = false := by simpa using hs
      simp only [hs', Bool.false_eq_true, if_false]
      refine ⟨fun hg => absurd ?_ hs, fun _ => trivial⟩
      obtain ⟨q1, q2, q3⟩ := hg
      simp only [Bool.and_eq_true] at q1
      simp only [] at q2
      simp only [Bool.and_eq_true, decide_eq_true_eq]
      refine ⟨by omega, ?_, q1.1⟩
      unfold mxI at *; split <;> (split at q3) <;> omega
theorem vissT : ∀ (l : List Tm) (lv : Int) (x : Int × Int), x.1 ≤ 2000 → 1 ≤ lv → lv - 1 ≤ x.2 → x.2 ≤ 60 →
    (Gd (QaT l) (Qbf l) (QaY l) lv x → QcL QcN l lv x = (true, Rs (Qbf l) (QaY l) lv x)) ∧ (¬ Gd (QaT l) (Qbf l) (QaY l) lv x → (QcL QcN l lv x).1 = false)
  | [], lv, (a, b), h0, h1, h2, h3 => by
    simp only [] at h2 h3
    rw [QcL]
    simp only [QaT, Qbf, QaY]
    constructor
    · intro hg
      simp only [Rs, Prod.mk.injEq, true_and]
      constructor
      · omega
      · unfold mxI; split <;> omega
    · intro hg
      exact absurd ⟨rfl, by simp only [] at h0 ⊢; omega, by omega⟩ hg
  | t :: l, lv, (a, b), h0, h1, h2, h3 => by
    simp only [] at h0 h2 h3
    have hd1 := Qge t
    have hd2 := QbQ l
    rw [QcL]
    simp only [QaT, Qbf, QaY]
    obtain ⟨g1, g2⟩ := visT t lv (a, b) h0 h1 h2 h3
    by_cases hk : Gd (Qgd t) (tsz t) (Qdc t) lv (a, b)
    · rw [g1 hk]
      simp only [if_true]
      obtain ⟨k1, k2, k3⟩ := hk
      simp only [] at k2
      have hmr : lv - 1 ≤ mxI b (lv + Qdc t - 1) ∧ mxI b (lv + Qdc t - 1) ≤ 60 := by
        unfold mxI; constructor <;> (repeat' split) <;> omega
      obtain ⟨r1, r2⟩ := vissT l lv (Rs (tsz t) (Qdc t) lv (a, b)) (by simp only [Rs]; omega) h1 (by simp only [Rs]; omega) hmr.2
      constructor
      · intro hg
        obtain ⟨q1, q2, q3⟩ := hg
        simp only [Bool.and_eq_true] at q1
        simp only [] at q2
        rw [r1 ⟨q1.2, by simp only [Rs]; omega, by unfold mxI at q3; split at q3 <;> omega⟩]
        simp only [Rs, Prod.mk.injEq, true_and]
        constructor
        · omega
        · unfold mxI; (repeat' split) <;> omega
      · intro hg
        refine r2 fun hgr => hg ?_
        obtain ⟨q1, q2, q3⟩ := hgr
        simp only [Rs] at q2
        refine ⟨by simp [k1, q1], by simp only []; omega, ?_⟩
        unfold mxI; split <;> omega
    · have hf := g2 hk
      rw [hf]
      simp only [Bool.false_eq_true, if_false]
      refine ⟨fun hg => absurd ?_ hk, fun _ => trivial⟩
      obtain ⟨q1, q2, q3⟩ := hg
      simp only [Bool.and_eq_true] at q1
      simp only [] at q2
      exact ⟨q1.1, by simp only []; omega, by unfold mxI at q3; split at q3 <;> omega⟩
end
end Go.Proofs.Yt
namespace Go.Proofs.Yt
open Go Go.FA Go.Proofs Go.RowKit
set_option linter.unusedSimpArgs false
set_option maxRecDepth 100000
namespace Seer
variable (S : Seer)
theorem h92 (t : Tm) (x : S.X) (σ : St) (hlim : tsz t ≤ tlim) (hok : okT t) (hinv : S.inv x σ) :
    HC Tryz.prog 92 [.agg t.cells, S.fn] σ (fun e σ' => e = .lit (.bool (S.vis t 1 x).1) ∧ σ.n ≤ σ'.n ∧ ((S.vis t 1 x).1 = true → S.inv (S.vis t 1 x).2 σ') ∧ ((S.vis t 1 x).1 = false → S.out (S.vis t 1 x).2 σ')) := by
  have tT := Q5 (P := Tryz.prog)
  refine HC.of_body (T := QD []) Tryz.func92 rfl (by decide) (Nat.le_of_ble_eq_true rfl) fun E => ?_
  generalize QD [] = T at *
  have hcall := fun σ' hi => S.hAll (tsz t) t 1 x σ' (Nat.le_refl _) hlim hok (by omega) (by unfold tlim at hlim; omega) hi
  obtain ⟨fv, hfv⟩ : ∃ v, v = S.fn := ⟨_, rfl⟩
  rw [← hfv] at hcall ⊢
  refine Dwp.step tT rfl fun K hK => ?_
  simp [QB, QE, Qk, QJ, own, Ql, dop, QI, eval, Qx, QF, Ex.then, Ex.inBlock, upd, QK, Tag.isNN, Qm, intCmp, Qz, QA, TyI.agg, Qb, Qs, Qd, Qq, QL, QC, Qo, mapOf, Qw, Qn, Qe, Qh, Qf, Qt, DV.cells, Qr, Qg, Qp, Qu, rowsOf, Qv, growLimit, Qa, Qa.go, Qi, Qj, Qc, goInt, init, Tm.cells_len, Q6]
  refine hK _ _ ?_ rfl; clear hK K
  refine Dwp.stepH fun K hK => ?_
  show Rg _ _ _ _ K ([0, 1] ++ (2 :: ([3] ++ []))) _ _
  refine Rg.run tT rfl _ _ _ ?_
  simp [Qbn, Qe2, QbJ, QB, QE, Qk, QJ, own, Ql, dop, QI, eval, Qx, QF, Ex.then, Ex.inBlock, upd, QK, Tag.isNN, Qm, intCmp, Qz, QA, TyI.agg, Qb, Qs, Qd, Qq, QL, QC, Qo, mapOf, Qw, Qn, Qe, Qh, Qf, Qt, DV.cells, Qr, Qg, Qp, Qu, rowsOf, Qv, growLimit, Qa, Qa.go, Qi, Qj, Qc, goInt, init, Qaf, Tm.cells_len, Q6]
  refine Rg.call (xs := [.agg t.cells, .lit (.int .i64 1), fv]) rfl rfl rfl rfl (by simp [Qh, eval, upd, init, Qx]) (hcall _ (S.mono x σ _ hinv (by show σ.n ≤ σ.n + 2; omega) (by simp) (by simp))) ?_
  rintro e τ ⟨rfl, hnn, hi1, ho1⟩
  have hn2 : σ.n + 2 ≤ τ.n := hnn
  show Rg _ _ _ _ K ([3] ++ []) _ _
  refine Rg.run tT rfl _ _ _ ?_
  simp [Qbn, Qe2, QbJ, QB, QE, Qk, QJ, own, Ql, dop, QI, eval, Qx, QF, Ex.then, Ex.inBlock, upd, QK, Tag.isNN, Qm, intCmp, Qz, QA, TyI.agg, Qb, Qs, Qd, Qq, QL, QC, Qo, mapOf, Qw, Qn, Qe, Qh, Qf, Qt, DV.cells, Qr, Qg, Qp, Qu, rowsOf, Qv, growLimit, Qa, Qa.go, Qi, Qj, Qc, goInt]
  refine Rg.nil (hK _ _ (Dwp.ret ?_))
  refine ⟨.inr rfl, .lit (.bool (S.vis t 1 x).1), ?_, rfl, by omega, hi1, ho1⟩
  show QG Tryz.prog τ _ [ResultVar.tmp 4] = _
  simp [QG, QY, upd]
end Seer
def QaD (t : Tm) : Bool := Qgd t && (decide (tsz t ≤ 2000) && decide (Qdc t ≤ 60))
def Qb3 (t : Tm) : Int × Int × Int := if QaD t = true then (tsz t, Qdc t, 0) else (0, 0, 2)
def Enc.meas : Enc (Int × Int × Int) := Enc.tup (Q0 Enc.i64 Enc.i64 Enc.i64)
open Classical in
noncomputable def s76 : Sp := sp (QS Enc.tm) Enc.meas (fun t => if okT t ∧ tsz t ≤ tlim then some (Qb3 t) else none)
theorem vis_valid (t : Tm) : (QaD t = true → Qik QcN t 1 ((0, 0) : Int × Int) = (true, ((tsz t : Int), Qdc t))) ∧ (QaD t = false → (Qik QcN t 1 ((0, 0) : Int × Int)).1 = false) := by
  obtain ⟨h1, h2⟩ := visT t 1 (0, 0) (by simp) (by omega) (by simp) (by simp)
  have hd := Qge t
  constructor
  · intro h
    simp only [QaD, Bool.and_eq_true, decide_eq_true_eq] at h
    rw [h1 ⟨h.1, by simp only []; omega, by omega⟩]
    simp only [Rs, Prod.mk.injEq, true_and]
    constructor
    · omega
    · unfold mxI; split <;> omega
  · intro h
    refine h2 fun hg => ?_
    obtain ⟨q1, q2, q3⟩ := hg
    simp only [] at q2
    have : QaD t = true := by
      simp only [QaD, Bool.and_eq_true, decide_eq_true_eq]
      exact ⟨q1, by omega, by omega⟩
    rw [h] at this; cases this
set_option maxHeartbeats 2000000 in
theorem c76 : Qy Tryz.prog 76 s76 := by
  refine Qy.of_sp (T := QD []) Tryz.func76 rfl (Nat.le_of_ble_eq_true rfl) fun E t y hy => ?_
  split at hy
  case isFalse => cases hy
  next hlim =>
  obtain ⟨hok, hl⟩ := hlim
  cases hy
  have tT := Q5 (P := Tryz.prog)
  generalize QD [] = T at *
  obtain ⟨v1, v2⟩ := vis_valid t
  refine Dwp.step tT rfl fun K hK => ?_
  simp [QB, QE, Qk, QJ, own, Ql, dop, QI, eval, Qx, QF, Ex.then, Ex.inBlock, upd, QK, Tag.isNN, Qm, intCmp, Qz, QA, TyI.agg, Qb, Qs, Qd, Qq, QL, QC, Qo, mapOf, Qw, Qn, Qe, Qh, Qf, Qt, DV.cells, Qr, Qg, Qp, Qu, rowsOf, Qv, growLimit, Qa, Qa.go, Qi, Qj, Qc, goInt, init, QS, QH.one, Enc.tm, Enc.agg, QH.tm, Tm.cells_len, Q6, ty3]
  refine hK _ _ ?_ rfl; clear hK K
  refine Dwp.stepH fun K hK => ?_
  show Rg _ _ _ _ K ([0, 1] ++ (2 :: ([3] ++ []))) _ _
  refine Rg.run tT rfl _ _ _ ?_
  simp [Qbn, Qe2, QbJ, QB, QE, Qk, QJ, own, Ql, dop, QI, eval, Qx, QF, Ex.then, Ex.inBlock, upd, QK, Tag.isNN, Qm, intCmp, Qz, QA, TyI.agg, Qb, Qs, Qd, Qq, QL, QC, Qo, mapOf, Qw, Qn, Qe, Qh, Qf, Qt, DV.cells, Qr, Qg, Qp, Qu, rowsOf, Qv, growLimit, Qa, Qa.go, Qi, Qj, Qc, goInt, init, Qaf, Tm.cells_len, Q6]
  have hS : (Qgb (σ0.n + 1) (σ0.n + 2)).fn = .func (.func 124) [] [.ptr (σ0.n + 1) 0, .ptr (σ0.n + 2) 0] := rfl
  have hV : ∀ x : Int × Int, (Qgb (σ0.n + 1) (σ0.n + 2)).vis t 1 x = Qik QcN t 1 x := fun _ => rfl
  have hc := fun σ' hi => (Qgb (σ0.n + 1) (σ0.n + 2)).h92 t ((0, 0) : Int × Int) σ' hl hok hi
  refine Rg.call (xs := [.agg t.cells, .func (.func 124) [] [.ptr (σ0.n + 1) 0, .ptr (σ0.n + 2) 0]]) rfl rfl rfl rfl (by simp [Qh, eval, upd, init, Qx]) (hc _ ⟨by simp, by simp, by omega, by show σ0.n + 1 < σ0.n + 4; omega, by show σ0.n + 2 < σ0.n + 4; omega, by simp [upd], by simp [upd]⟩) ?_
  rintro e τ ⟨rfl, hnn, hi1, ho1⟩
  show Rg _ _ _ _ K ([3] ++ []) _ _
  refine Rg.run tT rfl _ _ _ ?_
  simp [Qbn, Qe2, QbJ, QB, QE, Qk, QJ, own, Ql, dop, QI, eval, Qx, QF, Ex.then, Ex.inBlock, upd, QK, Tag.isNN, Qm, intCmp, Qz, QA, TyI.agg, Qb, Qs, Qd, Qq, QL, QC, Qo, mapOf, Qw, Qn, Qe, Qh, Qf, Qt, DV.cells, Qr, Qg, Qp, Qu, rowsOf, Qv, growLimit, Qa, Qa.go, Qi, Qj, Qc, goInt]
  refine Rg.nil (hK _ _ ?_)
  clear hK K
  rw [hV] at hi1 ho1 ⊢
  refine Dwp.seq ?_
  refine Dwp.step tT rfl fun K hK => ?_
  rcases hb : QaD t with _ | _
  · have hvf := v2 hb
    obtain ⟨_, q1, q2, q3, q4⟩ := ho1 hvf
    rw [hvf]
    simp [QB, QE, Qk, QJ, own, Ql, dop, QI, eval, Qx, QF, Ex.then, Ex.inBlock, upd, QK, Tag.isNN, Qm, intCmp, Qz, QA, TyI.agg, Qb, Qs, Qd, Qq, QL, QC, Qo, mapOf, Qw, Qn, Qe, Qh, Qf, Qt, DV.cells, Qr, Qg, Qp, Qu, rowsOf, Qv, growLimit, Qa, Qa.go, Qi, Qj, Qc, goInt]
    refine hK _ _ ?_ rfl; clear hK K
    refine Dwp.condT (by simp [eval, upd]) ?_
    refine Dwp.step tT rfl fun K hK => ?_
    simp [QB, QE, Qk, QJ, own, Ql, dop, QI, eval, Qx, QF, Ex.then, Ex.inBlock, upd, QK, Tag.isNN, Qm, intCmp, Qz, QA, TyI.agg, Qb, Qs, Qd, Qq, QL, QC, Qo, mapOf, Qw, Qn, Qe, Qh, Qf, Qt, DV.cells, Qr, Qg, Qp, Qu, rowsOf, Qv, growLimit, Qa, Qa.go, Qi, Qj, Qc, goInt, ty3, q3, q4, setAt]
    refine hK _ _ (Dwp.ret ?_) rfl
    have hm : Qb3 t = (0, 0, 2) := by simp [Qb3, hb]
    rw [hm]
    simp [Q1, QG, QY, frz, QW, QX, Ex.then, upd, Enc.meas, Enc.tup, Q0, QH.and, QH.one, Enc.i64, Enc.int, q3, q4, Qz, ty3, QA, TyI.agg]
  · have hvt := v1 hb
    rw [hvt] at hi1
    obtain ⟨_, _, _, q1, q2, q3, q4⟩ := hi1 rfl
    rw [hvt]
    simp [QB, QE, Qk, QJ, own, Ql, dop, QI, eval, Qx, QF, Ex.then, Ex.inBlock, upd, QK, Tag.isNN, Qm, intCmp, Qz, QA, TyI.agg, Qb, Qs, Qd, Qq, QL, QC, Qo, mapOf, Qw, Qn, Qe, Qh, Qf, Qt, DV.cells, Qr, Qg, Qp, Qu, rowsOf, Qv, growLimit, Qa, Qa.go, Qi, Qj, Qc, goInt]
    refine hK _ _ ?_ rfl; clear hK K
    refine Dwp.condF (by simp [eval, upd]) (Dwp.skip ?_)
    have hne : ¬ σ0.n + 1 = σ0.n + 2 := by omega
    refine Dwp.drawStep [.robj (σ0.n + 1), .robj (σ0.n + 2), .wobj (σ0.n + 1), .wobj (σ0.n + 2), .none] mixed tT rfl rfl fun K hK => ?_
    simp [Qcr, touch, Qba, Qcs, QB, QE, Qk, QJ, own, Ql, dop, QI, eval, Qx, QF, Ex.then, Ex.inBlock, upd, QK, Tag.isNN, Qm, intCmp, Qz, QA, TyI.agg, Qb, Qs, Qd, Qq, QL, QC, Qo, mapOf, Qw, Qn, Qe, Qh, Qf, Qt, DV.cells, Qr, Qg, Qp, Qu, rowsOf, Qv, growLimit, Qa, Qa.go, Qi, Qj, Qc, goInt, ty3, q3, q4, setAt]
    refine hK _ _ (Dwp.ret ?_) rfl
    have hm : Qb3 t = ((tsz t : Int), Qdc t, (0 : Int)) := by simp [Qb3, hb]
    rw [hm]
    simp [Q1, QG, QY, frz, QW, QX, Ex.then, upd, Enc.meas, Enc.tup, Q0, QH.and, QH.one, Enc.i64, Enc.int, q3, q4, Qz, ty3, QA, TyI.agg]
theorem e76 : Go.FA.Good Tryz.prog (76, s76) := ⟨c76, Tryz.f76, _, Tryz.func76, rfl, by decide⟩
open Classical in
theorem QiS (T : Tab) (hT : T 76 = some s76) (t : Tm) (h : okT t) (h2 : tsz t ≤ tlim) : dcall T 76 [.agg t.cells] = some (.tuple [.lit (.int .i64 (Qb3 t).1), .lit (.int .i64 (Qb3 t).2.1), .lit (.int .i64 (Qb3 t).2.2)]) :=
  QaI (A := Enc.tm) (B := Enc.meas) hT (if_pos ⟨h, h2⟩)
open Classical in
noncomputable def s23 : Sp := sp (QS Enc.tm) Enc.bool (fun t => if okT t ∧ tsz t ≤ tlim then some (QaD t) else none)
theorem c23 : Qy Tryz.prog 23 s23 := by
  refine Qy.of_sp (T := QD [(76, s76)]) Tryz.func23 rfl (Nat.le_of_ble_eq_true rfl) fun E t y hy => ?_
  split at hy
  case isFalse => cases hy
  next hlim =>
  obtain ⟨hok, hl⟩ := hlim
  cases hy
  have tT : QO Tryz.prog (QD [(76, s76)]) := .cons e76 .nil
  have g := QiS (QD [(76, s76)]) rfl t hok hl
  generalize QD [(76, s76)] = T at *
  refine Dwp.step tT rfl fun K hK => ?_
  simp [QB, QE, Qk, QJ, own, Ql, dop, QI, eval, Qx, QF, Ex.then, Ex.inBlock, upd, QK, Tag.isNN, Qm, intCmp, Qz, QA, TyI.agg, Qb, Qs, Qd, Qq, QL, QC, Qo, mapOf, Qw, Qn, Qe, Qh, Qf, Qt, DV.cells, Qr, Qg, Qp, Qu, rowsOf, Qv, growLimit, Qa, Qa.go, Qi, Qj, Qc, goInt, init, QS, QH.one, Enc.tm, Enc.agg, QH.tm, Tm.cells_len, Q6]
  refine hK _ _ ?_ rfl; clear hK K
  refine Dwp.step tT rfl fun K hK => ?_
  simp [QB, QE, Qk, QJ, own, Ql, dop, QI, eval, Qx, QF, Ex.then, Ex.inBlock, upd, QK, Tag.isNN, Qm, intCmp, Qz, QA, TyI.agg, Qb, Qs, Qd, Qq, QL, QC, Qo, mapOf, Qw, Qn, Qe, Qh, Qf, Qt, DV.cells, Qr, Qg, Qp, Qu, rowsOf, Qv, growLimit, Qa, Qa.go, Qi, Qj, Qc, goInt, init, Qaf, Tm.cells_len, Q6, g]
  refine hK _ _ ?_ rfl; clear hK K
  refine Dwp.step tT rfl fun K hK => ?_
  simp [QB, QE, Qk, QJ, own, Ql, dop, QI, eval, Qx, QF, Ex.then, Ex.inBlock, upd, QK, Tag.isNN, Qm, intCmp, Qz, QA, TyI.agg, Qb, Qs, Qd, Qq, QL, QC, Qo, mapOf, Qw, Qn, Qe, Qh, Qf, Qt, DV.cells, Qr, Qg, Qp, Qu, rowsOf, Qv, growLimit, Qa, Qa.go, Qi, Qj, Qc, goInt, init]
  refine hK _ _ (Dwp.ret ?_) rfl
  refine QaS Tryz.func23 rfl _ ?_
  rcases hb : QaD t with _ | _ <;> simp [upd, Qb3, hb]
theorem e23 : Go.FA.Good Tryz.prog (23, s23) := ⟨c23, Tryz.f23, _, Tryz.func23, rfl, by decide⟩
open Classical in
theorem call23 (T : Tab) (hT : T 23 = some s23) (t : Tm) (h : okT t) (h2 : tsz t ≤ tlim) : dcall T 23 [.agg t.cells] = some (.lit (.bool (QaD t))) :=
  QaI (A := Enc.tm) (B := Enc.bool) hT (if_pos ⟨h, h2⟩)
end Go.Proofs.Yt




