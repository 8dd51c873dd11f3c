/- Contracts of functions of the program, by a machine over abstract values; part 17. No condition beyond those of each theorem. -/
import Derived.Test.YtfpejlbfdpeofaaGreatDoorSm15
set_option linter.unusedVariables false
set_option linter.unusedSimpArgs false
namespace Go.Proofs.Yt
open Go Go.FA Go.Proofs Go.RowKit
set_option linter.unusedSimpArgs false
set_option maxRecDepth 100000
def mxI (a b : Int) : Int := if b > a then b else a
def QcI (t : Tm) (lv : Int) (x : Int × Int) : Bool × (Int × Int) := (decide (x.1 + 1 ≤ 2000) && (decide (mxI x.2 lv ≤ 60) && Qas t), (x.1 + 1, mxI x.2 lv))
def minv (id1 id2 : Nat) (x : Int × Int) (σ : St) : Prop := id1 ≠ id2 ∧ id1 < σ.n ∧ id2 < σ.n ∧ σ.objs id1 = some (.cells 3 [.lit (.int .i64 x.1)]) ∧ σ.objs id2 = some (.cells 3 [.lit (.int .i64 x.2)])
set_option maxHeartbeats 2000000 in
theorem h124 (id1 id2 : Nat) (t : Tm) (lv : Int) (x : Int × Int) (σ : St) (hok : okT t) (hlv0 : 0 ≤ lv) (hlv : lv ≤ 1099511627776) (hx : 0 ≤ x.1 ∧ x.1 ≤ 2000) (hi : minv id1 id2 x σ) :
    HC Tryz.prog 124 [.agg t.cells, .lit (.int .i64 lv), .ptr id1 0, .ptr id2 0] σ (fun e σ' => e = .lit (.bool (QcI t lv x).1) ∧ σ.n ≤ σ'.n ∧ minv id1 id2 (QcI t lv x).2 σ') := by
  obtain ⟨k, nn, z, s, ks, r⟩ := t
  obtain ⟨sz, dp⟩ := x
  obtain ⟨hne, hl1, hl2, ho1, ho2⟩ := hi
  have tT : QP Tryz.prog (QF [(125, s125)]) := .cons e125 .nil
  refine HC.of_body (T := QF [(125, s125)]) Tryz.func124 rfl (by decide) (Nat.le_of_ble_eq_true rfl) fun E => ?_
  have g := call125 (QF [(125, s125)]) rfl (.mk k nn z s ks r) hok
  generalize QF [(125, s125)] = T at *
  obtain ⟨nd, hnd⟩ : ∃ b, Qas (.mk k nn z s ks r) = b := ⟨_, rfl⟩
  obtain ⟨mx, hmx⟩ : ∃ m, mxI dp lv = m := ⟨_, rfl⟩
  obtain ⟨s1, hs1⟩ : ∃ m, sz + 1 = m := ⟨_, rfl⟩
  have hst : QcI (.mk k nn z s ks r) lv (sz, dp) = (decide (s1 ≤ 2000) && (decide (mx ≤ 60) && nd), (s1, mx)) := by simp only [QcI, hnd, hmx, hs1]
  rw [hst]
  have hne' : ¬ id1 = id2 := hne
  have hne2 : ¬ id2 = id1 := fun e => hne e.symm
  have hw : IntKind.i64.wrap (sz + 1) = s1 := by rw [← hs1]; exact QfU (by simp only [] at hx; omega) (by simp only [] at hx; omega)
  have hmx2 : (if dp < lv then lv else dp) = mx := hmx
  simp only [Q5] at g ⊢
  rw [hnd] at g
  let R : DV → St → Prop := fun e σ' => e = .lit (.bool (decide (s1 ≤ 2000) && (decide (mx ≤ 60) && nd))) ∧ σ.n ≤ σ'.n ∧ minv id1 id2 (s1, mx) σ'
  have fin : ∀ (a : Nat → DV) (σ' : St), a 6 = .lit (.bool (decide (s1 ≤ 2000) && (decide (mx ≤ 60) && nd))) → σ.n ≤ σ'.n → σ'.objs id1 = some (.cells 3 [.lit (.int .i64 s1)]) → σ'.objs id2 = some (.cells 3 [.lit (.int .i64 mx)]) → Qiu Tryz.prog Tryz.f124.results R Ex.ret a σ' := by
    intro a σ' h6 hn q1 q2
    refine ⟨.inr rfl, _, ?_, rfl, hn, hne, by omega, by omega, q1, q2⟩
    show QH Tryz.prog σ' _ [ResultVar.tmp 6] = _
    simp [QH, QX, h6]
  refine Dwp.step tT rfl fun K hK => ?_
  simp [QB, QE, Ql, QK, own, Qm, dop, QJ, eval, Qy, QG, Ex.then, Ex.inBlock, upd, QL, Tag.isNN, Qn, intCmp, Qz, QA, TyI.agg, Qb, Qs, Qd, Qr, QM, QC, Qp, mapOf, Qx, Qo, Qe, Qk, Qg, Qu, DV.cells, Qt, Qh, Qq, Qv, rowsOf, Qw, Qf, Qa, Qa.go, Qi, Qj, Qc, goInt, init, Q5]
  refine hK _ _ ?_ rfl; clear hK K
  refine Dwp.step tT rfl fun K hK => ?_
  simp [QB, QE, Ql, QK, own, Qm, dop, QJ, eval, Qy, QG, Ex.then, Ex.inBlock, upd, QL, Tag.isNN, Qn, intCmp, Qz, QA, TyI.agg, Qb, Qs, Qd, Qr, QM, QC, Qp, mapOf, Qx, Qo, Qe, Qk, Qg, Qu, DV.cells, Qt, Qh, Qq, Qv, rowsOf, Qw, Qf, Qa, Qa.go, Qi, Qj, Qc, goInt, init, ty3, ho1, hw, setAt]
  refine hK _ _ ?_ rfl; clear hK K
  refine Dwp.step tT rfl fun K hK => ?_
  simp [QB, QE, Ql, QK, own, Qm, dop, QJ, eval, Qy, QG, Ex.then, Ex.inBlock, upd, QL, Tag.isNN, Qn, intCmp, Qz, QA, TyI.agg, Qb, Qs, Qd, Qr, QM, QC, Qp, mapOf, Qx, Qo, Qe, Qk, Qg, Qu, DV.cells, Qt, Qh, Qq, Qv, rowsOf, Qw, Qf, Qa, Qa.go, Qi, Qj, Qc, goInt, init, ty3, ho2, hne2, setAt, hmx2]
  refine hK _ _ ?_ rfl; clear hK K
  clear hst hmx hs1 hnd hx hok hw
  refine Dwp.step tT rfl fun K hK => ?_
  repeat' ((first | refine QG.stepD rfl rfl ?_ | refine QG.stepG rfl rfl rfl ?_ | refine QG.stepN rfl rfl ?_ | refine QG.stepGN rfl rfl rfl ?_); intro K1 hK1; simp [*, QW, QO, QK, dop, eval, Qy, upd, Qb, Qs, Qz, QA, TyI.agg, Qd, Qr, Qk, Qg, QC, QM, goInt, QL, intCmp, Qn, Tag.isNN, Qc, DV.cells, Qf, Qt, Qh, init, Qbp, ty3, ty9, QaL, Qar, Q5, Qm]; (first | (refine hK1 _ _ ?_; clear hK1 K1) | (split <;> (rename_i hsp; (try simp only [beq_iff_eq, beq_eq_false_iff_ne, ne_eq, decide_eq_true_eq, decide_eq_false_iff_not] at hsp); (try (first | have hsq := Int.not_le.2 hsp | have hsq := Int.not_lt.2 hsp | have hsq := Int.not_le.1 hsp | have hsq := Int.not_lt.1 hsp)); (try subst hsp); (try simp only [hsp])) <;> (refine hK1 _ _ ?_; clear hK1 K1))))
  all_goals refine QG.done (hK _ _ (Dwp.ret ?_) rfl)
  all_goals refine fin _ _ ?_ ?_ ?_ ?_
  all_goals first | (show σ.n ≤ _; simp only []; omega) | (simp [upd, *])
def Qga (id1 id2 : Nat) : Seer where
  X := Int × Int
  f := 124
  capt := [.ptr id1 0, .ptr id2 0]
  step := QcI
  inv := fun x σ => 0 ≤ x.1 ∧ x.1 ≤ 2000 ∧ minv id1 id2 x σ
  out := fun x σ => minv id1 id2 x σ
  call := fun t lv x σ hok h1 h2 ⟨hx1, hx2, hi⟩ => (h124 id1 id2 t lv x σ hok h1 h2 ⟨hx1, hx2⟩ hi).mono fun e σ' ⟨r1, r2, r3⟩ => ⟨r1, r2, fun hb => by
    simp only [QcI, Bool.and_eq_true, decide_eq_true_eq] at hb
    exact ⟨by simp only [QcI]; omega, by simp only [QcI]; omega, r3⟩, fun _ => r3⟩
  mono := fun x σ σ' ⟨hx1, hx2, h1, h2, h3, h4, h5⟩ hn ho ht => ⟨hx1, hx2, h1, by omega, by omega, by rw [ho _ h2]; exact h4, by rw [ho _ h3]; exact h5⟩
  monoO := fun x σ σ' ⟨h1, h2, h3, h4, h5⟩ hn ho ht => ⟨h1, by omega, by omega, by rw [ho _ h2]; exact h4, by rw [ho _ h3]; exact h5⟩
mutual
def Qd5 : Tm → Bool
  | .mk k n x s ks r => Qas (.mk k n x s ks r) && (Qa1 ks && Qa1 r)
def Qa1 : List Tm → Bool
  | [] => true
  | t :: l => Qd5 t && Qa1 l
end
mutual
def Qhw : Tm → Int
  | .mk k n x s ks r => 1 + mxI (QcY ks) (QcY r)
def QcY : List Tm → Int
  | [] => 0
  | t :: l => mxI (Qhw t) (QcY l)
end
def Gd (b : Bool) (n : Nat) (d lv : Int) (x : Int × Int) : Prop := b = true ∧ x.1 + n ≤ 2000 ∧ lv + d - 1 ≤ 60
def Rs (n : Nat) (d lv : Int) (x : Int × Int) : Int × Int := (x.1 + n, mxI x.2 (lv + d - 1))
mutual
theorem QfN : ∀ t : Tm, 1 ≤ Qhw t
  | .mk k n x s ks r => by have := QbR ks; have := QbR r; simp only [Qhw, mxI]; split <;> omega
theorem QbR : ∀ l : List Tm, 0 ≤ QcY l
  | [] => by simp [QcY]
  | t :: l => by have := QfN t; have := QbR l; simp only [QcY, mxI]; split <;> omega
end
mutual
theorem visT : ∀ (t : Tm) (lv : Int) (x : Int × Int), x.1 ≤ 2000 → 1 ≤ lv → lv - 1 ≤ x.2 → x.2 ≤ 60 →
    (Gd (Qd5 t) (tsz t) (Qhw t) lv x → Qij QcI t lv x = (true, Rs (tsz t) (Qhw t) lv x)) ∧ (¬ Gd (Qd5 t) (tsz t) (Qhw t) lv x → (Qij QcI t lv x).1 = false)
  | .mk k n z s ks r, lv, (a, b), h0, h1, h2, h3 => by
    have hd1 := QbR ks
    have hd2 := QbR r
    have hst : QcI (.mk k n z s ks r) lv (a, b) = (decide (a + 1 ≤ 2000) && (decide (mxI b lv ≤ 60) && Qas (.mk k n z s ks r)), (a + 1, mxI b lv)) := rfl
    rw [Qij, hst]
    simp only [Qd5, tsz, Qhw]
    simp only [] at h2 h3
    by_cases hs : (decide (a + 1 ≤ 2000) && (decide (mxI b lv ≤ 60) && Qas (.mk k n z s ks r))) = true
    · simp only [hs, if_true]
      simp only [Bool.and_eq_true, decide_eq_true_eq] at hs
      obtain ⟨s1, s2, s3⟩ := hs
      have hmb : lv ≤ mxI b lv ∧ b ≤ mxI b lv := by unfold mxI; split <;> omega
      obtain ⟨g1, g2⟩ := vissT ks (lv + 1) (a + 1, mxI b lv) s1 (by omega) (by simp only []; omega) s2
      by_cases hk : Gd (Qa1 ks) (Qc8 ks) (QcY ks) (lv + 1) (a + 1, mxI b lv)
      · rw [g1 hk]
        simp only [if_true]
        obtain ⟨k1, k2, k3⟩ := hk
        simp only [] at k2
        have hmr : lv ≤ mxI (mxI b lv) (lv + 1 + QcY ks - 1) ∧ mxI (mxI b lv) (lv + 1 + QcY ks - 1) ≤ 60 := by
          have := s2; unfold mxI at *; constructor <;> (repeat' split) <;> (repeat' split at this) <;> omega
        obtain ⟨r1, r2⟩ := vissT r (lv + 1) (Rs (Qc8 ks) (QcY ks) (lv + 1) (a + 1, mxI b lv)) (by simp only [Rs]; omega) (by omega) (by simp only [Rs]; omega) hmr.2
        constructor
        · intro hg
          obtain ⟨q1, q2, q3⟩ := hg
          simp only [Bool.and_eq_true] at q1
          simp only [] at q2
          rw [r1 ⟨q1.2.2, by simp only [Rs]; omega, by unfold mxI at q3; split at q3 <;> omega⟩]
          simp only [Rs, Prod.mk.injEq, true_and]
          constructor
          · omega
          · unfold mxI; (repeat' split) <;> omega
        · intro hg
          refine r2 fun hgr => hg ?_
          obtain ⟨q1, q2, q3⟩ := hgr
          simp only [Rs] at q2
          refine ⟨by simp [s3, k1, q1], by simp only []; omega, ?_⟩
          unfold mxI; split <;> omega
      · have hf := g2 hk
        rw [hf]
        simp only [Bool.false_eq_true, if_false]
        refine ⟨fun hg => absurd ?_ hk, fun _ => trivial⟩
        obtain ⟨q1, q2, q3⟩ := hg
        simp only [Bool.and_eq_true] at q1
        simp only [] at q2
        exact ⟨q1.2.1, by simp only []; omega, by unfold mxI at q3; split at q3 <;> omega⟩
    · have hs' : (decide (a + 1 ≤ 2000) && (decide (mxI b lv ≤ 60) && Qas (.mk k n z s ks r))) = false := by simpa using hs
      simp only [hs', Bool.false_eq_true, if_false]
      refine ⟨fun hg => absurd ?_ hs, fun _ => trivial⟩
      obtain ⟨q1, q2, q3⟩ := hg
      simp only [Bool.and_eq_true] at q1
      simp only [] at q2
      simp only [Bool.and_eq_true, decide_eq_true_eq]
      refine ⟨by omega, ?_, q1.1⟩
      unfold mxI at *; split <;> (split at q3) <;> omega
theorem vissT : ∀ (l : List Tm) (lv : Int) (x : Int × Int), x.1 ≤ 2000 → 1 ≤ lv → lv - 1 ≤ x.2 → x.2 ≤ 60 →
    (Gd (Qa1 l) (Qc8 l) (QcY l) lv x → QcF QcI l lv x = (true, Rs (Qc8 l) (QcY l) lv x)) ∧ (¬ Gd (Qa1 l) (Qc8 l) (QcY l) lv x → (QcF QcI l lv x).1 = false)
  | [], lv, (a, b), h0, h1, h2, h3 => by
    simp only [] at h2 h3
    rw [QcF]
    simp only [Qa1, Qc8, QcY]
    constructor
    · intro hg
      simp only [Rs, Prod.mk.injEq, true_and]
      constructor
      · omega
      · unfold mxI; split <;> omega
    · intro hg
      exact absurd ⟨rfl, by simp only [] at h0 ⊢; omega, by omega⟩ hg
  | t :: l, lv, (a, b), h0, h1, h2, h3 => by
    simp only [] at h0 h2 h3
    have hd1 := QfN t
    have hd2 := QbR l
    rw [QcF]
    simp only [Qa1, Qc8, QcY]
    obtain ⟨g1, g2⟩ := visT t lv (a, b) h0 h1 h2 h3
    by_cases hk : Gd (Qd5 t) (tsz t) (Qhw t) lv (a, b)
    · rw [g1 hk]
      simp only [if_true]
      obtain ⟨k1, k2, k3⟩ := hk
      simp only [] at k2
      have hmr : lv - 1 ≤ mxI b (lv + Qhw t - 1) ∧ mxI b (lv + Qhw t - 1) ≤ 60 := by
        unfold mxI; constructor <;> (repeat' split) <;> omega
      obtain ⟨r1, r2⟩ := vissT l lv (Rs (tsz t) (Qhw t) lv (a, b)) (by simp only [Rs]; omega) h1 (by simp only [Rs]; omega) hmr.2
      constructor
      · intro hg
        obtain ⟨q1, q2, q3⟩ := hg
        simp only [Bool.and_eq_true] at q1
        simp only [] at q2
        rw [r1 ⟨q1.2, by simp only [Rs]; omega, by unfold mxI at q3; split at q3 <;> omega⟩]
        simp only [Rs, Prod.mk.injEq, true_and]
        constructor
        · omega
        · unfold mxI; (repeat' split) <;> omega
      · intro hg
        refine r2 fun hgr => hg ?_
        obtain ⟨q1, q2, q3⟩ := hgr
        simp only [Rs] at q2
        refine ⟨by simp [k1, q1], by simp only []; omega, ?_⟩
        unfold mxI; split <;> omega
    · have hf := g2 hk
      rw [hf]
      simp only [Bool.false_eq_true, if_false]
      refine ⟨fun hg => absurd ?_ hk, fun _ => trivial⟩
      obtain ⟨q1, q2, q3⟩ := hg
      simp only [Bool.and_eq_true] at q1
      simp only [] at q2
      exact ⟨q1.1, by simp only []; omega, by unfold mxI at q3; split at q3 <;> omega⟩
end
end Go.Proofs.Yt
namespace Go.Proofs.Yt
open Go Go.FA Go.Proofs Go.RowKit
set_option linter.unusedSimpArgs false
set_option maxRecDepth 100000
namespace Seer
variable (S : Seer)
theorem h92 (t : Tm) (x : S.X) (σ : St) (hlim : tsz t ≤ tlim) (hok : okT t) (hinv : S.inv x σ) :
    HC Tryz.prog 92 [.agg t.cells, S.fn] σ (fun e σ' => e = .lit (.bool (S.vis t 1 x).1) ∧ σ.n ≤ σ'.n ∧ ((S.vis t 1 x).1 = true → S.inv (S.vis t 1 x).2 σ') ∧ ((S.vis t 1 x).1 = false → S.out (S.vis t 1 x).2 σ')) := by
  have tT := Q7 (P := Tryz.prog)
  refine HC.of_body (T := QF []) Tryz.func92 rfl (by decide) (Nat.le_of_ble_eq_true rfl) fun E => ?_
  generalize QF [] = T at *
  have hcall := fun σ' hi => S.hAll (tsz t) t 1 x σ' (Nat.le_refl _) hlim hok (by omega) (by unfold tlim at hlim; omega) hi
  obtain ⟨fv, hfv⟩ : ∃ v, v = S.fn := ⟨_, rfl⟩
  rw [← hfv] at hcall ⊢
  refine Dwp.step tT rfl fun K hK => ?_
  simp [QB, QE, Ql, QK, own, Qm, dop, QJ, eval, Qy, QG, Ex.then, Ex.inBlock, upd, QL, Tag.isNN, Qn, intCmp, Qz, QA, TyI.agg, Qb, Qs, Qd, Qr, QM, QC, Qp, mapOf, Qx, Qo, Qe, Qk, Qg, Qu, DV.cells, Qt, Qh, Qq, Qv, rowsOf, Qw, Qf, Qa, Qa.go, Qi, Qj, Qc, goInt, init, Tm.cells_len, Qah]
  refine hK _ _ ?_ rfl; clear hK K
  refine Dwp.stepH fun K hK => ?_
  show Rg _ _ _ _ K ([0, 1] ++ (2 :: ([3] ++ []))) _ _
  refine Rg.run tT rfl _ _ _ ?_
  simp [Qac, Qa5, Qay, QB, QE, Ql, QK, own, Qm, dop, QJ, eval, Qy, QG, Ex.then, Ex.inBlock, upd, QL, Tag.isNN, Qn, intCmp, Qz, QA, TyI.agg, Qb, Qs, Qd, Qr, QM, QC, Qp, mapOf, Qx, Qo, Qe, Qk, Qg, Qu, DV.cells, Qt, Qh, Qq, Qv, rowsOf, Qw, Qf, Qa, Qa.go, Qi, Qj, Qc, goInt, init, Qar, Tm.cells_len, Qah]
  refine Rg.call (xs := [.agg t.cells, .lit (.int .i64 1), fv]) rfl rfl rfl rfl (by simp [Qk, eval, upd, init, Qy]) (hcall _ (S.mono x σ _ hinv (by show σ.n ≤ σ.n + 2; omega) (by simp) (by simp))) ?_
  rintro e τ ⟨rfl, hnn, hi1, ho1⟩
  have hn2 : σ.n + 2 ≤ τ.n := hnn
  show Rg _ _ _ _ K ([3] ++ []) _ _
  refine Rg.run tT rfl _ _ _ ?_
  simp [Qac, Qa5, Qay, QB, QE, Ql, QK, own, Qm, dop, QJ, eval, Qy, QG, Ex.then, Ex.inBlock, upd, QL, Tag.isNN, Qn, intCmp, Qz, QA, TyI.agg, Qb, Qs, Qd, Qr, QM, QC, Qp, mapOf, Qx, Qo, Qe, Qk, Qg, Qu, DV.cells, Qt, Qh, Qq, Qv, rowsOf, Qw, Qf, Qa, Qa.go, Qi, Qj, Qc, goInt]
  refine Rg.nil (hK _ _ (Dwp.ret ?_))
  refine ⟨.inr rfl, .lit (.bool (S.vis t 1 x).1), ?_, rfl, by omega, hi1, ho1⟩
  show QH Tryz.prog τ _ [ResultVar.tmp 4] = _
  simp [QH, QX, upd]
end Seer
def QbA (t : Tm) : Bool := Qd5 t && (decide (tsz t ≤ 2000) && decide (Qhw t ≤ 60))
def Qgh (t : Tm) : Int × Int × Int := if QbA t = true then (tsz t, Qhw t, 0) else (0, 0, 2)
def Enc.meas : Enc (Int × Int × Int) := Enc.tup (QZ Enc.i64 Enc.i64 Enc.i64)
open Classical in
noncomputable def s76 : Sp := sp (QS Enc.tm) Enc.meas (fun t => if okT t ∧ tsz t ≤ tlim then some (Qgh t) else none)
theorem vis_valid (t : Tm) : (QbA t = true → Qij QcI t 1 ((0, 0) : Int × Int) = (true, ((tsz t : Int), Qhw t))) ∧ (QbA t = false → (Qij QcI t 1 ((0, 0) : Int × Int)).1 = false) := by
  obtain ⟨h1, h2⟩ := visT t 1 (0, 0) (by simp) (by omega) (by simp) (by simp)
  have hd := QfN t
  constructor
  · intro h
    simp only [QbA, Bool.and_eq_true, decide_eq_true_eq] at h
    rw [h1 ⟨h.1, by simp only []; omega, by omega⟩]
    simp only [Rs, Prod.mk.injEq, true_and]
    constructor
    · omega
    · unfold mxI; split <;> omega
  · intro h
    refine h2 fun hg => ?_
    obtain ⟨q1, q2, q3⟩ := hg
    simp only [] at q2
    have : QbA t = true := by
      simp only [QbA, Bool.and_eq_true, decide_eq_true_eq]
      exact ⟨q1, by omega, by omega⟩
    rw [h] at this; cases this
set_option maxHeartbeats 2000000 in
theorem c76 : QD Tryz.prog 76 s76 := by
  refine QD.of_sp (T := QF []) Tryz.func76 rfl (Nat.le_of_ble_eq_true rfl) fun E t y hy => ?_
  split at hy
  case isFalse => cases hy
  next hlim =>
  obtain ⟨hok, hl⟩ := hlim
  cases hy
  have tT := Q7 (P := Tryz.prog)
  generalize QF [] = T at *
  obtain ⟨v1, v2⟩ := vis_valid t
  refine Dwp.step tT rfl fun K hK => ?_
  simp [QB, QE, Ql, QK, own, Qm, dop, QJ, eval, Qy, QG, Ex.then, Ex.inBlock, upd, QL, Tag.isNN, Qn, intCmp, Qz, QA, TyI.agg, Qb, Qs, Qd, Qr, QM, QC, Qp, mapOf, Qx, Qo, Qe, Qk, Qg, Qu, DV.cells, Qt, Qh, Qq, Qv, rowsOf, Qw, Qf, Qa, Qa.go, Qi, Qj, Qc, goInt, init, QS, QI.one, Enc.tm, Enc.agg, QI.tm, Tm.cells_len, Qah, ty3]
  refine hK _ _ ?_ rfl; clear hK K
  refine Dwp.stepH fun K hK => ?_
  show Rg _ _ _ _ K ([0, 1] ++ (2 :: ([3] ++ []))) _ _
  refine Rg.run tT rfl _ _ _ ?_
  simp [Qac, Qa5, Qay, QB, QE, Ql, QK, own, Qm, dop, QJ, eval, Qy, QG, Ex.then, Ex.inBlock, upd, QL, Tag.isNN, Qn, intCmp, Qz, QA, TyI.agg, Qb, Qs, Qd, Qr, QM, QC, Qp, mapOf, Qx, Qo, Qe, Qk, Qg, Qu, DV.cells, Qt, Qh, Qq, Qv, rowsOf, Qw, Qf, Qa, Qa.go, Qi, Qj, Qc, goInt, init, Qar, Tm.cells_len, Qah]
  have hS : (Qga (σ0.n + 1) (σ0.n + 2)).fn = .func (.func 124) [] [.ptr (σ0.n + 1) 0, .ptr (σ0.n + 2) 0] := rfl
  have hV : ∀ x : Int × Int, (Qga (σ0.n + 1) (σ0.n + 2)).vis t 1 x = Qij QcI t 1 x := fun _ => rfl
  have hc := fun σ' hi => (Qga (σ0.n + 1) (σ0.n + 2)).h92 t ((0, 0) : Int × Int) σ' hl hok hi
  refine Rg.call (xs := [.agg t.cells, .func (.func 124) [] [.ptr (σ0.n + 1) 0, .ptr (σ0.n + 2) 0]]) rfl rfl rfl rfl (by simp [Qk, eval, upd, init, Qy]) (hc _ ⟨by simp, by simp, by omega, by show σ0.n + 1 < σ0.n + 4; omega, by show σ0.n + 2 < σ0.n + 4; omega, by simp [upd], by simp [upd]⟩) ?_
  rintro e τ ⟨rfl, hnn, hi1, ho1⟩
  show Rg _ _ _ _ K ([3] ++ []) _ _
  refine Rg.run tT rfl _ _ _ ?_
  simp [Qac, Qa5, Qay, QB, QE, Ql, QK, own, Qm, dop, QJ, eval, Qy, QG, Ex.then, Ex.inBlock, upd, QL, Tag.isNN, Qn, intCmp, Qz, QA, TyI.agg, Qb, Qs, Qd, Qr, QM, QC, Qp, mapOf, Qx, Qo, Qe, Qk, Qg, Qu, DV.cells, Qt, Qh, Qq, Qv, rowsOf, Qw, Qf, Qa, Qa.go, Qi, Qj, Qc, goInt]
  refine Rg.nil (hK _ _ ?_)
  clear hK K
  rw [hV] at hi1 ho1 ⊢
  refine Dwp.seq ?_
  refine Dwp.step tT rfl fun K hK => ?_
  rcases hb : QbA t with _ | _
  · have hvf := v2 hb
    obtain ⟨_, q1, q2, q3, q4⟩ := ho1 hvf
    rw [hvf]
    simp [QB, QE, Ql, QK, own, Qm, dop, QJ, eval, Qy, QG, Ex.then, Ex.inBlock, upd, QL, Tag.isNN, Qn, intCmp, Qz, QA, TyI.agg, Qb, Qs, Qd, Qr, QM, QC, Qp, mapOf, Qx, Qo, Qe, Qk, Qg, Qu, DV.cells, Qt, Qh, Qq, Qv, rowsOf, Qw, Qf, Qa, Qa.go, Qi, Qj, Qc, goInt]
    refine hK _ _ ?_ rfl; clear hK K
    refine Dwp.condT (by simp [eval, upd]) ?_
    refine Dwp.step tT rfl fun K hK => ?_
    simp [QB, QE, Ql, QK, own, Qm, dop, QJ, eval, Qy, QG, Ex.then, Ex.inBlock, upd, QL, Tag.isNN, Qn, intCmp, Qz, QA, TyI.agg, Qb, Qs, Qd, Qr, QM, QC, Qp, mapOf, Qx, Qo, Qe, Qk, Qg, Qu, DV.cells, Qt, Qh, Qq, Qv, rowsOf, Qw, Qf, Qa, Qa.go, Qi, Qj, Qc, goInt, ty3, q3, q4, setAt]
    refine hK _ _ (Dwp.ret ?_) rfl
    have hm : Qgh t = (0, 0, 2) := by simp [Qgh, hb]
    rw [hm]
    simp [Q4, QH, QX, frz, Q0, QY, Ex.then, upd, Enc.meas, Enc.tup, QZ, QI.and, QI.one, Enc.i64, Enc.int, q3, q4, Qz, ty3, QA, TyI.agg]
  · have hvt := v1 hb
    rw [hvt] at hi1
    obtain ⟨_, _, _, q1, q2, q3, q4⟩ := hi1 rfl
    rw [hvt]
    simp [QB, QE, Ql, QK, own, Qm, dop, QJ, eval, Qy, QG, Ex.then, Ex.inBlock, upd, QL, Tag.isNN, Qn, intCmp, Qz, QA, TyI.agg, Qb, Qs, Qd, Qr, QM, QC, Qp, mapOf, Qx, Qo, Qe, Qk, Qg, Qu, DV.cells, Qt, Qh, Qq, Qv, rowsOf, Qw, Qf, Qa, Qa.go, Qi, Qj, Qc, goInt]
    refine hK _ _ ?_ rfl; clear hK K
    refine Dwp.condF (by simp [eval, upd]) (Dwp.skip ?_)
    have hne : ¬ σ0.n + 1 = σ0.n + 2 := by omega
    refine Dwp.drawStep [.robj (σ0.n + 1), .robj (σ0.n + 2), .wobj (σ0.n + 1), .wobj (σ0.n + 2), .none] mixed tT rfl rfl fun K hK => ?_
    simp [QcH, touch, Qbr, QcM, QB, QE, Ql, QK, own, Qm, dop, QJ, eval, Qy, QG, Ex.then, Ex.inBlock, upd, QL, Tag.isNN, Qn, intCmp, Qz, QA, TyI.agg, Qb, Qs, Qd, Qr, QM, QC, Qp, mapOf, Qx, Qo, Qe, Qk, Qg, Qu, DV.cells, Qt, Qh, Qq, Qv, rowsOf, Qw, Qf, Qa, Qa.go, Qi, Qj, Qc, goInt, ty3, q3, q4, setAt]
    refine hK _ _ (Dwp.ret ?_) rfl
    have hm : Qgh t = ((tsz t : Int), Qhw t, (0 : Int)) := by simp [Qgh, hb]
    rw [hm]
    simp [Q4, QH, QX, frz, Q0, QY, Ex.then, upd, Enc.meas, Enc.tup, QZ, QI.and, QI.one, Enc.i64, Enc.int, q3, q4, Qz, ty3, QA, TyI.agg]
theorem e76 : Go.FA.Good Tryz.prog (76, s76) := ⟨c76, Tryz.f76, _, Tryz.func76, rfl, by decide⟩
open Classical in
theorem call76 (T : Tab) (hT : T 76 = some s76) (t : Tm) (h : okT t) (h2 : tsz t ≤ tlim) : dcall T 76 [.agg t.cells] = some (.tuple [.lit (.int .i64 (Qgh t).1), .lit (.int .i64 (Qgh t).2.1), .lit (.int .i64 (Qgh t).2.2)]) :=
  QaN (A := Enc.tm) (B := Enc.meas) hT (if_pos ⟨h, h2⟩)
open Classical in
noncomputable def s23 : Sp := sp (QS Enc.tm) Enc.bool (fun t => if okT t ∧ tsz t ≤ tlim then some (QbA t) else none)
theorem c23 : QD Tryz.prog 23 s23 := by
  refine QD.of_sp (T := QF [(76, s76)]) Tryz.func23 rfl (Nat.le_of_ble_eq_true rfl) fun E t y hy => ?_
  split at hy
  case isFalse => cases hy
  next hlim =>
  obtain ⟨hok, hl⟩ := hlim
  cases hy
  have tT : QP Tryz.prog (QF [(76, s76)]) := .cons e76 .nil
  have g := call76 (QF [(76, s76)]) rfl t hok hl
  generalize QF [(76, s76)] = T at *
  refine Dwp.step tT rfl fun K hK => ?_
  simp [QB, QE, Ql, QK, own, Qm, dop, QJ, eval, Qy, QG, Ex.then, Ex.inBlock, upd, QL, Tag.isNN, Qn, intCmp, Qz, QA, TyI.agg, Qb, Qs, Qd, Qr, QM, QC, Qp, mapOf, Qx, Qo, Qe, Qk, Qg, Qu, DV.cells, Qt, Qh, Qq, Qv, rowsOf, Qw, Qf, Qa, Qa.go, Qi, Qj, Qc, goInt, init, QS, QI.one, Enc.tm, Enc.agg, QI.tm, Tm.cells_len, Qah]
  refine hK _ _ ?_ rfl; clear hK K
  refine Dwp.step tT rfl fun K hK => ?_
  simp [QB, QE, Ql, QK, own, Qm, dop, QJ, eval, Qy, QG, Ex.then, Ex.inBlock, upd, QL, Tag.isNN, Qn, intCmp, Qz, QA, TyI.agg, Qb, Qs, Qd, Qr, QM, QC, Qp, mapOf, Qx, Qo, Qe, Qk, Qg, Qu, DV.cells, Qt, Qh, Qq, Qv, rowsOf, Qw, Qf, Qa, Qa.go, Qi, Qj, Qc, goInt, init, Qar, Tm.cells_len, Qah, g]
  refine hK _ _ ?_ rfl; clear hK K
  refine Dwp.step tT rfl fun K hK => ?_
  simp [QB, QE, Ql, QK, own, Qm, dop, QJ, eval, Qy, QG, Ex.then, Ex.inBlock, upd, QL, Tag.isNN, Qn, intCmp, Qz, QA, TyI.agg, Qb, Qs, Qd, Qr, QM, QC, Qp, mapOf, Qx, Qo, Qe, Qk, Qg, Qu, DV.cells, Qt, Qh, Qq, Qv, rowsOf, Qw, Qf, Qa, Qa.go, Qi, Qj, Qc, goInt, init]
  refine hK _ _ (Dwp.ret ?_) rfl
  refine QaR Tryz.func23 rfl _ ?_
  rcases hb : QbA t with _ | _ <;> simp [upd, Qgh, hb]
theorem e23 : Go.FA.Good Tryz.prog (23, s23) := ⟨c23, Tryz.f23, _, Tryz.func23, rfl, by decide⟩
open Classical in
theorem call23 (T : Tab) (hT : T 23 = some s23) (t : Tm) (h : okT t) (h2 : tsz t ≤ tlim) : dcall T 23 [.agg t.cells] = some (.lit (.bool (QbA t))) :=
  QaN (A := Enc.tm) (B := Enc.bool) hT (if_pos ⟨h, h2⟩)
end Go.Proofs.Yt




