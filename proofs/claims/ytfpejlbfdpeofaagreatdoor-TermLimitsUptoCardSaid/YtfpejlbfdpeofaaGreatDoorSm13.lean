/- Contracts of functions of the program, by a machine over abstract values; part 14. No condition beyond those of each theorem. -/
import Derived.Test.YtfpejlbfdpeofaaGreatDoorSm12
set_option linter.unusedVariables false
set_option linter.unusedSimpArgs false
namespace Go.Proofs.Yt
open Go Go.FA Go.Proofs Go.RowKit
set_option linter.unusedSimpArgs false
set_option maxRecDepth 100000
def mxI (a b : Int) : Int := if b > a then b else a
def QcW (t : Tm) (lv : Int) (x : Int × Int) : Bool × (Int × Int) := (decide (x.1 + 1 ≤ 2000) && (decide (mxI x.2 lv ≤ 60) && Qby t), (x.1 + 1, mxI x.2 lv))
def minv (id1 id2 : Nat) (x : Int × Int) (σ : St) : Prop := id1 ≠ id2 ∧ id1 < σ.n ∧ id2 < σ.n ∧ σ.objs id1 = some (.cells 3 [.lit (.int .i64 x.1)]) ∧ σ.objs id2 = some (.cells 3 [.lit (.int .i64 x.2)])
set_option maxHeartbeats 2000000 in
theorem h124 (id1 id2 : Nat) (t : Tm) (lv : Int) (x : Int × Int) (σ : St) (hok : okT t) (hlv0 : 0 ≤ lv) (hlv : lv ≤ 1099511627776) (hx : 0 ≤ x.1 ∧ x.1 ≤ 2000) (hi : minv id1 id2 x σ) :
    HC Tryz.prog 124 [.agg t.cells, .lit (.int .i64 lv), .ptr id1 0, .ptr id2 0] σ (fun e σ' => e = .lit (.bool (QcW t lv x).1) ∧ σ.n ≤ σ'.n ∧ minv id1 id2 (QcW t lv x).2 σ') := by
  obtain ⟨k, nn, z, s, ks, r⟩ := t
  obtain ⟨sz, dp⟩ := x
  obtain ⟨hne, hl1, hl2, ho1, ho2⟩ := hi
  have tT : QP Tryz.prog (QG [(125, s125)]) := .cons e125 .nil
  refine HC.of_body (T := QG [(125, s125)]) Tryz.func124 rfl (by decide) (Nat.le_of_ble_eq_true rfl) fun E => ?_
  have g := call125 (QG [(125, s125)]) rfl (.mk k nn z s ks r) hok
  generalize QG [(125, s125)] = T at *
  obtain ⟨nd, hnd⟩ : ∃ b, Qby (.mk k nn z s ks r) = b := ⟨_, rfl⟩
  obtain ⟨mx, hmx⟩ : ∃ m, mxI dp lv = m := ⟨_, rfl⟩
  obtain ⟨s1, hs1⟩ : ∃ m, sz + 1 = m := ⟨_, rfl⟩
  have hst : QcW (.mk k nn z s ks r) lv (sz, dp) = (decide (s1 ≤ 2000) && (decide (mx ≤ 60) && nd), (s1, mx)) := by simp only [QcW, hnd, hmx, hs1]
  rw [hst]
  have hne' : ¬ id1 = id2 := hne
  have hne2 : ¬ id2 = id1 := fun e => hne e.symm
  have hw : IntKind.i64.wrap (sz + 1) = s1 := by rw [← hs1]; exact Qdu (by simp only [] at hx; omega) (by simp only [] at hx; omega)
  have hmx2 : (if dp < lv then lv else dp) = mx := hmx
  simp only [QR] at g ⊢
  rw [hnd] at g
  let R : DV → St → Prop := fun e σ' => e = .lit (.bool (decide (s1 ≤ 2000) && (decide (mx ≤ 60) && nd))) ∧ σ.n ≤ σ'.n ∧ minv id1 id2 (s1, mx) σ'
  have fin : ∀ (a : Nat → DV) (σ' : St), a 6 = .lit (.bool (decide (s1 ≤ 2000) && (decide (mx ≤ 60) && nd))) → σ.n ≤ σ'.n → σ'.objs id1 = some (.cells 3 [.lit (.int .i64 s1)]) → σ'.objs id2 = some (.cells 3 [.lit (.int .i64 mx)]) → QjD Tryz.prog Tryz.f124.results R Ex.ret a σ' := by
    intro a σ' h6 hn q1 q2
    refine ⟨.inr rfl, _, ?_, rfl, hn, hne, by omega, by omega, q1, q2⟩
    show QH Tryz.prog σ' _ [ResultVar.tmp 6] = _
    simp [QH, QV, h6]
  refine Dwp.step tT rfl fun K hK => ?_
  simp [QD, QE, Qn, QI, own, Ql, dop, QJ, eval, Qy, QF, Ex.then, Ex.inBlock, upd, QK, Tag.isNN, Qm, intCmp, Qz, QA, TyI.agg, Qb, Qs, Qd, Qr, QL, QB, Qp, mapOf, Qx, Qo, Qf, Qi, Qg, Qu, DV.cells, Qt, Qh, Qq, Qv, rowsOf, Qw, Qe, Qa, Qa.go, Qj, Qk, Qc, goInt, init, QR]
  refine hK _ _ ?_ rfl; clear hK K
  refine Dwp.step tT rfl fun K hK => ?_
  simp [QD, QE, Qn, QI, own, Ql, dop, QJ, eval, Qy, QF, Ex.then, Ex.inBlock, upd, QK, Tag.isNN, Qm, intCmp, Qz, QA, TyI.agg, Qb, Qs, Qd, Qr, QL, QB, Qp, mapOf, Qx, Qo, Qf, Qi, Qg, Qu, DV.cells, Qt, Qh, Qq, Qv, rowsOf, Qw, Qe, Qa, Qa.go, Qj, Qk, Qc, goInt, init, ty3, ho1, hw, setAt]
  refine hK _ _ ?_ rfl; clear hK K
  refine Dwp.step tT rfl fun K hK => ?_
  simp [QD, QE, Qn, QI, own, Ql, dop, QJ, eval, Qy, QF, Ex.then, Ex.inBlock, upd, QK, Tag.isNN, Qm, intCmp, Qz, QA, TyI.agg, Qb, Qs, Qd, Qr, QL, QB, Qp, mapOf, Qx, Qo, Qf, Qi, Qg, Qu, DV.cells, Qt, Qh, Qq, Qv, rowsOf, Qw, Qe, Qa, Qa.go, Qj, Qk, Qc, goInt, init, ty3, ho2, hne2, setAt, hmx2]
  refine hK _ _ ?_ rfl; clear hK K
  clear hst hmx hs1 hnd hx hok hw
  refine Dwp.step tT rfl fun K hK => ?_
  repeat' ((first | refine QF.stepD rfl rfl ?_ | refine QF.stepG rfl rfl rfl ?_ | refine QF.stepN rfl rfl ?_ | refine QF.stepGN rfl rfl rfl ?_); intro K1 hK1; simp [*, QQ, QN, QI, dop, eval, Qy, upd, Qb, Qs, Qz, QA, TyI.agg, Qd, Qr, Qi, Qg, QB, QL, goInt, QK, intCmp, Qm, Tag.isNN, Qc, DV.cells, Qe, Qt, Qh, init, Qaa, ty3, ty9, Q9, Qab, QR, Ql]; (first | (refine hK1 _ _ ?_; clear hK1 K1) | (split <;> (rename_i hsp; (try simp only [beq_iff_eq, beq_eq_false_iff_ne, ne_eq, decide_eq_true_eq, decide_eq_false_iff_not] at hsp); (try (first | have hsq := Int.not_le.2 hsp | have hsq := Int.not_lt.2 hsp | have hsq := Int.not_le.1 hsp | have hsq := Int.not_lt.1 hsp)); (try subst hsp); (try simp only [hsp])) <;> (refine hK1 _ _ ?_; clear hK1 K1))))
  all_goals refine QF.done (hK _ _ (Dwp.ret ?_) rfl)
  all_goals refine fin _ _ ?_ ?_ ?_ ?_
  all_goals first | (show σ.n ≤ _; simp only []; omega) | (simp [upd, *])
def Qf8 (id1 id2 : Nat) : Seer where
  X := Int × Int
  f := 124
  capt := [.ptr id1 0, .ptr id2 0]
  step := QcW
  inv := fun x σ => 0 ≤ x.1 ∧ x.1 ≤ 2000 ∧ minv id1 id2 x σ
  out := fun x σ => minv id1 id2 x σ
  call := fun t lv x σ hok h1 h2 ⟨hx1, hx2, hi⟩ => (h124 id1 id2 t lv x σ hok h1 h2 ⟨hx1, hx2⟩ hi).mono fun e σ' ⟨r1, r2, r3⟩ => ⟨r1, r2, fun hb => by
    simp only [QcW, Bool.and_eq_true, decide_eq_true_eq] at hb
    exact ⟨by simp only [QcW]; omega, by simp only [QcW]; omega, r3⟩, fun _ => r3⟩
  mono := fun x σ σ' ⟨hx1, hx2, h1, h2, h3, h4, h5⟩ hn ho ht => ⟨hx1, hx2, h1, by omega, by omega, by rw [ho _ h2]; exact h4, by rw [ho _ h3]; exact h5⟩
  monoO := fun x σ σ' ⟨h1, h2, h3, h4, h5⟩ hn ho ht => ⟨h1, by omega, by omega, by rw [ho _ h2]; exact h4, by rw [ho _ h3]; exact h5⟩
mutual
def Qij : Tm → Bool
  | .mk k n x s ks r => Qby (.mk k n x s ks r) && (Qbu ks && Qbu r)
def Qbu : List Tm → Bool
  | [] => true
  | t :: l => Qij t && Qbu l
end
mutual
def Qgt : Tm → Int
  | .mk k n x s ks r => 1 + mxI (Qbo ks) (Qbo r)
def Qbo : List Tm → Int
  | [] => 0
  | t :: l => mxI (Qgt t) (Qbo l)
end
def Gd (b : Bool) (n : Nat) (d lv : Int) (x : Int × Int) : Prop := b = true ∧ x.1 + n ≤ 2000 ∧ lv + d - 1 ≤ 60
def Rs (n : Nat) (d lv : Int) (x : Int × Int) : Int × Int := (x.1 + n, mxI x.2 (lv + d - 1))
mutual
theorem Qgp : ∀ t : Tm, 1 ≤ Qgt t
  | .mk k n x s ks r => by have := QbW ks; have := QbW r; simp only [Qgt, mxI]; split <;> omega
theorem QbW : ∀ l : List Tm, 0 ≤ Qbo l
  | [] => by simp [Qbo]
  | t :: l => by have := Qgp t; have := QbW l; simp only [Qbo, mxI]; split <;> omega
end
mutual
theorem visT : ∀ (t : Tm) (lv : Int) (x : Int × Int), x.1 ≤ 2000 → 1 ≤ lv → lv - 1 ≤ x.2 → x.2 ≤ 60 →
    (Gd (Qij t) (tsz t) (Qgt t) lv x → Qit QcW t lv x = (true, Rs (tsz t) (Qgt t) lv x)) ∧ (¬ Gd (Qij t) (tsz t) (Qgt t) lv x → (Qit QcW t lv x).1 = false)
  | .mk k n z s ks r, lv, (a, b), h0, h1, h2, h3 => by
    have hd1 := QbW ks
    have hd2 := QbW r
    have hst : QcW (.mk k n z s ks r) lv (a, b) = (decide (a + 1 ≤ 2000) && (decide (mxI b lv ≤ 60) && Qby (.mk k n z s ks r)), (a + 1, mxI b lv)) := rfl
    rw [Qit, hst]
    simp only [Qij, tsz, Qgt]
    simp only [] at h2 h3
    by_cases hs : (decide (a + 1 ≤ 2000) && (decide (mxI b lv ≤ 60) && Qby (.mk k n z s ks r))) = true
    · simp only [hs, if_true]
      simp only [Bool.and_eq_true, decide_eq_true_eq] at hs
      obtain ⟨s1, s2, s3⟩ := hs
      have hmb : lv ≤ mxI b lv ∧ b ≤ mxI b lv := by unfold mxI; split <;> omega
      obtain ⟨g1, g2⟩ := vissT ks (lv + 1) (a + 1, mxI b lv) s1 (by omega) (by simp only []; omega) s2
      by_cases hk : Gd (Qbu ks) (Qa3 ks) (Qbo ks) (lv + 1) (a + 1, mxI b lv)
      · rw [g1 hk]
        simp only [if_true]
        obtain ⟨k1, k2, k3⟩ := hk
        simp only [] at k2
        have hmr : lv ≤ mxI (mxI b lv) (lv + 1 + Qbo ks - 1) ∧ mxI (mxI b lv) (lv + 1 + Qbo ks - 1) ≤ 60 := by
          have := s2; unfold mxI at *; constructor <;> (repeat' split) <;> (repeat' split at this) <;> omega
        obtain ⟨r1, r2⟩ := vissT r (lv + 1) (Rs (Qa3 ks) (Qbo ks) (lv + 1) (a + 1, mxI b lv)) (by simp only [Rs]; omega) (by omega) (by simp only [Rs]; omega) hmr.2
        constructor
        · intro hg
          obtain ⟨q1, q2, q3⟩ := hg
          simp only [Bool.and_eq_true] at q1
          simp only [] at q2
          rw [r1 ⟨q1.2.2, by simp only [Rs]; omega, by unfold mxI at q3; split at q3 <;> omega⟩]
          simp only [Rs, Prod.mk.injEq, true_and]
          constructor
          · omega
          · unfold mxI; (repeat' split) <;> omega
        · intro hg
          refine r2 fun hgr => hg ?_
          obtain ⟨q1, q2, q3⟩ := hgr
          simp only [Rs] at q2
          refine ⟨by simp [s3, k1, q1], by simp only []; omega, ?_⟩
          unfold mxI; split <;> omega
      · have hf := g2 hk
        rw [hf]
        simp only [Bool.false_eq_true, if_false]
        refine ⟨fun hg => absurd ?_ hk, fun _ => trivial⟩
        obtain ⟨q1, q2, q3⟩ := hg
        simp only [Bool.and_eq_true] at q1
        simp only [] at q2
        exact ⟨q1.2.1, by simp only []; omega, by unfold mxI at q3; split at q3 <;> omega⟩
    · have hs' : (decide (a + 1 ≤ 2000) && (decide (mxI b lv ≤ 60) && Qby (.mk k n z s ks r))) = false := by simpa using hs
      simp only [hs', Bool.false_eq_true, if_false]
      refine ⟨fun hg => absurd ?_ hs, fun _ => trivial⟩
      obtain ⟨q1, q2, q3⟩ := hg
      simp only [Bool.and_eq_true] at q1
      simp only [] at q2
      simp only [Bool.and_eq_true, decide_eq_true_eq]
      refine ⟨by omega, ?_, q1.1⟩
      unfold mxI at *; split <;> (split at q3) <;> omega
theorem vissT : ∀ (l : List Tm) (lv : Int) (x : Int × Int), x.1 ≤ 2000 → 1 ≤ lv → lv - 1 ≤ x.2 → x.2 ≤ 60 →
    (Gd (Qbu l) (Qa3 l) (Qbo l) lv x → QcX QcW l lv x = (true, Rs (Qa3 l) (Qbo l) lv x)) ∧ (¬ Gd (Qbu l) (Qa3 l) (Qbo l) lv x → (QcX QcW l lv x).1 = false)
  | [], lv, (a, b), h0, h1, h2, h3 => by
    simp only [] at h2 h3
    rw [QcX]
    simp only [Qbu, Qa3, Qbo]
    constructor
    · intro hg
      simp only [Rs, Prod.mk.injEq, true_and]
      constructor
      · omega
      · unfold mxI; split <;> omega
    · intro hg
      exact absurd ⟨rfl, by simp only [] at h0 ⊢; omega, by omega⟩ hg
  | t :: l, lv, (a, b), h0, h1, h2, h3 => by
    simp only [] at h0 h2 h3
    have hd1 := Qgp t
    have hd2 := QbW l
    rw [QcX]
    simp only [Qbu, Qa3, Qbo]
    obtain ⟨g1, g2⟩ := visT t lv (a, b) h0 h1 h2 h3
    by_cases hk : Gd (Qij t) (tsz t) (Qgt t) lv (a, b)
    · rw [g1 hk]
      simp only [if_true]
      obtain ⟨k1, k2, k3⟩ := hk
      simp only [] at k2
      have hmr : lv - 1 ≤ mxI b (lv + Qgt t - 1) ∧ mxI b (lv + Qgt t - 1) ≤ 60 := by
        unfold mxI; constructor <;> (repeat' split) <;> omega
      obtain ⟨r1, r2⟩ := vissT l lv (Rs (tsz t) (Qgt t) lv (a, b)) (by simp only [Rs]; omega) h1 (by simp only [Rs]; omega) hmr.2
      constructor
      · intro hg
        obtain ⟨q1, q2, q3⟩ := hg
        simp only [Bool.and_eq_true] at q1
        simp only [] at q2
        rw [r1 ⟨q1.2, by simp only [Rs]; omega, by unfold mxI at q3; split at q3 <;> omega⟩]
        simp only [Rs, Prod.mk.injEq, true_and]
        constructor
        · omega
        · unfold mxI; (repeat' split) <;> omega
      · intro hg
        refine r2 fun hgr => hg ?_
        obtain ⟨q1, q2, q3⟩ := hgr
        simp only [Rs] at q2
        refine ⟨by simp [k1, q1], by simp only []; omega, ?_⟩
        unfold mxI; split <;> omega
    · have hf := g2 hk
      rw [hf]
      simp only [Bool.false_eq_true, if_false]
      refine ⟨fun hg => absurd ?_ hk, fun _ => trivial⟩
      obtain ⟨q1, q2, q3⟩ := hg
      simp only [Bool.and_eq_true] at q1
      simp only [] at q2
      exact ⟨q1.1, by simp only []; omega, by unfold mxI at q3; split at q3 <;> omega⟩
end
end Go.Proofs.Yt
namespace Go.Proofs.Yt
open Go Go.FA Go.Proofs Go.RowKit
set_option linter.unusedSimpArgs false
set_option maxRecDepth 100000
namespace Seer
variable (S : Seer)
theorem h92 (t : Tm) (x : S.X) (σ : St) (hlim : tsz t ≤ tlim) (hok : okT t) (hinv : S.inv x σ) :
    HC Tryz.prog 92 [.agg t.cells, S.fn] σ (fun e σ' => e = .lit (.bool (S.vis t 1 x).1) ∧ σ.n ≤ σ'.n ∧ ((S.vis t 1 x).1 = true → S.inv (S.vis t 1 x).2 σ') ∧ ((S.vis t 1 x).1 = false → S.out (S.vis t 1 x).2 σ')) := by
  have tT := Q6 (P := Tryz.prog)
  refine HC.of_body (T := QG []) Tryz.func92 rfl (by decide) (Nat.le_of_ble_eq_true rfl) fun E => ?_
  generalize QG [] = T at *
  have hcall := fun σ' hi => S.hAll (tsz t) t 1 x σ' (Nat.le_refl _) hlim hok (by omega) (by unfold tlim at hlim; omega) hi
  obtain ⟨fv, hfv⟩ : ∃ v, v = S.fn := ⟨_, rfl⟩
  rw [← hfv] at hcall ⊢
  refine Dwp.step tT rfl fun K hK => ?_
  simp [QD, QE, Qn, QI, own, Ql, dop, QJ, eval, Qy, QF, Ex.then, Ex.inBlock, upd, QK, Tag.isNN, Qm, intCmp, Qz, QA, TyI.agg, Qb, Qs, Qd, Qr, QL, QB, Qp, mapOf, Qx, Qo, Qf, Qi, Qg, Qu, DV.cells, Qt, Qh, Qq, Qv, rowsOf, Qw, Qe, Qa, Qa.go, Qj, Qk, Qc, goInt, init, Tm.cells_len, Q8]
  refine hK _ _ ?_ rfl; clear hK K
  refine Dwp.stepH fun K hK => ?_
  show Rg _ _ _ _ K ([0, 1] ++ (2 :: ([3] ++ []))) _ _
  refine Rg.run tT rfl _ _ _ ?_
  simp [QbP, Qfq, Qb9, QD, QE, Qn, QI, own, Ql, dop, QJ, eval, Qy, QF, Ex.then, Ex.inBlock, upd, QK, Tag.isNN, Qm, intCmp, Qz, QA, TyI.agg, Qb, Qs, Qd, Qr, QL, QB, Qp, mapOf, Qx, Qo, Qf, Qi, Qg, Qu, DV.cells, Qt, Qh, Qq, Qv, rowsOf, Qw, Qe, Qa, Qa.go, Qj, Qk, Qc, goInt, init, Qab, Tm.cells_len, Q8]
  refine Rg.call (xs := [.agg t.cells, .lit (.int .i64 1), fv]) rfl rfl rfl rfl (by simp [Qi, eval, upd, init, Qy]) (hcall _ (S.mono x σ _ hinv (by show σ.n ≤ σ.n + 2; omega) (by simp) (by simp))) ?_
  rintro e τ ⟨rfl, hnn, hi1, ho1⟩
  have hn2 : σ.n + 2 ≤ τ.n := hnn
  show Rg _ _ _ _ K ([3] ++ []) _ _
  refine Rg.run tT rfl _ _ _ ?_
  simp [QbP, Qfq, Qb9, QD, QE, Qn, QI, own, Ql, dop, QJ, eval, Qy, QF, Ex.then, Ex.inBlock, upd, QK, Tag.isNN, Qm, intCmp, Qz, QA, TyI.agg, Qb, Qs, Qd, Qr, QL, QB, Qp, mapOf, Qx, Qo, Qf, Qi, Qg, Qu, DV.cells, Qt, Qh, Qq, Qv, rowsOf, Qw, Qe, Qa, Qa.go, Qj, Qk, Qc, goInt]
  refine Rg.nil (hK _ _ (Dwp.ret ?_))
  refine ⟨.inr rfl, .lit (.bool (S.vis t 1 x).1), ?_, rfl, by omega, hi1, ho1⟩
  show QH Tryz.prog τ _ [ResultVar.tmp 4] = _
  simp [QH, QV, upd]
end Seer
def Qav (t : Tm) : Bool := Qij t && (decide (tsz t ≤ 2000) && decide (Qgt t ≤ 60))
def Qgg (t : Tm) : Int × Int × Int := if Qav t = true then (tsz t, Qgt t, 0) else (0, 0, 2)
def Enc.meas : Enc (Int × Int × Int) := Enc.tup (Q3 Enc.i64 Enc.i64 Enc.i64)
open Classical in
noncomputable def s76 : Sp := sp (QU Enc.tm) Enc.meas (fun t => if okT t ∧ tsz t ≤ tlim then some (Qgg t) else none)
theorem vis_valid (t : Tm) : (Qav t = true → Qit QcW t 1 ((0, 0) : Int × Int) = (true, ((tsz t : Int), Qgt t))) ∧ (Qav t = false → (Qit QcW t 1 ((0, 0) : Int × Int)).1 = false) := by
  obtain ⟨h1, h2⟩ := visT t 1 (0, 0) (by simp) (by omega) (by simp) (by simp)
  have hd := Qgp t
  constructor
  · intro h
    simp only [Qav, Bool.and_eq_true, decide_eq_true_eq] at h
    rw [h1 ⟨h.1, by simp only []; omega, by omega⟩]
    simp only [Rs, Prod.mk.injEq, true_and]
    constructor
    · omega
    · unfold mxI; split <;> omega
  · intro h
    refine h2 fun hg => ?_
    obtain ⟨q1, q2, q3⟩ := hg
    simp only [] at q2
    have : Qav t = true := by
      simp only [Qav, Bool.and_eq_true, decide_eq_true_eq]
      exact ⟨q1, by omega, by omega⟩
    rw [h] at this; cases this
set_option maxHeartbeats 2000000 in
theorem c76 : QC Tryz.prog 76 s76 := by
  refine QC.of_sp (T := QG []) Tryz.func76 rfl (Nat.le_of_ble_eq_true rfl) fun E t y hy => ?_
  split at hy
  case isFalse => cases hy
  next hlim =>
  obtain ⟨hok, hl⟩ := hlim
  cases hy
  have tT := Q6 (P := Tryz.prog)
  generalize QG [] = T at *
  obtain ⟨v1, v2⟩ := vis_valid t
  refine Dwp.step tT rfl fun K hK => ?_
  simp [QD, QE, Qn, QI, own, Ql, dop, QJ, eval, Qy, QF, Ex.then, Ex.inBlock, upd, QK, Tag.isNN, Qm, intCmp, Qz, QA, TyI.agg, Qb, Qs, Qd, Qr, QL, QB, Qp, mapOf, Qx, Qo, Qf, Qi, Qg, Qu, DV.cells, Qt, Qh, Qq, Qv, rowsOf, Qw, Qe, Qa, Qa.go, Qj, Qk, Qc, goInt, init, QU, QM.one, Enc.tm, Enc.agg, QM.tm, Tm.cells_len, Q8, ty3]
  refine hK _ _ ?_ rfl; clear hK K
  refine Dwp.stepH fun K hK => ?_
  show Rg _ _ _ _ K ([0, 1] ++ (2 :: ([3] ++ []))) _ _
  refine Rg.run tT rfl _ _ _ ?_
  simp [QbP, Qfq, Qb9, QD, QE, Qn, QI, own, Ql, dop, QJ, eval, Qy, QF, Ex.then, Ex.inBlock, upd, QK, Tag.isNN, Qm, intCmp, Qz, QA, TyI.agg, Qb, Qs, Qd, Qr, QL, QB, Qp, mapOf, Qx, Qo, Qf, Qi, Qg, Qu, DV.cells, Qt, Qh, Qq, Qv, rowsOf, Qw, Qe, Qa, Qa.go, Qj, Qk, Qc, goInt, init, Qab, Tm.cells_len, Q8]
  have hS : (Qf8 (σ0.n + 1) (σ0.n + 2)).fn = .func (.func 124) [] [.ptr (σ0.n + 1) 0, .ptr (σ0.n + 2) 0] := rfl
  have hV : ∀ x : Int × Int, (Qf8 (σ0.n + 1) (σ0.n + 2)).vis t 1 x = Qit QcW t 1 x := fun _ => rfl
  have hc := fun σ' hi => (Qf8 (σ0.n + 1) (σ0.n + 2)).h92 t ((0, 0) : Int × Int) σ' hl hok hi
  refine Rg.call (xs := [.agg t.cells, .func (.func 124) [] [.ptr (σ0.n + 1) 0, .ptr (σ0.n + 2) 0]]) rfl rfl rfl rfl (by simp [Qi, eval, upd, init, Qy]) (hc _ ⟨by simp, by simp, by omega, by show σ0.n + 1 < σ0.n + 4; omega, by show σ0.n + 2 < σ0.n + 4; omega, by simp [upd], by simp [upd]⟩) ?_
  rintro e τ ⟨rfl, hnn, hi1, ho1⟩
  show Rg _ _ _ _ K ([3] ++ []) _ _
  refine Rg.run tT rfl _ _ _ ?_
  simp [QbP, Qfq, Qb9, QD, QE, Qn, QI, own, Ql, dop, QJ, eval, Qy, QF, Ex.then, Ex.inBlock, upd, QK, Tag.isNN, Qm, intCmp, Qz, QA, TyI.agg, Qb, Qs, Qd, Qr, QL, QB, Qp, mapOf, Qx, Qo, Qf, Qi, Qg, Qu, DV.cells, Qt, Qh, Qq, Qv, rowsOf, Qw, Qe, Qa, Qa.go, Qj, Qk, Qc, goInt]
  refine Rg.nil (hK _ _ ?_)
  clear hK K
  rw [hV] at hi1 ho1 ⊢
  refine Dwp.seq ?_
  refine Dwp.step tT rfl fun K hK => ?_
  rcases hb : Qav t with _ | _
  · have hvf := v2 hb
    obtain ⟨_, q1, q2, q3, q4⟩ := ho1 hvf
    rw [hvf]
    simp [QD, QE, Qn, QI, own, Ql, dop, QJ, eval, Qy, QF, Ex.then, Ex.inBlock, upd, QK, Tag.isNN, Qm, intCmp, Qz, QA, TyI.agg, Qb, Qs, Qd, Qr, QL, QB, Qp, mapOf, Qx, Qo, Qf, Qi, Qg, Qu, DV.cells, Qt, Qh, Qq, Qv, rowsOf, Qw, Qe, Qa, Qa.go, Qj, Qk, Qc, goInt]
    refine hK _ _ ?_ rfl; clear hK K
    refine Dwp.condT (by simp [eval, upd]) ?_
    refine Dwp.step tT rfl fun K hK => ?_
    simp [QD, QE, Qn, QI, own, Ql, dop, QJ, eval, Qy, QF, Ex.then, Ex.inBlock, upd, QK, Tag.isNN, Qm, intCmp, Qz, QA, TyI.agg, Qb, Qs, Qd, Qr, QL, QB, Qp, mapOf, Qx, Qo, Qf, Qi, Qg, Qu, DV.cells, Qt, Qh, Qq, Qv, rowsOf, Qw, Qe, Qa, Qa.go, Qj, Qk, Qc, goInt, ty3, q3, q4, setAt]
    refine hK _ _ (Dwp.ret ?_) rfl
    have hm : Qgg t = (0, 0, 2) := by simp [Qgg, hb]
    rw [hm]
    simp [QZ, QH, QV, frz, QX, QW, Ex.then, upd, Enc.meas, Enc.tup, Q3, QM.and, QM.one, Enc.i64, Enc.int, q3, q4, Qz, ty3, QA, TyI.agg]
  · have hvt := v1 hb
    rw [hvt] at hi1
    obtain ⟨_, _, _, q1, q2, q3, q4⟩ := hi1 rfl
    rw [hvt]
    simp [QD, QE, Qn, QI, own, Ql, dop, QJ, eval, Qy, QF, Ex.then, Ex.inBlock, upd, QK, Tag.isNN, Qm, intCmp, Qz, QA, TyI.agg, Qb, Qs, Qd, Qr, QL, QB, Qp, mapOf, Qx, Qo, Qf, Qi, Qg, Qu, DV.cells, Qt, Qh, Qq, Qv, rowsOf, Qw, Qe, Qa, Qa.go, Qj, Qk, Qc, goInt]
    refine hK _ _ ?_ rfl; clear hK K
    refine Dwp.condF (by simp [eval, upd]) (Dwp.skip ?_)
    have hne : ¬ σ0.n + 1 = σ0.n + 2 := by omega
    refine Dwp.drawStep [.robj (σ0.n + 1), .robj (σ0.n + 2), .wobj (σ0.n + 1), .wobj (σ0.n + 2), .none] mixed tT rfl rfl fun K hK => ?_
    simp [Qbj, touch, QaE, Qck, QD, QE, Qn, QI, own, Ql, dop, QJ, eval, Qy, QF, Ex.then, Ex.inBlock, upd, QK, Tag.isNN, Qm, intCmp, Qz, QA, TyI.agg, Qb, Qs, Qd, Qr, QL, QB, Qp, mapOf, Qx, Qo, Qf, Qi, Qg, Qu, DV.cells, Qt, Qh, Qq, Qv, rowsOf, Qw, Qe, Qa, Qa.go, Qj, Qk, Qc, goInt, ty3, q3, q4, setAt]
    refine hK _ _ (Dwp.ret ?_) rfl
    have hm : Qgg t = ((tsz t : Int), Qgt t, (0 : Int)) := by simp [Qgg, hb]
    rw [hm]
    simp [QZ, QH, QV, frz, QX, QW, Ex.then, upd, Enc.meas, Enc.tup, Q3, QM.and, QM.one, Enc.i64, Enc.int, q3, q4, Qz, ty3, QA, TyI.agg]
theorem e76 : Go.FA.Good Tryz.prog (76, s76) := ⟨c76, Tryz.f76, _, Tryz.func76, rfl, by decide⟩
open Classical in
theorem call76 (T : Tab) (hT : T 76 = some s76) (t : Tm) (h : okT t) (h2 : tsz t ≤ tlim) : dcall T 76 [.agg t.cells] = some (.tuple [.lit (.int .i64 (Qgg t).1), .lit (.int .i64 (Qgg t).2.1), .lit (.int .i64 (Qgg t).2.2)]) :=
  QaC (A := Enc.tm) (B := Enc.meas) hT (if_pos ⟨h, h2⟩)
open Classical in
noncomputable def s23 : Sp := sp (QU Enc.tm) Enc.bool (fun t => if okT t ∧ tsz t ≤ tlim then some (Qav t) else none)
theorem c23 : QC Tryz.prog 23 s23 := by
  refine QC.of_sp (T := QG [(76, s76)]) Tryz.func23 rfl (Nat.le_of_ble_eq_true rfl) fun E t y hy => ?_
  split at hy
  case isFalse => cases hy
  next hlim =>
  obtain ⟨hok, hl⟩ := hlim
  cases hy
  have tT : QP Tryz.prog (QG [(76, s76)]) := .cons e76 .nil
  have g := call76 (QG [(76, s76)]) rfl t hok hl
  generalize QG [(76, s76)] = T at *
  refine Dwp.step tT rfl fun K hK => ?_
  simp [QD, QE, Qn, QI, own, Ql, dop, QJ, eval, Qy, QF, Ex.then, Ex.inBlock, upd, QK, Tag.isNN, Qm, intCmp, Qz, QA, TyI.agg, Qb, Qs, Qd, Qr, QL, QB, Qp, mapOf, Qx, Qo, Qf, Qi, Qg, Qu, DV.cells, Qt, Qh, Qq, Qv, rowsOf, Qw, Qe, Qa, Qa.go, Qj, Qk, Qc, goInt, init, QU, QM.one, Enc.tm, Enc.agg, QM.tm, Tm.cells_len, Q8]
  refine hK _ _ ?_ rfl; clear hK K
  refine Dwp.step tT rfl fun K hK => ?_
  simp [QD, QE, Qn, QI, own, Ql, dop, QJ, eval, Qy, QF, Ex.then, Ex.inBlock, upd, QK, Tag.isNN, Qm, intCmp, Qz, QA, TyI.agg, Qb, Qs, Qd, Qr, QL, QB, Qp, mapOf, Qx, Qo, Qf, Qi, Qg, Qu, DV.cells, Qt, Qh, Qq, Qv, rowsOf, Qw, Qe, Qa, Qa.go, Qj, Qk, Qc, goInt, init, Qab, Tm.cells_len, Q8, g]
  refine hK _ _ ?_ rfl; clear hK K
  refine Dwp.step tT rfl fun K hK => ?_
  simp [QD, QE, Qn, QI, own, Ql, dop, QJ, eval, Qy, QF, Ex.then, Ex.inBlock, upd, QK, Tag.isNN, Qm, intCmp, Qz, QA, TyI.agg, Qb, Qs, Qd, Qr, QL, QB, Qp, mapOf, Qx, Qo, Qf, Qi, Qg, Qu, DV.cells, Qt, Qh, Qq, Qv, rowsOf, Qw, Qe, Qa, Qa.go, Qj, Qk, Qc, goInt, init]
  refine hK _ _ (Dwp.ret ?_) rfl
  refine Qay Tryz.func23 rfl _ ?_
  rcases hb : Qav t with _ | _ <;> simp [upd, Qgg, hb]
theorem e23 : Go.FA.Good Tryz.prog (23, s23) := ⟨c23, Tryz.f23, _, Tryz.func23, rfl, by decide⟩
open Classical in
theorem Qj2 (T : Tab) (hT : T 23 = some s23) (t : Tm) (h : okT t) (h2 : tsz t ≤ tlim) : dcall T 23 [.agg t.cells] = some (.lit (.bool (Qav t))) :=
  QaC (A := Enc.tm) (B := Enc.bool) hT (if_pos ⟨h, h2⟩)
end Go.Proofs.Yt
namespace Go.Proofs.Yt
open Go Go.FA Go.Proofs Go.RowKit
set_option linter.unusedSimpArgs false
set_option maxRecDepth 100000
mutual
def Qjy : Tm → Bool
  | .mk k n x s ks r => Qa8 (.mk k n x s ks r) && Qfh ks
def Qfh : List Tm → Bool
  | [] => true
  | t :: l => Qjy t && Qfh l
end
mutual
def Qdm : Tm → Nat
  | .mk k n x s ks r => 1 + r.length + QbA ks
def QbA : List Tm → Nat
  | [] => 0
  | t :: l => Qdm t + QbA l
end
mutual
def Qfi : Tm → Int
  | .mk k n x s ks r => 1 + mxI (r.length : Int) (Qbf ks)
def Qbf : List Tm → Int
  | [] => 0
  | t :: l => mxI (Qfi t) (Qbf l)
end
theorem QhB (a b : Int) : (a ≤ mxI a b ∧ b ≤ mxI a b) ∧ (mxI a b = a ∨ mxI a b = b) := by unfold mxI; split <;> omega
mutual
theorem highR_pos : ∀ t : Tm, 1 ≤ Qfi t
  | .mk k n x s ks r => by have := Qd5 ks; have := QhB (r.length : Int) (Qbf ks); simp only [Qfi]; omega
theorem Qd5 : ∀ l : List Tm, 0 ≤ Qbf l
  | [] => by simp [Qbf]
  | t :: l => by have := highR_pos t; have := Qd5 l; have := QhB (Qfi t) (Qbf l); simp only [Qbf]; omega
end
theorem restT_len {so : ByteArray} : ∀ {r : List Tm}, QbS so r = true → r.length ≤ 1
  | [], _ => by simp
  | [_], _ => by simp
  | _ :: _ :: _, h => by simp [QbS] at h
theorem Qcb {α : Type} {r : List α} (h : r.isEmpty = true) : r.length = 0 := by cases r <;> simp_all
theorem Qhd {k n : Int} {x s : ByteArray} {ks r : List Tm} (h : Qa8 (.mk k n x s ks r) = true) : r.length ≤ 1 := by
  simp only [Qa8, QbM] at h
  repeat' split at h
  all_goals (try simp only [Bool.and_eq_true, Bool.or_eq_true, Bool.false_or, Bool.true_or] at h)
  all_goals first
    | exact restT_len h.1
    | (have := Qcb h.2.2.2.2.2.2; omega)
    | (have := Qcb h.2.2.2.2.2; omega)
    | (have := Qcb h.2.2.2.2; omega)
    | (have := Qcb h.2.2.2; omega)
    | (simp at h; done)
    | (simp at h; simp [h]; done)
mutual
theorem formT : ∀ (t : Tm) (d l : Int), 0 ≤ l →
    ((Qjy t = true ∧ (Qdm t : Int) ≤ l ∧ Qfi t ≤ d) → Qbb t d l = (true, l - Qdm t)) ∧ (¬ (Qjy t = true ∧ (Qdm t : Int) ≤ l ∧ Qfi t ≤ d) → (Qbb t d l).1 = false)
  | .mk k n x s ks r, d, l, h0 => by
    rw [Qbb]
    simp only [Qjy, Qdm, Qfi]
    have hh := Qd5 ks
    have hm := QhB (r.length : Int) (Qbf ks)
    by_cases hc : l - (1 + (r.length : Int)) < 0 ∨ d < 1 ∨ (0 < r.length ∧ d < 2) ∨ Qa8 (.mk k n x s ks r) = false
    · rw [if_pos hc]
      refine ⟨fun hg => absurd hc ?_, fun _ => rfl⟩
      obtain ⟨q1, q2, q3⟩ := hg
      simp only [Bool.and_eq_true] at q1
      have := Qhd q1.1
      simp only [q1.1, Bool.true_eq_false, or_false]
      omega
    · rw [if_neg hc]
      have hn : Qa8 (.mk k n x s ks r) = true := by
        cases q : Qa8 (.mk k n x s ks r) with
        | true => rfl
        | false => exact absurd (.inr (.inr (.inr q))) hc
      have hl := Qhd hn
      obtain ⟨g1, g2⟩ := Qkd ks (d - 1) (l - (1 + (r.length : Int))) (by omega)
      by_cases hk : Qfh ks = true ∧ (QbA ks : Int) ≤ l - (1 + (r.length : Int)) ∧ Qbf ks ≤ d - 1
      · rw [g1 hk]
        refine ⟨fun _ => by simp only [Prod.mk.injEq, true_and]; omega, fun hg => absurd ?_ hg⟩
        refine ⟨by simp [hn, hk.1], by omega, ?_⟩
        have : ¬ (0 < r.length ∧ d < 2) := fun h => hc (.inr (.inr (.inl h)))
        have : ¬ d < 1 := fun h => hc (.inr (.inl h))
        omega
      · refine ⟨fun hg => absurd ?_ hk, fun _ => g2 hk (by have : ¬ d < 1 := fun h => hc (.inr (.inl h)); omega)⟩
        obtain ⟨q1, q2, q3⟩ := hg
        simp only [Bool.and_eq_true] at q1
        exact ⟨q1.2, by omega, by omega⟩
theorem Qkd : ∀ (t : List Tm) (d l : Int), 0 ≤ l →
    ((Qfh t = true ∧ (QbA t : Int) ≤ l ∧ Qbf t ≤ d) → QaG t d l = (true, l - QbA t)) ∧ (¬ (Qfh t = true ∧ (QbA t : Int) ≤ l ∧ Qbf t ≤ d) → 0 ≤ d → (QaG t d l).1 = false)
  | [], d, l, h0 => by
    simp only [QaG, Qfh, QbA, Qbf]
    refine ⟨fun _ => by simp, fun hg hd => absurd ⟨trivial, by omega, hd⟩ hg⟩
  | t :: ts, d, l, h0 => by
    simp only [QaG, Qfh, QbA, Qbf]
    have hm := QhB (Qfi t) (Qbf ts)
    obtain ⟨g1, g2⟩ := formT t d l h0
    by_cases hk : Qjy t = true ∧ (Qdm t : Int) ≤ l ∧ Qfi t ≤ d
    · rw [g1 hk]
      simp only [if_true]
      obtain ⟨r1, r2⟩ := Qkd ts d (l - Qdm t) (by omega)
      constructor
      · intro hg
        obtain ⟨q1, q2, q3⟩ := hg
        simp only [Bool.and_eq_true] at q1
        rw [r1 ⟨q1.2, by omega, by omega⟩]
        simp only [Prod.mk.injEq, true_and]; omega
      · intro hg hd
        refine r2 (fun hgr => hg ?_) hd
        exact ⟨by simp [hk.1, hgr.1], by omega, by omega⟩
    · have hf := g2 hk
      rw [hf]
      simp only [Bool.false_eq_true, if_false]
      refine ⟨fun hg => absurd ?_ hk, fun _ _ => trivial⟩
      obtain ⟨q1, q2, q3⟩ := hg
      simp only [Bool.and_eq_true] at q1
      exact ⟨q1.1, by omega, by omega⟩
end
theorem noName1 : Q2 ⟨#[95]⟩ = false := by decide
theorem noName2 : Q2 ⟨#[36]⟩ = false := by decide
theorem unn_name {x : ByteArray} (h : Q2 x = true) : QjE x = false := by
  have h1 : x ≠ ⟨#[95]⟩ := fun e => by rw [e, noName1] at h; cases h
  have h2 : x ≠ ⟨#[36]⟩ := fun e => by rw [e, noName2] at h; cases h
  simp [QjE, h1, h2]
theorem Qh0 (so : ByteArray) (hso : Q2 so = true) : ∀ r : List Tm, QbS so r = (QdJ so r && Qbu r)
  | [] => by simp [QbS, QdJ, Qbu]
  | [v] => by
    obtain ⟨vk, vn, vx, vs, vks, vr⟩ := v
    simp only [QbS, QdJ, Qbu, Qij, Tm.kind, Tm.text, Tm.sort, Bool.and_true]
    by_cases h1 : vk = 6
    · subst h1
      by_cases h2 : Q2 vx = true
      · by_cases h3 : vs = so
        · subst h3
          have hu := unn_name h2
          cases vks <;> cases vr <;> simp [QbM, Qby, varB, hu, h2, hso, Qen, Qbu]
        · simp [h3]
      · simp [h2]
    · simp [h1]
  | _ :: _ :: _ => by simp [QbS, QdJ]
theorem rest_siz {so : ByteArray} : ∀ {r : List Tm}, QbS so r = true → Qa3 r = r.length ∧ Qbo r = r.length
  | [], _ => by simp [Qa3, Qbo]
  | [v], h => by
    obtain ⟨vk, vn, vx, vs, vks, vr⟩ := v
    simp only [QbS, Tm.kind, Tm.text, Tm.sort, Bool.and_eq_true, QbM] at h
    obtain ⟨_, _, _, _, _, _, h5, h6⟩ := h
    cases vks with
    | nil => cases vr with
      | nil => simp [Qa3, tsz, Qbo, Qgt, mxI]
      | cons _ _ => simp at h6
    | cons _ _ => simp at h5
  | _ :: _ :: _, h => by simp [QbS] at h
theorem nameList : Q2 ⟨#[76, 105, 115, 116]⟩ = true := by decide
theorem nameMap : Q2 ⟨#[77, 97, 112]⟩ = true := by decide
theorem emp_all (r : List Tm) : (r.isEmpty && Qbu r) = r.isEmpty := by cases r <;> simp [Qbu]
theorem node_rel (k n : Int) (x s : ByteArray) (ks r : List Tm) : Qa8 (.mk k n x s ks r) = (Qby (.mk k n x s ks r) && Qbu r) := by
  simp only [Qa8, Qby, QbM, Qen, Qh0 _ nameList, Qh0 _ nameMap, varB]
  have he := emp_all r
  generalize hb : r.isEmpty = b at *
  generalize Qbu r = c at *
  generalize QdJ ⟨#[76, 105, 115, 116]⟩ r = u
  generalize QdJ ⟨#[77, 97, 112]⟩ r = v
  generalize ks.isEmpty = w
  generalize decide (ks.length ≤ 8) = w8
  generalize decide (ks.length % 2 = 0) = w2
  generalize QcY x = tb
  generalize idB x = ib
  generalize Qe2 x = ob
  generalize Q2 x = nb
  generalize Q2 s = ns
  have hu : QjE x = decide (x = ⟨#[95]⟩ ∨ x = ⟨#[36]⟩) := by simp [QjE, Bool.decide_or]
  rw [hu]
  clear hu
  by_cases hk1 : k = 1
  · simp only [hk1, if_true, Int.reduceEq, if_false]
    generalize decide (-2147483647 ≤ n) = q0
    generalize decide (n ≤ 2147483647) = q1
    generalize decide (n = 1) = q2
    generalize decide (n = 0) = q3
    generalize decide (x = ⟨#[]⟩) = q4
    generalize decide (s = ⟨#[]⟩) = q5
    clear hk1
    cases c
    · have hbf : b = false := by simpa using he.symm
      simp [hbf]
    · simp [Bool.and_assoc, Bool.and_comm, Bool.and_left_comm]
  by_cases hk2 : k = 2
  · simp only [hk2, if_true, Int.reduceEq, if_false]
    generalize decide (-2147483647 ≤ n) = q0
    generalize decide (n ≤ 2147483647) = q1
    generalize decide (n = 1) = q2
    generalize decide (n = 0) = q3
    generalize decide (x = ⟨#[]⟩) = q4
    generalize decide (s = ⟨#[]⟩) = q5
    clear hk2
    cases c
    · have hbf : b = false := by simpa using he.symm
      simp [hbf]
    · simp [Bool.and_assoc, Bool.and_comm, Bool.and_left_comm]
  by_cases hk3 : k = 3
  · simp only [hk3, if_true, Int.reduceEq, if_false]
    generalize decide (-2147483647 ≤ n) = q0
    generalize decide (n ≤ 2147483647) = q1
    generalize decide (n = 1) = q2
    generalize decide (n = 0) = q3
    generalize decide (x = ⟨#[]⟩) = q4
    generalize decide (s = ⟨#[]⟩) = q5
    clear hk3
    cases c
    · have hbf : b = false := by simpa using he.symm
      simp [hbf]
    · simp [Bool.and_assoc, Bool.and_comm, Bool.and_left_comm]
  by_cases hk4 : k = 4
  · simp only [hk4, if_true, Int.reduceEq, if_false]
    generalize decide (-2147483647 ≤ n) = q0
    generalize decide (n ≤ 2147483647) = q1
    generalize decide (n = 1) = q2
    generalize decide (n = 0) = q3
    generalize decide (x = ⟨#[]⟩) = q4
    generalize decide (s = ⟨#[]⟩) = q5
    clear hk4
    cases c
    · have hbf : b = false := by simpa using he.symm
      simp [hbf]
    · simp [Bool.and_assoc, Bool.and_comm, Bool.and_left_comm]
  by_cases hk5 : k = 5
  · simp only [hk5, if_true, Int.reduceEq, if_false]
    generalize decide (-2147483647 ≤ n) = q0
    generalize decide (n ≤ 2147483647) = q1
    generalize decide (n = 1) = q2
    generalize decide (n = 0) = q3
    generalize decide (x = ⟨#[]⟩) = q4
    generalize decide (s = ⟨#[]⟩) = q5
    clear hk5
    cases c
    · have hbf : b = false := by simpa using he.symm
      simp [hbf]
    · simp [Bool.and_assoc, Bool.and_comm, Bool.and_left_comm]
  by_cases hk6 : k = 6
  · simp only [hk6, if_true, Int.reduceEq, if_false]
    by_cases hx : x = ⟨#[95]⟩ ∨ x = ⟨#[36]⟩
    · simp only [hx, decide_true, if_true]
      generalize decide (s = ⟨#[65, 110, 121]⟩) = q1
      generalize decide (n = 0) = q2
      cases c
      · have hbf : b = false := by simpa using he.symm
        simp [hbf]
      · cases q1 <;> cases q2 <;> cases w <;> cases b <;> rfl
    · simp only [hx, decide_false, if_false, Bool.false_eq_true]
      generalize decide (n = 0) = q2
      cases c
      · have hbf : b = false := by simpa using he.symm
        simp [hbf]
      · cases nb <;> cases ns <;> cases q2 <;> cases w <;> cases b <;> rfl
  by_cases hk7 : k = 7
  · simp only [hk7, if_true, Int.reduceEq, if_false]
    generalize decide (-2147483647 ≤ n) = q0
    generalize decide (n ≤ 2147483647) = q1
    generalize decide (n = 1) = q2
    generalize decide (n = 0) = q3
    generalize decide (x = ⟨#[]⟩) = q4
    generalize decide (s = ⟨#[]⟩) = q5
    clear hk7
    cases c
    · have hbf : b = false := by simpa using he.symm
      simp [hbf]
    · simp [Bool.and_assoc, Bool.and_comm, Bool.and_left_comm]
  by_cases hk8 : k = 8
  · simp only [hk8, if_true, Int.reduceEq, if_false]
    generalize decide (-2147483647 ≤ n) = q0
    generalize decide (n ≤ 2147483647) = q1
    generalize decide (n = 1) = q2
    generalize decide (n = 0) = q3
    generalize decide (x = ⟨#[]⟩) = q4
    generalize decide (s = ⟨#[]⟩) = q5
    clear hk8
    cases c
    · have hbf : b = false := by simpa using he.symm
      simp [hbf]
    · simp [Bool.and_assoc, Bool.and_comm, Bool.and_left_comm]
  simp only [hk1, hk2, hk3, hk4, hk5, hk6, hk7, hk8, if_false, Bool.false_and]
mutual
theorem Qhs : ∀ t : Tm, Qjy t = Qij t
  | .mk k n x s ks r => by simp only [Qjy, Qij, node_rel, QhF ks]; cases Qby (.mk k n x s ks r) <;> cases Qbu r <;> cases Qbu ks <;> rfl
theorem QhF : ∀ l : List Tm, Qfh l = Qbu l
  | [] => rfl
  | t :: l => by simp only [Qfh, Qbu, Qhs t, QhF l]
end
theorem nodeR_rest {k n : Int} {x s : ByteArray} {ks r : List Tm} (h : Qa8 (.mk k n x s ks r) = true) : Qa3 r = r.length ∧ Qbo r = r.length := by
  have hnil : r.isEmpty = true → Qa3 r = r.length ∧ Qbo r = r.length := by
    intro he
    cases r with
    | nil => simp [Qa3, Qbo]
    | cons _ _ => simp at he
  simp only [Qa8, QbM] at h
  repeat' split at h
  all_goals (try simp only [Bool.and_eq_true, Bool.or_eq_true, Bool.false_or, Bool.true_or] at h)
  all_goals first
    | exact rest_siz h.1
    | exact hnil h.2.2.2.2.2.2
    | exact hnil h.2.2.2.2.2
    | exact hnil h.2.2.2.2
    | exact hnil h.2.2.2
    | (simp at h; done)
    | (simp at h; refine hnil ?_; simp [h]; done)
mutual
theorem Qhx : ∀ t : Tm, Qjy t = true → Qdm t = tsz t ∧ Qfi t = Qgt t
  | .mk k n x s ks r, h => by
    simp only [Qjy, Bool.and_eq_true] at h
    obtain ⟨h1, h2⟩ := nodeR_rest h.1
    obtain ⟨h3, h4⟩ := QhQ ks h.2
    simp only [Qdm, tsz, Qfi, Qgt, h1, h2, h3, h4]
    refine ⟨by omega, ?_⟩
    unfold mxI; (repeat' split) <;> omega
theorem QhQ : ∀ l : List Tm, Qfh l = true → QbA l = Qa3 l ∧ Qbf l = Qbo l
  | [], _ => by simp [QbA, Qa3, Qbf, Qbo]
  | t :: l, h => by
    simp only [Qfh, Bool.and_eq_true] at h
    obtain ⟨h1, h2⟩ := Qhx t h.1
    obtain ⟨h3, h4⟩ := QhQ l h.2
    simp only [QbA, Qa3, Qbf, Qbo, h1, h2, h3, h4, and_self]
end
theorem form_valid (t : Tm) : (Qbb t 60 2000).1 = Qav t := by
  obtain ⟨h1, h2⟩ := formT t 60 2000 (by omega)
  cases hv : Qav t with
  | true =>
    simp only [Qav, Bool.and_eq_true, decide_eq_true_eq] at hv
    rw [← Qhs] at hv
    obtain ⟨q1, q2⟩ := Qhx t hv.1
    rw [h1 ⟨hv.1, by omega, by omega⟩]
  | false =>
    refine h2 fun ⟨g1, g2, g3⟩ => ?_
    obtain ⟨q1, q2⟩ := Qhx t g1
    have : Qav t = true := by
      simp only [Qav, Bool.and_eq_true, decide_eq_true_eq]
      exact ⟨by rw [← Qhs]; exact g1, by omega, by omega⟩
    rw [this] at hv; cases hv
theorem f77All : ∀ n, H77 n := fun n => Nat.strongRecOn n fun n ih => h77 n e126 ih
open Classical in
noncomputable def sT24 : Sp := sp (QU Enc.tm) Enc.bool (fun t => if okT t ∧ tsz t ≤ tlim then some (Qav t) else none)
theorem c24 : QC Tryz.prog 24 sT24 := by
  refine QC.of_sp (T := QG []) Tryz.func24 rfl (Nat.le_of_ble_eq_true rfl) fun E t y hy => ?_
  split at hy
  case isFalse => cases hy
  next hlim =>
  obtain ⟨hok, hl⟩ := hlim
  cases hy
  have tT := Q6 (P := Tryz.prog)
  generalize QG [] = T at *
  have hcall := fun id σ hi ho => f77All (tsz t) t 60 2000 id σ (Nat.le_refl _) hl hok (by omega) (by omega) (by omega) (by omega) hi ho
  refine Dwp.step tT rfl fun K hK => ?_
  simp [QD, QE, Qn, QI, own, Ql, dop, QJ, eval, Qy, QF, Ex.then, Ex.inBlock, upd, QK, Tag.isNN, Qm, intCmp, Qz, QA, TyI.agg, Qb, Qs, Qd, Qr, QL, QB, Qp, mapOf, Qx, Qo, Qf, Qi, Qg, Qu, DV.cells, Qt, Qh, Qq, Qv, rowsOf, Qw, Qe, Qa, Qa.go, Qj, Qk, Qc, goInt, init, QU, QM.one, Enc.tm, Enc.agg, QM.tm, Tm.cells_len, Q8]
  refine hK _ _ ?_ rfl; clear hK K
  refine Dwp.step tT rfl fun K hK => ?_
  simp [QD, QE, Qn, QI, own, Ql, dop, QJ, eval, Qy, QF, Ex.then, Ex.inBlock, upd, QK, Tag.isNN, Qm, intCmp, Qz, QA, TyI.agg, Qb, Qs, Qd, Qr, QL, QB, Qp, mapOf, Qx, Qo, Qf, Qi, Qg, Qu, DV.cells, Qt, Qh, Qq, Qv, rowsOf, Qw, Qe, Qa, Qa.go, Qj, Qk, Qc, goInt, init, ty3, setAt]
  refine hK _ _ ?_ rfl; clear hK K
  refine Dwp.stepH fun K hK => ?_
  show Rg _ _ _ _ K ([0] ++ (1 :: ([2] ++ []))) _ _
  refine Rg.run tT rfl _ _ _ ?_
  simp [QbP, Qfq, Qb9, QD, QE, Qn, QI, own, Ql, dop, QJ, eval, Qy, QF, Ex.then, Ex.inBlock, upd, QK, Tag.isNN, Qm, intCmp, Qz, QA, TyI.agg, Qb, Qs, Qd, Qr, QL, QB, Qp, mapOf, Qx, Qo, Qf, Qi, Qg, Qu, DV.cells, Qt, Qh, Qq, Qv, rowsOf, Qw, Qe, Qa, Qa.go, Qj, Qk, Qc, goInt, init, Qab, Tm.cells_len, Q8]
  refine Rg.call (xs := [.agg t.cells, .lit (.int .i64 60), .ptr (σ0.n + 2) 0]) rfl rfl rfl rfl (by simp [Qi, eval, upd, init, Qy]) (hcall _ _ (by show σ0.n + 2 < σ0.n + 2 + 2; omega) (by simp [upd])) ?_
  rintro e τ ⟨rfl, _, _⟩
  show Rg _ _ _ _ K ([2] ++ []) _ _
  refine Rg.run tT rfl _ _ _ ?_
  simp [QbP, Qfq, Qb9, QD, QE, Qn, QI, own, Ql, dop, QJ, eval, Qy, QF, Ex.then, Ex.inBlock, upd, QK, Tag.isNN, Qm, intCmp, Qz, QA, TyI.agg, Qb, Qs, Qd, Qr, QL, QB, Qp, mapOf, Qx, Qo, Qf, Qi, Qg, Qu, DV.cells, Qt, Qh, Qq, Qv, rowsOf, Qw, Qe, Qa, Qa.go, Qj, Qk, Qc, goInt]
  refine Rg.nil (hK _ _ (Dwp.ret ?_))
  refine Qay Tryz.func24 rfl _ ?_
  simp [upd, form_valid]
theorem e24 : Go.FA.Good Tryz.prog (24, sT24) := ⟨c24, Tryz.f24, _, Tryz.func24, rfl, by decide⟩
open Classical in
theorem Qj7 (T : Tab) (hT : T 24 = some sT24) (t : Tm) (h : okT t) (h2 : tsz t ≤ tlim) : dcall T 24 [.agg t.cells] = some (.lit (.bool (Qav t))) :=
  QaC (A := Enc.tm) (B := Enc.bool) hT (if_pos ⟨h, h2⟩)
theorem Qg7 (a : Int) : Qb7 a a = 0 := by simp [Qb7]
theorem ordI_ne {a b : Int} (h : a ≠ b) : Qb7 a b ≠ 0 := by
  unfold Qb7
  repeat' split
  all_goals omega
theorem bytesLess_self (l : List UInt8) : Op.bytesLess l l = false := by
  induction l with
  | nil => rfl
  | cons b l ih => simp [Op.bytesLess, ih]
theorem QgB (a : ByteArray) : Qcs a a = 0 := by simp [Qcs, bytesLess_self]
theorem QhT (d : Int) : orC 0 d = d := by simp [orC]
theorem Qg4 (d : Int) : orC d 0 = d := by unfold orC; split <;> simp_all
theorem orC_ne {c : Int} (h : c ≠ 0) (d : Int) : orC c d = c := by simp [orC, h]
theorem orD4 (a b c d : Int) : orD [a, b, c, d] = orC a (orC b (orC c d)) := by
  have : orD [d] = d := by simp only [orD]; split <;> simp_all
  simp only [orC]
  rw [orD, orD, orD, this]
theorem leafB_iff {k n : Int} {x s : ByteArray} {ks r : List Tm} : Qen (.mk k n x s ks r) = true ↔ ks = [] ∧ r = [] := by simp [Qen]
def QjU (k n : Int) (x s : ByteArray) (ks r : List Tm) : Prop :=
  ((k = 1 ∨ k = 2) ∧ x = ⟨#[]⟩ ∧ s = ⟨#[]⟩ ∧ ks = [] ∧ r = []) ∨ ((k = 3 ∨ k = 4) ∧ n = 0 ∧ s = ⟨#[]⟩ ∧ ks = [] ∧ r = []) ∨ (k = 5 ∧ n = 0 ∧ s = ⟨#[]⟩ ∧ r = []) ∨ (k = 6 ∧ n = 0 ∧ ks = [] ∧ r = []) ∨ ((k = 7 ∨ k = 8) ∧ n = 0 ∧ x = ⟨#[]⟩ ∧ s = ⟨#[]⟩)
theorem Qd9 {k n : Int} {x s : ByteArray} {ks r : List Tm} (h : Qby (.mk k n x s ks r) = true) : QjU k n x s ks r := by
  unfold QjU
  simp only [Qby] at h
  repeat' split at h
  all_goals (try simp only [Bool.and_eq_true, decide_eq_true_eq, leafB_iff, List.isEmpty_iff] at h)
  · exact .inl ⟨.inl ‹_›, h.2.2.1, h.2.2.2.1, h.2.2.2.2⟩
  · exact .inl ⟨.inr ‹_›, h.2.1, h.2.2.1, h.2.2.2⟩
  · exact .inr (.inl ⟨.inl ‹_›, h.1, h.2.2.1, h.2.2.2⟩)
  · exact .inr (.inl ⟨.inr ‹_›, h.1, h.2.2.1, h.2.2.2⟩)
  · exact .inr (.inr (.inl ⟨‹_›, h.1, h.2.2.1, h.2.2.2.2⟩))
  · exact .inr (.inr (.inr (.inl ⟨‹_›, h.1, h.2.2⟩)))
  · exact .inr (.inr (.inr (.inr ⟨.inl ‹_›, h.1, h.2.1, h.2.2.1⟩)))
  · exact .inr (.inr (.inr (.inr ⟨.inr ‹_›, h.1, h.2.1, h.2.2.1⟩)))
  · cases h
mutual
theorem Qi7 : ∀ t u : Tm, Qij t = true → Qij u = true → Qhm t u = Qhz t u
  | .mk k n x s ks r, .mk k' n' x' s' ks' r', h, h' => by
    simp only [Qij, Bool.and_eq_true] at h h'
    have e1 := Qf2 ks ks' h.2.1 h'.2.1
    have e2 := Qf2 r r' h.2.2 h'.2.2
    have u := Qd9 h.1
    have u' := Qd9 h'.1
    rw [Qhm, Qhz, e1, e2]
    by_cases hk : k = k'
    · subst hk
      rcases u with ⟨uk, rfl, rfl, rfl, rfl⟩ | ⟨uk, rfl, rfl, rfl, rfl⟩ | ⟨uk, rfl, rfl, rfl⟩ | ⟨uk, rfl, rfl, rfl⟩ | ⟨uk, rfl, rfl, rfl⟩ <;>
      rcases u' with ⟨uk', rfl, rfl, rfl, rfl⟩ | ⟨uk', rfl, rfl, rfl, rfl⟩ | ⟨uk', rfl, rfl, rfl⟩ | ⟨uk', rfl, rfl, rfl⟩ | ⟨uk', rfl, rfl, rfl⟩ <;>
      first
        | (exfalso; omega)
        | (rcases uk with rfl | rfl <;> simp [orD4, Qg7, QgB, QhT, Qg4, QaU]; done)
        | (subst uk; simp [orD4, Qg7, QgB, QhT, Qg4, QaU]; done)
    · have := ordI_ne hk
      simp [orD4, orC_ne this]
theorem Qf2 : ∀ l m : List Tm, Qbu l = true → Qbu m = true → Qbi l m = QaU l m
  | [], [], _, _ => by simp [Qbi, QaU]
  | [], _ :: _, _, _ => by simp [Qbi, QaU]
  | _ :: _, [], _, _ => by simp [Qbi, QaU]
  | t :: l, u :: m, h, h' => by
    simp only [Qbu, Bool.and_eq_true] at h h'
    rw [Qbi, QaU, Qi7 t u h.1 h'.1, Qf2 l m h.2 h'.2]
end
theorem Qgz {t : Tm} (h : Qav t = true) : Qij t = true := by
  simp only [Qav, Bool.and_eq_true] at h; exact h.1
def Qjx (t u : Tm) : Int × Int := if Qav t = true ∧ Qav u = true then (Qhm t u, 0) else (0, 2)
def Enc.i2 : Enc (Int × Int) := Enc.tup (QS Enc.i64 Enc.i64)
open Classical in
noncomputable def sT33 : Sp := sp (QS Enc.tm Enc.tm) Enc.i2 (fun x => if (okT x.1 ∧ tsz x.1 ≤ tlim) ∧ okT x.2 ∧ tsz x.2 ≤ tlim then some (Qjx x.1 x.2) else none)
set_option maxHeartbeats 2000000 in
theorem c33 : QC Tryz.prog 33 sT33 := by
  refine QC.of_sp (T := QG [(23, s23), (88, s88 tlim)]) Tryz.func33 rfl (Nat.le_of_ble_eq_true rfl) fun E xx y hy => ?_
  obtain ⟨t, u⟩ := xx
  simp only [] at hy
  split at hy
  case isFalse => cases hy
  next hlim =>
  obtain ⟨⟨ho1, hl1⟩, ho2, hl2⟩ := hlim
  cases hy
  have tT : QP Tryz.prog (QG [(23, s23), (88, s88 tlim)]) := .cons e23 (.cons e88 .nil)
  have g1 := Qj2 (QG [(23, s23), (88, s88 tlim)]) rfl t ho1 hl1
  have g2 := Qj2 (QG [(23, s23), (88, s88 tlim)]) rfl u ho2 hl2
  have g3 := Qkc (QG [(23, s23), (88, s88 tlim)]) rfl t u hl1 hl1 hl2
  generalize QG [(23, s23), (88, s88 tlim)] = T at *
  have fin : ∀ (x : Int × Int) (a : Nat → DV) (σ : St), a 4 = .lit (.int .i64 x.1) → a 5 = .lit (.int .i64 x.2) → QZ Tryz.prog Tryz.f33.results Enc.i2 x Ex.ret a σ := by
    intro x a σ h4 h5
    refine ⟨.inr rfl, .tuple [.lit (.int .i64 x.1), .lit (.int .i64 x.2)], ?_, by simp [QZ, QH, QV, frz, QX, QW, Enc.i2, Enc.tup, QS, QM.and, QM.one, Enc.i64, Enc.int]⟩
    show QH Tryz.prog σ a [ResultVar.tmp 4, ResultVar.tmp 5] = _
    simp [QH, QV, h4, h5]
  clear ho1 hl1 ho2 hl2
  refine Dwp.step tT rfl fun K hK => ?_
  simp [QD, QE, Qn, QI, own, Ql, dop, QJ, eval, Qy, QF, Ex.then, Ex.inBlock, upd, QK, Tag.isNN, Qm, intCmp, Qz, QA, TyI.agg, Qb, Qs, Qd, Qr, QL, QB, Qp, mapOf, Qx, Qo, Qf, Qi, Qg, Qu, DV.cells, Qt, Qh, Qq, Qv, rowsOf, Qw, Qe, Qa, Qa.go, Qj, Qk, Qc, goInt, init, QS, QM.one, QM.and, Enc.tm, Enc.agg, QM.tm, Tm.cells_len, Q8]
  refine hK _ _ ?_ rfl; clear hK K
  refine Dwp.seq ?_
  refine Dwp.step tT rfl fun K hK => ?_
  have bad : ∀ a' σ', a' 13 = .lit (.bool true) → Qjx t u = (0, 2) → σ'.n = σ0.n + 4 → K a' σ' := by
    intro a' σ' h13 hc hn
    refine hK _ _ ?_ hn
    refine Dwp.condT (by simp [eval, h13]) ?_
    refine Dwp.step tT rfl fun K hK => ?_
    simp [QD, QE, Qn, QI, own, Ql, dop, QJ, eval, Qy, QF, Ex.then, Ex.inBlock, upd, QK, Tag.isNN, Qm, intCmp, Qz, QA, TyI.agg, Qb, Qs, Qd, Qr, QL, QB, Qp, mapOf, Qx, Qo, Qf, Qi, Qg, Qu, DV.cells, Qt, Qh, Qq, Qv, rowsOf, Qw, Qe, Qa, Qa.go, Qj, Qk, Qc, goInt]
    refine hK _ _ (Dwp.ret ?_) rfl
    rw [hc]
    exact fin (0, 2) _ _ (by simp [upd]) (by simp [upd])
  rcases h1 : Qav t with _ | _
  · rw [h1] at g1
    repeat' ((first | refine QF.stepD rfl rfl ?_ | refine QF.stepG rfl rfl rfl ?_ | refine QF.stepN rfl rfl ?_ | refine QF.stepGN rfl rfl rfl ?_); intro K1 hK1; simp [*, QQ, QN, QI, dop, eval, Qy, upd, Qb, Qs, Qz, QA, TyI.agg, Qd, Qr, Qi, Qg, QB, QL, goInt, QK, intCmp, Qm, Tag.isNN, Qc, DV.cells, Qe, Qt, Qh, init, Qaa, ty3, ty9, Q9, Qab, Ql, Tm.cells_len, Q8]; (first | (refine hK1 _ _ ?_; clear hK1 K1) | (split <;> (rename_i hsp; (try simp only [beq_iff_eq, beq_eq_false_iff_ne, ne_eq, decide_eq_true_eq, decide_eq_false_iff_not] at hsp); (try (first | have hsq := Int.not_le.2 hsp | have hsq := Int.not_lt.2 hsp | have hsq := Int.not_le.1 hsp | have hsq := Int.not_lt.1 hsp)); (try subst hsp); (try simp only [hsp])) <;> (refine hK1 _ _ ?_; clear hK1 K1))))
    exact QF.done (bad _ _ (by simp [upd]) (by simp [Qjx, h1]) rfl)
  rcases h2 : Qav u with _ | _
  · rw [h1] at g1
    rw [h2] at g2
    repeat' ((first | refine QF.stepD rfl rfl ?_ | refine QF.stepG rfl rfl rfl ?_ | refine QF.stepN rfl rfl ?_ | refine QF.stepGN rfl rfl rfl ?_); intro K1 hK1; simp [*, QQ, QN, QI, dop, eval, Qy, upd, Qb, Qs, Qz, QA, TyI.agg, Qd, Qr, Qi, Qg, QB, QL, goInt, QK, intCmp, Qm, Tag.isNN, Qc, DV.cells, Qe, Qt, Qh, init, Qaa, ty3, ty9, Q9, Qab, Ql, Tm.cells_len, Q8]; (first | (refine hK1 _ _ ?_; clear hK1 K1) | (split <;> (rename_i hsp; (try simp only [beq_iff_eq, beq_eq_false_iff_ne, ne_eq, decide_eq_true_eq, decide_eq_false_iff_not] at hsp); (try (first | have hsq := Int.not_le.2 hsp | have hsq := Int.not_lt.2 hsp | have hsq := Int.not_le.1 hsp | have hsq := Int.not_lt.1 hsp)); (try subst hsp); (try simp only [hsp])) <;> (refine hK1 _ _ ?_; clear hK1 K1))))
    exact QF.done (bad _ _ (by simp [upd]) (by simp [Qjx, h1, h2]) rfl)
  clear bad
  rw [h1] at g1
  rw [h2] at g2
  repeat' ((first | refine QF.stepD rfl rfl ?_ | refine QF.stepG rfl rfl rfl ?_ | refine QF.stepN rfl rfl ?_ | refine QF.stepGN rfl rfl rfl ?_); intro K1 hK1; simp [*, QQ, QN, QI, dop, eval, Qy, upd, Qb, Qs, Qz, QA, TyI.agg, Qd, Qr, Qi, Qg, QB, QL, goInt, QK, intCmp, Qm, Tag.isNN, Qc, DV.cells, Qe, Qt, Qh, init, Qaa, ty3, ty9, Q9, Qab, Ql, Tm.cells_len, Q8]; (first | (refine hK1 _ _ ?_; clear hK1 K1) | (split <;> (rename_i hsp; (try simp only [beq_iff_eq, beq_eq_false_iff_ne, ne_eq, decide_eq_true_eq, decide_eq_false_iff_not] at hsp); (try (first | have hsq := Int.not_le.2 hsp | have hsq := Int.not_lt.2 hsp | have hsq := Int.not_le.1 hsp | have hsq := Int.not_lt.1 hsp)); (try subst hsp); (try simp only [hsp])) <;> (refine hK1 _ _ ?_; clear hK1 K1))))
  refine QF.done (hK _ _ ?_ rfl)
  refine Dwp.condF (by simp [eval, upd]) (Dwp.skip ?_)
  refine Dwp.step tT rfl fun K hK => ?_
  simp [QD, QE, Qn, QI, own, Ql, dop, QJ, eval, Qy, QF, Ex.then, Ex.inBlock, upd, QK, Tag.isNN, Qm, intCmp, Qz, QA, TyI.agg, Qb, Qs, Qd, Qr, QL, QB, Qp, mapOf, Qx, Qo, Qf, Qi, Qg, Qu, DV.cells, Qt, Qh, Qq, Qv, rowsOf, Qw, Qe, Qa, Qa.go, Qj, Qk, Qc, goInt, init, Qab, Tm.cells_len, Q8, g3]
  refine hK _ _ (Dwp.ret ?_) rfl
  have hc : Qjx t u = (Qhm t u, 0) := by simp [Qjx, h1, h2]
  rw [hc]
  exact fin (Qhm t u, 0) _ _ (by simp [upd]) (by simp [upd])
theorem e33 : Go.FA.Good Tryz.prog (33, sT33) := ⟨c33, Tryz.f33, _, Tryz.func33, rfl, by decide⟩
end Go.Proofs.Yt
