/- Contracts of functions of the program, by a machine over abstract values; part 14. No condition beyond those of each theorem. -/
import Derived.Test.YtfpejlbfdpeofaaGreatDoorSm12
import Derived.Sort.OwnSorted
import Derived.Shelf.Slices.CompactS
set_option linter.unusedVariables false
set_option linter.unusedSimpArgs false
namespace Go.Proofs.Yt
open Go Go.FA Go.Proofs Go.RowKit
set_option maxRecDepth 100000
section
attribute [local simp] QF QZ Qo QJ own Qm dop QN eval Qr Qn Ex.then Ex.inBlock upd QV Tag.isNN Qp intCmp Qv Qx TyI.agg Qa Qu Qg Qs QX QA QD mapOf QQ QC Qq Qi Qj QI DV.cells Qt Qk QE QK rowsOf QL Qd Qe Qe.go Qz QB Qc goInt
def mxI (a b : Int) : Int := if b > a then b else a
def Qdb (t : Tm) (lv : Int) (x : Int × Int) : Bool × (Int × Int) := (decide (x.1 + 1 ≤ 2000) && (decide (mxI x.2 lv ≤ 60) && Qar t), (x.1 + 1, mxI x.2 lv))
def minv (id1 id2 : Nat) (x : Int × Int) (σ : St) : Prop := id1 ≠ id2 ∧ id1 < σ.n ∧ id2 < σ.n ∧ σ.objs id1 = some (.cells 3 [.lit (.int .i64 x.1)]) ∧ σ.objs id2 = some (.cells 3 [.lit (.int .i64 x.2)])
set_option maxHeartbeats 2000000 in
theorem h124 (id1 id2 : Nat) (t : Tm) (lv : Int) (x : Int × Int) (σ : St) (hok : okT t) (hlv0 : 0 ≤ lv) (hlv : lv ≤ 1099511627776) (hx : 0 ≤ x.1 ∧ x.1 ≤ 2000) (hi : minv id1 id2 x σ) :
    HC Tryz.prog 124 [.agg t.cells, .lit (.int .i64 lv), .ptr id1 0, .ptr id2 0] σ (fun e σ' => e = .lit (.bool (Qdb t lv x).1) ∧ σ.n ≤ σ'.n ∧ minv id1 id2 (Qdb t lv x).2 σ') := by
  obtain ⟨k, nn, z, s, ks, r⟩ := t
  obtain ⟨sz, dp⟩ := x
  obtain ⟨hne, hl1, hl2, ho1, ho2⟩ := hi
  have tT : QH Tryz.prog (Qf [(125, s125)]) := .cons e125 .nil
  refine HC.of_body (T := Qf [(125, s125)]) Tryz.func124 rfl (by decide) (Nat.le_of_ble_eq_true rfl) fun E => ?_
  have g := call125 (Qf [(125, s125)]) rfl (.mk k nn z s ks r) hok
  generalize Qf [(125, s125)] = T at *
  obtain ⟨nd, hnd⟩ : ∃ b, Qar (.mk k nn z s ks r) = b := ⟨_, rfl⟩
  obtain ⟨mx, hmx⟩ : ∃ m, mxI dp lv = m := ⟨_, rfl⟩
  obtain ⟨s1, hs1⟩ : ∃ m, sz + 1 = m := ⟨_, rfl⟩
  have hst : Qdb (.mk k nn z s ks r) lv (sz, dp) = (decide (s1 ≤ 2000) && (decide (mx ≤ 60) && nd), (s1, mx)) := by simp only [Qdb, hnd, hmx, hs1]
  rw [hst]
  have hne' : ¬ id1 = id2 := hne
  have hne2 : ¬ id2 = id1 := fun e => hne e.symm
  have hw : IntKind.i64.wrap (sz + 1) = s1 := by rw [← hs1]; exact QaY (by simp only [] at hx; omega) (by simp only [] at hx; omega)
  have hmx2 : (if dp < lv then lv else dp) = mx := hmx
  simp only [QG] at g ⊢
  rw [hnd] at g
  let R : DV → St → Prop := fun e σ' => e = .lit (.bool (decide (s1 ≤ 2000) && (decide (mx ≤ 60) && nd))) ∧ σ.n ≤ σ'.n ∧ minv id1 id2 (s1, mx) σ'
  have fin : ∀ (a : Nat → DV) (σ' : St), a 6 = .lit (.bool (decide (s1 ≤ 2000) && (decide (mx ≤ 60) && nd))) → σ.n ≤ σ'.n → σ'.objs id1 = some (.cells 3 [.lit (.int .i64 s1)]) → σ'.objs id2 = some (.cells 3 [.lit (.int .i64 mx)]) → Qf2 Tryz.prog Tryz.f124.results R Ex.ret a σ' := by
    intro a σ' h6 hn q1 q2
    refine ⟨.inr rfl, _, ?_, rfl, hn, hne, by omega, by omega, q1, q2⟩
    show Qh Tryz.prog σ' _ [ResultVar.tmp 6] = _
    simp [Qh, QW, h6]
  refine Dwp.step tT rfl fun K hK => ?_
  simp [init, QG]
  refine hK _ _ ?_ rfl; clear hK K
  refine Dwp.step tT rfl fun K hK => ?_
  simp [init, ty3, ho1, hw, setAt]
  refine hK _ _ ?_ rfl; clear hK K
  refine Dwp.step tT rfl fun K hK => ?_
  simp [init, ty3, ho2, hne2, setAt, hmx2]
  refine hK _ _ ?_ rfl; clear hK K
  clear hst hmx hs1 hnd hx hok hw
  refine Dwp.step tT rfl fun K hK => ?_
  repeat' ((first | refine Qn.stepD rfl rfl ?_ | refine Qn.stepG rfl rfl rfl ?_ | refine Qn.stepN rfl rfl ?_ | refine Qn.stepGN rfl rfl rfl ?_); intro K1 hK1; simp [*, QO, Qw, QJ, dop, eval, Qr, upd, Qa, Qu, Qv, Qx, TyI.agg, Qg, Qs, Qi, Qj, QA, QX, goInt, QV, intCmp, Qp, Tag.isNN, Qc, DV.cells, Qd, Qt, Qk, init, QaB, ty3, ty9, Qak, Q5, QG, Qm]; (first | (refine hK1 _ _ ?_; clear hK1 K1) | (split <;> (rename_i hsp; (try simp only [beq_iff_eq, beq_eq_false_iff_ne, ne_eq, decide_eq_true_eq, decide_eq_false_iff_not] at hsp); (try (first | have hsq := Int.not_le.2 hsp | have hsq := Int.not_lt.2 hsp | have hsq := Int.not_le.1 hsp | have hsq := Int.not_lt.1 hsp)); (try subst hsp); (try simp only [hsp])) <;> (refine hK1 _ _ ?_; clear hK1 K1))))
  all_goals refine Qn.done (hK _ _ (Dwp.ret ?_) rfl)
  all_goals refine fin _ _ ?_ ?_ ?_ ?_
  all_goals first | (show σ.n ≤ _; simp only []; omega) | (simp [upd, *])
def Qg7 (id1 id2 : Nat) : Seer where
  X := Int × Int
  f := 124
  capt := [.ptr id1 0, .ptr id2 0]
  step := Qdb
  inv := fun x σ => 0 ≤ x.1 ∧ x.1 ≤ 2000 ∧ minv id1 id2 x σ
  out := fun x σ => minv id1 id2 x σ
  call := fun t lv x σ hok h1 h2 ⟨hx1, hx2, hi⟩ => (h124 id1 id2 t lv x σ hok h1 h2 ⟨hx1, hx2⟩ hi).mono fun e σ' ⟨r1, r2, r3⟩ => ⟨r1, r2, fun hb => by
    simp only [Qdb, Bool.and_eq_true, decide_eq_true_eq] at hb
    exact ⟨by simp only [Qdb]; omega, by simp only [Qdb]; omega, r3⟩, fun _ => r3⟩
  mono := fun x σ σ' ⟨hx1, hx2, h1, h2, h3, h4, h5⟩ hn ho ht => ⟨hx1, hx2, h1, by omega, by omega, by rw [ho _ h2]; exact h4, by rw [ho _ h3]; exact h5⟩
  monoO := fun x σ σ' ⟨h1, h2, h3, h4, h5⟩ hn ho ht => ⟨h1, by omega, by omega, by rw [ho _ h2]; exact h4, by rw [ho _ h3]; exact h5⟩
end
mutual
def Qgo : Tm → Bool
  | .mk k n x s ks r => Qar (.mk k n x s ks r) && (QaZ ks && QaZ r)
def QaZ : List Tm → Bool
  | [] => true
  | t :: l => Qgo t && QaZ l
end
mutual
def QeS : Tm → Int
  | .mk k n x s ks r => 1 + mxI (Qa8 ks) (Qa8 r)
def Qa8 : List Tm → Int
  | [] => 0
  | t :: l => mxI (QeS t) (Qa8 l)
end
def Gd (b : Bool) (n : Nat) (d lv : Int) (x : Int × Int) : Prop := b = true ∧ x.1 + n ≤ 2000 ∧ lv + d - 1 ≤ 60
def Rs (n : Nat) (d lv : Int) (x : Int × Int) : Int × Int := (x.1 + n, mxI x.2 (lv + d - 1))
mutual
theorem QgO : ∀ t : Tm, 1 ≤ QeS t
  | .mk k n x s ks r => by have := Qcb ks; have := Qcb r; simp only [QeS, mxI]; split <;> omega
theorem Qcb : ∀ l : List Tm, 0 ≤ Qa8 l
  | [] => by simp [Qa8]
  | t :: l => by have := QgO t; have := Qcb l; simp only [Qa8, mxI]; split <;> omega
end
mutual
theorem visT : ∀ (t : Tm) (lv : Int) (x : Int × Int), x.1 ≤ 2000 → 1 ≤ lv → lv - 1 ≤ x.2 → x.2 ≤ 60 →
    (Gd (Qgo t) (tsz t) (QeS t) lv x → Qfh Qdb t lv x = (true, Rs (tsz t) (QeS t) lv x)) ∧ (¬ Gd (Qgo t) (tsz t) (QeS t) lv x → (Qfh Qdb t lv x).1 = false)
  | .mk k n z s ks r, lv, (a, b), h0, h1, h2, h3 => by
    have hd1 := Qcb ks
    have hd2 := Qcb r
    have hst : Qdb (.mk k n z s ks r) lv (a, b) = (decide (a + 1 ≤ 2000) && (decide (mxI b lv ≤ 60) && Qar (.mk k n z s ks r)), (a + 1, mxI b lv)) := rfl
    rw [Qfh, hst]
    simp only [Qgo, tsz, QeS]
    simp only [] at h2 h3
    by_cases hs : (decide (a + 1 ≤ 2000) && (decide (mxI b lv ≤ 60) && Qar (.mk k n z s ks r))) = true
    · simp only [hs, if_true]
      simp only [Bool.and_eq_true, decide_eq_true_eq] at hs
      obtain ⟨s1, s2, s3⟩ := hs
      have hmb : lv ≤ mxI b lv ∧ b ≤ mxI b lv := by unfold mxI; split <;> omega
      obtain ⟨g1, g2⟩ := vissT ks (lv + 1) (a + 1, mxI b lv) s1 (by omega) (by simp only []; omega) s2
      by_cases hk : Gd (QaZ ks) (QaI ks) (Qa8 ks) (lv + 1) (a + 1, mxI b lv)
      · rw [g1 hk]
        simp only [if_true]
        obtain ⟨k1, k2, k3⟩ := hk
        simp only [] at k2
        have hmr : lv ≤ mxI (mxI b lv) (lv + 1 + Qa8 ks - 1) ∧ mxI (mxI b lv) (lv + 1 + Qa8 ks - 1) ≤ 60 := by
          have := s2; unfold mxI at *; constructor <;> (repeat' split) <;> (repeat' split at this) <;> omega
        obtain ⟨r1, r2⟩ := vissT r (lv + 1) (Rs (QaI ks) (Qa8 ks) (lv + 1) (a + 1, mxI b lv)) (by simp only [Rs]; omega) (by omega) (by simp only [Rs]; omega) hmr.2
        constructor
        · intro hg
          obtain ⟨q1, q2, q3⟩ := hg
          simp only [Bool.and_eq_true] at q1
          simp only [] at q2
          rw [r1 ⟨q1.2.2, by simp only [Rs]; omega, by unfold mxI at q3; split at q3 <;> omega⟩]
          simp only [Rs, Prod.mk.injEq, true_and]
          constructor
          · omega
          · unfold mxI; (repeat' split) <;> omega
        · intro hg
          refine r2 fun hgr => hg ?_
          obtain ⟨q1, q2, q3⟩ := hgr
          simp only [Rs] at q2
          refine ⟨by simp [s3, k1, q1], by simp only []; omega, ?_⟩
          unfold mxI; split <;> omega
      · have hf := g2 hk
        rw [hf]
        simp only [Bool.false_eq_true, if_false]
        refine ⟨fun hg => absurd ?_ hk, fun _ => trivial⟩
        obtain ⟨q1, q2, q3⟩ := hg
        simp only [Bool.and_eq_true] at q1
        simp only [] at q2
        exact ⟨q1.2.1, by simp only []; omega, by unfold mxI at q3; split at q3 <;> omega⟩
    · have hs' : (decide (a + 1 ≤ 2000) && (decide (mxI b lv ≤ 60) && Qar (.mk k n z s ks r))) = false := by simpa using hs
      simp only [hs', Bool.false_eq_true, if_false]
      refine ⟨fun hg => absurd ?_ hs, fun _ => trivial⟩
      obtain ⟨q1, q2, q3⟩ := hg
      simp only [Bool.and_eq_true] at q1
      simp only [] at q2
      simp only [Bool.and_eq_true, decide_eq_true_eq]
      refine ⟨by omega, ?_, q1.1⟩
      unfold mxI at *; split <;> (split at q3) <;> omega
theorem vissT : ∀ (l : List Tm) (lv : Int) (x : Int × Int), x.1 ≤ 2000 → 1 ≤ lv → lv - 1 ≤ x.2 → x.2 ≤ 60 →
    (Gd (QaZ l) (QaI l) (Qa8 l) lv x → Qa7 Qdb l lv x = (true, Rs (QaI l) (Qa8 l) lv x)) ∧ (¬ Gd (QaZ l) (QaI l) (Qa8 l) lv x → (Qa7 Qdb l lv x).1 = false)
  | [], lv, (a, b), h0, h1, h2, h3 => by
    simp only [] at h2 h3
    rw [Qa7]
    simp only [QaZ, QaI, Qa8]
    constructor
    · intro hg
      simp only [Rs, Prod.mk.injEq, true_and]
      constructor
      · omega
      · unfold mxI; split <;> omega
    · intro hg
      exact absurd ⟨rfl, by simp only [] at h0 ⊢; omega, by omega⟩ hg
  | t :: l, lv, (a, b), h0, h1, h2, h3 => by
    simp only [] at h0 h2 h3
    have hd1 := QgO t
    have hd2 := Qcb l
    rw [Qa7]
    simp only [QaZ, QaI, Qa8]
    obtain ⟨g1, g2⟩ := visT t lv (a, b) h0 h1 h2 h3
    by_cases hk : Gd (Qgo t) (tsz t) (QeS t) lv (a, b)
    · rw [g1 hk]
      simp only [if_true]
      obtain ⟨k1, k2, k3⟩ := hk
      simp only [] at k2
      have hmr : lv - 1 ≤ mxI b (lv + QeS t - 1) ∧ mxI b (lv + QeS t - 1) ≤ 60 := by
        unfold mxI; constructor <;> (repeat' split) <;> omega
      obtain ⟨r1, r2⟩ := vissT l lv (Rs (tsz t) (QeS t) lv (a, b)) (by simp only [Rs]; omega) h1 (by simp only [Rs]; omega) hmr.2
      constructor
      · intro hg
        obtain ⟨q1, q2, q3⟩ := hg
        simp only [Bool.and_eq_true] at q1
        simp only [] at q2
        rw [r1 ⟨q1.2, by simp only [Rs]; omega, by unfold mxI at q3; split at q3 <;> omega⟩]
        simp only [Rs, Prod.mk.injEq, true_and]
        constructor
        · omega
        · unfold mxI; (repeat' split) <;> omega
      · intro hg
        refine r2 fun hgr => hg ?_
        obtain ⟨q1, q2, q3⟩ := hgr
        simp only [Rs] at q2
        refine ⟨by simp [k1, q1], by simp only []; omega, ?_⟩
        unfold mxI; split <;> omega
    · have hf := g2 hk
      rw [hf]
      simp only [Bool.false_eq_true, if_false]
      refine ⟨fun hg => absurd ?_ hk, fun _ => trivial⟩
      obtain ⟨q1, q2, q3⟩ := hg
      simp only [Bool.and_eq_true] at q1
      simp only [] at q2
      exact ⟨q1.1, by simp only []; omega, by unfold mxI at q3; split at q3 <;> omega⟩
end
end Go.Proofs.Yt
namespace Go.Proofs.Yt
open Go Go.FA Go.Proofs Go.RowKit
set_option maxRecDepth 100000
section
attribute [local simp] QF QZ Qo QJ own Qm dop QN eval Qr Qn Ex.then Ex.inBlock upd QV Tag.isNN Qp intCmp Qv Qx TyI.agg Qa Qu Qg Qs QX QA QD mapOf QQ QC Qq Qi Qj QI DV.cells Qt Qk QE QK rowsOf QL Qd Qe Qe.go Qz QB Qc goInt
namespace Seer
variable (S : Seer)
theorem h92 (t : Tm) (x : S.X) (σ : St) (hlim : tsz t ≤ tlim) (hok : okT t) (hinv : S.inv x σ) :
    HC Tryz.prog 92 [.agg t.cells, S.fn] σ (fun e σ' => e = .lit (.bool (S.vis t 1 x).1) ∧ σ.n ≤ σ'.n ∧ ((S.vis t 1 x).1 = true → S.inv (S.vis t 1 x).2 σ') ∧ ((S.vis t 1 x).1 = false → S.out (S.vis t 1 x).2 σ')) := by
  have tT := Q9 (P := Tryz.prog)
  refine HC.of_body (T := Qf []) Tryz.func92 rfl (by decide) (Nat.le_of_ble_eq_true rfl) fun E => ?_
  generalize Qf [] = T at *
  have hcall := fun σ' hi => S.hAll (tsz t) t 1 x σ' (Nat.le_refl _) hlim hok (by omega) (by unfold tlim at hlim; omega) hi
  obtain ⟨fv, hfv⟩ : ∃ v, v = S.fn := ⟨_, rfl⟩
  rw [← hfv] at hcall ⊢
  refine Dwp.step tT rfl fun K hK => ?_
  simp [init, Tm.cells_len, QT]
  refine hK _ _ ?_ rfl; clear hK K
  refine Dwp.stepH fun K hK => ?_
  show Rg _ _ _ _ K ([0, 1] ++ (2 :: ([3] ++ []))) _ _
  refine Rg.run tT rfl _ _ _ ?_
  simp [Q4, QaC, Qam, init, Q5, Tm.cells_len, QT]
  refine Rg.call (xs := [.agg t.cells, .lit (.int .i64 1), fv]) rfl rfl rfl rfl (by simp [Qi, eval, upd, init, Qr]) (hcall _ (S.mono x σ _ hinv (by show σ.n ≤ σ.n + 2; omega) (by simp) (by simp))) ?_
  rintro e τ ⟨rfl, hnn, hi1, ho1⟩
  have hn2 : σ.n + 2 ≤ τ.n := hnn
  show Rg _ _ _ _ K ([3] ++ []) _ _
  refine Rg.run tT rfl _ _ _ ?_
  simp [Q4, QaC, Qam]
  refine Rg.nil (hK _ _ (Dwp.ret ?_))
  refine ⟨.inr rfl, .lit (.bool (S.vis t 1 x).1), ?_, rfl, by omega, hi1, ho1⟩
  show Qh Tryz.prog τ _ [ResultVar.tmp 4] = _
  simp [Qh, QW, upd]
end Seer
def Qas (t : Tm) : Bool := Qgo t && (decide (tsz t ≤ 2000) && decide (QeS t ≤ 60))
def QbU (t : Tm) : Int × Int × Int := if Qas t = true then (tsz t, QeS t, 0) else (0, 0, 2)
def Enc.meas : Enc (Int × Int × Int) := Enc.tup (Q6 Enc.i64 Enc.i64 Enc.i64)
open Classical in
noncomputable def s76 : Sp := sp (QM Enc.tm) Enc.meas (fun t => if okT t ∧ tsz t ≤ tlim then some (QbU t) else none)
theorem vis_valid (t : Tm) : (Qas t = true → Qfh Qdb t 1 ((0, 0) : Int × Int) = (true, ((tsz t : Int), QeS t))) ∧ (Qas t = false → (Qfh Qdb t 1 ((0, 0) : Int × Int)).1 = false) := by
  obtain ⟨h1, h2⟩ := visT t 1 (0, 0) (by simp) (by omega) (by simp) (by simp)
  have hd := QgO t
  constructor
  · intro h
    simp only [Qas, Bool.and_eq_true, decide_eq_true_eq] at h
    rw [h1 ⟨h.1, by simp only []; omega, by omega⟩]
    simp only [Rs, Prod.mk.injEq, true_and]
    constructor
    · omega
    · unfold mxI; split <;> omega
  · intro h
    refine h2 fun hg => ?_
    obtain ⟨q1, q2, q3⟩ := hg
    simp only [] at q2
    have : Qas t = true := by
      simp only [Qas, Bool.and_eq_true, decide_eq_true_eq]
      exact ⟨q1, by omega, by omega⟩
    rw [h] at this; cases this
set_option maxHeartbeats 2000000 in
theorem c76 : Qb Tryz.prog 76 s76 := by
  refine Qb.of_sp (T := Qf []) Tryz.func76 rfl (Nat.le_of_ble_eq_true rfl) fun E t y hy => ?_
  split at hy
  case isFalse => cases hy
  next hlim =>
  obtain ⟨hok, hl⟩ := hlim
  cases hy
  have tT := Q9 (P := Tryz.prog)
  generalize Qf [] = T at *
  obtain ⟨v1, v2⟩ := vis_valid t
  refine Dwp.step tT rfl fun K hK => ?_
  simp [init, QM, Ql.one, Enc.tm, Enc.agg, Ql.tm, Tm.cells_len, QT, ty3]
  refine hK _ _ ?_ rfl; clear hK K
  refine Dwp.stepH fun K hK => ?_
  show Rg _ _ _ _ K ([0, 1] ++ (2 :: ([3] ++ []))) _ _
  refine Rg.run tT rfl _ _ _ ?_
  simp [Q4, QaC, Qam, init, Q5, Tm.cells_len, QT]
  have hS : (Qg7 (σ0.n + 1) (σ0.n + 2)).fn = .func (.func 124) [] [.ptr (σ0.n + 1) 0, .ptr (σ0.n + 2) 0] := rfl
  have hV : ∀ x : Int × Int, (Qg7 (σ0.n + 1) (σ0.n + 2)).vis t 1 x = Qfh Qdb t 1 x := fun _ => rfl
  have hc := fun σ' hi => (Qg7 (σ0.n + 1) (σ0.n + 2)).h92 t ((0, 0) : Int × Int) σ' hl hok hi
  refine Rg.call (xs := [.agg t.cells, .func (.func 124) [] [.ptr (σ0.n + 1) 0, .ptr (σ0.n + 2) 0]]) rfl rfl rfl rfl (by simp [Qi, eval, upd, init, Qr]) (hc _ ⟨by simp, by simp, by omega, by show σ0.n + 1 < σ0.n + 4; omega, by show σ0.n + 2 < σ0.n + 4; omega, by simp [upd], by simp [upd]⟩) ?_
  rintro e τ ⟨rfl, hnn, hi1, ho1⟩
  show Rg _ _ _ _ K ([3] ++ []) _ _
  refine Rg.run tT rfl _ _ _ ?_
  simp [Q4, QaC, Qam]
  refine Rg.nil (hK _ _ ?_)
  clear hK K
  rw [hV] at hi1 ho1 ⊢
  refine Dwp.seq ?_
  refine Dwp.step tT rfl fun K hK => ?_
  rcases hb : Qas t with _ | _
  · have hvf := v2 hb
    obtain ⟨_, q1, q2, q3, q4⟩ := ho1 hvf
    rw [hvf]
    simp
    refine hK _ _ ?_ rfl; clear hK K
    refine Dwp.condT (by simp [eval, upd]) ?_
    refine Dwp.step tT rfl fun K hK => ?_
    simp [ty3, q3, q4, setAt]
    refine hK _ _ (Dwp.ret ?_) rfl
    have hm : QbU t = (0, 0, 2) := by simp [QbU, hb]
    rw [hm]
    simp [Q3, Qh, QW, frz, Q2, Q0, Ex.then, upd, Enc.meas, Enc.tup, Q6, Ql.and, Ql.one, Enc.i64, Enc.int, q3, q4, Qv, ty3, Qx, TyI.agg]
  · have hvt := v1 hb
    rw [hvt] at hi1
    obtain ⟨_, _, _, q1, q2, q3, q4⟩ := hi1 rfl
    rw [hvt]
    simp
    refine hK _ _ ?_ rfl; clear hK K
    refine Dwp.condF (by simp [eval, upd]) (Dwp.skip ?_)
    have hne : ¬ σ0.n + 1 = σ0.n + 2 := by omega
    refine Dwp.drawStep [.robj (σ0.n + 1), .robj (σ0.n + 2), .wobj (σ0.n + 1), .wobj (σ0.n + 2), .none] mixed tT rfl rfl fun K hK => ?_
    simp [QbI, touch, QaO, Qbt, ty3, q3, q4, setAt]
    refine hK _ _ (Dwp.ret ?_) rfl
    have hm : QbU t = ((tsz t : Int), QeS t, (0 : Int)) := by simp [QbU, hb]
    rw [hm]
    simp [Q3, Qh, QW, frz, Q2, Q0, Ex.then, upd, Enc.meas, Enc.tup, Q6, Ql.and, Ql.one, Enc.i64, Enc.int, q3, q4, Qv, ty3, Qx, TyI.agg]
theorem e76 : Go.FA.Good Tryz.prog (76, s76) := ⟨c76, Tryz.f76, _, Tryz.func76, rfl, by decide⟩
open Classical in
theorem Qj8 (T : Tab) (hT : T 76 = some s76) (t : Tm) (h : okT t) (h2 : tsz t ≤ tlim) : dcall T 76 [.agg t.cells] = some (.tuple [.lit (.int .i64 (QbU t).1), .lit (.int .i64 (QbU t).2.1), .lit (.int .i64 (QbU t).2.2)]) :=
  Qad (A := Enc.tm) (B := Enc.meas) hT (if_pos ⟨h, h2⟩)
open Classical in
noncomputable def s23 : Sp := sp (QM Enc.tm) Enc.bool (fun t => if okT t ∧ tsz t ≤ tlim then some (Qas t) else none)
theorem c23 : Qb Tryz.prog 23 s23 := by
  refine Qb.of_sp (T := Qf [(76, s76)]) Tryz.func23 rfl (Nat.le_of_ble_eq_true rfl) fun E t y hy => ?_
  split at hy
  case isFalse => cases hy
  next hlim =>
  obtain ⟨hok, hl⟩ := hlim
  cases hy
  have tT : QH Tryz.prog (Qf [(76, s76)]) := .cons e76 .nil
  have g := Qj8 (Qf [(76, s76)]) rfl t hok hl
  generalize Qf [(76, s76)] = T at *
  refine Dwp.step tT rfl fun K hK => ?_
  simp [init, QM, Ql.one, Enc.tm, Enc.agg, Ql.tm, Tm.cells_len, QT]
  refine hK _ _ ?_ rfl; clear hK K
  refine Dwp.step tT rfl fun K hK => ?_
  simp [init, Q5, Tm.cells_len, QT, g]
  refine hK _ _ ?_ rfl; clear hK K
  refine Dwp.step tT rfl fun K hK => ?_
  simp [init]
  refine hK _ _ (Dwp.ret ?_) rfl
  refine QaE Tryz.func23 rfl _ ?_
  rcases hb : Qas t with _ | _ <;> simp [upd, QbU, hb]
theorem e23 : Go.FA.Good Tryz.prog (23, s23) := ⟨c23, Tryz.f23, _, Tryz.func23, rfl, by decide⟩
open Classical in
theorem Qll (T : Tab) (hT : T 23 = some s23) (t : Tm) (h : okT t) (h2 : tsz t ≤ tlim) : dcall T 23 [.agg t.cells] = some (.lit (.bool (Qas t))) :=
  Qad (A := Enc.tm) (B := Enc.bool) hT (if_pos ⟨h, h2⟩)
end
end Go.Proofs.Yt
namespace Go.FA
open Go.RowKit
variable {P : Program} {T : Tab} {E : Entry} {C : Ctx} {w : World} {σ : St} {n : Nat} {a : Nat → DV} {ops : Array Oper} {K : (Nat → DV) → St → Prop} {i : Nat} {rest : List Nat} {o : Oper}
theorem Qgc {b : Nat} : ∀ (x y : List DV) (off : Nat), Qa6 C w b off (x ++ y) → Qa6 C w b off x ∧ Qa6 C w b (off + x.length) y
  | [], y, off, h => ⟨by simp [Qa6], by simpa using h⟩
  | d :: x, y, off, h => by
    simp only [List.cons_append, Qa6] at h ⊢
    obtain ⟨h1, h2⟩ := Qgc x y (off + 1) h.2
    exact ⟨⟨h.1, h1⟩, by simpa [Nat.add_assoc, Nat.add_comm 1] using h2⟩
theorem Qgx {k b : Nat} : ∀ (rows : List (List DV)) (off : Nat), (∀ r ∈ rows, r.length = k) → Qa6 C w b off rows.flatten → QaP C w k b off rows
  | [], off, _, _ => by simp [QaP]
  | r :: rs, off, hl, h => by
    simp only [List.flatten_cons] at h
    obtain ⟨h1, h2⟩ := Qgc r rs.flatten off h
    have hk := hl r (by simp)
    simp only [QaP]
    exact ⟨hk, h1, Qgx rs (off + k) (fun x hx => hl x (by simp [hx])) (by rw [← hk]; exact h2)⟩
end Go.FA
namespace Go.FA
open Go.RowKit
variable {P : Program} {T : Tab} {E : Entry} {n : Nat} {Q : Ex → (Nat → DV) → St → Prop} {a : Nat → DV} {σ : St}
inductive FrzL (σ : St) (id k : Nat) (rows : List (List DV)) : DV → DV → Prop where
  | keep (d : DV) : FrzL σ id k rows d d
  | junk (d : DV) : FrzL σ id k rows d .junk
  | live : FrzL σ id k rows (.live id k 0 rows.length) (.slice k .none rows)
theorem Dwp.freezeL {c : Code} (id k : Nat) {t : TypeId} {rows : List (List DV)} (a' : Nat → DV) (ho : σ.objs id = some (.buf t rows.flatten)) (hl : ∀ r ∈ rows, r.length = k) (ha : ∀ t, FrzL σ id k rows (a t) (a' t))
    (h : Dwp P T E n c Q a' { σ with objs := upd σ.objs id none }) : Dwp P T E n c Q a σ := by
  refine ⟨fun ca w ds hok => ?_⟩
  obtain ⟨hn, C, hf, hs⟩ := hok
  obtain ⟨b, hb, hB, hlt, hnp, hnm, hO⟩ := hs.obj id _ ho
  let C' : Ctx := { C with pc := fun k j => C.pc k j ∨ k = b, pm := fun k => C.pm k ∨ k = b }
  have hle : C.Le C' := ⟨fun _ _ e => e, fun _ x e => ⟨x, e, Nat.le_refl _, fun _ => rfl⟩, fun _ _ p => .inl p, fun _ p => .inl p, rfl⟩
  have hst : Step C w w := .refl C w
  refine h.out ca w ds ⟨hn, C', ⟨fun t => ?_, hf.le.trans hle, hf.st.trans hf.le hst⟩, ?_⟩
  · have ht := hf.rel t
    have hfr := ha t
    generalize ca.getD t undef = v at ht
    generalize a' t = d' at hfr
    generalize a t = d at hfr ht
    show Qy C' w d' v
    cases hfr with
    | keep d => exact QaH hle hst _ _ ht
    | junk d => simp [Qy]
    | live =>
      simp only [Qy] at ht ⊢
      obtain ⟨b', cap, c', e, q1, rfl, q2, _, _, _⟩ := ht
      obtain rfl : b = b' := by rw [hb] at q1; exact Option.some.inj q1
      obtain ⟨vs, tl, h1, h2, h3⟩ := hO
      refine .inl ⟨b, 0, cap, rfl, q2, Qgx rows 0 hl (Qdv (QS hle hst _ _ h2) (fun v hv => h3 v (by simp [hv])) fun i v hv => ⟨.inr rfl, ?_⟩), trivial⟩
      rw [cell?_of_cells h1, Nat.zero_add]
      have hi : i < vs.length := by
        rcases Nat.lt_or_ge i vs.length with q | q
        · exact q
        · rw [List.getElem?_eq_none q] at hv; cases hv
      simp only [List.getElem?_toArray]
      rw [List.getElem?_append_left hi]; exact hv
  · have hup : ∀ i oi, upd σ.objs id none i = some oi → i ≠ id ∧ σ.objs i = some oi := by
      intro i oi hi
      by_cases e : i = id
      · subst e; simp [upd] at hi
      · exact ⟨e, by simpa [upd, e] using hi⟩
    constructor
    · exact hs.lo
    · exact hs.below
    · exact hs.bsize
    · exact hs.pB
    · exact hs.mB
    · exact fun b o p => .inl (hs.psup _ _ p)
    · exact fun b p => .inl (hs.msup _ p)
    · intro k j p
      rcases p with p | rfl
      · exact hs.psub _ _ p
      · exact .inr ⟨hB, hlt⟩
    · intro k p
      rcases p with p | rfl
      · exact hs.msub _ p
      · exact .inr ⟨hB, hlt⟩
    · intro i oi hi
      obtain ⟨hne, hi'⟩ := hup i oi hi
      obtain ⟨bi, g1, g2, g3, g4, g5, g6⟩ := hs.obj i oi hi'
      have hbb : bi ≠ b := fun e => hne (hs.inj i id oi _ bi hi' ho g1 (by rw [hb, e]))
      exact ⟨bi, g1, g2, g3, fun j p => p.elim (g4 j) hbb, fun p => p.elim g5 hbb, g6.mono hle hst rfl⟩
    · intro i j oi oj bb hi hj g1 g2
      exact hs.inj i j oi oj bb (hup i oi hi).2 (hup j oj hj).2 g1 g2
    · intro t g ht
      obtain ⟨x, g1, g2, g3⟩ := hs.tok t g ht
      refine ⟨x, g1, g2, fun hx => ?_⟩
      obtain ⟨g4, g5, g6, g7⟩ := g3 hx
      have hbb : x.blk ≠ b := fun e => hs.tobj t g x id _ ht g1 hx ho (by rw [hb, e])
      exact ⟨g4, g5, fun o ho' p => p.elim (g6 o ho') hbb, fun p => p.elim g7 hbb⟩
    · exact hs.tinj
    · intro t g x i oi ht g1 hx hi
      exact hs.tobj t g x i oi ht g1 hx (hup i oi hi).2
    · exact hs.fresh
end Go.FA
namespace Go.FA
open Go.RowKit Go.Sort Go.Proofs
variable {P : Program} {σ : St}
def Qgn (l : List ByteArray) : List DV := l.map fun x => .lit (.string x)
theorem Qi1 {C : Ctx} {w : World} : ∀ (l : List ByteArray) (vs : List Value), QP C w (Qgn l) vs → vs = l.map fun x => Value.string x
  | [], vs, h => by
    match vs, h with
    | [], _ => rfl
  | x :: l, vs, h => by
    match vs, h with
    | v :: vs, h =>
      simp only [Qgn, List.map_cons, QP, Qy] at h
      rw [h.1, Qi1 l vs h.2]; rfl
theorem QiS {C : Ctx} {w : World} : ∀ l : List ByteArray, QP C w (Qgn l) (l.map fun x => Value.string x)
  | [] => trivial
  | x :: l => by
    simp only [Qgn, List.map_cons, QP, Qy]
    exact ⟨trivial, QiS l⟩
theorem putCells_list (zs : List (List UInt8)) (cur : Array Value) (h : zs.length ≤ cur.size) : (putCells encStr 0 zs.toArray cur).toList = zs.map encStr ++ cur.toList.drop zs.length := by
  apply List.ext_getElem
  · simp [putCells]; omega
  · intro i h1 h2
    have hi : i < cur.size := by simpa [putCells] using h1
    simp only [putCells, Array.getElem_toList, Array.getElem_mapIdx, List.size_toArray, Nat.zero_add, Nat.zero_le, true_and, Nat.sub_zero]
    by_cases hz : i < zs.length
    · rw [if_pos hz, List.getElem_append_left (by simpa using hz)]
      simp [hz]
    · rw [if_neg hz, List.getElem_append_right (by simpa using hz)]
      simp only [List.length_map, List.getElem_drop, Array.getElem_toList]
      congr 1
      omega
theorem Qlf {f : FuncId} {bid : Nat} {e : TypeId} {l l2 : List ByteArray} {zs : List (List UInt8)} (hx : ∃ fn c, P.funcs[f]? = some fn ∧ fn.body = some c ∧ fn.name ≠ "runtime.NumGoroutine") (ho : σ.objs bid = some (.buf e (Qgn l)))
    (hzs : zs.length = l.length) (hl2 : l2.length ≤ l.length) (hz : ∀ (j : Nat) (x : ByteArray), l2[j]? = some x → zs[j]? = some (bl x)) (r : DV) (rv : Nat → Nat → Value)
    (hr : ∀ (C : Ctx) (w : World) (b cap : Nat) (c : Array Value) (t : TypeId), C.obj bid = some b → l.length ≤ cap → C.lo ≤ b → w.heap[b]? = some (.cells c t) → 0 + cap * 1 ≤ c.size → Qy C w r (rv b cap))
    (hcall : ∀ (b cap : Nat) (w : World), Holds encStr w b 0 (l.map bl).toArray → b < w.heap.size → l.length ≤ cap →
      Calls P f #[.slice (some ⟨b, 0, none⟩) l.length cap] w fun ev w' => ev = .returned (rv b cap) ∧ ∃ q os, w' = grow (putRow encStr (Sort.ahead w q) b 0 zs.toArray) os) :
    HC P f [.live bid 1 0 l.length] σ (fun d σ' => d = r ∧ σ' = { σ with objs := upd σ.objs bid (some (.buf e (Qgn l2))) }) := by
  refine ⟨hx, fun E C w args hl hs => ?_⟩
  match args, hl with
  | [u], hl =>
    simp only [QP, Qy] at hl
    obtain ⟨⟨b, cap, c, e', hb, rfl, hcap, hlo, hheap, hsz⟩, _⟩ := hl
    obtain ⟨b1, hb1, hB, hlt, hnp, hnm, vs, tl, hh, hLL, hfl⟩ := hs.obj _ _ ho
    obtain rfl : b = b1 := by rw [hb] at hb1; exact Option.some.inj hb1
    rw [hh] at hheap
    cases hheap
    have hvs := Qi1 l vs hLL
    subst hvs
    have hH : Holds encStr w b 0 (l.map bl).toArray := by
      intro j hj
      have hjl : j < l.length := by simpa using hj
      refine ⟨?_, ?_⟩
      · rw [cell?_of_cells hh, Nat.zero_add]
        simp only [List.getElem?_toArray]
        rw [List.getElem?_append_left (by simpa using hjl)]
        simp [hjl, encStr, bl]
      · simp [World.frozen?, hh]
    refine (hcall b cap w hH hlt hcap).mono ?_
    rintro ev w' ⟨rfl, q, os, rfl⟩
    have hlen : zs.length ≤ ((l.map fun x => Value.string x) ++ tl).toArray.size := by simp; omega
    have hT : QcW w (putRow encStr w b 0 zs.toArray) b (.cells (putCells encStr 0 zs.toArray ((l.map fun x => Value.string x) ++ tl).toArray) e) := by
      refine ⟨rfl, rfl, rfl, by simp, ?_, ?_⟩
      · simp [putRow, mapBlock, Array.getElem?_modify, hh, onCells]
      · intro k hk
        simp only [putRow, mapBlock, Array.getElem?_modify]
        rw [if_neg (fun q => hk q.symm)]
    have hkk : ∀ c2 e2, w.heap[b]? = some (.cells c2 e2) → ∃ c' e'', Obj.cells (putCells encStr 0 zs.toArray ((l.map fun x => Value.string x) ++ tl).toArray) e = .cells c' e'' ∧ c'.size = c2.size := fun c2 e2 q => by
      rw [hh] at q; cases q
      exact ⟨_, _, rfl, by simp [putCells]⟩
    have hcells : (putCells encStr 0 zs.toArray ((l.map fun x => Value.string x) ++ tl).toArray) = ((l2.map fun x => Value.string x) ++ ((zs.drop l2.length).map encStr ++ tl)).toArray := by
      apply Array.toList_inj.1
      rw [putCells_list zs _ hlen]
      have e1 : ((l.map fun x => Value.string x) ++ tl).toArray.toList.drop zs.length = tl := by
        simp only [List.toList_toArray]
        rw [List.drop_append_of_le_length (by simp; omega), List.drop_eq_nil_of_le (by simp; omega)]; rfl
      have e2 : zs.map encStr = (l2.map fun x => Value.string x) ++ (zs.drop l2.length).map encStr := by
        conv => lhs; rw [← List.take_append_drop l2.length zs, List.map_append]
        congr 1
        apply List.ext_getElem
        · simp; omega
        · intro i h1 h2
          have hi : i < l2.length := by simpa using h2
          have := hz i l2[i] (by simp [hi])
          have hi2 : i < zs.length := by omega
          rw [List.getElem?_eq_getElem hi2] at this
          simp only [Option.some.injEq] at this
          simp [this, encStr, bl]
      rw [e1, e2]; simp
    obtain ⟨hst, hS⟩ := hs.turn (o' := .buf e (Qgn l2)) ho hb hT hkk ⟨l2.map fun x => Value.string x, (zs.drop l2.length).map encStr ++ tl, by rw [hT.at_, hcells], QiS l2, by
      intro y hy
      simp only [List.mem_append, List.mem_map] at hy
      rcases hy with ⟨x, _, rfl⟩ | ⟨x, _, rfl⟩ | hy
      · rfl
      · rfl
      · exact hfl y (by simp [hy])⟩
    have hsz1 : (putRow encStr w b 0 zs.toArray).heap.size = w.heap.size := by simp
    have hbel : Below (putRow encStr w b 0 zs.toArray).heap.size (putRow encStr w b 0 zs.toArray) (grow (putRow encStr (Sort.ahead w q) b 0 zs.toArray) os) := by
      refine ⟨rfl, rfl, rfl, by rw [size_grow]; simp, fun k hk => ?_⟩
      rw [heap_grow_old _ _ (by simpa using hk)]
      rfl
    obtain ⟨_, hst2, hS2⟩ := hS.grow (pc' := C.pc) (pm' := C.pm) hbel (fun _ _ p => p) (fun _ p => p) (fun _ _ p => .inl p) (fun _ p => .inl p)
    have hw2 : (grow (putRow encStr (Sort.ahead w q) b 0 zs.toArray) os).heap[b]? = some (.cells (putCells encStr 0 zs.toArray ((l.map fun x => Value.string x) ++ tl).toArray) e) := by
      rw [heap_grow_old _ _ (by simpa using hlt)]
      exact hT.at_
    exact ⟨_, rfl, r, _, ⟨rfl, rfl⟩, C, .refl C, hst.trans (.refl C) hst2, hr C _ b cap _ e hb hcap hlo hw2 (by simp [putCells] at hsz ⊢; omega), hS2⟩
end Go.FA
namespace Go.Proofs.Yt
open Go Go.FA Go.Proofs Go.RowKit Go.Sort Go.Shelf
set_option maxRecDepth 100000
def ren194 : Go.Shelf.Ren := ⟨fun n => if n = 194 then 95 else n, fun n => if n = 31 then 22 else n, fun n => n⟩
theorem QjF : Lays.n194 Tryz.prog ren194 :=
{ mixed := Eq.refl true, f194 := Eq.trans Tryz.func95 (congrArg some (Eq.refl (Body.n194 ren194))), t0 := Tryz.underlying0,
  a0 := Tryz.isAgg0, z0 := Tryz.sizeOf0, v0 := Tryz.zeroValue0, t3 := Tryz.underlying3, a3 := Tryz.isAgg3,
  z3 := Tryz.sizeOf3, v3 := Tryz.zeroValue3, t4 := Tryz.underlying4, a4 := Tryz.isAgg4, z4 := Tryz.sizeOf4,
  v4 := Tryz.zeroValue4, t9 := Tryz.underlying9, a9 := Tryz.isAgg9, z9 := Tryz.sizeOf9, v9 := Tryz.zeroValue9, t31 := Tryz.underlying22,
  a31 := Tryz.isAgg22, z31 := Tryz.sizeOf22, v31 := Tryz.zeroValue22 }
theorem sort_get (l : List ByteArray) (j : Nat) (x : ByteArray) (h : (QaT l)[j]? = some x) : ((l.map bl).mergeSort fun x y => decide (x ≤ y))[j]? = some (bl x) := by
  unfold QaT at h
  rw [List.getElem?_map, Option.map_eq_some_iff] at h
  obtain ⟨z, hz, rfl⟩ := h
  rw [hz, bl_lb]
theorem h94 (bid : Nat) (l : List ByteArray) (σ : St) (ho : σ.objs bid = some (.buf 9 (Qgn l))) (hl : l.length < 1099511627776) :
    HC Tryz.prog 94 [.live bid 1 0 l.length] σ (fun d σ' => d = .lit (.tuple #[]) ∧ σ' = { σ with objs := upd σ.objs bid (some (.buf 9 (Qgn (QaT l)))) }) := by
  refine Qlf (zs := (l.map bl).mergeSort fun x y => decide (x ≤ y)) ⟨Tryz.f94, _, Tryz.func94, rfl, by decide⟩ ho (by simp) (by rw [Qbs]; exact Nat.le_refl _) (sort_get l) _ (fun _ _ => .tuple #[]) (fun _ _ _ _ _ _ _ _ _ _ _ => rfl) fun b cap w hH hb hcap => ?_
  have h := Qib.some b 0 cap (l.map bl) w hH hb (by simp; omega)
  rw [List.length_map] at h
  refine h.mono ?_
  rintro ev w' ⟨rfl, q, os, rfl⟩
  exact ⟨rfl, q, os, rfl⟩
def Qdc (l : List ByteArray) : List ByteArray := (Lib.compact (l.map bl)).map lb
theorem Qft (zs : List (List UInt8)) : (Lib.compact zs).length ≤ zs.length := by
  unfold Lib.compact Lib.compactUpTo
  rw [List.length_map]
  exact Nat.le_trans (List.length_filter_le ..) (by simp)
theorem h95 (bid : Nat) (l : List ByteArray) (σ : St) (ho : σ.objs bid = some (.buf 9 (Qgn l))) (hl : l.length < 1099511627776) :
    HC Tryz.prog 95 [.live bid 1 0 l.length] σ (fun d σ' => d = .live bid 1 0 (Qdc l).length ∧ σ' = { σ with objs := upd σ.objs bid (some (.buf 9 (Qgn (Qdc l)))) }) := by
  have hcl := Qft (l.map bl)
  rw [List.length_map] at hcl
  have hlen : (Qdc l).length = (Lib.compact (l.map bl)).length := by simp [Qdc]
  refine Qlf (zs := Lib.compact (l.map bl) ++ List.replicate (l.length - (Lib.compact (l.map bl)).length) []) ⟨Tryz.f95, _, Tryz.func95, rfl, by decide⟩ ho (by simp; omega) (by rw [hlen]; exact hcl) ?_ _ (fun b cap => .slice (some ⟨b, 0, none⟩) (Qdc l).length cap) ?_ fun b cap w hH hb hcap => ?_
  · intro j x h
    unfold Qdc at h
    rw [List.getElem?_map, Option.map_eq_some_iff] at h
    obtain ⟨z, hz, rfl⟩ := h
    have hj : j < (Lib.compact (l.map bl)).length := by
      rcases Nat.lt_or_ge j (Lib.compact (l.map bl)).length with q | q
      · exact q
      · rw [List.getElem?_eq_none q] at hz; cases hz
    rw [List.getElem?_append_left hj, hz, bl_lb]
  · intro C w b cap c t h1 h2 h3 h4 h5
    simp only [Qy]
    exact ⟨b, cap, c, t, h1, rfl, by rw [hlen]; omega, h3, h4, h5⟩
  · have h := Any.slices_Compact_string QjF b 0 cap (l.map bl) w hH (by simp; omega) (by simpa using hcap)
    rw [List.length_map] at h
    refine h.mono ?_
    rintro ev w' ⟨rfl, q, rfl⟩
    refine ⟨by rw [hlen], q, #[], by rw [grow_empty]⟩
end Go.Proofs.Yt
