/- Contracts of functions of the program, by a machine over abstract values; part 12. No condition beyond those of each theorem. -/
import Derived.Test.YtfpejlbfdpeofaaGreatDoorSm10
import Derived.Laws.RangeString
set_option linter.unusedVariables false
set_option linter.unusedSimpArgs false
namespace Go.Proofs.Yt
open Go Go.FA Go.Proofs Go.RowKit
set_option linter.unusedSimpArgs false
set_option maxRecDepth 100000
theorem set6 (a b c d e f : DV) (t : Tm) : setAt [a, b, c, d, e, f] 0 t.cells = t.cells := by cases t; simp [Tm.cells, setAt]
theorem Qed {n : Int} (h0 : -4611686018427387904 ≤ n) (h : n < 4611686018427387904) : IntKind.i64.wrap n = n := by
  simp [IntKind.wrap, IntKind.bits, IntKind.signed]; omega
end Go.Proofs.Yt
namespace Go.Proofs.Yt
open Go Go.FA Go.Proofs Go.RowKit
set_option linter.unusedSimpArgs false
set_option maxRecDepth 100000
mutual
def Qik {X : Type} (st : Tm → Int → X → Bool × X) : Tm → Int → X → Bool × X
  | .mk k n z s ks r, lv, x =>
    if (st (.mk k n z s ks r) lv x).1 = true then
      if (QcL st ks (lv + 1) (st (.mk k n z s ks r) lv x).2).1 = true then QcL st r (lv + 1) (QcL st ks (lv + 1) (st (.mk k n z s ks r) lv x).2).2
      else (false, (QcL st ks (lv + 1) (st (.mk k n z s ks r) lv x).2).2)
    else (false, (st (.mk k n z s ks r) lv x).2)
def QcL {X : Type} (st : Tm → Int → X → Bool × X) : List Tm → Int → X → Bool × X
  | [], lv, x => (true, x)
  | t :: ts, lv, x => if (Qik st t lv x).1 = true then QcL st ts lv (Qik st t lv x).2 else (false, (Qik st t lv x).2)
end
structure Seer where
  X : Type
  f : FuncId
  capt : List DV
  step : Tm → Int → X → Bool × X
  inv : X → St → Prop
  out : X → St → Prop
  call : ∀ (t : Tm) (lv : Int) (x : X) (σ : St), okT t → 0 ≤ lv → lv ≤ 1099511627776 → inv x σ → HC Tryz.prog f ([] ++ [.agg t.cells, .lit (.int .i64 lv)] ++ capt) σ
    (fun e σ' => e = .lit (.bool (step t lv x).1) ∧ σ.n ≤ σ'.n ∧ ((step t lv x).1 = true → inv (step t lv x).2 σ') ∧ ((step t lv x).1 = false → out (step t lv x).2 σ'))
  mono : ∀ (x : X) (σ σ' : St), inv x σ → σ.n ≤ σ'.n → (∀ i, i < σ.n → σ'.objs i = σ.objs i) → (∀ i, i < σ.n → σ'.toks i = σ.toks i) → inv x σ'
  monoO : ∀ (x : X) (σ σ' : St), out x σ → σ.n ≤ σ'.n → (∀ i, i < σ.n → σ'.objs i = σ.objs i) → (∀ i, i < σ.n → σ'.toks i = σ.toks i) → out x σ'
namespace Seer
variable (S : Seer)
abbrev vis (t : Tm) (lv : Int) (x : S.X) := Qik S.step t lv x
abbrev viss (l : List Tm) (lv : Int) (x : S.X) := QcL S.step l lv x
def fn : DV := .func (.func S.f) [] S.capt
def H (n : Nat) : Prop := ∀ (t : Tm) (lv : Int) (x : S.X) (σ : St), tsz t ≤ n → tsz t ≤ tlim → okT t → 0 ≤ lv → lv + tsz t ≤ 1099511627776 → S.inv x σ →
  HC Tryz.prog 158 [.agg t.cells, .lit (.int .i64 lv), S.fn] σ (fun e σ' => e = .lit (.bool (S.vis t lv x).1) ∧ σ.n ≤ σ'.n ∧ ((S.vis t lv x).1 = true → S.inv (S.vis t lv x).2 σ') ∧ ((S.vis t lv x).1 = false → S.out (S.vis t lv x).2 σ'))
set_option maxHeartbeats 2000000 in
theorem h158 (n : Nat) (ih : ∀ m, m < n → S.H m) : S.H n := by
  intro t lv x σ hn hlim hok hlv0 hlv hinv
  obtain ⟨k, nn, z, s, ks, r⟩ := t
  have tT := Q5 (P := Tryz.prog)
  refine HC.of_body (T := QD []) Tryz.func158 rfl (by decide) (Nat.le_of_ble_eq_true rfl) fun E => ?_
  generalize QD [] = T at *
  have hoks : QdK ks := by rw [okT] at hok; exact hok.2.2.2.2.1
  have hokr : QdK r := by rw [okT] at hok; exact hok.2.2.2.2.2
  have hr : r.length ≤ tlim := by have := QaN r; simp only [tsz] at hlim; omega
  have hks : ks.length ≤ tlim := by have := QaN ks; simp only [tsz] at hlim; omega
  unfold tlim at hr hks
  have hcall := fun σ' hi => S.call (.mk k nn z s ks r) lv x σ' hok hlv0 (by omega) hi
  have hwl : IntKind.i64.wrap (lv + 1) = lv + 1 := Qed (by omega) (by omega)
  let R : DV → St → Prop := fun e σ' => e = .lit (.bool (S.vis (.mk k nn z s ks r) lv x).1) ∧ σ.n ≤ σ'.n ∧ ((S.vis (.mk k nn z s ks r) lv x).1 = true → S.inv (S.vis (.mk k nn z s ks r) lv x).2 σ') ∧ ((S.vis (.mk k nn z s ks r) lv x).1 = false → S.out (S.vis (.mk k nn z s ks r) lv x).2 σ')
  have fin : ∀ (b : Bool) (y : S.X) (a : Nat → DV) (σ' : St), a 6 = .lit (.bool b) → S.vis (.mk k nn z s ks r) lv x = (b, y) → σ.n ≤ σ'.n → (b = true → S.inv y σ') → (b = false → S.out y σ') → HDone Tryz.prog Tryz.f158.results R Ex.ret a σ' := by
    intro b y a σ' h6 hv hn hi ho
    refine ⟨.inr rfl, .lit (.bool b), ?_, ?_⟩
    · show QG Tryz.prog σ' _ [ResultVar.tmp 6] = _
      simp [QG, QY, h6]
    · show _ ∧ _; rw [hv]; exact ⟨rfl, hn, hi, ho⟩
  simp only [Q8] at hcall ⊢
  obtain ⟨fv, hfv⟩ : ∃ v, v = S.fn := ⟨_, rfl⟩
  rw [← hfv]
  refine Dwp.step tT rfl fun K hK => ?_
  simp [QB, QE, Qk, QJ, own, Ql, dop, QI, eval, Qx, QF, Ex.then, Ex.inBlock, upd, QK, Tag.isNN, Qm, intCmp, Qz, QA, TyI.agg, Qb, Qs, Qd, Qq, QL, QC, Qo, mapOf, Qw, Qn, Qe, Qh, Qf, Qt, DV.cells, Qr, Qg, Qp, Qu, rowsOf, Qv, growLimit, Qa, Qa.go, Qi, Qj, Qc, goInt, init, Q8]
  refine hK _ _ ?_ rfl; clear hK K
  refine Dwp.seq ?_
  refine Dwp.stepH fun K hK => ?_
  show Rg _ _ _ _ K ([0, 1, 2] ++ (3 :: ([4] ++ []))) _ _
  refine Rg.run tT rfl _ _ _ ?_
  simp [Qbn, Qe2, QbJ, QB, QE, Qk, QJ, own, Ql, dop, QI, eval, Qx, QF, Ex.then, Ex.inBlock, upd, QK, Tag.isNN, Qm, intCmp, Qz, QA, TyI.agg, Qb, Qs, Qd, Qq, QL, QC, Qo, mapOf, Qw, Qn, Qe, Qh, Qf, Qt, DV.cells, Qr, Qg, Qp, Qu, rowsOf, Qv, growLimit, Qa, Qa.go, Qi, Qj, Qc, goInt, init, Qaf]
  refine Rg.call (xs := _) rfl rfl rfl rfl (by simp [Qh, eval, upd, init, hfv, fn]) (hcall _ (S.mono x σ _ hinv (by show σ.n ≤ σ.n + 2; omega) (by simp) (by simp))) ?_
  rintro e τ ⟨rfl, hnn, hi1, ho1⟩
  have hn2 : σ.n ≤ τ.n := by have : σ.n + 2 ≤ τ.n := hnn; omega
  show Rg _ _ _ _ K ([4] ++ []) _ _
  refine Rg.run tT rfl _ _ _ ?_
  simp [Qbn, Qe2, QbJ, QB, QE, Qk, QJ, own, Ql, dop, QI, eval, Qx, QF, Ex.then, Ex.inBlock, upd, QK, Tag.isNN, Qm, intCmp, Qz, QA, TyI.agg, Qb, Qs, Qd, Qq, QL, QC, Qo, mapOf, Qw, Qn, Qe, Qh, Qf, Qt, DV.cells, Qr, Qg, Qp, Qu, rowsOf, Qv, growLimit, Qa, Qa.go, Qi, Qj, Qc, goInt]
  refine Rg.nil (hK _ _ ?_)
  rcases hb : (S.step (.mk k nn z s ks r) lv x).1 with _ | _
  · refine Dwp.condT (by simp [eval, upd]) ?_
    refine Dwp.step tT rfl fun K hK => ?_
    simp [QB, QE, Qk, QJ, own, Ql, dop, QI, eval, Qx, QF, Ex.then, Ex.inBlock, upd, QK, Tag.isNN, Qm, intCmp, Qz, QA, TyI.agg, Qb, Qs, Qd, Qq, QL, QC, Qo, mapOf, Qw, Qn, Qe, Qh, Qf, Qt, DV.cells, Qr, Qg, Qp, Qu, rowsOf, Qv, growLimit, Qa, Qa.go, Qi, Qj, Qc, goInt]
    refine hK _ _ (Dwp.ret ?_) rfl
    exact fin false _ _ _ (by simp [upd]) (by simp only [vis, Qik, hb]; rfl) (by show σ.n ≤ τ.n + 1; omega) (by simp) (fun _ => S.monoO _ _ _ (ho1 hb) (by show τ.n ≤ τ.n + 1; omega) (by simp) (by simp))
  refine Dwp.condF (by simp [eval, upd]) (Dwp.skip ?_)
  obtain ⟨x1, hx1⟩ : ∃ y, y = (S.step (.mk k nn z s ks r) lv x).2 := ⟨_, rfl⟩
  have hi1 := hi1 hb
  rw [← hx1] at hi1
  refine Dwp.seq ?_
  refine Dwp.step tT rfl fun K hK => ?_
  simp [QB, QE, Qk, QJ, own, Ql, dop, QI, eval, Qx, QF, Ex.then, Ex.inBlock, upd, QK, Tag.isNN, Qm, intCmp, Qz, QA, TyI.agg, Qb, Qs, Qd, Qq, QL, QC, Qo, mapOf, Qw, Qn, Qe, Qh, Qf, Qt, DV.cells, Qr, Qg, Qp, Qu, rowsOf, Qv, growLimit, Qa, Qa.go, Qi, Qj, Qc, goInt, init, QaF, Qaf, ty3]
  refine hK _ _ ?_ rfl; clear hK K
  refine Dwp.range tT ks.length (fun i a τ => a 1 = .lit (.int .i64 lv) ∧ a 2 = fv ∧ a 3 = .row [.lit (.int .i64 k), .lit (.int .i64 nn), .lit (.string z), .lit (.string s), .slice 6 .none (ks.map Tm.cells), .slice 6 .none (r.map Tm.cells)] 0 ∧ a 17 = .slice 6 .none (ks.map Tm.cells) ∧ σ.n ≤ τ.n ∧ ∃ xi, S.inv xi τ ∧ S.viss ks (lv + 1) x1 = S.viss (ks.drop i) (lv + 1) xi)
    ⟨rfl, rfl, rfl⟩ ⟨rfl, rfl, rfl⟩ ⟨rfl, rfl, rfl⟩ (by decide) (by decide) (by omega) (by simp [upd]) (by simp [upd]) ⟨by simp [upd, init], by simp [upd, init], by simp [upd], by simp [upd], by show σ.n ≤ τ.n + 4; omega, x1, S.mono _ _ _ hi1 (by show τ.n ≤ τ.n + 4; omega) (by simp) (by simp), by simp⟩ ?_ ?_
  · rintro i a τ hi hidx hlen ⟨g1, g2, g3, g17, hnn, xi, hxi, hvi⟩
    have hkd : ks.drop i = ks[i] :: ks.drop (i + 1) := List.drop_eq_getElem_cons hi
    have hmem : ks[i] ∈ ks := List.getElem_mem _
    have hsz : tsz ks[i] < n := by have := Qam ks _ hmem; simp only [tsz] at hn; omega
    have hszl : tsz ks[i] ≤ tlim := by have := Qam ks _ hmem; simp only [tsz] at hlim; omega
    have hszv : lv + 1 + tsz ks[i] ≤ 1099511627776 := by have := Qam ks _ hmem; simp only [tsz] at hlv; omega
    have hokk : okT ks[i] := QbW ks _ hoks hmem
    refine Dwp.step tT rfl fun K hK => ?_
    simp [QB, QE, Qk, QJ, own, Ql, dop, QI, eval, Qx, QF, Ex.then, Ex.inBlock, upd, QK, Tag.isNN, Qm, intCmp, Qz, QA, TyI.agg, Qb, Qs, Qd, Qq, QL, QC, Qo, mapOf, Qw, Qn, Qe, Qh, Qf, Qt, DV.cells, Qr, Qg, Qp, Qu, rowsOf, Qv, growLimit, Qa, Qa.go, Qi, Qj, Qc, goInt, g17, hidx, QaF, Qaf, hi, Tm.cells_len, Q6, set6]
    refine hK _ _ ?_ rfl; clear hK K
    refine Dwp.stepH fun K hK => ?_
    show Rg _ _ _ _ K ([0, 1, 2, 3] ++ (4 :: ([5] ++ []))) _ _
    refine Rg.run tT rfl _ _ _ ?_
    simp [Qbn, Qe2, QbJ, QB, QE, Qk, QJ, own, Ql, dop, QI, eval, Qx, QF, Ex.then, Ex.inBlock, upd, QK, Tag.isNN, Qm, intCmp, Qz, QA, TyI.agg, Qb, Qs, Qd, Qq, QL, QC, Qo, mapOf, Qw, Qn, Qe, Qh, Qf, Qt, DV.cells, Qr, Qg, Qp, Qu, rowsOf, Qv, growLimit, Qa, Qa.go, Qi, Qj, Qc, goInt, g1, g2, Qaf, Tm.cells_len, Q6, hwl]
    refine Rg.call (xs := [.agg ks[i].cells, .lit (.int .i64 (lv + 1)), S.fn]) rfl rfl rfl rfl (by simp [Qh, eval, upd, hfv]) (ih (tsz ks[i]) hsz ks[i] (lv + 1) xi _ (Nat.le_refl _) hszl hokk (by omega) hszv (S.mono xi τ _ hxi (by show τ.n ≤ τ.n + 1 + 4; omega) (by intro j hj; simp [upd, show j ≠ τ.n + 1 + 2 by omega]) (by simp))) ?_
    rintro e τ' ⟨rfl, gnn', gi, go⟩
    have gnn2 : τ.n + 1 + 4 ≤ τ'.n := gnn'
    show Rg _ _ _ _ K ([5] ++ []) _ _
    refine Rg.run tT rfl _ _ _ ?_
    simp [Qbn, Qe2, QbJ, QB, QE, Qk, QJ, own, Ql, dop, QI, eval, Qx, QF, Ex.then, Ex.inBlock, upd, QK, Tag.isNN, Qm, intCmp, Qz, QA, TyI.agg, Qb, Qs, Qd, Qq, QL, QC, Qo, mapOf, Qw, Qn, Qe, Qh, Qf, Qt, DV.cells, Qr, Qg, Qp, Qu, rowsOf, Qv, growLimit, Qa, Qa.go, Qi, Qj, Qc, goInt, g1, g2]
    refine Rg.nil (hK _ _ ?_)
    rcases hbb : (S.vis ks[i] (lv + 1) xi).1 with _ | _
    · refine Dwp.condT (by simp [eval, upd]) ?_
      refine Dwp.step tT rfl fun K hK => ?_
      simp [QB, QE, Qk, QJ, own, Ql, dop, QI, eval, Qx, QF, Ex.then, Ex.inBlock, upd, QK, Tag.isNN, Qm, intCmp, Qz, QA, TyI.agg, Qb, Qs, Qd, Qq, QL, QC, Qo, mapOf, Qw, Qn, Qe, Qh, Qf, Qt, DV.cells, Qr, Qg, Qp, Qu, rowsOf, Qv, growLimit, Qa, Qa.go, Qi, Qj, Qc, goInt]
      refine hK _ _ (Dwp.ret ?_) rfl
      have hf2 : S.viss ks (lv + 1) x1 = (false, (S.vis ks[i] (lv + 1) xi).2) := by rw [hvi, hkd]; simp [viss, QcL, hbb]
      exact fin false _ _ _ (by simp [upd]) (by simp only [vis, Qik, hb, if_true, ← hx1, hf2]; rfl) (by show σ.n ≤ τ'.n + 1; omega) (by simp) (fun _ => S.monoO _ _ _ (go hbb) (by show τ'.n ≤ τ'.n + 1; omega) (by simp) (by simp))
    · refine Dwp.condF (by simp [eval, upd]) (Dwp.skip ?_)
      have hf2 : S.viss ks (lv + 1) x1 = S.viss (ks.drop (i + 1)) (lv + 1) (S.vis ks[i] (lv + 1) xi).2 := by rw [hvi, hkd]; simp [viss, QcL, hbb]
      exact ⟨by simp [upd, hidx], by simp [upd, hlen], by simp [upd, g1], by simp [upd, g2], by simp [upd, g3], by simp [upd, g17], by show σ.n ≤ τ'.n + 2; omega, _, S.mono _ _ _ (gi hbb) (by show τ'.n ≤ τ'.n + 2; omega) (by simp) (by simp), hf2⟩
  rintro a τ hidx hlen ⟨g1, g2, g3, g17, hnn, x2, hi2, hvi⟩
  have hv1 : S.viss ks (lv + 1) x1 = (true, x2) := by rw [hvi, List.drop_length]; simp [viss, QcL]
  have hv2 : S.vis (.mk k nn z s ks r) lv x = S.viss r (lv + 1) x2 := by simp only [vis, Qik, hb, if_true, ← hx1, hv1]
  refine Dwp.seq ?_
  refine Dwp.step tT rfl fun K hK => ?_
  simp [QB, QE, Qk, QJ, own, Ql, dop, QI, eval, Qx, QF, Ex.then, Ex.inBlock, upd, QK, Tag.isNN, Qm, intCmp, Qz, QA, TyI.agg, Qb, Qs, Qd, Qq, QL, QC, Qo, mapOf, Qw, Qn, Qe, Qh, Qf, Qt, DV.cells, Qr, Qg, Qp, Qu, rowsOf, Qv, growLimit, Qa, Qa.go, Qi, Qj, Qc, goInt, g3, QaF, Qaf, ty3]
  refine hK _ _ ?_ rfl; clear hK K
  refine Dwp.range tT r.length (fun i a τ => a 1 = .lit (.int .i64 lv) ∧ a 2 = fv ∧ a 31 = .slice 6 .none (r.map Tm.cells) ∧ σ.n ≤ τ.n ∧ ∃ xi, S.inv xi τ ∧ S.viss r (lv + 1) x2 = S.viss (r.drop i) (lv + 1) xi)
    ⟨rfl, rfl, rfl⟩ ⟨rfl, rfl, rfl⟩ ⟨rfl, rfl, rfl⟩ (by decide) (by decide) (by omega) (by simp [upd]) (by simp [upd]) ⟨by simp [upd, g1], by simp [upd, g2], by simp [upd], by show σ.n ≤ τ.n + 1 + 4; omega, x2, S.mono _ _ _ hi2 (by show τ.n ≤ τ.n + 1 + 4; omega) (by simp) (by simp), by simp⟩ ?_ ?_
  · rintro i a τ hi hidx hlen ⟨g1, g2, g17, hnn, xi, hxi, hvi⟩
    have hkd : r.drop i = r[i] :: r.drop (i + 1) := List.drop_eq_getElem_cons hi
    have hmem : r[i] ∈ r := List.getElem_mem _
    have hsz : tsz r[i] < n := by have := Qam r _ hmem; simp only [tsz] at hn; omega
    have hszl : tsz r[i] ≤ tlim := by have := Qam r _ hmem; simp only [tsz] at hlim; omega
    have hszv : lv + 1 + tsz r[i] ≤ 1099511627776 := by have := Qam r _ hmem; simp only [tsz] at hlv; omega
    have hokk : okT r[i] := QbW r _ hokr hmem
    refine Dwp.step tT rfl fun K hK => ?_
    simp [QB, QE, Qk, QJ, own, Ql, dop, QI, eval, Qx, QF, Ex.then, Ex.inBlock, upd, QK, Tag.isNN, Qm, intCmp, Qz, QA, TyI.agg, Qb, Qs, Qd, Qq, QL, QC, Qo, mapOf, Qw, Qn, Qe, Qh, Qf, Qt, DV.cells, Qr, Qg, Qp, Qu, rowsOf, Qv, growLimit, Qa, Qa.go, Qi, Qj, Qc, goInt, g17, hidx, QaF, Qaf, hi, Tm.cells_len, Q6, set6]
    refine hK _ _ ?_ rfl; clear hK K
    refine Dwp.stepH fun K hK => ?_
    show Rg _ _ _ _ K ([0, 1, 2, 3] ++ (4 :: ([5] ++ []))) _ _
    refine Rg.run tT rfl _ _ _ ?_
    simp [Qbn, Qe2, QbJ, QB, QE, Qk, QJ, own, Ql, dop, QI, eval, Qx, QF, Ex.then, Ex.inBlock, upd, QK, Tag.isNN, Qm, intCmp, Qz, QA, TyI.agg, Qb, Qs, Qd, Qq, QL, QC, Qo, mapOf, Qw, Qn, Qe, Qh, Qf, Qt, DV.cells, Qr, Qg, Qp, Qu, rowsOf, Qv, growLimit, Qa, Qa.go, Qi, Qj, Qc, goInt, g1, g2, Qaf, Tm.cells_len, Q6, hwl]
    refine Rg.call (xs := [.agg r[i].cells, .lit (.int .i64 (lv + 1)), S.fn]) rfl rfl rfl rfl (by simp [Qh, eval, upd, hfv]) (ih (tsz r[i]) hsz r[i] (lv + 1) xi _ (Nat.le_refl _) hszl hokk (by omega) hszv (S.mono xi τ _ hxi (by show τ.n ≤ τ.n + 1 + 4; omega) (by intro j hj; simp [upd, show j ≠ τ.n + 1 + 2 by omega]) (by simp))) ?_
    rintro e τ' ⟨rfl, gnn', gi, go⟩
    have gnn2 : τ.n + 1 + 4 ≤ τ'.n := gnn'
    show Rg _ _ _ _ K ([5] ++ []) _ _
    refine Rg.run tT rfl _ _ _ ?_
    simp [Qbn, Qe2, QbJ, QB, QE, Qk, QJ, own, Ql, dop, QI, eval, Qx, QF, Ex.then, Ex.inBlock, upd, QK, Tag.isNN, Qm, intCmp, Qz, QA, TyI.agg, Qb, Qs, Qd, Qq, QL, QC, Qo, mapOf, Qw, Qn, Qe, Qh, Qf, Qt, DV.cells, Qr, Qg, Qp, Qu, rowsOf, Qv, growLimit, Qa, Qa.go, Qi, Qj, Qc, goInt, g1, g2]
    refine Rg.nil (hK _ _ ?_)
    rcases hbb : (S.vis r[i] (lv + 1) xi).1 with _ | _
    · refine Dwp.condT (by simp [eval, upd]) ?_
      refine Dwp.step tT rfl fun K hK => ?_
      simp [QB, QE, Qk, QJ, own, Ql, dop, QI, eval, Qx, QF, Ex.then, Ex.inBlock, upd, QK, Tag.isNN, Qm, intCmp, Qz, QA, TyI.agg, Qb, Qs, Qd, Qq, QL, QC, Qo, mapOf, Qw, Qn, Qe, Qh, Qf, Qt, DV.cells, Qr, Qg, Qp, Qu, rowsOf, Qv, growLimit, Qa, Qa.go, Qi, Qj, Qc, goInt]
      refine hK _ _ (Dwp.ret ?_) rfl
      have hf2 : S.viss r (lv + 1) x2 = (false, (S.vis r[i] (lv + 1) xi).2) := by rw [hvi, hkd]; simp [viss, QcL, hbb]
      exact fin false _ _ _ (by simp [upd]) (by rw [hv2, hf2]) (by show σ.n ≤ τ'.n + 1; omega) (by simp) (fun _ => S.monoO _ _ _ (go hbb) (by show τ'.n ≤ τ'.n + 1; omega) (by simp) (by simp))
    · refine Dwp.condF (by simp [eval, upd]) (Dwp.skip ?_)
      have hf2 : S.viss r (lv + 1) x2 = S.viss (r.drop (i + 1)) (lv + 1) (S.vis r[i] (lv + 1) xi).2 := by rw [hvi, hkd]; simp [viss, QcL, hbb]
      exact ⟨by simp [upd, hidx], by simp [upd, hlen], by simp [upd, g1], by simp [upd, g2], by simp [upd, g17], by show σ.n ≤ τ'.n + 2; omega, _, S.mono _ _ _ (gi hbb) (by show τ'.n ≤ τ'.n + 2; omega) (by simp) (by simp), hf2⟩
  rintro a τ hidx hlen ⟨g1, g2, g17, hnn, x3, hi3, hvi⟩
  have hv3 : S.viss r (lv + 1) x2 = (true, x3) := by rw [hvi, List.drop_length]; simp [viss, QcL]
  refine Dwp.step tT rfl fun K hK => ?_
  simp [QB, QE, Qk, QJ, own, Ql, dop, QI, eval, Qx, QF, Ex.then, Ex.inBlock, upd, QK, Tag.isNN, Qm, intCmp, Qz, QA, TyI.agg, Qb, Qs, Qd, Qq, QL, QC, Qo, mapOf, Qw, Qn, Qe, Qh, Qf, Qt, DV.cells, Qr, Qg, Qp, Qu, rowsOf, Qv, growLimit, Qa, Qa.go, Qi, Qj, Qc, goInt]
  refine hK _ _ (Dwp.ret ?_) rfl
  exact fin true x3 _ _ (by simp [upd]) (by rw [hv2, hv3]) (by show σ.n ≤ τ.n + 1 + 1; omega) (fun _ => S.mono _ _ _ hi3 (by show τ.n ≤ τ.n + 1 + 1; omega) (by simp) (by simp)) (by simp)
theorem hAll : ∀ n, S.H n := fun n => Nat.strongRecOn n fun n ih => S.h158 n ih
end Seer
end Go.Proofs.Yt
namespace Go.Proofs.Yt
open Go Go.FA Go.Proofs Go.RowKit
set_option linter.unusedSimpArgs false
set_option maxRecDepth 100000
def QcM : Tm → Bool | .mk _ _ _ _ ks r => ks.isEmpty && r.isEmpty
def s226 : Sp := sp (QS Enc.tm) Enc.bool (fun t => some (QcM t))
theorem c226 : Qy Tryz.prog 226 s226 := by
  refine Qy.of_sp (T := QD []) Tryz.func226 rfl (Nat.le_of_ble_eq_true rfl) fun E t y hy => ?_
  obtain ⟨k, nn, x, s, ks, r⟩ := t
  cases hy
  have tT := Q5 (P := Tryz.prog)
  generalize QD [] = T at *
  simp only [QS, QH.one, tmC, Q8]
  refine Dwp.step tT rfl fun K hK => ?_
  simp [QB, QE, Qk, QJ, own, Ql, dop, QI, eval, Qx, QF, Ex.then, Ex.inBlock, upd, QK, Tag.isNN, Qm, intCmp, Qz, QA, TyI.agg, Qb, Qs, Qd, Qq, QL, QC, Qo, mapOf, Qw, Qn, Qe, Qh, Qf, Qt, DV.cells, Qr, Qg, Qp, Qu, rowsOf, Qv, growLimit, Qa, Qa.go, Qi, Qj, Qc, goInt, init, Q8]
  refine hK _ _ ?_ rfl; clear hK K
  refine Dwp.step tT rfl fun K hK => ?_
  repeat' ((first | refine QF.stepD rfl rfl ?_ | refine QF.stepG rfl rfl rfl ?_ | refine QF.stepN rfl rfl ?_ | refine QF.stepGN rfl rfl rfl ?_); intro K1 hK1; simp [*, QZ, QN, QJ, dop, eval, Qx, upd, Qb, Qs, Qz, QA, TyI.agg, Qd, Qq, Qh, Qf, QC, QL, goInt, QK, intCmp, Qm, Tag.isNN, Qc, DV.cells, growLimit, Qr, Qg, init, Qa0, ty3, ty9, QaF, Qaf, Q8, QjG]; (first | (refine hK1 _ _ ?_; clear hK1 K1) | (split <;> (rename_i hsp; (try simp only [beq_iff_eq, beq_eq_false_iff_ne, ne_eq, decide_eq_true_eq, decide_eq_false_iff_not] at hsp); (try (first | have hsq := Int.not_le.2 hsp | have hsq := Int.not_lt.2 hsp | have hsq := Int.not_le.1 hsp | have hsq := Int.not_lt.1 hsp)); (try subst hsp); (try simp only [hsp])) <;> (refine hK1 _ _ ?_; clear hK1 K1))))
  all_goals refine QF.done (hK _ _ (Dwp.ret ?_) rfl)
  all_goals refine QaS Tryz.func226 rfl _ ?_
  all_goals simp [upd, QcM, *]
theorem e226 : Go.FA.Good Tryz.prog (226, s226) := ⟨c226, Tryz.f226, _, Tryz.func226, rfl, by decide⟩
theorem call226 (T : Tab) (hT : T 226 = some s226) (t : Tm) : dcall T 226 [.agg t.cells] = some (.lit (.bool (QcM t))) :=
  QaI (A := Enc.tm) (B := Enc.bool) hT rfl
def Qho (s : ByteArray) : Bool := decide (s = ⟨#[95]⟩) || decide (s = ⟨#[36]⟩)
def s178 : Sp := sp (QS Enc.str) Enc.bool (fun s => some (Qho s))
theorem c178 : Qy Tryz.prog 178 s178 := by
  refine Qy.of_sp (T := QD []) Tryz.func178 rfl (Nat.le_of_ble_eq_true rfl) fun E s y hy => ?_
  cases hy
  have tT := Q5 (P := Tryz.prog)
  generalize QD [] = T at *
  refine Dwp.step tT rfl fun K hK => ?_
  simp [QB, QE, Qk, QJ, own, Ql, dop, QI, eval, Qx, QF, Ex.then, Ex.inBlock, upd, QK, Tag.isNN, Qm, intCmp, Qz, QA, TyI.agg, Qb, Qs, Qd, Qq, QL, QC, Qo, mapOf, Qw, Qn, Qe, Qh, Qf, Qt, DV.cells, Qr, Qg, Qp, Qu, rowsOf, Qv, growLimit, Qa, Qa.go, Qi, Qj, Qc, goInt, init, QS, QH.one, Enc.str]
  refine hK _ _ ?_ rfl; clear hK K
  refine Dwp.step tT rfl fun K hK => ?_
  repeat' ((first | refine QF.stepD rfl rfl ?_ | refine QF.stepG rfl rfl rfl ?_ | refine QF.stepN rfl rfl ?_ | refine QF.stepGN rfl rfl rfl ?_); intro K1 hK1; simp [*, QZ, QN, QJ, dop, eval, Qx, upd, Qb, Qs, Qz, QA, TyI.agg, Qd, Qq, Qh, Qf, QC, QL, goInt, QK, intCmp, Qm, Tag.isNN, Qc, DV.cells, growLimit, Qr, Qg, init, ty9]; (first | (refine hK1 _ _ ?_; clear hK1 K1) | (split <;> (rename_i hsp; (try simp only [beq_iff_eq, beq_eq_false_iff_ne, ne_eq, decide_eq_true_eq, decide_eq_false_iff_not] at hsp); (try (first | have hsq := Int.not_le.2 hsp | have hsq := Int.not_lt.2 hsp | have hsq := Int.not_le.1 hsp | have hsq := Int.not_lt.1 hsp)); (try subst hsp); (try simp only [hsp])) <;> (refine hK1 _ _ ?_; clear hK1 K1))))
  all_goals refine QF.done (hK _ _ (Dwp.ret ?_) rfl)
  all_goals refine QaS Tryz.func178 rfl _ ?_
  all_goals simp [upd, Qho, *]
theorem e178 : Go.FA.Good Tryz.prog (178, s178) := ⟨c178, Tryz.f178, _, Tryz.func178, rfl, by decide⟩
theorem QiJ (T : Tab) (hT : T 178 = some s178) (s : ByteArray) : dcall T 178 [.lit (.string s)] = some (.lit (.bool (Qho s))) :=
  QaI (A := Enc.str) (B := Enc.bool) hT rfl
def Qjc (x s : ByteArray) : Bool := if Qho x = true then decide (s = ⟨#[65, 110, 121]⟩) else QP x && QP s
def s230 : Sp := sp (QR Enc.str Enc.str) Enc.bool (fun x => some (Qjc x.1 x.2))
theorem c230 : Qy Tryz.prog 230 s230 := by
  refine Qy.of_sp (T := QD [(178, s178), (105, s105)]) Tryz.func230 rfl (Nat.le_of_ble_eq_true rfl) fun E xx y hy => ?_
  obtain ⟨x, s⟩ := xx
  cases hy
  have tT : QO Tryz.prog (QD [(178, s178), (105, s105)]) := .cons e178 (.cons QjI .nil)
  have g1 := QiJ (QD [(178, s178), (105, s105)]) rfl x
  have g2 := QbG (QD [(178, s178), (105, s105)]) rfl x
  have g3 := QbG (QD [(178, s178), (105, s105)]) rfl s
  generalize QD [(178, s178), (105, s105)] = T at *
  refine Dwp.step tT rfl fun K hK => ?_
  simp [QB, QE, Qk, QJ, own, Ql, dop, QI, eval, Qx, QF, Ex.then, Ex.inBlock, upd, QK, Tag.isNN, Qm, intCmp, Qz, QA, TyI.agg, Qb, Qs, Qd, Qq, QL, QC, Qo, mapOf, Qw, Qn, Qe, Qh, Qf, Qt, DV.cells, Qr, Qg, Qp, Qu, rowsOf, Qv, growLimit, Qa, Qa.go, Qi, Qj, Qc, goInt, init, QR, QH.one, QH.and, Enc.str]
  refine hK _ _ ?_ rfl; clear hK K
  refine Dwp.seq ?_
  refine Dwp.step tT rfl fun K hK => ?_
  rcases hu : Qho x with _ | _
  · simp [QB, QE, Qk, QJ, own, Ql, dop, QI, eval, Qx, QF, Ex.then, Ex.inBlock, upd, QK, Tag.isNN, Qm, intCmp, Qz, QA, TyI.agg, Qb, Qs, Qd, Qq, QL, QC, Qo, mapOf, Qw, Qn, Qe, Qh, Qf, Qt, DV.cells, Qr, Qg, Qp, Qu, rowsOf, Qv, growLimit, Qa, Qa.go, Qi, Qj, Qc, goInt, init, g1, hu]
    refine hK _ _ ?_ rfl; clear hK K
    refine Dwp.condF (by simp [eval, upd]) (Dwp.skip ?_)
    refine Dwp.step tT rfl fun K hK => ?_
    repeat' ((first | refine QF.stepD rfl rfl ?_ | refine QF.stepG rfl rfl rfl ?_ | refine QF.stepN rfl rfl ?_ | refine QF.stepGN rfl rfl rfl ?_); intro K1 hK1; simp [*, QZ, QN, QJ, dop, eval, Qx, upd, Qb, Qs, Qz, QA, TyI.agg, Qd, Qq, Qh, Qf, QC, QL, goInt, QK, intCmp, Qm, Tag.isNN, Qc, DV.cells, growLimit, Qr, Qg, init, ty9, Ql]; (first | (refine hK1 _ _ ?_; clear hK1 K1) | (split <;> (rename_i hsp; (try simp only [beq_iff_eq, beq_eq_false_iff_ne, ne_eq, decide_eq_true_eq, decide_eq_false_iff_not] at hsp); (try (first | have hsq := Int.not_le.2 hsp | have hsq := Int.not_lt.2 hsp | have hsq := Int.not_le.1 hsp | have hsq := Int.not_lt.1 hsp)); (try subst hsp); (try simp only [hsp])) <;> (refine hK1 _ _ ?_; clear hK1 K1))))
    all_goals refine QF.done (hK _ _ (Dwp.ret ?_) rfl)
    all_goals refine QaS Tryz.func230 rfl _ ?_
    all_goals simp [upd, Qjc, *]
  · simp [QB, QE, Qk, QJ, own, Ql, dop, QI, eval, Qx, QF, Ex.then, Ex.inBlock, upd, QK, Tag.isNN, Qm, intCmp, Qz, QA, TyI.agg, Qb, Qs, Qd, Qq, QL, QC, Qo, mapOf, Qw, Qn, Qe, Qh, Qf, Qt, DV.cells, Qr, Qg, Qp, Qu, rowsOf, Qv, growLimit, Qa, Qa.go, Qi, Qj, Qc, goInt, init, g1, hu]
    refine hK _ _ ?_ rfl; clear hK K
    refine Dwp.condT (by simp [eval, upd]) ?_
    refine Dwp.step tT rfl fun K hK => ?_
    simp [QB, QE, Qk, QJ, own, Ql, dop, QI, eval, Qx, QF, Ex.then, Ex.inBlock, upd, QK, Tag.isNN, Qm, intCmp, Qz, QA, TyI.agg, Qb, Qs, Qd, Qq, QL, QC, Qo, mapOf, Qw, Qn, Qe, Qh, Qf, Qt, DV.cells, Qr, Qg, Qp, Qu, rowsOf, Qv, growLimit, Qa, Qa.go, Qi, Qj, Qc, goInt, init, ty9]
    refine hK _ _ (Dwp.ret ?_) rfl
    refine QaS Tryz.func230 rfl _ ?_
    simp [upd, Qjc, hu]
theorem e230 : Go.FA.Good Tryz.prog (230, s230) := ⟨c230, Tryz.f230, _, Tryz.func230, rfl, by decide⟩
theorem call230 (T : Tab) (hT : T 230 = some s230) (x s : ByteArray) : dcall T 230 [.lit (.string x), .lit (.string s)] = some (.lit (.bool (Qjc x s))) :=
  Qa9 (A := Enc.str) (B := Enc.str) (C := Enc.bool) hT rfl
def s228 : Sp := sp (QS Enc.str) Enc.bool (fun s => if s.size ≤ lim then some (idB s) else none)
set_option maxHeartbeats 2000000 in
theorem c228 : Qy Tryz.prog 228 s228 := by
  refine Qy.of_sp (T := QD [(105, s105)]) Tryz.func228 rfl (Nat.le_of_ble_eq_true rfl) fun E s y hy => ?_
  split at hy
  case isFalse => cases hy
  next hlim =>
  cases hy
  have tT : QO Tryz.prog (QD [(105, s105)]) := .cons QjI .nil
  have g := QbG (QD [(105, s105)]) rfl s
  generalize QD [(105, s105)] = T at *
  unfold lim at hlim
  refine Dwp.step tT rfl fun K hK => ?_
  simp [QB, QE, Qk, QJ, own, Ql, dop, QI, eval, Qx, QF, Ex.then, Ex.inBlock, upd, QK, Tag.isNN, Qm, intCmp, Qz, QA, TyI.agg, Qb, Qs, Qd, Qq, QL, QC, Qo, mapOf, Qw, Qn, Qe, Qh, Qf, Qt, DV.cells, Qr, Qg, Qp, Qu, rowsOf, Qv, growLimit, Qa, Qa.go, Qi, Qj, Qc, goInt, init, QS, QH.one, Enc.str]
  refine hK _ _ ?_ rfl; clear hK K
  refine Dwp.step tT rfl fun K hK => ?_
  rcases h1 : QP s with _ | _
  · rw [h1] at g
    repeat' ((first | refine QF.stepD rfl rfl ?_ | refine QF.stepG rfl rfl rfl ?_ | refine QF.stepN rfl rfl ?_ | refine QF.stepGN rfl rfl rfl ?_); intro K1 hK1; simp [*, QZ, QN, QJ, dop, eval, Qx, upd, Qb, Qs, Qz, QA, TyI.agg, Qd, Qq, Qh, Qf, QC, QL, goInt, QK, intCmp, Qm, Tag.isNN, Qc, DV.cells, growLimit, Qr, Qg, init, ty9, Ql]; (first | (refine hK1 _ _ ?_; clear hK1 K1) | (split <;> (rename_i hsp; (try simp only [beq_iff_eq, beq_eq_false_iff_ne, ne_eq, decide_eq_true_eq, decide_eq_false_iff_not] at hsp); (try (first | have hsq := Int.not_le.2 hsp | have hsq := Int.not_lt.2 hsp | have hsq := Int.not_le.1 hsp | have hsq := Int.not_lt.1 hsp)); (try subst hsp); (try simp only [hsp])) <;> (refine hK1 _ _ ?_; clear hK1 K1))))
    all_goals refine QF.done (hK _ _ (Dwp.ret ?_) rfl)
    all_goals refine QaS Tryz.func228 rfl _ ?_
    all_goals simp [upd, idB, *]
  rw [h1] at g
  have hpos := isName_pos h1
  have hb := bget s 0 hpos
  have hf : QhL s = (s[0].toNat : Int) := by simp [QhL, hpos]
  obtain ⟨c, hc⟩ : ∃ c : Int, (s[0].toNat : Int) = c := ⟨_, rfl⟩
  rw [hc] at hf
  by_cases ht : s = ⟨#[116, 114, 117, 101]⟩
  · subst ht
    repeat' ((first | refine QF.stepD rfl rfl ?_ | refine QF.stepG rfl rfl rfl ?_ | refine QF.stepN rfl rfl ?_ | refine QF.stepGN rfl rfl rfl ?_); intro K1 hK1; simp [*, QZ, QN, QJ, dop, eval, Qx, upd, Qb, Qs, Qz, QA, TyI.agg, Qd, Qq, Qh, Qf, QC, QL, goInt, QK, intCmp, Qm, Tag.isNN, Qc, DV.cells, growLimit, Qr, Qg, init, ty9, Ql]; (first | (refine hK1 _ _ ?_; clear hK1 K1) | (split <;> (rename_i hsp; (try simp only [beq_iff_eq, beq_eq_false_iff_ne, ne_eq, decide_eq_true_eq, decide_eq_false_iff_not] at hsp); (try (first | have hsq := Int.not_le.2 hsp | have hsq := Int.not_lt.2 hsp | have hsq := Int.not_le.1 hsp | have hsq := Int.not_lt.1 hsp)); (try subst hsp); (try simp only [hsp])) <;> (refine hK1 _ _ ?_; clear hK1 K1))))
    all_goals refine QF.done (hK _ _ (Dwp.ret ?_) rfl)
    all_goals refine QaS Tryz.func228 rfl _ ?_
    all_goals simp [upd, idB, *]
  by_cases hfl : s = ⟨#[102, 97, 108, 115, 101]⟩
  · subst hfl
    repeat' ((first | refine QF.stepD rfl rfl ?_ | refine QF.stepG rfl rfl rfl ?_ | refine QF.stepN rfl rfl ?_ | refine QF.stepGN rfl rfl rfl ?_); intro K1 hK1; simp [*, QZ, QN, QJ, dop, eval, Qx, upd, Qb, Qs, Qz, QA, TyI.agg, Qd, Qq, Qh, Qf, QC, QL, goInt, QK, intCmp, Qm, Tag.isNN, Qc, DV.cells, growLimit, Qr, Qg, init, ty9, Ql]; (first | (refine hK1 _ _ ?_; clear hK1 K1) | (split <;> (rename_i hsp; (try simp only [beq_iff_eq, beq_eq_false_iff_ne, ne_eq, decide_eq_true_eq, decide_eq_false_iff_not] at hsp); (try (first | have hsq := Int.not_le.2 hsp | have hsq := Int.not_lt.2 hsp | have hsq := Int.not_le.1 hsp | have hsq := Int.not_lt.1 hsp)); (try subst hsp); (try simp only [hsp])) <;> (refine hK1 _ _ ?_; clear hK1 K1))))
    all_goals refine QF.done (hK _ _ (Dwp.ret ?_) rfl)
    all_goals refine QaS Tryz.func228 rfl _ ?_
    all_goals simp [upd, idB, *]
  repeat' ((first | refine QF.stepD rfl rfl ?_ | refine QF.stepG rfl rfl rfl ?_ | refine QF.stepN rfl rfl ?_ | refine QF.stepGN rfl rfl rfl ?_); intro K1 hK1; simp [*, QZ, QN, QJ, dop, eval, Qx, upd, Qb, Qs, Qz, QA, TyI.agg, Qd, Qq, Qh, Qf, QC, QL, goInt, QK, intCmp, Qm, Tag.isNN, Qc, DV.cells, growLimit, Qr, Qg, init, ty9, Ql]; (first | (refine hK1 _ _ ?_; clear hK1 K1) | (split <;> (rename_i hsp; (try simp only [beq_iff_eq, beq_eq_false_iff_ne, ne_eq, decide_eq_true_eq, decide_eq_false_iff_not] at hsp); (try (first | have hsq := Int.not_le.2 hsp | have hsq := Int.not_lt.2 hsp | have hsq := Int.not_le.1 hsp | have hsq := Int.not_lt.1 hsp)); (try subst hsp); (try simp only [hsp])) <;> (refine hK1 _ _ ?_; clear hK1 K1))))
  all_goals refine QF.done (hK _ _ (Dwp.ret ?_) rfl)
  all_goals refine QaS Tryz.func228 rfl _ ?_
  all_goals simp [upd, idB, *]
theorem e228 : Go.FA.Good Tryz.prog (228, s228) := ⟨c228, Tryz.f228, _, Tryz.func228, rfl, by decide⟩
theorem call228 (T : Tab) (hT : T 228 = some s228) (s : ByteArray) (h : s.size ≤ lim) : dcall T 228 [.lit (.string s)] = some (.lit (.bool (idB s))) :=
  QaI (A := Enc.str) (B := Enc.bool) hT (if_pos h)
def s265 : Sp := sp (QR Enc.str (Enc.int .u8)) Enc.i64 (fun x => if x.2 = 39 then some (mark x.1) else none)
theorem c265 : Qy Tryz.prog 265 s265 := by
  refine Qy.of_sp (T := QD [(296, s296)]) Tryz.func265 rfl (Nat.le_of_ble_eq_true rfl) fun E xx y hy => ?_
  obtain ⟨s, c⟩ := xx
  simp only [] at hy
  split at hy
  case isFalse => cases hy
  next hc =>
  cases hy
  subst hc
  have tT : QO Tryz.prog (QD [(296, s296)]) := .cons e296 .nil
  have g : dcall (QD [(296, s296)]) 296 [.lit (.string s), .lit (.int .u8 39)] = some (.lit (.int .i64 (mark s))) := by
    simp [dcall, QD, s296, sp, QR, QH.and, QH.one, Enc.str, Enc.int, Enc.i64, mark]
  generalize QD [(296, s296)] = T at *
  refine Dwp.step tT rfl fun K hK => ?_
  simp [QB, QE, Qk, QJ, own, Ql, dop, QI, eval, Qx, QF, Ex.then, Ex.inBlock, upd, QK, Tag.isNN, Qm, intCmp, Qz, QA, TyI.agg, Qb, Qs, Qd, Qq, QL, QC, Qo, mapOf, Qw, Qn, Qe, Qh, Qf, Qt, DV.cells, Qr, Qg, Qp, Qu, rowsOf, Qv, growLimit, Qa, Qa.go, Qi, Qj, Qc, goInt, init, QR, QH.and, QH.one, Enc.str, Enc.int]
  refine hK _ _ ?_ rfl; clear hK K
  refine Dwp.step tT rfl fun K hK => ?_
  simp [QB, QE, Qk, QJ, own, Ql, dop, QI, eval, Qx, QF, Ex.then, Ex.inBlock, upd, QK, Tag.isNN, Qm, intCmp, Qz, QA, TyI.agg, Qb, Qs, Qd, Qq, QL, QC, Qo, mapOf, Qw, Qn, Qe, Qh, Qf, Qt, DV.cells, Qr, Qg, Qp, Qu, rowsOf, Qv, growLimit, Qa, Qa.go, Qi, Qj, Qc, goInt, init, g]
  refine hK _ _ (Dwp.ret ?_) rfl
  simp [Q1, QG, QY, frz, QW, QX, upd, Enc.i64, Enc.int]
theorem e265 : Go.FA.Good Tryz.prog (265, s265) := ⟨c265, Tryz.f265, _, Tryz.func265, rfl, by decide⟩
def Qcm (s : ByteArray) : ByteArray × ByteArray := if 0 ≤ mark s then (s.extract 0 (mark s).toNat, s.extract (mark s).toNat s.size) else (s, ⟨#[]⟩)
def s176 : Sp := sp (QS Enc.str) Enc.str2 (fun s => if s.size ≤ lim then some (Qcm s) else none)
theorem c176 : Qy Tryz.prog 176 s176 := by
  refine Qy.of_sp (T := QD [(265, s265)]) Tryz.func176 rfl (Nat.le_of_ble_eq_true rfl) fun E s y hy => ?_
  split at hy
  case isFalse => cases hy
  next hlim =>
  cases hy
  unfold lim at hlim
  have tT : QO Tryz.prog (QD [(265, s265)]) := .cons e265 .nil
  have g : dcall (QD [(265, s265)]) 265 [.lit (.string s), .lit (.int .u8 39)] = some (.lit (.int .i64 (mark s))) := by
    simp [dcall, QD, s265, sp, QR, QH.and, QH.one, Enc.str, Enc.int, Enc.i64]
  have hm := QcI s.data.toList
  generalize QD [(265, s265)] = T at *
  refine Dwp.step tT rfl fun K hK => ?_
  simp [QB, QE, Qk, QJ, own, Ql, dop, QI, eval, Qx, QF, Ex.then, Ex.inBlock, upd, QK, Tag.isNN, Qm, intCmp, Qz, QA, TyI.agg, Qb, Qs, Qd, Qq, QL, QC, Qo, mapOf, Qw, Qn, Qe, Qh, Qf, Qt, DV.cells, Qr, Qg, Qp, Qu, rowsOf, Qv, growLimit, Qa, Qa.go, Qi, Qj, Qc, goInt, init, QS, QH.one, Enc.str]
  refine hK _ _ ?_ rfl; clear hK K
  refine Dwp.seq ?_
  refine Dwp.step tT rfl fun K hK => ?_
  simp [QB, QE, Qk, QJ, own, Ql, dop, QI, eval, Qx, QF, Ex.then, Ex.inBlock, upd, QK, Tag.isNN, Qm, intCmp, Qz, QA, TyI.agg, Qb, Qs, Qd, Qq, QL, QC, Qo, mapOf, Qw, Qn, Qe, Qh, Qf, Qt, DV.cells, Qr, Qg, Qp, Qu, rowsOf, Qv, growLimit, Qa, Qa.go, Qi, Qj, Qc, goInt, init, g]
  refine hK _ _ ?_ rfl; clear hK K
  refine Dwp.step tT rfl fun K hK => ?_
  simp [QB, QE, Qk, QJ, own, Ql, dop, QI, eval, Qx, QF, Ex.then, Ex.inBlock, upd, QK, Tag.isNN, Qm, intCmp, Qz, QA, TyI.agg, Qb, Qs, Qd, Qq, QL, QC, Qo, mapOf, Qw, Qn, Qe, Qh, Qf, Qt, DV.cells, Qr, Qg, Qp, Qu, rowsOf, Qv, growLimit, Qa, Qa.go, Qi, Qj, Qc, goInt]
  refine hK _ _ ?_ rfl; clear hK K
  by_cases h0 : 0 ≤ mark s
  · have hms : mark s ≤ (s.size : Int) := by
      have : s.size = s.data.toList.length := by simp
      unfold mark at h0 ⊢
      rcases hm with h | ⟨i, h1, h2⟩ <;> omega
    have hmn : (mark s).toNat ≤ s.size := by omega
    refine Dwp.condT (by simp [eval, upd, h0]) ?_
    refine Dwp.drawStep [] mixed tT rfl rfl fun K hK => ?_
    simp [Qcr, touch, Qba, QB, QE, Qk, QJ, own, Ql, dop, QI, eval, Qx, QF, Ex.then, Ex.inBlock, upd, QK, Tag.isNN, Qm, intCmp, Qz, QA, TyI.agg, Qb, Qs, Qd, Qq, QL, QC, Qo, mapOf, Qw, Qn, Qe, Qh, Qf, Qt, DV.cells, Qr, Qg, Qp, Qu, rowsOf, Qv, growLimit, Qa, Qa.go, Qi, Qj, Qc, goInt, init, ty9, h0, hms, hmn]
    refine hK _ _ (Dwp.ret ?_) rfl
    simp [Q1, QG, QY, frz, QW, QX, Ex.then, upd, Enc.str2, Enc.tup, QR, QH.and, QH.one, Enc.str, Qcm, h0]
  · refine Dwp.condF (by simp [eval, upd, h0]) (Dwp.skip ?_)
    refine Dwp.step tT rfl fun K hK => ?_
    simp [QB, QE, Qk, QJ, own, Ql, dop, QI, eval, Qx, QF, Ex.then, Ex.inBlock, upd, QK, Tag.isNN, Qm, intCmp, Qz, QA, TyI.agg, Qb, Qs, Qd, Qq, QL, QC, Qo, mapOf, Qw, Qn, Qe, Qh, Qf, Qt, DV.cells, Qr, Qg, Qp, Qu, rowsOf, Qv, growLimit, Qa, Qa.go, Qi, Qj, Qc, goInt, init]
    refine hK _ _ (Dwp.ret ?_) rfl
    simp [Q1, QG, QY, frz, QW, QX, Ex.then, upd, Enc.str2, Enc.tup, QR, QH.and, QH.one, Enc.str, Qcm, h0]
theorem e176 : Go.FA.Good Tryz.prog (176, s176) := ⟨c176, Tryz.f176, _, Tryz.func176, rfl, by decide⟩
theorem Qjk (T : Tab) (hT : T 176 = some s176) (s : ByteArray) (h : s.size ≤ lim) : dcall T 176 [.lit (.string s)] = some (.tuple [.lit (.string (Qcm s).1), .lit (.string (Qcm s).2)]) :=
  QaI (A := Enc.str) (B := Enc.str2) hT (if_pos h)
def Qce (so : ByteArray) : List Tm → Bool
  | [] => true
  | [v] => decide (v.kind = 6) && (QP v.text && decide (v.sort = so))
  | _ => false
def s231 : Sp := sp (QR Enc.tms Enc.str) Enc.bool (fun x => if x.1.length ≤ 16777216 then some (Qce x.2 x.1) else none)
set_option maxHeartbeats 2000000 in
theorem c231 : Qy Tryz.prog 231 s231 := by
  refine Qy.of_sp (T := QD [(105, s105)]) Tryz.func231 rfl (Nat.le_of_ble_eq_true rfl) fun E xx y hy => ?_
  obtain ⟨r, so⟩ := xx
  simp only [] at hy
  split at hy
  case isFalse => cases hy
  next hlim =>
  cases hy
  have tT : QO Tryz.prog (QD [(105, s105)]) := .cons QjI .nil
  have g := fun s => QbG (QD [(105, s105)]) rfl s
  generalize QD [(105, s105)] = T at *
  refine Dwp.step tT rfl fun K hK => ?_
  simp [QB, QE, Qk, QJ, own, Ql, dop, QI, eval, Qx, QF, Ex.then, Ex.inBlock, upd, QK, Tag.isNN, Qm, intCmp, Qz, QA, TyI.agg, Qb, Qs, Qd, Qq, QL, QC, Qo, mapOf, Qw, Qn, Qe, Qh, Qf, Qt, DV.cells, Qr, Qg, Qp, Qu, rowsOf, Qv, growLimit, Qa, Qa.go, Qi, Qj, Qc, goInt, init, QR, QH.one, QH.and, Qjx, Enc.str]
  refine hK _ _ ?_ rfl; clear hK K
  refine Dwp.seq ?_
  refine Dwp.step tT rfl fun K hK => ?_
  match r, hlim with
  | [], _ =>
    simp [QB, QE, Qk, QJ, own, Ql, dop, QI, eval, Qx, QF, Ex.then, Ex.inBlock, upd, QK, Tag.isNN, Qm, intCmp, Qz, QA, TyI.agg, Qb, Qs, Qd, Qq, QL, QC, Qo, mapOf, Qw, Qn, Qe, Qh, Qf, Qt, DV.cells, Qr, Qg, Qp, Qu, rowsOf, Qv, growLimit, Qa, Qa.go, Qi, Qj, Qc, goInt, init, QaF]
    refine hK _ _ ?_ rfl; clear hK K
    refine Dwp.condT (by simp [eval, upd]) ?_
    refine Dwp.step tT rfl fun K hK => ?_
    simp [QB, QE, Qk, QJ, own, Ql, dop, QI, eval, Qx, QF, Ex.then, Ex.inBlock, upd, QK, Tag.isNN, Qm, intCmp, Qz, QA, TyI.agg, Qb, Qs, Qd, Qq, QL, QC, Qo, mapOf, Qw, Qn, Qe, Qh, Qf, Qt, DV.cells, Qr, Qg, Qp, Qu, rowsOf, Qv, growLimit, Qa, Qa.go, Qi, Qj, Qc, goInt]
    refine hK _ _ (Dwp.ret ?_) rfl
    refine QaS Tryz.func231 rfl _ ?_
    simp [upd, Qce]
  | [v], _ =>
    obtain ⟨vk, vn, vx, vs, vks, vr⟩ := v
    simp [QB, QE, Qk, QJ, own, Ql, dop, QI, eval, Qx, QF, Ex.then, Ex.inBlock, upd, QK, Tag.isNN, Qm, intCmp, Qz, QA, TyI.agg, Qb, Qs, Qd, Qq, QL, QC, Qo, mapOf, Qw, Qn, Qe, Qh, Qf, Qt, DV.cells, Qr, Qg, Qp, Qu, rowsOf, Qv, growLimit, Qa, Qa.go, Qi, Qj, Qc, goInt, init, QaF]
    refine hK _ _ ?_ rfl; clear hK K
    refine Dwp.condF (by simp [eval, upd]) (Dwp.skip ?_)
    have g1 := g vx
    clear g
    refine Dwp.step tT rfl fun K hK => ?_
    by_cases hso : vs = so
    · subst hso
      repeat' ((first | refine QF.stepD rfl rfl ?_ | refine QF.stepG rfl rfl rfl ?_ | refine QF.stepN rfl rfl ?_ | refine QF.stepGN rfl rfl rfl ?_); intro K1 hK1; simp [*, QZ, QN, QJ, dop, eval, Qx, upd, Qb, Qs, Qz, QA, TyI.agg, Qd, Qq, Qh, Qf, QC, QL, goInt, QK, intCmp, Qm, Tag.isNN, Qc, DV.cells, growLimit, Qr, Qg, init, Qa0, ty3, ty9, QaF, Qaf, Q8, Ql]; (first | (refine hK1 _ _ ?_; clear hK1 K1) | (split <;> (rename_i hsp; (try simp only [beq_iff_eq, beq_eq_false_iff_ne, ne_eq, decide_eq_true_eq, decide_eq_false_iff_not] at hsp); (try (first | have hsq := Int.not_le.2 hsp | have hsq := Int.not_lt.2 hsp | have hsq := Int.not_le.1 hsp | have hsq := Int.not_lt.1 hsp)); (try subst hsp); (try simp only [hsp])) <;> (refine hK1 _ _ ?_; clear hK1 K1))))
      all_goals refine QF.done (hK _ _ (Dwp.ret ?_) rfl)
      all_goals refine QaS Tryz.func231 rfl _ ?_
      all_goals simp [upd, Qce, Tm.kind, Tm.text, Tm.sort, *]
    repeat' ((first | refine QF.stepD rfl rfl ?_ | refine QF.stepG rfl rfl rfl ?_ | refine QF.stepN rfl rfl ?_ | refine QF.stepGN rfl rfl rfl ?_); intro K1 hK1; simp [*, QZ, QN, QJ, dop, eval, Qx, upd, Qb, Qs, Qz, QA, TyI.agg, Qd, Qq, Qh, Qf, QC, QL, goInt, QK, intCmp, Qm, Tag.isNN, Qc, DV.cells, growLimit, Qr, Qg, init, Qa0, ty3, ty9, QaF, Qaf, Q8, Ql]; (first | (refine hK1 _ _ ?_; clear hK1 K1) | (split <;> (rename_i hsp; (try simp only [beq_iff_eq, beq_eq_false_iff_ne, ne_eq, decide_eq_true_eq, decide_eq_false_iff_not] at hsp); (try (first | have hsq := Int.not_le.2 hsp | have hsq := Int.not_lt.2 hsp | have hsq := Int.not_le.1 hsp | have hsq := Int.not_lt.1 hsp)); (try subst hsp); (try simp only [hsp])) <;> (refine hK1 _ _ ?_; clear hK1 K1))))
    all_goals refine QF.done (hK _ _ (Dwp.ret ?_) rfl)
    all_goals refine QaS Tryz.func231 rfl _ ?_
    all_goals simp [upd, Qce, Tm.kind, Tm.text, Tm.sort, *]
  | v :: v2 :: r, hlim =>
    have hne : ((((v :: v2 :: r).length : Nat) : Int) == 0) = false := len_nil (by simp)
    obtain ⟨m, hm⟩ : ∃ m : Int, (r.length : Int) + 1 + 1 = m := ⟨_, rfl⟩
    have hm0 : ¬ m = 0 := by omega
    have hm1 : ¬ m = 1 := by omega
    have hmf : (m == 1) = false := by simpa using hm1
    simp [QB, QE, Qk, QJ, own, Ql, dop, QI, eval, Qx, QF, Ex.then, Ex.inBlock, upd, QK, Tag.isNN, Qm, intCmp, Qz, QA, TyI.agg, Qb, Qs, Qd, Qq, QL, QC, Qo, mapOf, Qw, Qn, Qe, Qh, Qf, Qt, DV.cells, Qr, Qg, Qp, Qu, rowsOf, Qv, growLimit, Qa, Qa.go, Qi, Qj, Qc, goInt, init, QaF, hm, hm0]
    refine hK _ _ ?_ rfl; clear hK K
    refine Dwp.condF (by simp [eval, upd, hm, hm0]) (Dwp.skip ?_)
    clear g
    refine Dwp.step tT rfl fun K hK => ?_
    repeat' ((first | refine QF.stepD rfl rfl ?_ | refine QF.stepG rfl rfl rfl ?_ | refine QF.stepN rfl rfl ?_ | refine QF.stepGN rfl rfl rfl ?_); intro K1 hK1; simp [*, QZ, QN, QJ, dop, eval, Qx, upd, Qb, Qs, Qz, QA, TyI.agg, Qd, Qq, Qh, Qf, QC, QL, goInt, QK, intCmp, Qm, Tag.isNN, Qc, DV.cells, growLimit, Qr, Qg, init, Qa0, ty3, ty9, QaF, Qaf, Q8, Ql]; (first | (refine hK1 _ _ ?_; clear hK1 K1) | (split <;> (rename_i hsp; (try simp only [beq_iff_eq, beq_eq_false_iff_ne, ne_eq, decide_eq_true_eq, decide_eq_false_iff_not] at hsp); (try (first | have hsq := Int.not_le.2 hsp | have hsq := Int.not_lt.2 hsp | have hsq := Int.not_le.1 hsp | have hsq := Int.not_lt.1 hsp)); (try subst hsp); (try simp only [hsp])) <;> (refine hK1 _ _ ?_; clear hK1 K1))))
    all_goals refine QF.done (hK _ _ (Dwp.ret ?_) rfl)
    all_goals refine QaS Tryz.func231 rfl _ ?_
    all_goals simp [upd, Qce, *]
theorem e231 : Go.FA.Good Tryz.prog (231, s231) := ⟨c231, Tryz.f231, _, Tryz.func231, rfl, by decide⟩
theorem Qi9 (T : Tab) (hT : T 231 = some s231) (r : List Tm) (so : ByteArray) (h : r.length ≤ 16777216) : dcall T 231 [.slice 6 .none (r.map Tm.cells), .lit (.string so)] = some (.lit (.bool (Qce so r))) :=
  Qa9 (A := Enc.tms) (B := Enc.str) (C := Enc.bool) hT (if_pos h)
def Qd2 (f : ByteArray) : Bool := match f.data.toList with | [_, c] => decide (49 ≤ (c.toNat : Int)) && decide ((c.toNat : Int) ≤ 56) | _ => false
theorem QdJ (s : ByteArray) : QhY s = (QP (Qcm s).1 && (decide ((Qcm s).2 = ⟨#[]⟩) || Qd2 (Qcm s).2)) := by
  have hsz : s.size = s.data.toList.length := by simp
  unfold QhY Qa7 Qcm
  rcases QcI s.data.toList with h | ⟨i, hi, h⟩
  · have hm : mark s = -1 := h
    simp [hm]
  · have hm : mark s = (i : Int) := h
    have hd : s.data.toList.drop i = s.data.toList[i] :: s.data.toList.drop (i + 1) := List.drop_eq_getElem_cons hi
    have hne : (s.extract i s.size) ≠ ⟨#[]⟩ := by
      intro e
      have := congrArg (fun b : ByteArray => b.data.toList) e
      simp only [Qcb] at this
      rw [hsz, List.take_length, hd] at this
      simp at this
    have htl : Qd2 (s.extract i s.size) = digit (s.extract (i + 1) s.size) := by
      unfold Qd2 digit
      rw [Qcb, Qcb, hsz, List.take_length, hd]
      rcases s.data.toList.drop (i + 1) with _ | ⟨c, _ | ⟨c2, l⟩⟩ <;> rfl
    simp [hm, hne, htl]
theorem tail_ne {f : ByteArray} (h : f.size ≠ 2) : Qd2 f = false := by
  obtain ⟨⟨l⟩⟩ := f
  unfold Qd2
  match l, h with
  | [], _ => rfl
  | [_], _ => rfl
  | [_, _], h => exact absurd rfl h
  | _ :: _ :: _ :: _, _ => rfl
theorem size_two {d : ByteArray} (h : d.size = 2) : ∃ b c, d = ⟨#[b, c]⟩ := by
  obtain ⟨⟨l⟩⟩ := d
  match l, h with
  | [b, c], _ => exact ⟨b, c, rfl⟩
def s229 : Sp := sp (QS Enc.str) Enc.bool (fun s => if s.size ≤ lim then some (QhY s) else none)
set_option maxHeartbeats 2000000 in
theorem c229 : Qy Tryz.prog 229 s229 := by
  refine Qy.of_sp (T := QD [(176, s176), (105, s105)]) Tryz.func229 rfl (Nat.le_of_ble_eq_true rfl) fun E s y hy => ?_
  split at hy
  case isFalse => cases hy
  next hlim =>
  cases hy
  have tT : QO Tryz.prog (QD [(176, s176), (105, s105)]) := .cons e176 (.cons QjI .nil)
  have g1 := Qjk (QD [(176, s176), (105, s105)]) rfl s hlim
  have g2 := QbG (QD [(176, s176), (105, s105)]) rfl (Qcm s).1
  generalize QD [(176, s176), (105, s105)] = T at *
  rw [QdJ]
  clear hlim
  generalize (Qcm s).1 = n at *
  generalize (Qcm s).2 = f at *
  refine Dwp.step tT rfl fun K hK => ?_
  simp [QB, QE, Qk, QJ, own, Ql, dop, QI, eval, Qx, QF, Ex.then, Ex.inBlock, upd, QK, Tag.isNN, Qm, intCmp, Qz, QA, TyI.agg, Qb, Qs, Qd, Qq, QL, QC, Qo, mapOf, Qw, Qn, Qe, Qh, Qf, Qt, DV.cells, Qr, Qg, Qp, Qu, rowsOf, Qv, growLimit, Qa, Qa.go, Qi, Qj, Qc, goInt, init, QS, QH.one, Enc.str]
  refine hK _ _ ?_ rfl; clear hK K
  refine Dwp.step tT rfl fun K hK => ?_
  simp [QB, QE, Qk, QJ, own, Ql, dop, QI, eval, Qx, QF, Ex.then, Ex.inBlock, upd, QK, Tag.isNN, Qm, intCmp, Qz, QA, TyI.agg, Qb, Qs, Qd, Qq, QL, QC, Qo, mapOf, Qw, Qn, Qe, Qh, Qf, Qt, DV.cells, Qr, Qg, Qp, Qu, rowsOf, Qv, growLimit, Qa, Qa.go, Qi, Qj, Qc, goInt, init, g1]
  refine hK _ _ ?_ rfl; clear hK K
  clear g1
  refine Dwp.step tT rfl fun K hK => ?_
  by_cases h0 : f = ⟨#[]⟩
  · subst h0
    repeat' ((first | refine QF.stepD rfl rfl ?_ | refine QF.stepG rfl rfl rfl ?_ | refine QF.stepN rfl rfl ?_ | refine QF.stepGN rfl rfl rfl ?_); intro K1 hK1; simp [*, QZ, QN, QJ, dop, eval, Qx, upd, Qb, Qs, Qz, QA, TyI.agg, Qd, Qq, Qh, Qf, QC, QL, goInt, QK, intCmp, Qm, Tag.isNN, Qc, DV.cells, growLimit, Qr, Qg, ty9, Ql]; (first | (refine hK1 _ _ ?_; clear hK1 K1) | (split <;> (rename_i hsp; (try simp only [beq_iff_eq, beq_eq_false_iff_ne, ne_eq, decide_eq_true_eq, decide_eq_false_iff_not] at hsp); (try (first | have hsq := Int.not_le.2 hsp | have hsq := Int.not_lt.2 hsp | have hsq := Int.not_le.1 hsp | have hsq := Int.not_lt.1 hsp)); (try subst hsp); (try simp only [hsp])) <;> (refine hK1 _ _ ?_; clear hK1 K1))))
    all_goals refine QF.done (hK _ _ (Dwp.ret ?_) rfl)
    all_goals refine QaS Tryz.func229 rfl _ ?_
    all_goals simp [upd, *]
  by_cases h2 : f.size = 2
  · obtain ⟨b, c, rfl⟩ := size_two h2
    have e1 : (ByteArray.mk #[b, c]).size = 2 := rfl
    have e2 : (ByteArray.mk #[b, c])[1]? = some c := rfl
    have e3 : (ByteArray.mk #[b, c])[1]'(by rw [e1]; omega) = c := rfl
    have hdg : Qd2 ⟨#[b, c]⟩ = (decide (49 ≤ (c.toNat : Int)) && decide ((c.toNat : Int) ≤ 56)) := rfl
    obtain ⟨ci, hci⟩ : ∃ x : Int, (c.toNat : Int) = x := ⟨_, rfl⟩
    rw [hci] at hdg
    clear h2
    repeat' ((first | refine QF.stepD rfl rfl ?_ | refine QF.stepG rfl rfl rfl ?_ | refine QF.stepN rfl rfl ?_ | refine QF.stepGN rfl rfl rfl ?_); intro K1 hK1; simp [*, QZ, QN, QJ, dop, eval, Qx, upd, Qb, Qs, Qz, QA, TyI.agg, Qd, Qq, Qh, Qf, QC, QL, goInt, QK, intCmp, Qm, Tag.isNN, Qc, DV.cells, growLimit, Qr, Qg, ty9, Ql]; (first | (refine hK1 _ _ ?_; clear hK1 K1) | (split <;> (rename_i hsp; (try simp only [beq_iff_eq, beq_eq_false_iff_ne, ne_eq, decide_eq_true_eq, decide_eq_false_iff_not] at hsp); (try (first | have hsq := Int.not_le.2 hsp | have hsq := Int.not_lt.2 hsp | have hsq := Int.not_le.1 hsp | have hsq := Int.not_lt.1 hsp)); (try subst hsp); (try simp only [hsp])) <;> (refine hK1 _ _ ?_; clear hK1 K1))))
    all_goals refine QF.done (hK _ _ (Dwp.ret ?_) rfl)
    all_goals refine QaS Tryz.func229 rfl _ ?_
    all_goals simp [upd, *]
  have ht := tail_ne h2
  obtain ⟨m, hm⟩ : ∃ m : Int, (f.size : Int) = m := ⟨_, rfl⟩
  have h2' : ¬ m = 2 := by omega
  have h2f : (m == 2) = false := by simpa using h2'
  clear h2
  repeat' ((first | refine QF.stepD rfl rfl ?_ | refine QF.stepG rfl rfl rfl ?_ | refine QF.stepN rfl rfl ?_ | refine QF.stepGN rfl rfl rfl ?_); intro K1 hK1; simp [*, QZ, QN, QJ, dop, eval, Qx, upd, Qb, Qs, Qz, QA, TyI.agg, Qd, Qq, Qh, Qf, QC, QL, goInt, QK, intCmp, Qm, Tag.isNN, Qc, DV.cells, growLimit, Qr, Qg, ty9, Ql]; (first | (refine hK1 _ _ ?_; clear hK1 K1) | (split <;> (rename_i hsp; (try simp only [beq_iff_eq, beq_eq_false_iff_ne, ne_eq, decide_eq_true_eq, decide_eq_false_iff_not] at hsp); (try (first | have hsq := Int.not_le.2 hsp | have hsq := Int.not_lt.2 hsp | have hsq := Int.not_le.1 hsp | have hsq := Int.not_lt.1 hsp)); (try subst hsp); (try simp only [hsp])) <;> (refine hK1 _ _ ?_; clear hK1 K1))))
  all_goals refine QF.done (hK _ _ (Dwp.ret ?_) rfl)
  all_goals refine QaS Tryz.func229 rfl _ ?_
  all_goals simp [upd, *]
theorem e229 : Go.FA.Good Tryz.prog (229, s229) := ⟨c229, Tryz.f229, _, Tryz.func229, rfl, by decide⟩
theorem call229 (T : Tab) (hT : T 229 = some s229) (s : ByteArray) (h : s.size ≤ lim) : dcall T 229 [.lit (.string s)] = some (.lit (.bool (QhY s))) :=
  QaI (A := Enc.str) (B := Enc.bool) hT (if_pos h)
end Go.Proofs.Yt
namespace Go.FA
open Go.RowKit
set_option linter.unusedSimpArgs false
variable {P : Program} {T : Tab} {E : Entry} {C : Ctx} {w : World} {σ : St} {n : Nat} {a : Nat → DV} {ops : Array Oper} {K : (Nat → DV) → St → Prop} {i : Nat} {rest : List Nat} {o : Oper}
theorem Rg.rangeS {t : TypeId} {x : Operand} {s : ByteArray} (hd : Q3 n ops = true) (ho : ops[i]? = some o) (hw : Qk ops a o.guard = some true) (hop : o.op = .range t x) (ht : P.underlying t = some .string) (hx : eval a x = .lit (.string s))
    (h : Rg P E n ops K rest (QI a o.dst (.ptr σ.n 0)) { σ with n := σ.n + 1, objs := upd σ.objs σ.n (some (.strIter s 0)) }) : Rg P E n ops K (i :: rest) a σ := by
  refine Rg.upon (d := .ptr σ.n 0) (σ1 := { σ with objs := upd σ.objs σ.n (some (.strIter s 0)) }) hd ho hw (fun ca w ds C hf hs => ?_) h
  have hv := Q7 (ds := ds) hf x
  rw [hx] at hv; simp only [QM] at hv
  obtain ⟨C', hle, hstep, hob, _, _, _, hs'⟩ := hs.new_obj (id := σ.n) (ob := .stringIter s 0) (o := .strIter s 0) (Nat.le_refl _) (fun C' hle hstep => by simp only [Qiq]; simpa using heap_alloc_new w _)
  have hr : (execOp (Act.eval ⟨ca, ds⟩) o).run P w = .ok (.value (.pointer (some ⟨w.heap.size, 0, none⟩))) (w.alloc (.stringIter s 0)) := by
    simp only [execOp, hop, hv, Sem.run_bind, run_range_string w t s ht, Result.andThen_ok, Sem.run_pure]; rfl
  unfold Upon; rw [hr]; exact ⟨C', hle, hstep, by simp only [QM]; exact ⟨_, hob, rfl⟩, hs'⟩
theorem Rg.nextS {it : Operand} {id pos : Nat} {s : ByteArray} (hd : Q3 n ops = true) (ho : ops[i]? = some o) (hw : Qk ops a o.guard = some true) (hop : o.op = .next it true) (hx : eval a it = .ptr id 0) (hb : σ.objs id = some (.strIter s pos)) (hp : pos < s.size)
    (h : Rg P E n ops K rest (QI a o.dst (.tuple [.lit (.bool true), .lit (.int .i64 pos), .lit (.int .i32 (Utf8.decode s pos).1)])) { σ with n := σ.n + 1, objs := upd σ.objs id (some (.strIter s (pos + (Utf8.decode s pos).2))) }) : Rg P E n ops K (i :: rest) a σ := by
  refine Rg.upon (d := .tuple [.lit (.bool true), .lit (.int .i64 pos), .lit (.int .i32 (Utf8.decode s pos).1)]) (σ1 := { σ with objs := upd σ.objs id (some (.strIter s (pos + (Utf8.decode s pos).2))) }) hd ho hw (fun ca w ds C hf hs => ?_) h
  have hv := Q7 (ds := ds) hf it
  rw [hx] at hv; simp only [QM] at hv
  obtain ⟨b, hbb, hv⟩ := hv
  obtain ⟨b', hb', hB, hlt, hnp, hnm, h1⟩ := hs.obj _ _ hb
  obtain rfl : b = b' := by rw [hbb] at hb'; exact Option.some.inj hb'
  simp only [Qiq] at h1
  have hT : QcQ w { w with heap := w.heap.setIfInBounds b (.stringIter s (pos + (Utf8.decode s pos).2)) } b (.stringIter s (pos + (Utf8.decode s pos).2)) := by
    refine ⟨rfl, rfl, rfl, by simp, ?_, ?_⟩
    · simp [Array.getElem?_setIfInBounds, hlt]
    · intro k hk; simp [Array.getElem?_setIfInBounds]; intro e; exact absurd e.symm hk
  have hno : ∀ c2 e2, w.heap[b]? = some (.cells c2 e2) → ∃ c' e', Obj.stringIter s (pos + (Utf8.decode s pos).2) = .cells c' e' ∧ c'.size = c2.size := fun _ _ q => by rw [h1] at q; cases q
  obtain ⟨hst, hS⟩ := hs.turn (o' := .strIter s (pos + (Utf8.decode s pos).2)) hb hbb hT hno (by simp only [Qiq]; exact hT.at_)
  have hr : (execOp (Act.eval ⟨ca, ds⟩) o).run P w = .ok (.value (.tuple #[.bool true, .int .i64 pos, .int .i32 (Utf8.decode s pos).1])) { w with heap := w.heap.setIfInBounds b (.stringIter s (pos + (Utf8.decode s pos).2)) } := by
    simp only [execOp, hop, hv, Sem.run_bind, Instr.next, getObj, setObj, Sem.run, h1, Result.andThen, hp, if_true]
    simp [goInt, Sem.run, h1]
  unfold Upon; rw [hr]
  exact ⟨C, .refl C, hst, by simp only [QM]; exact ⟨[.bool true, .int .i64 pos, .int .i32 (Utf8.decode s pos).1], rfl, by simp only [QQ, QM]; exact ⟨trivial, trivial, trivial, trivial⟩⟩, ⟨hS.lo, hS.below, hS.bsize, hS.pB, hS.mB, hS.psup, hS.msup, hS.psub, hS.msub, hS.obj, hS.inj, hS.tok, hS.tinj, hS.tobj, fun i hi => hS.fresh i hi.1⟩⟩
theorem Rg.overS {it : Operand} {id pos : Nat} {s : ByteArray} (hd : Q3 n ops = true) (ho : ops[i]? = some o) (hw : Qk ops a o.guard = some true) (hop : o.op = .next it true) (hx : eval a it = .ptr id 0) (hb : σ.objs id = some (.strIter s pos)) (hp : ¬ pos < s.size)
    (h : Rg P E n ops K rest (QI a o.dst (.tuple [.lit (.bool false)])) { σ with n := σ.n + 1 }) : Rg P E n ops K (i :: rest) a σ := by
  refine Rg.upon (d := .tuple [.lit (.bool false)]) (σ1 := σ) hd ho hw (fun ca w ds C hf hs => ?_) h
  have hv := Q7 (ds := ds) hf it
  rw [hx] at hv; simp only [QM] at hv
  obtain ⟨b, hbb, hv⟩ := hv
  obtain ⟨b', hb', hB, hlt, hnp, hnm, h1⟩ := hs.obj _ _ hb
  obtain rfl : b = b' := by rw [hbb] at hb'; exact Option.some.inj hb'
  simp only [Qiq] at h1
  have hr : (execOp (Act.eval ⟨ca, ds⟩) o).run P w = .ok (.value (.tuple #[.bool false])) w := by
    simp only [execOp, hop, hv, Sem.run_bind, Instr.next, getObj, setObj, Sem.run, h1, Result.andThen, hp, if_false]
    simp [goInt, Sem.run, h1]
  unfold Upon; rw [hr]
  refine ⟨C, .refl C, .refl C w, by simp only [QM]; exact ⟨[.bool false], rfl, by simp only [QQ, QM]; exact ⟨trivial, trivial⟩⟩, ?_⟩
  exact ⟨hs.lo, hs.below, hs.bsize, hs.pB, hs.mB, hs.psup, hs.msup, hs.psub, hs.msub, hs.obj, hs.inj, hs.tok, hs.tinj, hs.tobj, fun i hi => hs.fresh i hi.1⟩
end Go.FA
namespace Go.Proofs.Yt
open Go Go.FA Go.Proofs Go.RowKit
set_option linter.unusedSimpArgs false
set_option maxRecDepth 100000
theorem decode_big (s : ByteArray) (i : Nat) (h : i < s.size) (hb : 128 ≤ (s[i]'h).toNat) : 128 ≤ (Utf8.decode s i).1 := by
  have e : s.get! (i + 0) = s[i]'h := by
    show s.get! i = _
    simp [ByteArray.get!, getElem!_pos, h]
    rfl
  simp only [Utf8.decode, e, Utf8.runeError]
  rw [if_neg (by omega)]
  repeat' split
  all_goals (try simp only [Bool.and_eq_true, decide_eq_true_eq, ge_iff_le] at *; try omega)
theorem Qd3 (s : ByteArray) (i : Nat) (h : i < s.size) (hb : (s[i]'h).toNat < 128) : Utf8.decode s i = ((s[i]'h).toNat, 1) := decode_ascii s i h hb
def s227 : Sp := sp (QS Enc.str) Enc.bool (fun s => if s.size ≤ lim then some (Qfi s) else none)
set_option maxHeartbeats 2000000 in
theorem c227 : Qy Tryz.prog 227 s227 := by
  refine Qy.of_sp (T := QD []) Tryz.func227 rfl (Nat.le_of_ble_eq_true rfl) fun E s y hy => ?_
  split at hy
  case isFalse => cases hy
  next hlim =>
  cases hy
  unfold lim at hlim
  have tT := Q5 (P := Tryz.prog)
  generalize QD [] = T at *
  have fin : ∀ (a : Nat → DV) (σ : St), a 2 = .lit (.bool (Qfi s)) → Q1 Tryz.prog Tryz.f227.results Enc.bool (Qfi s) Ex.ret a σ := by
    intro a σ h2
    refine ⟨.inr rfl, .lit (.bool (Qfi s)), ?_, by simp [Q1, QG, QY, frz, QW, QX, Enc.bool]⟩
    show QG Tryz.prog σ a [ResultVar.tmp 2] = _
    simp [QG, QY, h2]
  refine Dwp.step tT rfl fun K hK => ?_
  simp [QB, QE, Qk, QJ, own, Ql, dop, QI, eval, Qx, QF, Ex.then, Ex.inBlock, upd, QK, Tag.isNN, Qm, intCmp, Qz, QA, TyI.agg, Qb, Qs, Qd, Qq, QL, QC, Qo, mapOf, Qw, Qn, Qe, Qh, Qf, Qt, DV.cells, Qr, Qg, Qp, Qu, rowsOf, Qv, growLimit, Qa, Qa.go, Qi, Qj, Qc, goInt, init, QS, QH.one, Enc.str]
  refine hK _ _ ?_ rfl; clear hK K
  refine Dwp.seq ?_
  refine Dwp.step tT rfl fun K hK => ?_
  simp [QB, QE, Qk, QJ, own, Ql, dop, QI, eval, Qx, QF, Ex.then, Ex.inBlock, upd, QK, Tag.isNN, Qm, intCmp, Qz, QA, TyI.agg, Qb, Qs, Qd, Qq, QL, QC, Qo, mapOf, Qw, Qn, Qe, Qh, Qf, Qt, DV.cells, Qr, Qg, Qp, Qu, rowsOf, Qv, growLimit, Qa, Qa.go, Qi, Qj, Qc, goInt, init, ty9]
  refine hK _ _ ?_ rfl; clear hK K
  by_cases hbig : 200 < s.size
  · have hbig' : (200 : Int) < (s.size : Int) := by omega
    refine Dwp.condT (by simp [eval, upd, hbig']) ?_
    refine Dwp.step tT rfl fun K hK => ?_
    simp [QB, QE, Qk, QJ, own, Ql, dop, QI, eval, Qx, QF, Ex.then, Ex.inBlock, upd, QK, Tag.isNN, Qm, intCmp, Qz, QA, TyI.agg, Qb, Qs, Qd, Qq, QL, QC, Qo, mapOf, Qw, Qn, Qe, Qh, Qf, Qt, DV.cells, Qr, Qg, Qp, Qu, rowsOf, Qv, growLimit, Qa, Qa.go, Qi, Qj, Qc, goInt]
    refine hK _ _ (Dwp.ret ?_) rfl
    exact fin _ _ (by simp [upd, Qfi]; omega)
  have hsmall : ¬ (200 : Int) < (s.size : Int) := by omega
  refine Dwp.condF (by simp [eval, upd, hsmall]) (Dwp.skip ?_)
  refine Dwp.seq ?_
  refine Dwp.stepH fun K hK => ?_
  show Rg _ _ _ _ K ([0] ++ (1 :: [])) _ _
  refine Rg.run tT rfl _ _ _ ?_
  simp [Qbn, Qe2, QbJ, QB, QE, Qk, QJ, own, Ql, dop, QI, eval, Qx, QF, Ex.then, Ex.inBlock, upd, QK, Tag.isNN, Qm, intCmp, Qz, QA, TyI.agg, Qb, Qs, Qd, Qq, QL, QC, Qo, mapOf, Qw, Qn, Qe, Qh, Qf, Qt, DV.cells, Qr, Qg, Qp, Qu, rowsOf, Qv, growLimit, Qa, Qa.go, Qi, Qj, Qc, goInt, init]
  refine Rg.rangeS (s := s) rfl rfl rfl rfl (by kernel_rfl) (by simp [eval, upd]) ?_
  refine Rg.nil (hK _ _ ?_)
  refine Dwp.block (Dwp.loop (fun k a σ => ∃ i, i ≤ s.size ∧ k = s.size - i ∧ a 9 = .ptr 4 0 ∧ σ.objs 4 = some (.strIter s i) ∧ 5 ≤ σ.n ∧ ∀ j, j < i → charAt s j) s.size ⟨0, Nat.zero_le _, rfl, by simp [QI, upd, σ0], by simp [upd, σ0], by simp [σ0], by simp⟩ ?_)
  rintro k a σ ⟨i, hi, rfl, h9, hob, hn5, hok⟩
  by_cases hlt : i < s.size
  · have hnext : ∀ (c : Int), (Utf8.decode s i).1 = c → (128 ≤ s[i].toNat → 128 ≤ c) → (s[i].toNat < 128 → c = (s[i].toNat : Int) ∧ (Utf8.decode s i).2 = 1) →
        (Qa8 c = true ↔ s[i].toNat < 128 ∧ Qa8 (s[i].toNat : Int) = true) := by
      intro c hc h1 h2
      by_cases hb : s[i].toNat < 128
      · rw [(h2 hb).1]; simp [hb]
      · have := h1 (by omega)
        have hf : Qa8 c = false := by simp [Qa8]; omega
        simp [hf, hb]
    obtain ⟨c, hc⟩ : ∃ c : Int, ((Utf8.decode s i).1 : Int) = c := ⟨_, rfl⟩
    obtain ⟨w, hw⟩ : ∃ w : Nat, (Utf8.decode s i).2 = w := ⟨_, rfl⟩
    have hch : Qa8 c = true ↔ s[i].toNat < 128 ∧ Qa8 (s[i].toNat : Int) = true := hnext c hc (fun h => by have := decode_big s i hlt h; omega) (fun h => by rw [Qd3 s i hlt h] at hc ⊢; exact ⟨hc.symm, rfl⟩)
    have hw1 : s[i].toNat < 128 → w = 1 := fun h => by rw [← hw, Qd3 s i hlt h]
    have hfull : Qa8 c = false → Qfi s = false := by
      intro hf
      have : Qhh Qa8 s = false := by
        cases q : Qhh Qa8 s with
        | false => rfl
        | true =>
          have h3 := (QgC Qa8 s).1 q i hlt
          by_cases hb : s[i].toNat < 128
          · rw [hch.2 ⟨hb, h3⟩] at hf; cases hf
          · have : Qa8 (s[i].toNat : Int) = false := by simp [Qa8]; omega
            rw [this] at h3; cases h3
      simp [Qfi, this]
    clear hnext
    refine Dwp.stepH fun K hK => ?_
    show Rg _ _ _ _ K (0 :: ([1] ++ [])) _ _
    refine Rg.nextS (s := s) (pos := i) rfl rfl rfl rfl (by simp [eval, h9]; try rfl) hob hlt ?_
    rw [hc, hw]
    refine Rg.run tT rfl _ _ _ ?_
    simp [Qbn, Qe2, QbJ, QB, QE, Qk, QJ, own, Ql, dop, QI, eval, Qx, QF, Ex.then, Ex.inBlock, upd, QK, Tag.isNN, Qm, intCmp, Qz, QA, TyI.agg, Qb, Qs, Qd, Qq, QL, QC, Qo, mapOf, Qw, Qn, Qe, Qh, Qf, Qt, DV.cells, Qr, Qg, Qp, Qu, rowsOf, Qv, growLimit, Qa, Qa.go, Qi, Qj, Qc, goInt, init]
    refine Rg.nil (hK _ _ ?_)
    clear hK K
    refine Dwp.seq (Dwp.condT (by simp [eval, upd]) (Dwp.skip ?_))
    refine Dwp.block ?_
    refine Dwp.step tT rfl fun K hK => ?_
    simp [QB, QE, Qk, QJ, own, Ql, dop, QI, eval, Qx, QF, Ex.then, Ex.inBlock, upd, QK, Tag.isNN, Qm, intCmp, Qz, QA, TyI.agg, Qb, Qs, Qd, Qq, QL, QC, Qo, mapOf, Qw, Qn, Qe, Qh, Qf, Qt, DV.cells, Qr, Qg, Qp, Qu, rowsOf, Qv, growLimit, Qa, Qa.go, Qi, Qj, Qc, goInt]
    refine hK _ _ ?_ rfl; clear hK K
    refine Dwp.step tT rfl fun K hK => ?_
    have good : ∀ a' σ', a' 26 = .lit (.bool false) → Qa8 c = true → a' 9 = .ptr 4 0 → σ'.objs 4 = some (.strIter s (i + w)) → σ'.n = σ.n + 1 + 2 → K a' σ' := by
      intro a' σ' h26 hcc h9 hob hn
      refine hK _ _ ?_ hn
      refine Dwp.condF (by simp [eval, h26]) (Dwp.skip ?_)
      obtain ⟨hb, hct⟩ := hch.1 hcc
      have hw2 := hw1 hb
      subst hw2
      refine ⟨s.size - (i + 1), by omega, i + 1, by omega, rfl, h9, hob, by simp only []; omega, fun j hj => ?_⟩
      rcases Nat.lt_succ_iff_lt_or_eq.1 hj with q | rfl
      · exact hok j q
      · exact ⟨hlt, hct⟩
    have bad : ∀ a' σ', a' 26 = .lit (.bool true) → Qa8 c = false → σ'.n = σ.n + 1 + 2 → K a' σ' := by
      intro a' σ' h26 hcc hn
      refine hK _ _ ?_ hn
      refine Dwp.condT (by simp [eval, h26]) ?_
      refine Dwp.step tT rfl fun K hK => ?_
      simp [QB, QE, Qk, QJ, own, Ql, dop, QI, eval, Qx, QF, Ex.then, Ex.inBlock, upd, QK, Tag.isNN, Qm, intCmp, Qz, QA, TyI.agg, Qb, Qs, Qd, Qq, QL, QC, Qo, mapOf, Qw, Qn, Qe, Qh, Qf, Qt, DV.cells, Qr, Qg, Qp, Qu, rowsOf, Qv, growLimit, Qa, Qa.go, Qi, Qj, Qc, goInt]
      refine hK _ _ (Dwp.ret ?_) rfl
      exact fin _ _ (by simp [upd, hfull hcc])
    clear hc hw1 hfull hok hn5
    have h9' : upd (upd a 10 (DV.tuple [DV.lit (Value.bool true), DV.lit (Value.int IntKind.i64 i), DV.lit (Value.int IntKind.i32 c)])) 11 (DV.lit (Value.bool true)) 9 = .ptr 4 0 := by simp [upd, h9]
    by_cases q4 : c = 92
    · have hcf : Qa8 c = false := by subst q4; simp [Qa8]
      clear hch good
      subst q4
      repeat' ((first | refine QF.stepD rfl rfl ?_ | refine QF.stepG rfl rfl rfl ?_ | refine QF.stepN rfl rfl ?_ | refine QF.stepGN rfl rfl rfl ?_); intro K1 hK1; simp [*, QZ, QN, QJ, dop, eval, Qx, upd, Qb, Qs, Qz, QA, TyI.agg, Qd, Qq, Qh, Qf, QC, QL, goInt, QK, intCmp, Qm, Tag.isNN, Qc, DV.cells, growLimit, Qr, Qg, ty21]; (first | (refine hK1 _ _ ?_; clear hK1 K1) | (split <;> (rename_i hsp; (try simp only [beq_iff_eq, beq_eq_false_iff_ne, ne_eq, decide_eq_true_eq, decide_eq_false_iff_not] at hsp); (try (first | have hsq := Int.not_le.2 hsp | have hsq := Int.not_lt.2 hsp | have hsq := Int.not_le.1 hsp | have hsq := Int.not_lt.1 hsp)); (try subst hsp); (try simp only [hsp])) <;> (refine hK1 _ _ ?_; clear hK1 K1))))
      refine QF.done (bad _ _ (by simp [upd]) hcf rfl)
    by_cases q3 : c = 34
    · have hcf : Qa8 c = false := by subst q3; simp [Qa8]
      clear hch good
      subst q3
      repeat' ((first | refine QF.stepD rfl rfl ?_ | refine QF.stepG rfl rfl rfl ?_ | refine QF.stepN rfl rfl ?_ | refine QF.stepGN rfl rfl rfl ?_); intro K1 hK1; simp [*, QZ, QN, QJ, dop, eval, Qx, upd, Qb, Qs, Qz, QA, TyI.agg, Qd, Qq, Qh, Qf, QC, QL, goInt, QK, intCmp, Qm, Tag.isNN, Qc, DV.cells, growLimit, Qr, Qg, ty21]; (first | (refine hK1 _ _ ?_; clear hK1 K1) | (split <;> (rename_i hsp; (try simp only [beq_iff_eq, beq_eq_false_iff_ne, ne_eq, decide_eq_true_eq, decide_eq_false_iff_not] at hsp); (try (first | have hsq := Int.not_le.2 hsp | have hsq := Int.not_lt.2 hsp | have hsq := Int.not_le.1 hsp | have hsq := Int.not_lt.1 hsp)); (try subst hsp); (try simp only [hsp])) <;> (refine hK1 _ _ ?_; clear hK1 K1))))
      refine QF.done (bad _ _ (by simp [upd]) hcf rfl)
    clear hch
    repeat' ((first | refine QF.stepD rfl rfl ?_ | refine QF.stepG rfl rfl rfl ?_ | refine QF.stepN rfl rfl ?_ | refine QF.stepGN rfl rfl rfl ?_); intro K1 hK1; simp [*, QZ, QN, QJ, dop, eval, Qx, upd, Qb, Qs, Qz, QA, TyI.agg, Qd, Qq, Qh, Qf, QC, QL, goInt, QK, intCmp, Qm, Tag.isNN, Qc, DV.cells, growLimit, Qr, Qg, ty21]; (first | (refine hK1 _ _ ?_; clear hK1 K1) | (split <;> (rename_i hsp; (try simp only [beq_iff_eq, beq_eq_false_iff_ne, ne_eq, decide_eq_true_eq, decide_eq_false_iff_not] at hsp); (try (first | have hsq := Int.not_le.2 hsp | have hsq := Int.not_lt.2 hsp | have hsq := Int.not_le.1 hsp | have hsq := Int.not_lt.1 hsp)); (try subst hsp); (try simp only [hsp])) <;> (refine hK1 _ _ ?_; clear hK1 K1))))
    · refine QF.done (good _ _ (by simp [upd, q4]) (by simp [Qa8, q3, q4]; omega) (by simp [upd, h9]) (by simp [upd]) rfl)
    · refine QF.done (bad _ _ (by simp [upd]) (by simp [Qa8, q3, q4]; omega) rfl)
    · refine QF.done (bad _ _ (by simp [upd]) (by simp [Qa8, q3, q4]; omega) rfl)
  · refine Dwp.stepH fun K hK => ?_
    show Rg _ _ _ _ K (0 :: ([1] ++ [])) _ _
    refine Rg.overS (s := s) (pos := i) rfl rfl rfl rfl (by simp [eval, h9]; try rfl) hob hlt ?_
    refine Rg.run tT rfl _ _ _ ?_
    simp [Qbn, Qe2, QbJ, QB, QE, Qk, QJ, own, Ql, dop, QI, eval, Qx, QF, Ex.then, Ex.inBlock, upd, QK, Tag.isNN, Qm, intCmp, Qz, QA, TyI.agg, Qb, Qs, Qd, Qq, QL, QC, Qo, mapOf, Qw, Qn, Qe, Qh, Qf, Qt, DV.cells, Qr, Qg, Qp, Qu, rowsOf, Qv, growLimit, Qa, Qa.go, Qi, Qj, Qc, goInt, init]
    refine Rg.nil (hK _ _ ?_)
    clear hK K
    refine Dwp.seq (Dwp.condF (by simp [eval, upd]) (Dwp.exit ?_))
    have hall : Qhh Qa8 s = true := (QgC Qa8 s).2 fun j h => (hok j (by omega)).2
    refine Dwp.step tT rfl fun K hK => ?_
    simp [QB, QE, Qk, QJ, own, Ql, dop, QI, eval, Qx, QF, Ex.then, Ex.inBlock, upd, QK, Tag.isNN, Qm, intCmp, Qz, QA, TyI.agg, Qb, Qs, Qd, Qq, QL, QC, Qo, mapOf, Qw, Qn, Qe, Qh, Qf, Qt, DV.cells, Qr, Qg, Qp, Qu, rowsOf, Qv, growLimit, Qa, Qa.go, Qi, Qj, Qc, goInt]
    refine hK _ _ (Dwp.ret ?_) rfl
    exact fin _ _ (by simp [upd, Qfi, hall]; omega)
theorem e227 : Go.FA.Good Tryz.prog (227, s227) := ⟨c227, Tryz.f227, _, Tryz.func227, rfl, by decide⟩
theorem call227 (T : Tab) (hT : T 227 = some s227) (s : ByteArray) (h : s.size ≤ lim) : dcall T 227 [.lit (.string s)] = some (.lit (.bool (Qfi s))) :=
  QaI (A := Enc.str) (B := Enc.bool) hT (if_pos h)
end Go.Proofs.Yt
