/- Contracts of functions of the program, by a machine over abstract values; part 15. No condition beyond those of each theorem. -/
import Derived.Test.YtfpejlbfdpeofaaGreatDoorSm13
set_option linter.unusedVariables false
set_option linter.unusedSimpArgs false
namespace Go.Proofs.Yt
open Go Go.FA Go.Proofs Go.RowKit
set_option maxRecDepth 100000
section
attribute [local simp] QF QZ Qo QJ own Qm dop QN eval Qr Qn Ex.then Ex.inBlock upd QV Tag.isNN Qp intCmp Qv Qx TyI.agg Qa Qu Qg Qs QX QA QD mapOf QQ QC Qq Qi Qj QI DV.cells Qt Qk QE QK rowsOf QL Qd Qe Qe.go Qz QB Qc goInt
structure Qk0 where
  X : Type
  f : FuncId
  capt : List DV
  step : Tm → Int → X → Bool × X
  cost : X → Nat
  most : Nat
  grows : ∀ (t : Tm) (lv : Int) (x : X), cost (step t lv x).2 ≤ cost x + 1
  inv : X → St → Prop
  out : X → St → Prop
  call : ∀ (t : Tm) (lv : Int) (x : X) (σ : St), okT t → 0 ≤ lv → lv ≤ 1099511627776 → cost x < most → inv x σ → HC Tryz.prog f ([] ++ [.agg t.cells, .lit (.int .i64 lv)] ++ capt) σ
    (fun e σ' => e = .lit (.bool (step t lv x).1) ∧ σ.n ≤ σ'.n ∧ ((step t lv x).1 = true → inv (step t lv x).2 σ') ∧ ((step t lv x).1 = false → out (step t lv x).2 σ'))
  mono : ∀ (x : X) (σ σ' : St), inv x σ → σ.n ≤ σ'.n → (∀ i, i < σ.n → σ'.objs i = σ.objs i) → (∀ i, i < σ.n → σ'.toks i = σ.toks i) → inv x σ'
  monoO : ∀ (x : X) (σ σ' : St), out x σ → σ.n ≤ σ'.n → (∀ i, i < σ.n → σ'.objs i = σ.objs i) → (∀ i, i < σ.n → σ'.toks i = σ.toks i) → out x σ'
namespace Qk0
variable (S : Qk0)
abbrev vis (t : Tm) (lv : Int) (x : S.X) := Qfh S.step t lv x
abbrev viss (l : List Tm) (lv : Int) (x : S.X) := Qa7 S.step l lv x
mutual
theorem visc : ∀ (t : Tm) (lv : Int) (x : S.X), S.cost (Qfh S.step t lv x).2 ≤ S.cost x + tsz t
  | .mk k n z s ks r, lv, x => by
    have h0 := S.grows (.mk k n z s ks r) lv x
    have h1 := QjZ ks (lv + 1) (S.step (.mk k n z s ks r) lv x).2
    have h2 := QjZ r (lv + 1) (Qa7 S.step ks (lv + 1) (S.step (.mk k n z s ks r) lv x).2).2
    simp only [Qfh, tsz]
    split
    · split
      · omega
      · simp only []; omega
    · simp only []; omega
theorem QjZ : ∀ (l : List Tm) (lv : Int) (x : S.X), S.cost (Qa7 S.step l lv x).2 ≤ S.cost x + QaI l
  | [], lv, x => by simp [Qa7, QaI]
  | t :: l, lv, x => by
    have h1 := visc t lv x
    have h2 := QjZ l lv (Qfh S.step t lv x).2
    simp only [Qa7, QaI]
    split
    · omega
    · simp only []; omega
end
def fn : DV := .func (.func S.f) [] S.capt
def H (n : Nat) : Prop := ∀ (t : Tm) (lv : Int) (x : S.X) (σ : St), tsz t ≤ n → tsz t ≤ tlim → okT t → 0 ≤ lv → lv + tsz t ≤ 1099511627776 → S.cost x + tsz t ≤ S.most → S.inv x σ →
  HC Tryz.prog 158 [.agg t.cells, .lit (.int .i64 lv), S.fn] σ (fun e σ' => e = .lit (.bool (S.vis t lv x).1) ∧ σ.n ≤ σ'.n ∧ ((S.vis t lv x).1 = true → S.inv (S.vis t lv x).2 σ') ∧ ((S.vis t lv x).1 = false → S.out (S.vis t lv x).2 σ'))
set_option maxHeartbeats 2000000 in
theorem h158 (n : Nat) (ih : ∀ m, m < n → S.H m) : S.H n := by
  intro t lv x σ hn hlim hok hlv0 hlv hcost hinv
  obtain ⟨k, nn, z, s, ks, r⟩ := t
  have tT := Q9 (P := Tryz.prog)
  refine HC.of_body (T := Qf []) Tryz.func158 rfl (by decide) (Nat.le_of_ble_eq_true rfl) fun E => ?_
  generalize Qf [] = T at *
  have hoks : QfS ks := by rw [okT] at hok; exact hok.2.2.2.2.1
  have hokr : QfS r := by rw [okT] at hok; exact hok.2.2.2.2.2
  have hr : r.length ≤ tlim := by have := Qao r; simp only [tsz] at hlim; omega
  have hks : ks.length ≤ tlim := by have := Qao ks; simp only [tsz] at hlim; omega
  unfold tlim at hr hks
  have hcall := fun σ' hi => S.call (.mk k nn z s ks r) lv x σ' hok hlv0 (by omega) (by simp only [tsz] at hcost; omega) hi
  have hwl : IntKind.i64.wrap (lv + 1) = lv + 1 := QaY (by omega) (by omega)
  let R : DV → St → Prop := fun e σ' => e = .lit (.bool (S.vis (.mk k nn z s ks r) lv x).1) ∧ σ.n ≤ σ'.n ∧ ((S.vis (.mk k nn z s ks r) lv x).1 = true → S.inv (S.vis (.mk k nn z s ks r) lv x).2 σ') ∧ ((S.vis (.mk k nn z s ks r) lv x).1 = false → S.out (S.vis (.mk k nn z s ks r) lv x).2 σ')
  have fin : ∀ (b : Bool) (y : S.X) (a : Nat → DV) (σ' : St), a 6 = .lit (.bool b) → S.vis (.mk k nn z s ks r) lv x = (b, y) → σ.n ≤ σ'.n → (b = true → S.inv y σ') → (b = false → S.out y σ') → Qf2 Tryz.prog Tryz.f158.results R Ex.ret a σ' := by
    intro b y a σ' h6 hv hn hi ho
    refine ⟨.inr rfl, .lit (.bool b), ?_, ?_⟩
    · show Qh Tryz.prog σ' _ [ResultVar.tmp 6] = _
      simp [Qh, QW, h6]
    · show _ ∧ _; rw [hv]; exact ⟨rfl, hn, hi, ho⟩
  simp only [QG] at hcall ⊢
  obtain ⟨fv, hfv⟩ : ∃ v, v = S.fn := ⟨_, rfl⟩
  rw [← hfv]
  refine Dwp.step tT rfl fun K hK => ?_
  simp [init, QG]
  refine hK _ _ ?_ rfl; clear hK K
  refine Dwp.seq ?_
  refine Dwp.stepH fun K hK => ?_
  show Rg _ _ _ _ K ([0, 1, 2] ++ (3 :: ([4] ++ []))) _ _
  refine Rg.run tT rfl _ _ _ ?_
  simp [Q4, QaC, Qam, init, Q5]
  refine Rg.call (xs := _) rfl rfl rfl rfl (by simp [Qi, eval, upd, init, hfv, fn]) (hcall _ (S.mono x σ _ hinv (by show σ.n ≤ σ.n + 2; omega) (by simp) (by simp))) ?_
  rintro e τ ⟨rfl, hnn, hi1, ho1⟩
  have hn2 : σ.n ≤ τ.n := by have : σ.n + 2 ≤ τ.n := hnn; omega
  show Rg _ _ _ _ K ([4] ++ []) _ _
  refine Rg.run tT rfl _ _ _ ?_
  simp [Q4, QaC, Qam]
  refine Rg.nil (hK _ _ ?_)
  rcases hb : (S.step (.mk k nn z s ks r) lv x).1 with _ | _
  · refine Dwp.condT (by simp [eval, upd]) ?_
    refine Dwp.step tT rfl fun K hK => ?_
    simp
    refine hK _ _ (Dwp.ret ?_) rfl
    exact fin false _ _ _ (by simp [upd]) (by simp only [vis, Qfh, hb]; rfl) (by show σ.n ≤ τ.n + 1; omega) (by simp) (fun _ => S.monoO _ _ _ (ho1 hb) (by show τ.n ≤ τ.n + 1; omega) (by simp) (by simp))
  refine Dwp.condF (by simp [eval, upd]) (Dwp.skip ?_)
  obtain ⟨x1, hx1⟩ : ∃ y, y = (S.step (.mk k nn z s ks r) lv x).2 := ⟨_, rfl⟩
  have hi1 := hi1 hb
  rw [← hx1] at hi1
  have hc1 : S.cost x1 + QaI ks + QaI r ≤ S.most := by
    have := S.grows (.mk k nn z s ks r) lv x
    rw [← hx1] at this
    simp only [tsz] at hcost; omega
  refine Dwp.seq ?_
  refine Dwp.step tT rfl fun K hK => ?_
  simp [init, Qak, Q5, ty3]
  refine hK _ _ ?_ rfl; clear hK K
  refine Dwp.range tT ks.length (fun i a τ => a 1 = .lit (.int .i64 lv) ∧ a 2 = fv ∧ a 3 = .row [.lit (.int .i64 k), .lit (.int .i64 nn), .lit (.string z), .lit (.string s), .slice 6 .none (ks.map Tm.cells), .slice 6 .none (r.map Tm.cells)] 0 ∧ a 17 = .slice 6 .none (ks.map Tm.cells) ∧ σ.n ≤ τ.n ∧ ∃ xi, S.inv xi τ ∧ S.cost xi + QaI (ks.drop i) + QaI r ≤ S.most ∧ S.viss ks (lv + 1) x1 = S.viss (ks.drop i) (lv + 1) xi)
    ⟨rfl, rfl, rfl⟩ ⟨rfl, rfl, rfl⟩ ⟨rfl, rfl, rfl⟩ (by decide) (by decide) (by omega) (by simp [upd]) (by simp [upd]) ⟨by simp [upd, init], by simp [upd, init], by simp [upd], by simp [upd], by show σ.n ≤ τ.n + 4; omega, x1, S.mono _ _ _ hi1 (by show τ.n ≤ τ.n + 4; omega) (by simp) (by simp), by simpa using hc1, by simp⟩ ?_ ?_
  · rintro i a τ hi hidx hlen ⟨g1, g2, g3, g17, hnn, xi, hxi, hci, hvi⟩
    have hkd : ks.drop i = ks[i] :: ks.drop (i + 1) := List.drop_eq_getElem_cons hi
    rw [hkd] at hci
    simp only [QaI] at hci
    have hgr : S.cost (S.vis ks[i] (lv + 1) xi).2 ≤ S.cost xi + tsz ks[i] := S.visc ks[i] (lv + 1) xi
    have hmem : ks[i] ∈ ks := List.getElem_mem _
    have hsz : tsz ks[i] < n := by have := Qac ks _ hmem; simp only [tsz] at hn; omega
    have hszl : tsz ks[i] ≤ tlim := by have := Qac ks _ hmem; simp only [tsz] at hlim; omega
    have hszv : lv + 1 + tsz ks[i] ≤ 1099511627776 := by have := Qac ks _ hmem; simp only [tsz] at hlv; omega
    have hokk : okT ks[i] := QaQ ks _ hoks hmem
    refine Dwp.step tT rfl fun K hK => ?_
    simp [g17, hidx, Qak, Q5, hi, Tm.cells_len, QT, Qky]
    refine hK _ _ ?_ rfl; clear hK K
    refine Dwp.stepH fun K hK => ?_
    show Rg _ _ _ _ K ([0, 1, 2, 3] ++ (4 :: ([5] ++ []))) _ _
    refine Rg.run tT rfl _ _ _ ?_
    simp [Q4, QaC, Qam, g1, g2, Q5, Tm.cells_len, QT, hwl]
    refine Rg.call (xs := [.agg ks[i].cells, .lit (.int .i64 (lv + 1)), S.fn]) rfl rfl rfl rfl (by simp [Qi, eval, upd, hfv]) (ih (tsz ks[i]) hsz ks[i] (lv + 1) xi _ (Nat.le_refl _) hszl hokk (by omega) hszv (by omega) (S.mono xi τ _ hxi (by show τ.n ≤ τ.n + 1 + 4; omega) (by intro j hj; simp [upd, show j ≠ τ.n + 1 + 2 by omega]) (by simp))) ?_
    rintro e τ' ⟨rfl, gnn', gi, go⟩
    have gnn2 : τ.n + 1 + 4 ≤ τ'.n := gnn'
    show Rg _ _ _ _ K ([5] ++ []) _ _
    refine Rg.run tT rfl _ _ _ ?_
    simp [Q4, QaC, Qam, g1, g2]
    refine Rg.nil (hK _ _ ?_)
    rcases hbb : (S.vis ks[i] (lv + 1) xi).1 with _ | _
    · refine Dwp.condT (by simp [eval, upd]) ?_
      refine Dwp.step tT rfl fun K hK => ?_
      simp
      refine hK _ _ (Dwp.ret ?_) rfl
      have hf2 : S.viss ks (lv + 1) x1 = (false, (S.vis ks[i] (lv + 1) xi).2) := by rw [hvi, hkd]; simp [viss, Qa7, hbb]
      exact fin false _ _ _ (by simp [upd]) (by simp only [vis, Qfh, hb, if_true, ← hx1, hf2]; rfl) (by show σ.n ≤ τ'.n + 1; omega) (by simp) (fun _ => S.monoO _ _ _ (go hbb) (by show τ'.n ≤ τ'.n + 1; omega) (by simp) (by simp))
    · refine Dwp.condF (by simp [eval, upd]) (Dwp.skip ?_)
      have hf2 : S.viss ks (lv + 1) x1 = S.viss (ks.drop (i + 1)) (lv + 1) (S.vis ks[i] (lv + 1) xi).2 := by rw [hvi, hkd]; simp [viss, Qa7, hbb]
      exact ⟨by simp [upd, hidx], by simp [upd, hlen], by simp [upd, g1], by simp [upd, g2], by simp [upd, g3], by simp [upd, g17], by show σ.n ≤ τ'.n + 2; omega, _, S.mono _ _ _ (gi hbb) (by show τ'.n ≤ τ'.n + 2; omega) (by simp) (by simp), by omega, hf2⟩
  rintro a τ hidx hlen ⟨g1, g2, g3, g17, hnn, x2, hi2, hc2, hvi⟩
  rw [List.drop_length] at hc2
  simp only [QaI] at hc2
  have hv1 : S.viss ks (lv + 1) x1 = (true, x2) := by rw [hvi, List.drop_length]; simp [viss, Qa7]
  have hv2 : S.vis (.mk k nn z s ks r) lv x = S.viss r (lv + 1) x2 := by simp only [vis, Qfh, hb, if_true, ← hx1, hv1]
  refine Dwp.seq ?_
  refine Dwp.step tT rfl fun K hK => ?_
  simp [g3, Qak, Q5, ty3]
  refine hK _ _ ?_ rfl; clear hK K
  refine Dwp.range tT r.length (fun i a τ => a 1 = .lit (.int .i64 lv) ∧ a 2 = fv ∧ a 31 = .slice 6 .none (r.map Tm.cells) ∧ σ.n ≤ τ.n ∧ ∃ xi, S.inv xi τ ∧ S.cost xi + QaI (r.drop i) ≤ S.most ∧ S.viss r (lv + 1) x2 = S.viss (r.drop i) (lv + 1) xi)
    ⟨rfl, rfl, rfl⟩ ⟨rfl, rfl, rfl⟩ ⟨rfl, rfl, rfl⟩ (by decide) (by decide) (by omega) (by simp [upd]) (by simp [upd]) ⟨by simp [upd, g1], by simp [upd, g2], by simp [upd], by show σ.n ≤ τ.n + 1 + 4; omega, x2, S.mono _ _ _ hi2 (by show τ.n ≤ τ.n + 1 + 4; omega) (by simp) (by simp), by simpa using hc2, by simp⟩ ?_ ?_
  · rintro i a τ hi hidx hlen ⟨g1, g2, g17, hnn, xi, hxi, hci, hvi⟩
    have hkd : r.drop i = r[i] :: r.drop (i + 1) := List.drop_eq_getElem_cons hi
    rw [hkd] at hci
    simp only [QaI] at hci
    have hgr : S.cost (S.vis r[i] (lv + 1) xi).2 ≤ S.cost xi + tsz r[i] := S.visc r[i] (lv + 1) xi
    have hmem : r[i] ∈ r := List.getElem_mem _
    have hsz : tsz r[i] < n := by have := Qac r _ hmem; simp only [tsz] at hn; omega
    have hszl : tsz r[i] ≤ tlim := by have := Qac r _ hmem; simp only [tsz] at hlim; omega
    have hszv : lv + 1 + tsz r[i] ≤ 1099511627776 := by have := Qac r _ hmem; simp only [tsz] at hlv; omega
    have hokk : okT r[i] := QaQ r _ hokr hmem
    refine Dwp.step tT rfl fun K hK => ?_
    simp [g17, hidx, Qak, Q5, hi, Tm.cells_len, QT, Qky]
    refine hK _ _ ?_ rfl; clear hK K
    refine Dwp.stepH fun K hK => ?_
    show Rg _ _ _ _ K ([0, 1, 2, 3] ++ (4 :: ([5] ++ []))) _ _
    refine Rg.run tT rfl _ _ _ ?_
    simp [Q4, QaC, Qam, g1, g2, Q5, Tm.cells_len, QT, hwl]
    refine Rg.call (xs := [.agg r[i].cells, .lit (.int .i64 (lv + 1)), S.fn]) rfl rfl rfl rfl (by simp [Qi, eval, upd, hfv]) (ih (tsz r[i]) hsz r[i] (lv + 1) xi _ (Nat.le_refl _) hszl hokk (by omega) hszv (by omega) (S.mono xi τ _ hxi (by show τ.n ≤ τ.n + 1 + 4; omega) (by intro j hj; simp [upd, show j ≠ τ.n + 1 + 2 by omega]) (by simp))) ?_
    rintro e τ' ⟨rfl, gnn', gi, go⟩
    have gnn2 : τ.n + 1 + 4 ≤ τ'.n := gnn'
    show Rg _ _ _ _ K ([5] ++ []) _ _
    refine Rg.run tT rfl _ _ _ ?_
    simp [Q4, QaC, Qam, g1, g2]
    refine Rg.nil (hK _ _ ?_)
    rcases hbb : (S.vis r[i] (lv + 1) xi).1 with _ | _
    · refine Dwp.condT (by simp [eval, upd]) ?_
      refine Dwp.step tT rfl fun K hK => ?_
      simp
      refine hK _ _ (Dwp.ret ?_) rfl
      have hf2 : S.viss r (lv + 1) x2 = (false, (S.vis r[i] (lv + 1) xi).2) := by rw [hvi, hkd]; simp [viss, Qa7, hbb]
      exact fin false _ _ _ (by simp [upd]) (by rw [hv2, hf2]) (by show σ.n ≤ τ'.n + 1; omega) (by simp) (fun _ => S.monoO _ _ _ (go hbb) (by show τ'.n ≤ τ'.n + 1; omega) (by simp) (by simp))
    · refine Dwp.condF (by simp [eval, upd]) (Dwp.skip ?_)
      have hf2 : S.viss r (lv + 1) x2 = S.viss (r.drop (i + 1)) (lv + 1) (S.vis r[i] (lv + 1) xi).2 := by rw [hvi, hkd]; simp [viss, Qa7, hbb]
      exact ⟨by simp [upd, hidx], by simp [upd, hlen], by simp [upd, g1], by simp [upd, g2], by simp [upd, g17], by show σ.n ≤ τ'.n + 2; omega, _, S.mono _ _ _ (gi hbb) (by show τ'.n ≤ τ'.n + 2; omega) (by simp) (by simp), by omega, hf2⟩
  rintro a τ hidx hlen ⟨g1, g2, g17, hnn, x3, hi3, hc3, hvi⟩
  have hv3 : S.viss r (lv + 1) x2 = (true, x3) := by rw [hvi, List.drop_length]; simp [viss, Qa7]
  refine Dwp.step tT rfl fun K hK => ?_
  simp
  refine hK _ _ (Dwp.ret ?_) rfl
  exact fin true x3 _ _ (by simp [upd]) (by rw [hv2, hv3]) (by show σ.n ≤ τ.n + 1 + 1; omega) (fun _ => S.mono _ _ _ hi3 (by show τ.n ≤ τ.n + 1 + 1; omega) (by simp) (by simp)) (by simp)
theorem hAll : ∀ n, S.H n := fun n => Nat.strongRecOn n fun n ih => S.h158 n ih
theorem h92 (t : Tm) (x : S.X) (σ : St) (hlim : tsz t ≤ tlim) (hok : okT t) (hcost : S.cost x + tsz t ≤ S.most) (hinv : S.inv x σ) :
    HC Tryz.prog 92 [.agg t.cells, S.fn] σ (fun e σ' => e = .lit (.bool (S.vis t 1 x).1) ∧ σ.n ≤ σ'.n ∧ ((S.vis t 1 x).1 = true → S.inv (S.vis t 1 x).2 σ') ∧ ((S.vis t 1 x).1 = false → S.out (S.vis t 1 x).2 σ')) := by
  have tT := Q9 (P := Tryz.prog)
  refine HC.of_body (T := Qf []) Tryz.func92 rfl (by decide) (Nat.le_of_ble_eq_true rfl) fun E => ?_
  generalize Qf [] = T at *
  have hcall := fun σ' hi => S.hAll (tsz t) t 1 x σ' (Nat.le_refl _) hlim hok (by omega) (by unfold tlim at hlim; omega) hcost hi
  obtain ⟨fv, hfv⟩ : ∃ v, v = S.fn := ⟨_, rfl⟩
  rw [← hfv] at hcall ⊢
  refine Dwp.step tT rfl fun K hK => ?_
  simp [init, Tm.cells_len, QT]
  refine hK _ _ ?_ rfl; clear hK K
  refine Dwp.stepH fun K hK => ?_
  show Rg _ _ _ _ K ([0, 1] ++ (2 :: ([3] ++ []))) _ _
  refine Rg.run tT rfl _ _ _ ?_
  simp [Q4, QaC, Qam, init, Q5, Tm.cells_len, QT]
  refine Rg.call (xs := [.agg t.cells, .lit (.int .i64 1), fv]) rfl rfl rfl rfl (by simp [Qi, eval, upd, init, Qr]) (hcall _ (S.mono x σ _ hinv (by show σ.n ≤ σ.n + 2; omega) (by simp) (by simp))) ?_
  rintro e τ ⟨rfl, hnn, hi1, ho1⟩
  have hn2 : σ.n + 2 ≤ τ.n := hnn
  show Rg _ _ _ _ K ([3] ++ []) _ _
  refine Rg.run tT rfl _ _ _ ?_
  simp [Q4, QaC, Qam]
  refine Rg.nil (hK _ _ (Dwp.ret ?_))
  refine ⟨.inr rfl, .lit (.bool (S.vis t 1 x).1), ?_, rfl, by omega, hi1, ho1⟩
  show Qh Tryz.prog τ _ [ResultVar.tmp 4] = _
  simp [Qh, QW, upd]
end Qk0
end
end Go.Proofs.Yt
