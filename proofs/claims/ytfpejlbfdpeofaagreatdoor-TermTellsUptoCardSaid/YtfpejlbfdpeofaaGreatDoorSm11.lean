/- Contracts of functions of the program, by a machine over abstract values; part 12. No condition beyond those of each theorem. -/
import Derived.Test.YtfpejlbfdpeofaaGreatDoorSm10
import Derived.Laws.RangeString
set_option linter.unusedVariables false
set_option linter.unusedSimpArgs false
namespace Go.Proofs.Yt
open Go Go.FA Go.Proofs Go.RowKit
set_option maxRecDepth 100000
section
attribute [local simp] QF QZ Qo QJ own Qm dop QN eval Qr Qn Ex.then Ex.inBlock upd QV Tag.isNN Qp intCmp Qv Qx TyI.agg Qa Qu Qg Qs QX QA QD mapOf QQ QC Qq Qi Qj QI DV.cells Qt Qk QE QK rowsOf QL Qd Qe Qe.go Qz QB Qc goInt
theorem Qky (a b c d e f : DV) (t : Tm) : setAt [a, b, c, d, e, f] 0 t.cells = t.cells := by cases t; simp [Tm.cells, setAt]
theorem QaY {n : Int} (h0 : -4611686018427387904 ≤ n) (h : n < 4611686018427387904) : IntKind.i64.wrap n = n := by
  simp [IntKind.wrap, IntKind.bits, IntKind.signed]; omega
mutual
def Qbv : Tm → Int → Int → Bool × Int
  | .mk k n x s ks r, d, l =>
    if l - (1 + r.length) < 0 ∨ d < 1 ∨ (0 < r.length ∧ d < 2) ∨ Qbl (.mk k n x s ks r) = false then (false, l - (1 + r.length)) else QaN ks (d - 1) (l - (1 + r.length))
def QaN : List Tm → Int → Int → Bool × Int
  | [], d, l => (true, l)
  | t :: ts, d, l => if (Qbv t d l).1 = true then QaN ts d (Qbv t d l).2 else (false, (Qbv t d l).2)
end
theorem formR_eq (t : Tm) (d l : Int) : Qbv t d l = if l - (1 + t.rest.length) < 0 ∨ d < 1 ∨ (0 < t.rest.length ∧ d < 2) ∨ Qbl t = false then (false, l - (1 + t.rest.length)) else QaN t.kids (d - 1) (l - (1 + t.rest.length)) := by
  cases t; rw [Qbv]; rfl
mutual
theorem Qjc : ∀ (t : Tm) (d l : Int), (Qbv t d l).2 ≤ l ∧ ((Qbv t d l).1 = true → 0 ≤ (Qbv t d l).2)
  | .mk k n x s ks r, d, l => by
    simp only [Qbv]
    split
    · exact ⟨by simp only []; omega, by simp⟩
    · next h =>
      have := Qhk ks (d - 1) (l - (1 + r.length)) (by omega)
      exact ⟨by omega, this.2⟩
theorem Qhk : ∀ (ts : List Tm) (d l : Int), 0 ≤ l → (QaN ts d l).2 ≤ l ∧ ((QaN ts d l).1 = true → 0 ≤ (QaN ts d l).2)
  | [], d, l, h0 => by simp [QaN]; exact h0
  | t :: ts, d, l, h0 => by
    simp only [QaN]
    have h1 := Qjc t d l
    split
    · next h =>
      have h2 := Qhk ts d (Qbv t d l).2 (h1.2 h)
      exact ⟨by omega, h2.2⟩
    · exact ⟨h1.1, by simp⟩
end
def H77 (n : Nat) : Prop := ∀ (t : Tm) (d l : Int) (id : Nat) (σ : St), tsz t ≤ n → tsz t ≤ tlim → okT t → 0 ≤ d → d ≤ 60 → 0 ≤ l → l ≤ 2000 → id < σ.n →
  σ.objs id = some (.cells 3 [.lit (.int .i64 l)]) → HC Tryz.prog 77 [.agg t.cells, .lit (.int .i64 d), .ptr id 0] σ (fun e σ' => e = .lit (.bool (Qbv t d l).1) ∧ σ'.objs id = some (.cells 3 [.lit (.int .i64 (Qbv t d l).2)]) ∧ σ.n ≤ σ'.n)
set_option maxHeartbeats 2000000 in
theorem h77 (n : Nat) (e126 : Go.FA.Good Tryz.prog (126, s126)) (ih : ∀ m, m < n → H77 m) : H77 n := by
  intro t d l id σ hn hlim hok hd0 hd hl0 hl hid hobj
  obtain ⟨k, nn, x, s, ks, r⟩ := t
  have tT : QH Tryz.prog (Qf [(126, s126)]) := .cons e126 .nil
  refine HC.of_body (T := Qf [(126, s126)]) Tryz.func77 rfl (by decide) (Nat.le_of_ble_eq_true rfl) fun E => ?_
  have g := call126 (Qf [(126, s126)]) rfl (.mk k nn x s ks r) hok
  generalize Qf [(126, s126)] = T at *
  have hoks : QfS ks := by rw [okT] at hok; exact hok.2.2.2.2.1
  have hr : r.length ≤ tlim := by have := Qao r; simp only [tsz] at hlim; omega
  have hks : ks.length ≤ tlim := by have := Qao ks; simp only [tsz] at hlim; omega
  unfold tlim at hr hks
  simp only [QG] at g ⊢
  have hne : ∀ j, id ≠ σ.n + j := fun j => by omega
  refine Dwp.step tT rfl fun K hK => ?_
  simp [init, QG]
  refine hK _ _ ?_ rfl; clear hK K
  obtain ⟨rl, hrl⟩ : ∃ x : Int, x = (r.length : Int) := ⟨_, rfl⟩
  obtain ⟨l1, hl1⟩ : ∃ x : Int, x = l - (1 + rl) := ⟨_, rfl⟩
  have w1 : IntKind.i64.wrap (1 + rl) = 1 + rl := QaY (by omega) (by omega)
  have w2 : IntKind.i64.wrap (l - (1 + rl)) = l1 := by rw [hl1]; exact QaY (by omega) (by omega)
  refine Dwp.drawStep [.none, .none, .robj id, .none, .none, .none, .none, .none, .none, .wobj id] mixed tT rfl rfl fun K hK => ?_
  simp [QbI, touch, QaO, Qbt, Qab, init, Qak, Q5, ty3, hobj, w1, w2, setAt, ← hrl]
  refine hK _ _ ?_ rfl; clear hK K
  have hlist : (Qbv (.mk k nn x s ks r) d l) = if l1 < 0 ∨ d < 1 ∨ (0 < rl ∧ d < 2) ∨ Qbl (.mk k nn x s ks r) = false then (false, l1) else QaN ks (d - 1) l1 := by
    rw [formR_eq]; simp only [Tm.rest, Tm.kids, ← hrl, ← hl1]
    have : (0 < r.length) ↔ (0 < rl) := by omega
    simp only [this]
  obtain ⟨nd, hnd⟩ : ∃ b, b = Qbl (.mk k nn x s ks r) := ⟨_, rfl⟩
  rw [← hnd] at hlist g
  change Hid _ at hnd
  change Hid _ at hl1
  change Hid _ at hlist
  replace hrl := hrl.symm
  let R : DV → St → Prop := fun e σ' => e = .lit (.bool (Qbv (.mk k nn x s ks r) d l).1) ∧ σ'.objs id = some (.cells 3 [.lit (.int .i64 (Qbv (.mk k nn x s ks r) d l).2)]) ∧ σ.n ≤ σ'.n
  have fin : ∀ (b : Bool) (a : Nat → DV) (σ' : St), a 6 = .lit (.bool b) → R (.lit (.bool b)) σ' → Qf2 Tryz.prog Tryz.f77.results R Ex.ret a σ' := by
    intro b a σ' h6 hR
    refine ⟨.inr rfl, .lit (.bool b), ?_, hR⟩
    show Qh Tryz.prog σ' _ [ResultVar.tmp 6] = _
    simp [Qh, QW, h6]
  refine Dwp.seq ?_
  refine Dwp.step tT rfl fun K hK => ?_
  have stopT : ∀ (a' : Nat → DV) (σ' : St), a' 40 = .lit (.bool true) → σ'.objs id = some (.cells 3 [.lit (.int .i64 l1)]) → σ'.n = σ.n + 2 + 10 → (l1 < 0 ∨ d < 1 ∨ (0 < rl ∧ d < 2) ∨ nd = false) → K a' σ' := by
    intro a' σ' h40 ho hn hc
    refine hK _ _ ?_ hn
    refine Dwp.condT (by simp [eval, h40]) ?_
    refine Dwp.step tT rfl fun K hK => ?_
    simp
    refine hK _ _ (Dwp.ret ?_) rfl
    have hl2 : Qbv (.mk k nn x s ks r) d l = (false, l1) := by rw [show Qbv (.mk k nn x s ks r) d l = _ from hlist, if_pos hc]
    refine fin false _ _ (by simp [upd]) ⟨by rw [hl2], by rw [hl2]; exact ho, by simp only []; omega⟩
  have goF : ∀ (a' : Nat → DV) (σ' : St), a' 40 = .lit (.bool false) → a' 1 = .lit (.int .i64 d) → a' 2 = .ptr id 0 → a' 3 = .row [.lit (.int .i64 k), .lit (.int .i64 nn), .lit (.string x), .lit (.string s), .slice 6 .none (ks.map Tm.cells), .slice 6 .none (r.map Tm.cells)] 0 →
      σ'.objs id = some (.cells 3 [.lit (.int .i64 l1)]) → σ'.n = σ.n + 2 + 10 → ¬ (l1 < 0 ∨ d < 1 ∨ (0 < rl ∧ d < 2) ∨ nd = false) → K a' σ' := by
    intro a' σ' h40 h1 h2 h3 ho hn0 hc
    refine hK _ _ ?_ hn0
    refine Dwp.condF (by simp [eval, h40]) (Dwp.skip ?_)
    have hl2 : Qbv (.mk k nn x s ks r) d l = QaN ks (d - 1) l1 := by rw [show Qbv (.mk k nn x s ks r) d l = _ from hlist, if_neg hc]
    have hl10 : 0 ≤ l1 := by omega
    have hd1 : 1 ≤ d := by omega
    have hwd : IntKind.i64.wrap (d - 1) = d - 1 := QaY (by omega) (by omega)
    have hl12 : l1 ≤ 2000 := by have h := hl1; unfold Hid at h; omega
    refine Dwp.seq ?_
    refine Dwp.step tT rfl fun K hK => ?_
    simp [h3, Qak, Q5, ty3]
    refine hK _ _ ?_ rfl; clear hK K
    refine Dwp.range tT ks.length (fun i a τ => a 1 = .lit (.int .i64 d) ∧ a 2 = .ptr id 0 ∧ a 42 = .slice 6 .none (ks.map Tm.cells) ∧ σ.n ≤ τ.n ∧ ∃ li : Int, 0 ≤ li ∧ li ≤ 2000 ∧ τ.objs id = some (.cells 3 [.lit (.int .i64 li)]) ∧ QaN ks (d - 1) l1 = QaN (ks.drop i) (d - 1) li)
      ⟨rfl, rfl, rfl⟩ ⟨rfl, rfl, rfl⟩ ⟨rfl, rfl, rfl⟩ (by decide) (by decide) (by omega) (by simp [upd]) (by simp [upd]) ⟨by simp [upd, h1], by simp [upd, h2], by simp [upd], by show σ.n ≤ _; simp only []; omega, l1, hl10, hl12, ho, by simp⟩ ?_ ?_
    · rintro i a τ hi hidx hlen ⟨g1, g2, g42, hnn, li, hli0, hli2, gob, gfo⟩
      have hkd : ks.drop i = ks[i] :: ks.drop (i + 1) := List.drop_eq_getElem_cons hi
      have hmem : ks[i] ∈ ks := List.getElem_mem _
      refine Dwp.step tT rfl fun K hK => ?_
      simp [g42, hidx, Qak, Q5, hi, Tm.cells_len, QT, Qky]
      refine hK _ _ ?_ rfl; clear hK K
      refine Dwp.stepH fun K hK => ?_
      show Rg _ _ _ _ K ([0, 1, 2, 3] ++ (4 :: ([5] ++ []))) _ _
      refine Rg.run tT rfl _ _ _ ?_
      simp [Q4, QaC, Qam, g1, g2, Q5, Tm.cells_len, QT, hwd]
      have hsz : tsz ks[i] < n := by have := Qac ks _ hmem; simp only [tsz] at hn; omega
      have hszl : tsz ks[i] ≤ tlim := by have := Qac ks _ hmem; simp only [tsz] at hlim; omega
      have hokk : okT ks[i] := QaQ ks _ hoks hmem
      have hidn : id ≠ τ.n + 1 + 2 := by omega
      refine Rg.call (xs := [.agg ks[i].cells, .lit (.int .i64 (d - 1)), .ptr id 0]) rfl rfl rfl rfl (by simp [Qi, eval, upd]) (ih (tsz ks[i]) hsz ks[i] (d - 1) li id _ (Nat.le_refl _) hszl hokk (by omega) (by omega) hli0 hli2 (by show id < τ.n + 1 + 4; omega) (by simp [upd, hidn, gob])) ?_
      rintro e τ' ⟨rfl, gob', gnn'⟩
      have gnn2 : τ.n + 1 + 4 ≤ τ'.n := gnn'
      show Rg _ _ _ _ K ([5] ++ []) _ _
      refine Rg.run tT rfl _ _ _ ?_
      simp [Q4, QaC, Qam, g1, g2]
      refine Rg.nil (hK _ _ ?_)
      have hle := Qjc ks[i] (d - 1) li
      rcases hb : (Qbv ks[i] (d - 1) li).1 with _ | _
      · refine Dwp.condT (by simp [eval, upd]) ?_
        refine Dwp.step tT rfl fun K hK => ?_
        simp
        refine hK _ _ (Dwp.ret ?_) rfl
        have hf2 : QaN ks (d - 1) l1 = (false, (Qbv ks[i] (d - 1) li).2) := by rw [gfo, hkd]; simp [QaN, hb]
        exact fin false _ _ (by simp [upd]) ⟨by rw [hl2, hf2], by rw [hl2, hf2]; exact gob', by simp only []; omega⟩
      · refine Dwp.condF (by simp [eval, upd]) (Dwp.skip ?_)
        have hf2 : QaN ks (d - 1) l1 = QaN (ks.drop (i + 1)) (d - 1) (Qbv ks[i] (d - 1) li).2 := by rw [gfo, hkd]; simp [QaN, hb]
        exact ⟨by simp [upd, hidx], by simp [upd, hlen], by simp [upd, g1], by simp [upd, g2], by simp [upd, g42], by simp only []; omega, _, hle.2 hb, by omega, gob', hf2⟩
    · rintro a τ hidx hlen ⟨g1, g2, g42, hnn, li, hli0, hli2, gob, gfo⟩
      have hle : QaN ks (d - 1) l1 = (true, li) := by rw [gfo, List.drop_length]; simp [QaN]
      refine Dwp.step tT rfl fun K hK => ?_
      simp
      refine hK _ _ (Dwp.ret ?_) rfl
      exact fin true _ _ (by simp [upd]) ⟨by rw [hl2, hle], by rw [hl2, hle]; exact gob, by simp only []; omega⟩
  repeat' ((first | refine Qn.stepD rfl rfl ?_ | refine Qn.stepG rfl rfl rfl ?_ | refine Qn.stepN rfl rfl ?_ | refine Qn.stepGN rfl rfl rfl ?_); intro K1 hK1; simp [*, QO, Qw, QJ, dop, eval, Qr, upd, Qa, Qu, Qv, Qx, TyI.agg, Qg, Qs, Qi, Qj, QA, QX, goInt, QV, intCmp, Qp, Tag.isNN, Qc, DV.cells, Qd, Qt, Qk, init, QaB, ty3, ty9, Qak, Q5, QG, Qm, Qab]; (first | (refine hK1 _ _ ?_; clear hK1 K1) | (split <;> (rename_i hsp; (try simp only [beq_iff_eq, beq_eq_false_iff_ne, ne_eq, decide_eq_true_eq, decide_eq_false_iff_not] at hsp); (try (first | have hsq := Int.not_le.2 hsp | have hsq := Int.not_lt.2 hsp | have hsq := Int.not_le.1 hsp | have hsq := Int.not_lt.1 hsp)); (try subst hsp); (try simp only [hsp])) <;> (refine hK1 _ _ ?_; clear hK1 K1))))
  · cases nd
    · exact Qn.done (stopT _ _ (by simp [upd]) (by simp [upd]) rfl (by simp))
    · exact Qn.done (goF _ _ (by simp [upd]) (by simp [upd, init]) (by simp [upd, init]) (by simp [upd]) (by simp [upd]) rfl (by simp; omega))
  · exact Qn.done (stopT _ _ (by simp [upd]) (by simp [upd]) rfl (by omega))
  · cases nd
    · exact Qn.done (stopT _ _ (by simp [upd]) (by simp [upd]) rfl (by simp))
    · exact Qn.done (goF _ _ (by simp [upd]) (by simp [upd, init]) (by simp [upd, init]) (by simp [upd]) (by simp [upd]) rfl (by simp; omega))
  · exact Qn.done (stopT _ _ (by simp [upd]) (by simp [upd]) rfl (by omega))
  · exact Qn.done (stopT _ _ (by simp [upd]) (by simp [upd]) rfl (by omega))
end
end Go.Proofs.Yt
namespace Go.Proofs.Yt
open Go Go.FA Go.Proofs Go.RowKit
set_option maxRecDepth 100000
section
attribute [local simp] QF QZ Qo QJ own Qm dop QN eval Qr Qn Ex.then Ex.inBlock upd QV Tag.isNN Qp intCmp Qv Qx TyI.agg Qa Qu Qg Qs QX QA QD mapOf QQ QC Qq Qi Qj QI DV.cells Qt Qk QE QK rowsOf QL Qd Qe Qe.go Qz QB Qc goInt
mutual
def Qfh {X : Type} (st : Tm → Int → X → Bool × X) : Tm → Int → X → Bool × X
  | .mk k n z s ks r, lv, x =>
    if (st (.mk k n z s ks r) lv x).1 = true then
      if (Qa7 st ks (lv + 1) (st (.mk k n z s ks r) lv x).2).1 = true then Qa7 st r (lv + 1) (Qa7 st ks (lv + 1) (st (.mk k n z s ks r) lv x).2).2
      else (false, (Qa7 st ks (lv + 1) (st (.mk k n z s ks r) lv x).2).2)
    else (false, (st (.mk k n z s ks r) lv x).2)
def Qa7 {X : Type} (st : Tm → Int → X → Bool × X) : List Tm → Int → X → Bool × X
  | [], lv, x => (true, x)
  | t :: ts, lv, x => if (Qfh st t lv x).1 = true then Qa7 st ts lv (Qfh st t lv x).2 else (false, (Qfh st t lv x).2)
end
structure Seer where
  X : Type
  f : FuncId
  capt : List DV
  step : Tm → Int → X → Bool × X
  inv : X → St → Prop
  out : X → St → Prop
  call : ∀ (t : Tm) (lv : Int) (x : X) (σ : St), okT t → 0 ≤ lv → lv ≤ 1099511627776 → inv x σ → HC Tryz.prog f ([] ++ [.agg t.cells, .lit (.int .i64 lv)] ++ capt) σ
    (fun e σ' => e = .lit (.bool (step t lv x).1) ∧ σ.n ≤ σ'.n ∧ ((step t lv x).1 = true → inv (step t lv x).2 σ') ∧ ((step t lv x).1 = false → out (step t lv x).2 σ'))
  mono : ∀ (x : X) (σ σ' : St), inv x σ → σ.n ≤ σ'.n → (∀ i, i < σ.n → σ'.objs i = σ.objs i) → (∀ i, i < σ.n → σ'.toks i = σ.toks i) → inv x σ'
  monoO : ∀ (x : X) (σ σ' : St), out x σ → σ.n ≤ σ'.n → (∀ i, i < σ.n → σ'.objs i = σ.objs i) → (∀ i, i < σ.n → σ'.toks i = σ.toks i) → out x σ'
namespace Seer
variable (S : Seer)
abbrev vis (t : Tm) (lv : Int) (x : S.X) := Qfh S.step t lv x
abbrev viss (l : List Tm) (lv : Int) (x : S.X) := Qa7 S.step l lv x
def fn : DV := .func (.func S.f) [] S.capt
def H (n : Nat) : Prop := ∀ (t : Tm) (lv : Int) (x : S.X) (σ : St), tsz t ≤ n → tsz t ≤ tlim → okT t → 0 ≤ lv → lv + tsz t ≤ 1099511627776 → S.inv x σ →
  HC Tryz.prog 158 [.agg t.cells, .lit (.int .i64 lv), S.fn] σ (fun e σ' => e = .lit (.bool (S.vis t lv x).1) ∧ σ.n ≤ σ'.n ∧ ((S.vis t lv x).1 = true → S.inv (S.vis t lv x).2 σ') ∧ ((S.vis t lv x).1 = false → S.out (S.vis t lv x).2 σ'))
set_option maxHeartbeats 2000000 in
theorem h158 (n : Nat) (ih : ∀ m, m < n → S.H m) : S.H n := by
  intro t lv x σ hn hlim hok hlv0 hlv hinv
  obtain ⟨k, nn, z, s, ks, r⟩ := t
  have tT := Q9 (P := Tryz.prog)
  refine HC.of_body (T := Qf []) Tryz.func158 rfl (by decide) (Nat.le_of_ble_eq_true rfl) fun E => ?_
  generalize Qf [] = T at *
  have hoks : QfS ks := by rw [okT] at hok; exact hok.2.2.2.2.1
  have hokr : QfS r := by rw [okT] at hok; exact hok.2.2.2.2.2
  have hr : r.length ≤ tlim := by have := Qao r; simp only [tsz] at hlim; omega
  have hks : ks.length ≤ tlim := by have := Qao ks; simp only [tsz] at hlim; omega
  unfold tlim at hr hks
  have hcall := fun σ' hi => S.call (.mk k nn z s ks r) lv x σ' hok hlv0 (by omega) hi
  have hwl : IntKind.i64.wrap (lv + 1) = lv + 1 := QaY (by omega) (by omega)
  let R : DV → St → Prop := fun e σ' => e = .lit (.bool (S.vis (.mk k nn z s ks r) lv x).1) ∧ σ.n ≤ σ'.n ∧ ((S.vis (.mk k nn z s ks r) lv x).1 = true → S.inv (S.vis (.mk k nn z s ks r) lv x).2 σ') ∧ ((S.vis (.mk k nn z s ks r) lv x).1 = false → S.out (S.vis (.mk k nn z s ks r) lv x).2 σ')
  have fin : ∀ (b : Bool) (y : S.X) (a : Nat → DV) (σ' : St), a 6 = .lit (.bool b) → S.vis (.mk k nn z s ks r) lv x = (b, y) → σ.n ≤ σ'.n → (b = true → S.inv y σ') → (b = false → S.out y σ') → Qf2 Tryz.prog Tryz.f158.results R Ex.ret a σ' := by
    intro b y a σ' h6 hv hn hi ho
    refine ⟨.inr rfl, .lit (.bool b), ?_, ?_⟩
    · show Qh Tryz.prog σ' _ [ResultVar.tmp 6] = _
      simp [Qh, QW, h6]
    · show _ ∧ _; rw [hv]; exact ⟨rfl, hn, hi, ho⟩
  simp only [QG] at hcall ⊢
  obtain ⟨fv, hfv⟩ : ∃ v, v = S.fn := ⟨_, rfl⟩
  rw [← hfv]
  refine Dwp.step tT rfl fun K hK => ?_
  simp [init, QG]
  refine hK _ _ ?_ rfl; clear hK K
  refine Dwp.seq ?_
  refine Dwp.stepH fun K hK => ?_
  show Rg _ _ _ _ K ([0, 1, 2] ++ (3 :: ([4] ++ []))) _ _
  refine Rg.run tT rfl _ _ _ ?_
  simp [Q4, QaC, Qam, init, Q5]
  refine Rg.call (xs := _) rfl rfl rfl rfl (by simp [Qi, eval, upd, init, hfv, fn]) (hcall _ (S.mono x σ _ hinv (by show σ.n ≤ σ.n + 2; omega) (by simp) (by simp))) ?_
  rintro e τ ⟨rfl, hnn, hi1, ho1⟩
  have hn2 : σ.n ≤ τ.n := by have : σ.n + 2 ≤ τ.n := hnn; omega
  show Rg _ _ _ _ K ([4] ++ []) _ _
  refine Rg.run tT rfl _ _ _ ?_
  simp [Q4, QaC, Qam]
  refine Rg.nil (hK _ _ ?_)
  rcases hb : (S.step (.mk k nn z s ks r) lv x).1 with _ | _
  · refine Dwp.condT (by simp [eval, upd]) ?_
    refine Dwp.step tT rfl fun K hK => ?_
    simp
    refine hK _ _ (Dwp.ret ?_) rfl
    exact fin false _ _ _ (by simp [upd]) (by simp only [vis, Qfh, hb]; rfl) (by show σ.n ≤ τ.n + 1; omega) (by simp) (fun _ => S.monoO _ _ _ (ho1 hb) (by show τ.n ≤ τ.n + 1; omega) (by simp) (by simp))
  refine Dwp.condF (by simp [eval, upd]) (Dwp.skip ?_)
  obtain ⟨x1, hx1⟩ : ∃ y, y = (S.step (.mk k nn z s ks r) lv x).2 := ⟨_, rfl⟩
  have hi1 := hi1 hb
  rw [← hx1] at hi1
  refine Dwp.seq ?_
  refine Dwp.step tT rfl fun K hK => ?_
  simp [init, Qak, Q5, ty3]
  refine hK _ _ ?_ rfl; clear hK K
  refine Dwp.range tT ks.length (fun i a τ => a 1 = .lit (.int .i64 lv) ∧ a 2 = fv ∧ a 3 = .row [.lit (.int .i64 k), .lit (.int .i64 nn), .lit (.string z), .lit (.string s), .slice 6 .none (ks.map Tm.cells), .slice 6 .none (r.map Tm.cells)] 0 ∧ a 17 = .slice 6 .none (ks.map Tm.cells) ∧ σ.n ≤ τ.n ∧ ∃ xi, S.inv xi τ ∧ S.viss ks (lv + 1) x1 = S.viss (ks.drop i) (lv + 1) xi)
    ⟨rfl, rfl, rfl⟩ ⟨rfl, rfl, rfl⟩ ⟨rfl, rfl, rfl⟩ (by decide) (by decide) (by omega) (by simp [upd]) (by simp [upd]) ⟨by simp [upd, init], by simp [upd, init], by simp [upd], by simp [upd], by show σ.n ≤ τ.n + 4; omega, x1, S.mono _ _ _ hi1 (by show τ.n ≤ τ.n + 4; omega) (by simp) (by simp), by simp⟩ ?_ ?_
  · rintro i a τ hi hidx hlen ⟨g1, g2, g3, g17, hnn, xi, hxi, hvi⟩
    have hkd : ks.drop i = ks[i] :: ks.drop (i + 1) := List.drop_eq_getElem_cons hi
    have hmem : ks[i] ∈ ks := List.getElem_mem _
    have hsz : tsz ks[i] < n := by have := Qac ks _ hmem; simp only [tsz] at hn; omega
    have hszl : tsz ks[i] ≤ tlim := by have := Qac ks _ hmem; simp only [tsz] at hlim; omega
    have hszv : lv + 1 + tsz ks[i] ≤ 1099511627776 := by have := Qac ks _ hmem; simp only [tsz] at hlv; omega
    have hokk : okT ks[i] := QaQ ks _ hoks hmem
    refine Dwp.step tT rfl fun K hK => ?_
    simp [g17, hidx, Qak, Q5, hi, Tm.cells_len, QT, Qky]
    refine hK _ _ ?_ rfl; clear hK K
    refine Dwp.stepH fun K hK => ?_
    show Rg _ _ _ _ K ([0, 1, 2, 3] ++ (4 :: ([5] ++ []))) _ _
    refine Rg.run tT rfl _ _ _ ?_
    simp [Q4, QaC, Qam, g1, g2, Q5, Tm.cells_len, QT, hwl]
    refine Rg.call (xs := [.agg ks[i].cells, .lit (.int .i64 (lv + 1)), S.fn]) rfl rfl rfl rfl (by simp [Qi, eval, upd, hfv]) (ih (tsz ks[i]) hsz ks[i] (lv + 1) xi _ (Nat.le_refl _) hszl hokk (by omega) hszv (S.mono xi τ _ hxi (by show τ.n ≤ τ.n + 1 + 4; omega) (by intro j hj; simp [upd, show j ≠ τ.n + 1 + 2 by omega]) (by simp))) ?_
    rintro e τ' ⟨rfl, gnn', gi, go⟩
    have gnn2 : τ.n + 1 + 4 ≤ τ'.n := gnn'
    show Rg _ _ _ _ K ([5] ++ []) _ _
    refine Rg.run tT rfl _ _ _ ?_
    simp [Q4, QaC, Qam, g1, g2]
    refine Rg.nil (hK _ _ ?_)
    rcases hbb : (S.vis ks[i] (lv + 1) xi).1 with _ | _
    · refine Dwp.condT (by simp [eval, upd]) ?_
      refine Dwp.step tT rfl fun K hK => ?_
      simp
      refine hK _ _ (Dwp.ret ?_) rfl
      have hf2 : S.viss ks (lv + 1) x1 = (false, (S.vis ks[i] (lv + 1) xi).2) := by rw [hvi, hkd]; simp [viss, Qa7, hbb]
      exact fin false _ _ _ (by simp [upd]) (by simp only [vis, Qfh, hb, if_true, ← hx1, hf2]; rfl) (by show σ.n ≤ τ'.n + 1; omega) (by simp) (fun _ => S.monoO _ _ _ (go hbb) (by show τ'.n ≤ τ'.n + 1; omega) (by simp) (by simp))
    · refine Dwp.condF (by simp [eval, upd]) (Dwp.skip ?_)
      have hf2 : S.viss ks (lv + 1) x1 = S.viss (ks.drop (i + 1)) (lv + 1) (S.vis ks[i] (lv + 1) xi).2 := by rw [hvi, hkd]; simp [viss, Qa7, hbb]
      exact ⟨by simp [upd, hidx], by simp [upd, hlen], by simp [upd, g1], by simp [upd, g2], by simp [upd, g3], by simp [upd, g17], by show σ.n ≤ τ'.n + 2; omega, _, S.mono _ _ _ (gi hbb) (by show τ'.n ≤ τ'.n + 2; omega) (by simp) (by simp), hf2⟩
  rintro a τ hidx hlen ⟨g1, g2, g3, g17, hnn, x2, hi2, hvi⟩
  have hv1 : S.viss ks (lv + 1) x1 = (true, x2) := by rw [hvi, List.drop_length]; simp [viss, Qa7]
  have hv2 : S.vis (.mk k nn z s ks r) lv x = S.viss r (lv + 1) x2 := by simp only [vis, Qfh, hb, if_true, ← hx1, hv1]
  refine Dwp.seq ?_
  refine Dwp.step tT rfl fun K hK => ?_
  simp [g3, Qak, Q5, ty3]
  refine hK _ _ ?_ rfl; clear hK K
  refine Dwp.range tT r.length (fun i a τ => a 1 = .lit (.int .i64 lv) ∧ a 2 = fv ∧ a 31 = .slice 6 .none (r.map Tm.cells) ∧ σ.n ≤ τ.n ∧ ∃ xi, S.inv xi τ ∧ S.viss r (lv + 1) x2 = S.viss (r.drop i) (lv + 1) xi)
    ⟨rfl, rfl, rfl⟩ ⟨rfl, rfl, rfl⟩ ⟨rfl, rfl, rfl⟩ (by decide) (by decide) (by omega) (by simp [upd]) (by simp [upd]) ⟨by simp [upd, g1], by simp [upd, g2], by simp [upd], by show σ.n ≤ τ.n + 1 + 4; omega, x2, S.mono _ _ _ hi2 (by show τ.n ≤ τ.n + 1 + 4; omega) (by simp) (by simp), by simp⟩ ?_ ?_
  · rintro i a τ hi hidx hlen ⟨g1, g2, g17, hnn, xi, hxi, hvi⟩
    have hkd : r.drop i = r[i] :: r.drop (i + 1) := List.drop_eq_getElem_cons hi
    have hmem : r[i] ∈ r := List.getElem_mem _
    have hsz : tsz r[i] < n := by have := Qac r _ hmem; simp only [tsz] at hn; omega
    have hszl : tsz r[i] ≤ tlim := by have := Qac r _ hmem; simp only [tsz] at hlim; omega
    have hszv : lv + 1 + tsz r[i] ≤ 1099511627776 := by have := Qac r _ hmem; simp only [tsz] at hlv; omega
    have hokk : okT r[i] := QaQ r _ hokr hmem
    refine Dwp.step tT rfl fun K hK => ?_
    simp [g17, hidx, Qak, Q5, hi, Tm.cells_len, QT, Qky]
    refine hK _ _ ?_ rfl; clear hK K
    refine Dwp.stepH fun K hK => ?_
    show Rg _ _ _ _ K ([0, 1, 2, 3] ++ (4 :: ([5] ++ []))) _ _
    refine Rg.run tT rfl _ _ _ ?_
    simp [Q4, QaC, Qam, g1, g2, Q5, Tm.cells_len, QT, hwl]
    refine Rg.call (xs := [.agg r[i].cells, .lit (.int .i64 (lv + 1)), S.fn]) rfl rfl rfl rfl (by simp [Qi, eval, upd, hfv]) (ih (tsz r[i]) hsz r[i] (lv + 1) xi _ (Nat.le_refl _) hszl hokk (by omega) hszv (S.mono xi τ _ hxi (by show τ.n ≤ τ.n + 1 + 4; omega) (by intro j hj; simp [upd, show j ≠ τ.n + 1 + 2 by omega]) (by simp))) ?_
    rintro e τ' ⟨rfl, gnn', gi, go⟩
    have gnn2 : τ.n + 1 + 4 ≤ τ'.n := gnn'
    show Rg _ _ _ _ K ([5] ++ []) _ _
    refine Rg.run tT rfl _ _ _ ?_
    simp [Q4, QaC, Qam, g1, g2]
    refine Rg.nil (hK _ _ ?_)
    rcases hbb : (S.vis r[i] (lv + 1) xi).1 with _ | _
    · refine Dwp.condT (by simp [eval, upd]) ?_
      refine Dwp.step tT rfl fun K hK => ?_
      simp
      refine hK _ _ (Dwp.ret ?_) rfl
      have hf2 : S.viss r (lv + 1) x2 = (false, (S.vis r[i] (lv + 1) xi).2) := by rw [hvi, hkd]; simp [viss, Qa7, hbb]
      exact fin false _ _ _ (by simp [upd]) (by rw [hv2, hf2]) (by show σ.n ≤ τ'.n + 1; omega) (by simp) (fun _ => S.monoO _ _ _ (go hbb) (by show τ'.n ≤ τ'.n + 1; omega) (by simp) (by simp))
    · refine Dwp.condF (by simp [eval, upd]) (Dwp.skip ?_)
      have hf2 : S.viss r (lv + 1) x2 = S.viss (r.drop (i + 1)) (lv + 1) (S.vis r[i] (lv + 1) xi).2 := by rw [hvi, hkd]; simp [viss, Qa7, hbb]
      exact ⟨by simp [upd, hidx], by simp [upd, hlen], by simp [upd, g1], by simp [upd, g2], by simp [upd, g17], by show σ.n ≤ τ'.n + 2; omega, _, S.mono _ _ _ (gi hbb) (by show τ'.n ≤ τ'.n + 2; omega) (by simp) (by simp), hf2⟩
  rintro a τ hidx hlen ⟨g1, g2, g17, hnn, x3, hi3, hvi⟩
  have hv3 : S.viss r (lv + 1) x2 = (true, x3) := by rw [hvi, List.drop_length]; simp [viss, Qa7]
  refine Dwp.step tT rfl fun K hK => ?_
  simp
  refine hK _ _ (Dwp.ret ?_) rfl
  exact fin true x3 _ _ (by simp [upd]) (by rw [hv2, hv3]) (by show σ.n ≤ τ.n + 1 + 1; omega) (fun _ => S.mono _ _ _ hi3 (by show τ.n ≤ τ.n + 1 + 1; omega) (by simp) (by simp)) (by simp)
theorem hAll : ∀ n, S.H n := fun n => Nat.strongRecOn n fun n ih => S.h158 n ih
end Seer
end
end Go.Proofs.Yt
namespace Go.Proofs.Yt
open Go Go.FA Go.Proofs Go.RowKit
set_option maxRecDepth 100000
section
attribute [local simp] QF QZ Qo QJ own Qm dop QN eval Qr Qn Ex.then Ex.inBlock upd QV Tag.isNN Qp intCmp Qv Qx TyI.agg Qa Qu Qg Qs QX QA QD mapOf QQ QC Qq Qi Qj QI DV.cells Qt Qk QE QK rowsOf QL Qd Qe Qe.go Qz QB Qc goInt
def QeJ : Tm → Bool | .mk _ _ _ _ ks r => ks.isEmpty && r.isEmpty
def s226 : Sp := sp (QM Enc.tm) Enc.bool (fun t => some (QeJ t))
theorem c226 : Qb Tryz.prog 226 s226 := by
  refine Qb.of_sp (T := Qf []) Tryz.func226 rfl (Nat.le_of_ble_eq_true rfl) fun E t y hy => ?_
  obtain ⟨k, nn, x, s, ks, r⟩ := t
  cases hy
  have tT := Q9 (P := Tryz.prog)
  generalize Qf [] = T at *
  simp only [QM, Ql.one, tmC, QG]
  refine Dwp.step tT rfl fun K hK => ?_
  simp [init, QG]
  refine hK _ _ ?_ rfl; clear hK K
  refine Dwp.step tT rfl fun K hK => ?_
  repeat' ((first | refine Qn.stepD rfl rfl ?_ | refine Qn.stepG rfl rfl rfl ?_ | refine Qn.stepN rfl rfl ?_ | refine Qn.stepGN rfl rfl rfl ?_); intro K1 hK1; simp [*, QO, Qw, QJ, dop, eval, Qr, upd, Qa, Qu, Qv, Qx, TyI.agg, Qg, Qs, Qi, Qj, QA, QX, goInt, QV, intCmp, Qp, Tag.isNN, Qc, DV.cells, Qd, Qt, Qk, init, QaB, ty3, ty9, Qak, Q5, QG, QkM]; (first | (refine hK1 _ _ ?_; clear hK1 K1) | (split <;> (rename_i hsp; (try simp only [beq_iff_eq, beq_eq_false_iff_ne, ne_eq, decide_eq_true_eq, decide_eq_false_iff_not] at hsp); (try (first | have hsq := Int.not_le.2 hsp | have hsq := Int.not_lt.2 hsp | have hsq := Int.not_le.1 hsp | have hsq := Int.not_lt.1 hsp)); (try subst hsp); (try simp only [hsp])) <;> (refine hK1 _ _ ?_; clear hK1 K1))))
  all_goals refine Qn.done (hK _ _ (Dwp.ret ?_) rfl)
  all_goals refine QaE Tryz.func226 rfl _ ?_
  all_goals simp [upd, QeJ, *]
theorem e226 : Go.FA.Good Tryz.prog (226, s226) := ⟨c226, Tryz.f226, _, Tryz.func226, rfl, by decide⟩
theorem call226 (T : Tab) (hT : T 226 = some s226) (t : Tm) : dcall T 226 [.agg t.cells] = some (.lit (.bool (QeJ t))) :=
  Qad (A := Enc.tm) (B := Enc.bool) hT rfl
def Qh7 (s : ByteArray) : Bool := decide (s = ⟨#[95]⟩) || decide (s = ⟨#[36]⟩)
def s178 : Sp := sp (QM Enc.str) Enc.bool (fun s => some (Qh7 s))
theorem c178 : Qb Tryz.prog 178 s178 := by
  refine Qb.of_sp (T := Qf []) Tryz.func178 rfl (Nat.le_of_ble_eq_true rfl) fun E s y hy => ?_
  cases hy
  have tT := Q9 (P := Tryz.prog)
  generalize Qf [] = T at *
  refine Dwp.step tT rfl fun K hK => ?_
  simp [init, QM, Ql.one, Enc.str]
  refine hK _ _ ?_ rfl; clear hK K
  refine Dwp.step tT rfl fun K hK => ?_
  repeat' ((first | refine Qn.stepD rfl rfl ?_ | refine Qn.stepG rfl rfl rfl ?_ | refine Qn.stepN rfl rfl ?_ | refine Qn.stepGN rfl rfl rfl ?_); intro K1 hK1; simp [*, QO, Qw, QJ, dop, eval, Qr, upd, Qa, Qu, Qv, Qx, TyI.agg, Qg, Qs, Qi, Qj, QA, QX, goInt, QV, intCmp, Qp, Tag.isNN, Qc, DV.cells, Qd, Qt, Qk, init, ty9]; (first | (refine hK1 _ _ ?_; clear hK1 K1) | (split <;> (rename_i hsp; (try simp only [beq_iff_eq, beq_eq_false_iff_ne, ne_eq, decide_eq_true_eq, decide_eq_false_iff_not] at hsp); (try (first | have hsq := Int.not_le.2 hsp | have hsq := Int.not_lt.2 hsp | have hsq := Int.not_le.1 hsp | have hsq := Int.not_lt.1 hsp)); (try subst hsp); (try simp only [hsp])) <;> (refine hK1 _ _ ?_; clear hK1 K1))))
  all_goals refine Qn.done (hK _ _ (Dwp.ret ?_) rfl)
  all_goals refine QaE Tryz.func178 rfl _ ?_
  all_goals simp [upd, Qh7, *]
theorem e178 : Go.FA.Good Tryz.prog (178, s178) := ⟨c178, Tryz.f178, _, Tryz.func178, rfl, by decide⟩
theorem QjB (T : Tab) (hT : T 178 = some s178) (s : ByteArray) : dcall T 178 [.lit (.string s)] = some (.lit (.bool (Qh7 s))) :=
  Qad (A := Enc.str) (B := Enc.bool) hT rfl
def Qkv (x s : ByteArray) : Bool := if Qh7 x = true then decide (s = ⟨#[65, 110, 121]⟩) else QU x && QU s
def s230 : Sp := sp (QR Enc.str Enc.str) Enc.bool (fun x => some (Qkv x.1 x.2))
theorem c230 : Qb Tryz.prog 230 s230 := by
  refine Qb.of_sp (T := Qf [(178, s178), (105, s105)]) Tryz.func230 rfl (Nat.le_of_ble_eq_true rfl) fun E xx y hy => ?_
  obtain ⟨x, s⟩ := xx
  cases hy
  have tT : QH Tryz.prog (Qf [(178, s178), (105, s105)]) := .cons e178 (.cons Qk4 .nil)
  have g1 := QjB (Qf [(178, s178), (105, s105)]) rfl x
  have g2 := Qct (Qf [(178, s178), (105, s105)]) rfl x
  have g3 := Qct (Qf [(178, s178), (105, s105)]) rfl s
  generalize Qf [(178, s178), (105, s105)] = T at *
  refine Dwp.step tT rfl fun K hK => ?_
  simp [init, QR, Ql.one, Ql.and, Enc.str]
  refine hK _ _ ?_ rfl; clear hK K
  refine Dwp.seq ?_
  refine Dwp.step tT rfl fun K hK => ?_
  rcases hu : Qh7 x with _ | _
  · simp [init, g1, hu]
    refine hK _ _ ?_ rfl; clear hK K
    refine Dwp.condF (by simp [eval, upd]) (Dwp.skip ?_)
    refine Dwp.step tT rfl fun K hK => ?_
    repeat' ((first | refine Qn.stepD rfl rfl ?_ | refine Qn.stepG rfl rfl rfl ?_ | refine Qn.stepN rfl rfl ?_ | refine Qn.stepGN rfl rfl rfl ?_); intro K1 hK1; simp [*, QO, Qw, QJ, dop, eval, Qr, upd, Qa, Qu, Qv, Qx, TyI.agg, Qg, Qs, Qi, Qj, QA, QX, goInt, QV, intCmp, Qp, Tag.isNN, Qc, DV.cells, Qd, Qt, Qk, init, ty9, Qm]; (first | (refine hK1 _ _ ?_; clear hK1 K1) | (split <;> (rename_i hsp; (try simp only [beq_iff_eq, beq_eq_false_iff_ne, ne_eq, decide_eq_true_eq, decide_eq_false_iff_not] at hsp); (try (first | have hsq := Int.not_le.2 hsp | have hsq := Int.not_lt.2 hsp | have hsq := Int.not_le.1 hsp | have hsq := Int.not_lt.1 hsp)); (try subst hsp); (try simp only [hsp])) <;> (refine hK1 _ _ ?_; clear hK1 K1))))
    all_goals refine Qn.done (hK _ _ (Dwp.ret ?_) rfl)
    all_goals refine QaE Tryz.func230 rfl _ ?_
    all_goals simp [upd, Qkv, *]
  · simp [init, g1, hu]
    refine hK _ _ ?_ rfl; clear hK K
    refine Dwp.condT (by simp [eval, upd]) ?_
    refine Dwp.step tT rfl fun K hK => ?_
    simp [init, ty9]
    refine hK _ _ (Dwp.ret ?_) rfl
    refine QaE Tryz.func230 rfl _ ?_
    simp [upd, Qkv, hu]
theorem e230 : Go.FA.Good Tryz.prog (230, s230) := ⟨c230, Tryz.f230, _, Tryz.func230, rfl, by decide⟩
theorem call230 (T : Tab) (hT : T 230 = some s230) (x s : ByteArray) : dcall T 230 [.lit (.string x), .lit (.string s)] = some (.lit (.bool (Qkv x s))) :=
  Qcd (A := Enc.str) (B := Enc.str) (C := Enc.bool) hT rfl
def s228 : Sp := sp (QM Enc.str) Enc.bool (fun s => if s.size ≤ lim then some (idB s) else none)
set_option maxHeartbeats 2000000 in
theorem c228 : Qb Tryz.prog 228 s228 := by
  refine Qb.of_sp (T := Qf [(105, s105)]) Tryz.func228 rfl (Nat.le_of_ble_eq_true rfl) fun E s y hy => ?_
  split at hy
  case isFalse => cases hy
  next hlim =>
  cases hy
  have tT : QH Tryz.prog (Qf [(105, s105)]) := .cons Qk4 .nil
  have g := Qct (Qf [(105, s105)]) rfl s
  generalize Qf [(105, s105)] = T at *
  unfold lim at hlim
  refine Dwp.step tT rfl fun K hK => ?_
  simp [init, QM, Ql.one, Enc.str]
  refine hK _ _ ?_ rfl; clear hK K
  refine Dwp.step tT rfl fun K hK => ?_
  rcases h1 : QU s with _ | _
  · rw [h1] at g
    repeat' ((first | refine Qn.stepD rfl rfl ?_ | refine Qn.stepG rfl rfl rfl ?_ | refine Qn.stepN rfl rfl ?_ | refine Qn.stepGN rfl rfl rfl ?_); intro K1 hK1; simp [*, QO, Qw, QJ, dop, eval, Qr, upd, Qa, Qu, Qv, Qx, TyI.agg, Qg, Qs, Qi, Qj, QA, QX, goInt, QV, intCmp, Qp, Tag.isNN, Qc, DV.cells, Qd, Qt, Qk, init, ty9, Qm]; (first | (refine hK1 _ _ ?_; clear hK1 K1) | (split <;> (rename_i hsp; (try simp only [beq_iff_eq, beq_eq_false_iff_ne, ne_eq, decide_eq_true_eq, decide_eq_false_iff_not] at hsp); (try (first | have hsq := Int.not_le.2 hsp | have hsq := Int.not_lt.2 hsp | have hsq := Int.not_le.1 hsp | have hsq := Int.not_lt.1 hsp)); (try subst hsp); (try simp only [hsp])) <;> (refine hK1 _ _ ?_; clear hK1 K1))))
    all_goals refine Qn.done (hK _ _ (Dwp.ret ?_) rfl)
    all_goals refine QaE Tryz.func228 rfl _ ?_
    all_goals simp [upd, idB, *]
  rw [h1] at g
  have hpos := Qgk h1
  have hb := bget s 0 hpos
  have hf : Qgs s = (s[0].toNat : Int) := by simp [Qgs, hpos]
  obtain ⟨c, hc⟩ : ∃ c : Int, (s[0].toNat : Int) = c := ⟨_, rfl⟩
  rw [hc] at hf
  by_cases ht : s = ⟨#[116, 114, 117, 101]⟩
  · subst ht
    repeat' ((first | refine Qn.stepD rfl rfl ?_ | refine Qn.stepG rfl rfl rfl ?_ | refine Qn.stepN rfl rfl ?_ | refine Qn.stepGN rfl rfl rfl ?_); intro K1 hK1; simp [*, QO, Qw, QJ, dop, eval, Qr, upd, Qa, Qu, Qv, Qx, TyI.agg, Qg, Qs, Qi, Qj, QA, QX, goInt, QV, intCmp, Qp, Tag.isNN, Qc, DV.cells, Qd, Qt, Qk, init, ty9, Qm]; (first | (refine hK1 _ _ ?_; clear hK1 K1) | (split <;> (rename_i hsp; (try simp only [beq_iff_eq, beq_eq_false_iff_ne, ne_eq, decide_eq_true_eq, decide_eq_false_iff_not] at hsp); (try (first | have hsq := Int.not_le.2 hsp | have hsq := Int.not_lt.2 hsp | have hsq := Int.not_le.1 hsp | have hsq := Int.not_lt.1 hsp)); (try subst hsp); (try simp only [hsp])) <;> (refine hK1 _ _ ?_; clear hK1 K1))))
    all_goals refine Qn.done (hK _ _ (Dwp.ret ?_) rfl)
    all_goals refine QaE Tryz.func228 rfl _ ?_
    all_goals simp [upd, idB, *]
  by_cases hfl : s = ⟨#[102, 97, 108, 115, 101]⟩
  · subst hfl
    repeat' ((first | refine Qn.stepD rfl rfl ?_ | refine Qn.stepG rfl rfl rfl ?_ | refine Qn.stepN rfl rfl ?_ | refine Qn.stepGN rfl rfl rfl ?_); intro K1 hK1; simp [*, QO, Qw, QJ, dop, eval, Qr, upd, Qa, Qu, Qv, Qx, TyI.agg, Qg, Qs, Qi, Qj, QA, QX, goInt, QV, intCmp, Qp, Tag.isNN, Qc, DV.cells, Qd, Qt, Qk, init, ty9, Qm]; (first | (refine hK1 _ _ ?_; clear hK1 K1) | (split <;> (rename_i hsp; (try simp only [beq_iff_eq, beq_eq_false_iff_ne, ne_eq, decide_eq_true_eq, decide_eq_false_iff_not] at hsp); (try (first | have hsq := Int.not_le.2 hsp | have hsq := Int.not_lt.2 hsp | have hsq := Int.not_le.1 hsp | have hsq := Int.not_lt.1 hsp)); (try subst hsp); (try simp only [hsp])) <;> (refine hK1 _ _ ?_; clear hK1 K1))))
    all_goals refine Qn.done (hK _ _ (Dwp.ret ?_) rfl)
    all_goals refine QaE Tryz.func228 rfl _ ?_
    all_goals simp [upd, idB, *]
  repeat' ((first | refine Qn.stepD rfl rfl ?_ | refine Qn.stepG rfl rfl rfl ?_ | refine Qn.stepN rfl rfl ?_ | refine Qn.stepGN rfl rfl rfl ?_); intro K1 hK1; simp [*, QO, Qw, QJ, dop, eval, Qr, upd, Qa, Qu, Qv, Qx, TyI.agg, Qg, Qs, Qi, Qj, QA, QX, goInt, QV, intCmp, Qp, Tag.isNN, Qc, DV.cells, Qd, Qt, Qk, init, ty9, Qm]; (first | (refine hK1 _ _ ?_; clear hK1 K1) | (split <;> (rename_i hsp; (try simp only [beq_iff_eq, beq_eq_false_iff_ne, ne_eq, decide_eq_true_eq, decide_eq_false_iff_not] at hsp); (try (first | have hsq := Int.not_le.2 hsp | have hsq := Int.not_lt.2 hsp | have hsq := Int.not_le.1 hsp | have hsq := Int.not_lt.1 hsp)); (try subst hsp); (try simp only [hsp])) <;> (refine hK1 _ _ ?_; clear hK1 K1))))
  all_goals refine Qn.done (hK _ _ (Dwp.ret ?_) rfl)
  all_goals refine QaE Tryz.func228 rfl _ ?_
  all_goals simp [upd, idB, *]
theorem e228 : Go.FA.Good Tryz.prog (228, s228) := ⟨c228, Tryz.f228, _, Tryz.func228, rfl, by decide⟩
theorem call228 (T : Tab) (hT : T 228 = some s228) (s : ByteArray) (h : s.size ≤ lim) : dcall T 228 [.lit (.string s)] = some (.lit (.bool (idB s))) :=
  Qad (A := Enc.str) (B := Enc.bool) hT (if_pos h)
def s265 : Sp := sp (QR Enc.str (Enc.int .u8)) Enc.i64 (fun x => if x.2 = 39 then some (mark x.1) else none)
theorem c265 : Qb Tryz.prog 265 s265 := by
  refine Qb.of_sp (T := Qf [(296, s296)]) Tryz.func265 rfl (Nat.le_of_ble_eq_true rfl) fun E xx y hy => ?_
  obtain ⟨s, c⟩ := xx
  simp only [] at hy
  split at hy
  case isFalse => cases hy
  next hc =>
  cases hy
  subst hc
  have tT : QH Tryz.prog (Qf [(296, s296)]) := .cons e296 .nil
  have g : dcall (Qf [(296, s296)]) 296 [.lit (.string s), .lit (.int .u8 39)] = some (.lit (.int .i64 (mark s))) := by
    simp [dcall, Qf, s296, sp, QR, Ql.and, Ql.one, Enc.str, Enc.int, Enc.i64, mark]
  generalize Qf [(296, s296)] = T at *
  refine Dwp.step tT rfl fun K hK => ?_
  simp [init, QR, Ql.and, Ql.one, Enc.str, Enc.int]
  refine hK _ _ ?_ rfl; clear hK K
  refine Dwp.step tT rfl fun K hK => ?_
  simp [init, g]
  refine hK _ _ (Dwp.ret ?_) rfl
  simp [Q3, Qh, QW, frz, Q2, Q0, upd, Enc.i64, Enc.int]
theorem e265 : Go.FA.Good Tryz.prog (265, s265) := ⟨c265, Tryz.f265, _, Tryz.func265, rfl, by decide⟩
def Qev (s : ByteArray) : ByteArray × ByteArray := if 0 ≤ mark s then (s.extract 0 (mark s).toNat, s.extract (mark s).toNat s.size) else (s, ⟨#[]⟩)
def s176 : Sp := sp (QM Enc.str) Enc.str2 (fun s => if s.size ≤ lim then some (Qev s) else none)
theorem c176 : Qb Tryz.prog 176 s176 := by
  refine Qb.of_sp (T := Qf [(265, s265)]) Tryz.func176 rfl (Nat.le_of_ble_eq_true rfl) fun E s y hy => ?_
  split at hy
  case isFalse => cases hy
  next hlim =>
  cases hy
  unfold lim at hlim
  have tT : QH Tryz.prog (Qf [(265, s265)]) := .cons e265 .nil
  have g : dcall (Qf [(265, s265)]) 265 [.lit (.string s), .lit (.int .u8 39)] = some (.lit (.int .i64 (mark s))) := by
    simp [dcall, Qf, s265, sp, QR, Ql.and, Ql.one, Enc.str, Enc.int, Enc.i64]
  have hm := Qc8 s.data.toList
  generalize Qf [(265, s265)] = T at *
  refine Dwp.step tT rfl fun K hK => ?_
  simp [init, QM, Ql.one, Enc.str]
  refine hK _ _ ?_ rfl; clear hK K
  refine Dwp.seq ?_
  refine Dwp.step tT rfl fun K hK => ?_
  simp [init, g]
  refine hK _ _ ?_ rfl; clear hK K
  refine Dwp.step tT rfl fun K hK => ?_
  simp
  refine hK _ _ ?_ rfl; clear hK K
  by_cases h0 : 0 ≤ mark s
  · have hms : mark s ≤ (s.size : Int) := by
      have : s.size = s.data.toList.length := by simp
      unfold mark at h0 ⊢
      rcases hm with h | ⟨i, h1, h2⟩ <;> omega
    have hmn : (mark s).toNat ≤ s.size := by omega
    refine Dwp.condT (by simp [eval, upd, h0]) ?_
    refine Dwp.drawStep [] mixed tT rfl rfl fun K hK => ?_
    simp [QbI, touch, QaO, init, ty9, h0, hms, hmn]
    refine hK _ _ (Dwp.ret ?_) rfl
    simp [Q3, Qh, QW, frz, Q2, Q0, Ex.then, upd, Enc.str2, Enc.tup, QR, Ql.and, Ql.one, Enc.str, Qev, h0]
  · refine Dwp.condF (by simp [eval, upd, h0]) (Dwp.skip ?_)
    refine Dwp.step tT rfl fun K hK => ?_
    simp [init]
    refine hK _ _ (Dwp.ret ?_) rfl
    simp [Q3, Qh, QW, frz, Q2, Q0, Ex.then, upd, Enc.str2, Enc.tup, QR, Ql.and, Ql.one, Enc.str, Qev, h0]
theorem e176 : Go.FA.Good Tryz.prog (176, s176) := ⟨c176, Tryz.f176, _, Tryz.func176, rfl, by decide⟩
theorem call176 (T : Tab) (hT : T 176 = some s176) (s : ByteArray) (h : s.size ≤ lim) : dcall T 176 [.lit (.string s)] = some (.tuple [.lit (.string (Qev s).1), .lit (.string (Qev s).2)]) :=
  Qad (A := Enc.str) (B := Enc.str2) hT (if_pos h)
def Qb5 (so : ByteArray) : List Tm → Bool
  | [] => true
  | [v] => decide (v.kind = 6) && (QU v.text && decide (v.sort = so))
  | _ => false
def s231 : Sp := sp (QR Enc.tms Enc.str) Enc.bool (fun x => if x.1.length ≤ 16777216 then some (Qb5 x.2 x.1) else none)
set_option maxHeartbeats 2000000 in
theorem c231 : Qb Tryz.prog 231 s231 := by
  refine Qb.of_sp (T := Qf [(105, s105)]) Tryz.func231 rfl (Nat.le_of_ble_eq_true rfl) fun E xx y hy => ?_
  obtain ⟨r, so⟩ := xx
  simp only [] at hy
  split at hy
  case isFalse => cases hy
  next hlim =>
  cases hy
  have tT : QH Tryz.prog (Qf [(105, s105)]) := .cons Qk4 .nil
  have g := fun s => Qct (Qf [(105, s105)]) rfl s
  generalize Qf [(105, s105)] = T at *
  refine Dwp.step tT rfl fun K hK => ?_
  simp [init, QR, Ql.one, Ql.and, tmsC, Enc.str]
  refine hK _ _ ?_ rfl; clear hK K
  refine Dwp.seq ?_
  refine Dwp.step tT rfl fun K hK => ?_
  match r, hlim with
  | [], _ =>
    simp [init, Qak]
    refine hK _ _ ?_ rfl; clear hK K
    refine Dwp.condT (by simp [eval, upd]) ?_
    refine Dwp.step tT rfl fun K hK => ?_
    simp
    refine hK _ _ (Dwp.ret ?_) rfl
    refine QaE Tryz.func231 rfl _ ?_
    simp [upd, Qb5]
  | [v], _ =>
    obtain ⟨vk, vn, vx, vs, vks, vr⟩ := v
    simp [init, Qak]
    refine hK _ _ ?_ rfl; clear hK K
    refine Dwp.condF (by simp [eval, upd]) (Dwp.skip ?_)
    have g1 := g vx
    clear g
    refine Dwp.step tT rfl fun K hK => ?_
    by_cases hso : vs = so
    · subst hso
      repeat' ((first | refine Qn.stepD rfl rfl ?_ | refine Qn.stepG rfl rfl rfl ?_ | refine Qn.stepN rfl rfl ?_ | refine Qn.stepGN rfl rfl rfl ?_); intro K1 hK1; simp [*, QO, Qw, QJ, dop, eval, Qr, upd, Qa, Qu, Qv, Qx, TyI.agg, Qg, Qs, Qi, Qj, QA, QX, goInt, QV, intCmp, Qp, Tag.isNN, Qc, DV.cells, Qd, Qt, Qk, init, QaB, ty3, ty9, Qak, Q5, QG, Qm]; (first | (refine hK1 _ _ ?_; clear hK1 K1) | (split <;> (rename_i hsp; (try simp only [beq_iff_eq, beq_eq_false_iff_ne, ne_eq, decide_eq_true_eq, decide_eq_false_iff_not] at hsp); (try (first | have hsq := Int.not_le.2 hsp | have hsq := Int.not_lt.2 hsp | have hsq := Int.not_le.1 hsp | have hsq := Int.not_lt.1 hsp)); (try subst hsp); (try simp only [hsp])) <;> (refine hK1 _ _ ?_; clear hK1 K1))))
      all_goals refine Qn.done (hK _ _ (Dwp.ret ?_) rfl)
      all_goals refine QaE Tryz.func231 rfl _ ?_
      all_goals simp [upd, Qb5, Tm.kind, Tm.text, Tm.sort, *]
    repeat' ((first | refine Qn.stepD rfl rfl ?_ | refine Qn.stepG rfl rfl rfl ?_ | refine Qn.stepN rfl rfl ?_ | refine Qn.stepGN rfl rfl rfl ?_); intro K1 hK1; simp [*, QO, Qw, QJ, dop, eval, Qr, upd, Qa, Qu, Qv, Qx, TyI.agg, Qg, Qs, Qi, Qj, QA, QX, goInt, QV, intCmp, Qp, Tag.isNN, Qc, DV.cells, Qd, Qt, Qk, init, QaB, ty3, ty9, Qak, Q5, QG, Qm]; (first | (refine hK1 _ _ ?_; clear hK1 K1) | (split <;> (rename_i hsp; (try simp only [beq_iff_eq, beq_eq_false_iff_ne, ne_eq, decide_eq_true_eq, decide_eq_false_iff_not] at hsp); (try (first | have hsq := Int.not_le.2 hsp | have hsq := Int.not_lt.2 hsp | have hsq := Int.not_le.1 hsp | have hsq := Int.not_lt.1 hsp)); (try subst hsp); (try simp only [hsp])) <;> (refine hK1 _ _ ?_; clear hK1 K1))))
    all_goals refine Qn.done (hK _ _ (Dwp.ret ?_) rfl)
    all_goals refine QaE Tryz.func231 rfl _ ?_
    all_goals simp [upd, Qb5, Tm.kind, Tm.text, Tm.sort, *]
  | v :: v2 :: r, hlim =>
    have hne : ((((v :: v2 :: r).length : Nat) : Int) == 0) = false := len_nil (by simp)
    obtain ⟨m, hm⟩ : ∃ m : Int, (r.length : Int) + 1 + 1 = m := ⟨_, rfl⟩
    have hm0 : ¬ m = 0 := by omega
    have hm1 : ¬ m = 1 := by omega
    have hmf : (m == 1) = false := by simpa using hm1
    simp [init, Qak, hm, hm0]
    refine hK _ _ ?_ rfl; clear hK K
    refine Dwp.condF (by simp [eval, upd, hm, hm0]) (Dwp.skip ?_)
    clear g
    refine Dwp.step tT rfl fun K hK => ?_
    repeat' ((first | refine Qn.stepD rfl rfl ?_ | refine Qn.stepG rfl rfl rfl ?_ | refine Qn.stepN rfl rfl ?_ | refine Qn.stepGN rfl rfl rfl ?_); intro K1 hK1; simp [*, QO, Qw, QJ, dop, eval, Qr, upd, Qa, Qu, Qv, Qx, TyI.agg, Qg, Qs, Qi, Qj, QA, QX, goInt, QV, intCmp, Qp, Tag.isNN, Qc, DV.cells, Qd, Qt, Qk, init, QaB, ty3, ty9, Qak, Q5, QG, Qm]; (first | (refine hK1 _ _ ?_; clear hK1 K1) | (split <;> (rename_i hsp; (try simp only [beq_iff_eq, beq_eq_false_iff_ne, ne_eq, decide_eq_true_eq, decide_eq_false_iff_not] at hsp); (try (first | have hsq := Int.not_le.2 hsp | have hsq := Int.not_lt.2 hsp | have hsq := Int.not_le.1 hsp | have hsq := Int.not_lt.1 hsp)); (try subst hsp); (try simp only [hsp])) <;> (refine hK1 _ _ ?_; clear hK1 K1))))
    all_goals refine Qn.done (hK _ _ (Dwp.ret ?_) rfl)
    all_goals refine QaE Tryz.func231 rfl _ ?_
    all_goals simp [upd, Qb5, *]
theorem e231 : Go.FA.Good Tryz.prog (231, s231) := ⟨c231, Tryz.f231, _, Tryz.func231, rfl, by decide⟩
theorem Qka (T : Tab) (hT : T 231 = some s231) (r : List Tm) (so : ByteArray) (h : r.length ≤ 16777216) : dcall T 231 [.slice 6 .none (r.map Tm.cells), .lit (.string so)] = some (.lit (.bool (Qb5 so r))) :=
  Qcd (A := Enc.tms) (B := Enc.str) (C := Enc.bool) hT (if_pos h)
end
def QeE (f : ByteArray) : Bool := match f.data.toList with | [_, c] => decide (49 ≤ (c.toNat : Int)) && decide ((c.toNat : Int) ≤ 56) | _ => false
theorem Qjb (s : ByteArray) : QeQ s = (QU (Qev s).1 && (decide ((Qev s).2 = ⟨#[]⟩) || QeE (Qev s).2)) := by
  have hsz : s.size = s.data.toList.length := by simp
  unfold QeQ Qai Qev
  rcases Qc8 s.data.toList with h | ⟨i, hi, h⟩
  · have hm : mark s = -1 := h
    simp [hm]
  · have hm : mark s = (i : Int) := h
    have hd : s.data.toList.drop i = s.data.toList[i] :: s.data.toList.drop (i + 1) := List.drop_eq_getElem_cons hi
    have hne : (s.extract i s.size) ≠ ⟨#[]⟩ := by
      intro e
      have := congrArg (fun b : ByteArray => b.data.toList) e
      simp only [QaD] at this
      rw [hsz, List.take_length, hd] at this
      simp at this
    have htl : QeE (s.extract i s.size) = digit (s.extract (i + 1) s.size) := by
      unfold QeE digit
      rw [QaD, QaD, hsz, List.take_length, hd]
      rcases s.data.toList.drop (i + 1) with _ | ⟨c, _ | ⟨c2, l⟩⟩ <;> rfl
    simp [hm, hne, htl]
theorem tail_ne {f : ByteArray} (h : f.size ≠ 2) : QeE f = false := by
  obtain ⟨⟨l⟩⟩ := f
  unfold QeE
  match l, h with
  | [], _ => rfl
  | [_], _ => rfl
  | [_, _], h => exact absurd rfl h
  | _ :: _ :: _ :: _, _ => rfl
theorem size_two {d : ByteArray} (h : d.size = 2) : ∃ b c, d = ⟨#[b, c]⟩ := by
  obtain ⟨⟨l⟩⟩ := d
  match l, h with
  | [b, c], _ => exact ⟨b, c, rfl⟩
def s229 : Sp := sp (QM Enc.str) Enc.bool (fun s => if s.size ≤ lim then some (QeQ s) else none)
set_option maxHeartbeats 2000000 in
theorem c229 : Qb Tryz.prog 229 s229 := by
  refine Qb.of_sp (T := Qf [(176, s176), (105, s105)]) Tryz.func229 rfl (Nat.le_of_ble_eq_true rfl) fun E s y hy => ?_
  split at hy
  case isFalse => cases hy
  next hlim =>
  cases hy
  have tT : QH Tryz.prog (Qf [(176, s176), (105, s105)]) := .cons e176 (.cons Qk4 .nil)
  have g1 := call176 (Qf [(176, s176), (105, s105)]) rfl s hlim
  have g2 := Qct (Qf [(176, s176), (105, s105)]) rfl (Qev s).1
  generalize Qf [(176, s176), (105, s105)] = T at *
  rw [Qjb]
  clear hlim
  generalize (Qev s).1 = n at *
  generalize (Qev s).2 = f at *
  refine Dwp.step tT rfl fun K hK => ?_
  simp [QF, QZ, Qo, QJ, own, Qm, dop, QN, eval, Qr, Qn, Ex.then, Ex.inBlock, upd, QV, Tag.isNN, Qp, intCmp, Qv, Qx, TyI.agg, Qa, Qu, Qg, Qs, QX, QA, QD, mapOf, QQ, QC, Qq, Qi, Qj, QI, DV.cells, Qt, Qk, QE, QK, rowsOf, QL, Qd, Qe, Qe.go, Qz, QB, Qc, goInt, init, QM, Ql.one, Enc.str]
  refine hK _ _ ?_ rfl; clear hK K
  refine Dwp.step tT rfl fun K hK => ?_
  simp [QF, QZ, Qo, QJ, own, Qm, dop, QN, eval, Qr, Qn, Ex.then, Ex.inBlock, upd, QV, Tag.isNN, Qp, intCmp, Qv, Qx, TyI.agg, Qa, Qu, Qg, Qs, QX, QA, QD, mapOf, QQ, QC, Qq, Qi, Qj, QI, DV.cells, Qt, Qk, QE, QK, rowsOf, QL, Qd, Qe, Qe.go, Qz, QB, Qc, goInt, init, g1]
  refine hK _ _ ?_ rfl; clear hK K
  clear g1
  refine Dwp.step tT rfl fun K hK => ?_
  by_cases h0 : f = ⟨#[]⟩
  · subst h0
    repeat' ((first | refine Qn.stepD rfl rfl ?_ | refine Qn.stepG rfl rfl rfl ?_ | refine Qn.stepN rfl rfl ?_ | refine Qn.stepGN rfl rfl rfl ?_); intro K1 hK1; simp [*, QO, Qw, QJ, dop, eval, Qr, upd, Qa, Qu, Qv, Qx, TyI.agg, Qg, Qs, Qi, Qj, QA, QX, goInt, QV, intCmp, Qp, Tag.isNN, Qc, DV.cells, Qd, Qt, Qk, ty9, Qm]; (first | (refine hK1 _ _ ?_; clear hK1 K1) | (split <;> (rename_i hsp; (try simp only [beq_iff_eq, beq_eq_false_iff_ne, ne_eq, decide_eq_true_eq, decide_eq_false_iff_not] at hsp); (try (first | have hsq := Int.not_le.2 hsp | have hsq := Int.not_lt.2 hsp | have hsq := Int.not_le.1 hsp | have hsq := Int.not_lt.1 hsp)); (try subst hsp); (try simp only [hsp])) <;> (refine hK1 _ _ ?_; clear hK1 K1))))
    all_goals refine Qn.done (hK _ _ (Dwp.ret ?_) rfl)
    all_goals refine QaE Tryz.func229 rfl _ ?_
    all_goals simp [upd, *]
  by_cases h2 : f.size = 2
  · obtain ⟨b, c, rfl⟩ := size_two h2
    have e1 : (ByteArray.mk #[b, c]).size = 2 := rfl
    have e2 : (ByteArray.mk #[b, c])[1]? = some c := rfl
    have e3 : (ByteArray.mk #[b, c])[1]'(by rw [e1]; omega) = c := rfl
    have hdg : QeE ⟨#[b, c]⟩ = (decide (49 ≤ (c.toNat : Int)) && decide ((c.toNat : Int) ≤ 56)) := rfl
    obtain ⟨ci, hci⟩ : ∃ x : Int, (c.toNat : Int) = x := ⟨_, rfl⟩
    rw [hci] at hdg
    clear h2
    repeat' ((first | refine Qn.stepD rfl rfl ?_ | refine Qn.stepG rfl rfl rfl ?_ | refine Qn.stepN rfl rfl ?_ | refine Qn.stepGN rfl rfl rfl ?_); intro K1 hK1; simp [*, QO, Qw, QJ, dop, eval, Qr, upd, Qa, Qu, Qv, Qx, TyI.agg, Qg, Qs, Qi, Qj, QA, QX, goInt, QV, intCmp, Qp, Tag.isNN, Qc, DV.cells, Qd, Qt, Qk, ty9, Qm]; (first | (refine hK1 _ _ ?_; clear hK1 K1) | (split <;> (rename_i hsp; (try simp only [beq_iff_eq, beq_eq_false_iff_ne, ne_eq, decide_eq_true_eq, decide_eq_false_iff_not] at hsp); (try (first | have hsq := Int.not_le.2 hsp | have hsq := Int.not_lt.2 hsp | have hsq := Int.not_le.1 hsp | have hsq := Int.not_lt.1 hsp)); (try subst hsp); (try simp only [hsp])) <;> (refine hK1 _ _ ?_; clear hK1 K1))))
    all_goals refine Qn.done (hK _ _ (Dwp.ret ?_) rfl)
    all_goals refine QaE Tryz.func229 rfl _ ?_
    all_goals simp [upd, *]
  have ht := tail_ne h2
  obtain ⟨m, hm⟩ : ∃ m : Int, (f.size : Int) = m := ⟨_, rfl⟩
  have h2' : ¬ m = 2 := by omega
  have h2f : (m == 2) = false := by simpa using h2'
  clear h2
  repeat' ((first | refine Qn.stepD rfl rfl ?_ | refine Qn.stepG rfl rfl rfl ?_ | refine Qn.stepN rfl rfl ?_ | refine Qn.stepGN rfl rfl rfl ?_); intro K1 hK1; simp [*, QO, Qw, QJ, dop, eval, Qr, upd, Qa, Qu, Qv, Qx, TyI.agg, Qg, Qs, Qi, Qj, QA, QX, goInt, QV, intCmp, Qp, Tag.isNN, Qc, DV.cells, Qd, Qt, Qk, ty9, Qm]; (first | (refine hK1 _ _ ?_; clear hK1 K1) | (split <;> (rename_i hsp; (try simp only [beq_iff_eq, beq_eq_false_iff_ne, ne_eq, decide_eq_true_eq, decide_eq_false_iff_not] at hsp); (try (first | have hsq := Int.not_le.2 hsp | have hsq := Int.not_lt.2 hsp | have hsq := Int.not_le.1 hsp | have hsq := Int.not_lt.1 hsp)); (try subst hsp); (try simp only [hsp])) <;> (refine hK1 _ _ ?_; clear hK1 K1))))
  all_goals refine Qn.done (hK _ _ (Dwp.ret ?_) rfl)
  all_goals refine QaE Tryz.func229 rfl _ ?_
  all_goals simp [upd, *]
theorem e229 : Go.FA.Good Tryz.prog (229, s229) := ⟨c229, Tryz.f229, _, Tryz.func229, rfl, by decide⟩
theorem call229 (T : Tab) (hT : T 229 = some s229) (s : ByteArray) (h : s.size ≤ lim) : dcall T 229 [.lit (.string s)] = some (.lit (.bool (QeQ s))) :=
  Qad (A := Enc.str) (B := Enc.bool) hT (if_pos h)
end Go.Proofs.Yt
namespace Go.FA
open Go.RowKit
variable {P : Program} {T : Tab} {E : Entry} {C : Ctx} {w : World} {σ : St} {n : Nat} {a : Nat → DV} {ops : Array Oper} {K : (Nat → DV) → St → Prop} {i : Nat} {rest : List Nat} {o : Oper}
theorem Rg.rangeS {t : TypeId} {x : Operand} {s : ByteArray} (hd : Q8 n ops = true) (ho : ops[i]? = some o) (hw : Qo ops a o.guard = some true) (hop : o.op = .range t x) (ht : P.underlying t = some .string) (hx : eval a x = .lit (.string s))
    (h : Rg P E n ops K rest (QN a o.dst (.ptr σ.n 0)) { σ with n := σ.n + 1, objs := upd σ.objs σ.n (some (.strIter s 0)) }) : Rg P E n ops K (i :: rest) a σ := by
  refine Rg.upon (d := .ptr σ.n 0) (σ1 := { σ with objs := upd σ.objs σ.n (some (.strIter s 0)) }) hd ho hw (fun ca w ds C hf hs => ?_) h
  have hv := Qae (ds := ds) hf x
  rw [hx] at hv; simp only [Qy] at hv
  obtain ⟨C', hle, hstep, hob, _, _, _, hs'⟩ := hs.new_obj (id := σ.n) (ob := .stringIter s 0) (o := .strIter s 0) (Nat.le_refl _) (fun C' hle hstep => by simp only [Qjz]; simpa using heap_alloc_new w _)
  have hr : (execOp (Act.eval ⟨ca, ds⟩) o).run P w = .ok (.value (.pointer (some ⟨w.heap.size, 0, none⟩))) (w.alloc (.stringIter s 0)) := by
    simp only [execOp, hop, hv, Sem.run_bind, run_range_string w t s ht, Result.andThen_ok, Sem.run_pure]; rfl
  unfold Upon; rw [hr]; exact ⟨C', hle, hstep, by simp only [Qy]; exact ⟨_, hob, rfl⟩, hs'⟩
theorem Rg.nextS {it : Operand} {id pos : Nat} {s : ByteArray} (hd : Q8 n ops = true) (ho : ops[i]? = some o) (hw : Qo ops a o.guard = some true) (hop : o.op = .next it true) (hx : eval a it = .ptr id 0) (hb : σ.objs id = some (.strIter s pos)) (hp : pos < s.size)
    (h : Rg P E n ops K rest (QN a o.dst (.tuple [.lit (.bool true), .lit (.int .i64 pos), .lit (.int .i32 (Utf8.decode s pos).1)])) { σ with n := σ.n + 1, objs := upd σ.objs id (some (.strIter s (pos + (Utf8.decode s pos).2))) }) : Rg P E n ops K (i :: rest) a σ := by
  refine Rg.upon (d := .tuple [.lit (.bool true), .lit (.int .i64 pos), .lit (.int .i32 (Utf8.decode s pos).1)]) (σ1 := { σ with objs := upd σ.objs id (some (.strIter s (pos + (Utf8.decode s pos).2))) }) hd ho hw (fun ca w ds C hf hs => ?_) h
  have hv := Qae (ds := ds) hf it
  rw [hx] at hv; simp only [Qy] at hv
  obtain ⟨b, hbb, hv⟩ := hv
  obtain ⟨b', hb', hB, hlt, hnp, hnm, h1⟩ := hs.obj _ _ hb
  obtain rfl : b = b' := by rw [hbb] at hb'; exact Option.some.inj hb'
  simp only [Qjz] at h1
  have hT : QcW w { w with heap := w.heap.setIfInBounds b (.stringIter s (pos + (Utf8.decode s pos).2)) } b (.stringIter s (pos + (Utf8.decode s pos).2)) := by
    refine ⟨rfl, rfl, rfl, by simp, ?_, ?_⟩
    · simp [Array.getElem?_setIfInBounds, hlt]
    · intro k hk; simp [Array.getElem?_setIfInBounds]; intro e; exact absurd e.symm hk
  have hno : ∀ c2 e2, w.heap[b]? = some (.cells c2 e2) → ∃ c' e', Obj.stringIter s (pos + (Utf8.decode s pos).2) = .cells c' e' ∧ c'.size = c2.size := fun _ _ q => by rw [h1] at q; cases q
  obtain ⟨hst, hS⟩ := hs.turn (o' := .strIter s (pos + (Utf8.decode s pos).2)) hb hbb hT hno (by simp only [Qjz]; exact hT.at_)
  have hr : (execOp (Act.eval ⟨ca, ds⟩) o).run P w = .ok (.value (.tuple #[.bool true, .int .i64 pos, .int .i32 (Utf8.decode s pos).1])) { w with heap := w.heap.setIfInBounds b (.stringIter s (pos + (Utf8.decode s pos).2)) } := by
    simp only [execOp, hop, hv, Sem.run_bind, Instr.next, getObj, setObj, Sem.run, h1, Result.andThen, hp, if_true]
    simp [goInt, Sem.run, h1]
  unfold Upon; rw [hr]
  exact ⟨C, .refl C, hst, by simp only [Qy]; exact ⟨[.bool true, .int .i64 pos, .int .i32 (Utf8.decode s pos).1], rfl, by simp only [QP, Qy]; exact ⟨trivial, trivial, trivial, trivial⟩⟩, ⟨hS.lo, hS.below, hS.bsize, hS.pB, hS.mB, hS.psup, hS.msup, hS.psub, hS.msub, hS.obj, hS.inj, hS.tok, hS.tinj, hS.tobj, fun i hi => hS.fresh i hi.1⟩⟩
theorem Rg.overS {it : Operand} {id pos : Nat} {s : ByteArray} (hd : Q8 n ops = true) (ho : ops[i]? = some o) (hw : Qo ops a o.guard = some true) (hop : o.op = .next it true) (hx : eval a it = .ptr id 0) (hb : σ.objs id = some (.strIter s pos)) (hp : ¬ pos < s.size)
    (h : Rg P E n ops K rest (QN a o.dst (.tuple [.lit (.bool false)])) { σ with n := σ.n + 1 }) : Rg P E n ops K (i :: rest) a σ := by
  refine Rg.upon (d := .tuple [.lit (.bool false)]) (σ1 := σ) hd ho hw (fun ca w ds C hf hs => ?_) h
  have hv := Qae (ds := ds) hf it
  rw [hx] at hv; simp only [Qy] at hv
  obtain ⟨b, hbb, hv⟩ := hv
  obtain ⟨b', hb', hB, hlt, hnp, hnm, h1⟩ := hs.obj _ _ hb
  obtain rfl : b = b' := by rw [hbb] at hb'; exact Option.some.inj hb'
  simp only [Qjz] at h1
  have hr : (execOp (Act.eval ⟨ca, ds⟩) o).run P w = .ok (.value (.tuple #[.bool false])) w := by
    simp only [execOp, hop, hv, Sem.run_bind, Instr.next, getObj, setObj, Sem.run, h1, Result.andThen, hp, if_false]
    simp [goInt, Sem.run, h1]
  unfold Upon; rw [hr]
  refine ⟨C, .refl C, .refl C w, by simp only [Qy]; exact ⟨[.bool false], rfl, by simp only [QP, Qy]; exact ⟨trivial, trivial⟩⟩, ?_⟩
  exact ⟨hs.lo, hs.below, hs.bsize, hs.pB, hs.mB, hs.psup, hs.msup, hs.psub, hs.msub, hs.obj, hs.inj, hs.tok, hs.tinj, hs.tobj, fun i hi => hs.fresh i hi.1⟩
end Go.FA
namespace Go.Proofs.Yt
open Go Go.FA Go.Proofs Go.RowKit
set_option maxRecDepth 100000
section
attribute [local simp] QF QZ Qo QJ own Qm dop QN eval Qr Qn Ex.then Ex.inBlock upd QV Tag.isNN Qp intCmp Qv Qx TyI.agg Qa Qu Qg Qs QX QA QD mapOf QQ QC Qq Qi Qj QI DV.cells Qt Qk QE QK rowsOf QL Qd Qe Qe.go Qz QB Qc goInt
theorem decode_big (s : ByteArray) (i : Nat) (h : i < s.size) (hb : 128 ≤ (s[i]'h).toNat) : 128 ≤ (Utf8.decode s i).1 := by
  have e : s.get! (i + 0) = s[i]'h := by
    show s.get! i = _
    simp [ByteArray.get!, getElem!_pos, h]
    rfl
  simp only [Utf8.decode, e, Utf8.runeError]
  rw [if_neg (by omega)]
  repeat' split
  all_goals (try simp only [Bool.and_eq_true, decide_eq_true_eq, ge_iff_le] at *; try omega)
theorem QeB (s : ByteArray) (i : Nat) (h : i < s.size) (hb : (s[i]'h).toNat < 128) : Utf8.decode s i = ((s[i]'h).toNat, 1) := decode_ascii s i h hb
def s227 : Sp := sp (QM Enc.str) Enc.bool (fun s => if s.size ≤ lim then some (QcA s) else none)
set_option maxHeartbeats 2000000 in
theorem c227 : Qb Tryz.prog 227 s227 := by
  refine Qb.of_sp (T := Qf []) Tryz.func227 rfl (Nat.le_of_ble_eq_true rfl) fun E s y hy => ?_
  split at hy
  case isFalse => cases hy
  next hlim =>
  cases hy
  unfold lim at hlim
  have tT := Q9 (P := Tryz.prog)
  generalize Qf [] = T at *
  have fin : ∀ (a : Nat → DV) (σ : St), a 2 = .lit (.bool (QcA s)) → Q3 Tryz.prog Tryz.f227.results Enc.bool (QcA s) Ex.ret a σ := by
    intro a σ h2
    refine ⟨.inr rfl, .lit (.bool (QcA s)), ?_, by simp [Q3, Qh, QW, frz, Q2, Q0, Enc.bool]⟩
    show Qh Tryz.prog σ a [ResultVar.tmp 2] = _
    simp [Qh, QW, h2]
  refine Dwp.step tT rfl fun K hK => ?_
  simp [init, QM, Ql.one, Enc.str]
  refine hK _ _ ?_ rfl; clear hK K
  refine Dwp.seq ?_
  refine Dwp.step tT rfl fun K hK => ?_
  simp [init, ty9]
  refine hK _ _ ?_ rfl; clear hK K
  by_cases hbig : 200 < s.size
  · have hbig' : (200 : Int) < (s.size : Int) := by omega
    refine Dwp.condT (by simp [eval, upd, hbig']) ?_
    refine Dwp.step tT rfl fun K hK => ?_
    simp
    refine hK _ _ (Dwp.ret ?_) rfl
    exact fin _ _ (by simp [upd, QcA]; omega)
  have hsmall : ¬ (200 : Int) < (s.size : Int) := by omega
  refine Dwp.condF (by simp [eval, upd, hsmall]) (Dwp.skip ?_)
  refine Dwp.seq ?_
  refine Dwp.stepH fun K hK => ?_
  show Rg _ _ _ _ K ([0] ++ (1 :: [])) _ _
  refine Rg.run tT rfl _ _ _ ?_
  simp [Q4, QaC, Qam, init]
  refine Rg.rangeS (s := s) rfl rfl rfl rfl (by kernel_rfl) (by simp [eval, upd]) ?_
  refine Rg.nil (hK _ _ ?_)
  refine Dwp.block (Dwp.loop (fun k a σ => ∃ i, i ≤ s.size ∧ k = s.size - i ∧ a 9 = .ptr 4 0 ∧ σ.objs 4 = some (.strIter s i) ∧ 5 ≤ σ.n ∧ ∀ j, j < i → QkE s j) s.size ⟨0, Nat.zero_le _, rfl, by simp [QN, upd, σ0], by simp [upd, σ0], by simp [σ0], by simp⟩ ?_)
  rintro k a σ ⟨i, hi, rfl, h9, hob, hn5, hok⟩
  by_cases hlt : i < s.size
  · have hnext : ∀ (c : Int), (Utf8.decode s i).1 = c → (128 ≤ s[i].toNat → 128 ≤ c) → (s[i].toNat < 128 → c = (s[i].toNat : Int) ∧ (Utf8.decode s i).2 = 1) →
        (QaG c = true ↔ s[i].toNat < 128 ∧ QaG (s[i].toNat : Int) = true) := by
      intro c hc h1 h2
      by_cases hb : s[i].toNat < 128
      · rw [(h2 hb).1]; simp [hb]
      · have := h1 (by omega)
        have hf : QaG c = false := by simp [QaG]; omega
        simp [hf, hb]
    obtain ⟨c, hc⟩ : ∃ c : Int, ((Utf8.decode s i).1 : Int) = c := ⟨_, rfl⟩
    obtain ⟨w, hw⟩ : ∃ w : Nat, (Utf8.decode s i).2 = w := ⟨_, rfl⟩
    have hch : QaG c = true ↔ s[i].toNat < 128 ∧ QaG (s[i].toNat : Int) = true := hnext c hc (fun h => by have := decode_big s i hlt h; omega) (fun h => by rw [QeB s i hlt h] at hc ⊢; exact ⟨hc.symm, rfl⟩)
    have hw1 : s[i].toNat < 128 → w = 1 := fun h => by rw [← hw, QeB s i hlt h]
    have hfull : QaG c = false → QcA s = false := by
      intro hf
      have : Qgf QaG s = false := by
        cases q : Qgf QaG s with
        | false => rfl
        | true =>
          have h3 := (QdZ QaG s).1 q i hlt
          by_cases hb : s[i].toNat < 128
          · rw [hch.2 ⟨hb, h3⟩] at hf; cases hf
          · have : QaG (s[i].toNat : Int) = false := by simp [QaG]; omega
            rw [this] at h3; cases h3
      simp [QcA, this]
    clear hnext
    refine Dwp.stepH fun K hK => ?_
    show Rg _ _ _ _ K (0 :: ([1] ++ [])) _ _
    refine Rg.nextS (s := s) (pos := i) rfl rfl rfl rfl (by simp [eval, h9]; try rfl) hob hlt ?_
    rw [hc, hw]
    refine Rg.run tT rfl _ _ _ ?_
    simp [Q4, QaC, Qam, init]
    refine Rg.nil (hK _ _ ?_)
    clear hK K
    refine Dwp.seq (Dwp.condT (by simp [eval, upd]) (Dwp.skip ?_))
    refine Dwp.block ?_
    refine Dwp.step tT rfl fun K hK => ?_
    simp
    refine hK _ _ ?_ rfl; clear hK K
    refine Dwp.step tT rfl fun K hK => ?_
    have good : ∀ a' σ', a' 26 = .lit (.bool false) → QaG c = true → a' 9 = .ptr 4 0 → σ'.objs 4 = some (.strIter s (i + w)) → σ'.n = σ.n + 1 + 2 → K a' σ' := by
      intro a' σ' h26 hcc h9 hob hn
      refine hK _ _ ?_ hn
      refine Dwp.condF (by simp [eval, h26]) (Dwp.skip ?_)
      obtain ⟨hb, hct⟩ := hch.1 hcc
      have hw2 := hw1 hb
      subst hw2
      refine ⟨s.size - (i + 1), by omega, i + 1, by omega, rfl, h9, hob, by simp only []; omega, fun j hj => ?_⟩
      rcases Nat.lt_succ_iff_lt_or_eq.1 hj with q | rfl
      · exact hok j q
      · exact ⟨hlt, hct⟩
    have bad : ∀ a' σ', a' 26 = .lit (.bool true) → QaG c = false → σ'.n = σ.n + 1 + 2 → K a' σ' := by
      intro a' σ' h26 hcc hn
      refine hK _ _ ?_ hn
      refine Dwp.condT (by simp [eval, h26]) ?_
      refine Dwp.step tT rfl fun K hK => ?_
      simp
      refine hK _ _ (Dwp.ret ?_) rfl
      exact fin _ _ (by simp [upd, hfull hcc])
    clear hc hw1 hfull hok hn5
    have h9' : upd (upd a 10 (DV.tuple [DV.lit (Value.bool true), DV.lit (Value.int IntKind.i64 i), DV.lit (Value.int IntKind.i32 c)])) 11 (DV.lit (Value.bool true)) 9 = .ptr 4 0 := by simp [upd, h9]
    by_cases q4 : c = 92
    · have hcf : QaG c = false := by subst q4; simp [QaG]
      clear hch good
      subst q4
      repeat' ((first | refine Qn.stepD rfl rfl ?_ | refine Qn.stepG rfl rfl rfl ?_ | refine Qn.stepN rfl rfl ?_ | refine Qn.stepGN rfl rfl rfl ?_); intro K1 hK1; simp [*, QO, Qw, QJ, dop, eval, Qr, upd, Qa, Qu, Qv, Qx, TyI.agg, Qg, Qs, Qi, Qj, QA, QX, goInt, QV, intCmp, Qp, Tag.isNN, Qc, DV.cells, Qd, Qt, Qk, ty21]; (first | (refine hK1 _ _ ?_; clear hK1 K1) | (split <;> (rename_i hsp; (try simp only [beq_iff_eq, beq_eq_false_iff_ne, ne_eq, decide_eq_true_eq, decide_eq_false_iff_not] at hsp); (try (first | have hsq := Int.not_le.2 hsp | have hsq := Int.not_lt.2 hsp | have hsq := Int.not_le.1 hsp | have hsq := Int.not_lt.1 hsp)); (try subst hsp); (try simp only [hsp])) <;> (refine hK1 _ _ ?_; clear hK1 K1))))
      refine Qn.done (bad _ _ (by simp [upd]) hcf rfl)
    by_cases q3 : c = 34
    · have hcf : QaG c = false := by subst q3; simp [QaG]
      clear hch good
      subst q3
      repeat' ((first | refine Qn.stepD rfl rfl ?_ | refine Qn.stepG rfl rfl rfl ?_ | refine Qn.stepN rfl rfl ?_ | refine Qn.stepGN rfl rfl rfl ?_); intro K1 hK1; simp [*, QO, Qw, QJ, dop, eval, Qr, upd, Qa, Qu, Qv, Qx, TyI.agg, Qg, Qs, Qi, Qj, QA, QX, goInt, QV, intCmp, Qp, Tag.isNN, Qc, DV.cells, Qd, Qt, Qk, ty21]; (first | (refine hK1 _ _ ?_; clear hK1 K1) | (split <;> (rename_i hsp; (try simp only [beq_iff_eq, beq_eq_false_iff_ne, ne_eq, decide_eq_true_eq, decide_eq_false_iff_not] at hsp); (try (first | have hsq := Int.not_le.2 hsp | have hsq := Int.not_lt.2 hsp | have hsq := Int.not_le.1 hsp | have hsq := Int.not_lt.1 hsp)); (try subst hsp); (try simp only [hsp])) <;> (refine hK1 _ _ ?_; clear hK1 K1))))
      refine Qn.done (bad _ _ (by simp [upd]) hcf rfl)
    clear hch
    repeat' ((first | refine Qn.stepD rfl rfl ?_ | refine Qn.stepG rfl rfl rfl ?_ | refine Qn.stepN rfl rfl ?_ | refine Qn.stepGN rfl rfl rfl ?_); intro K1 hK1; simp [*, QO, Qw, QJ, dop, eval, Qr, upd, Qa, Qu, Qv, Qx, TyI.agg, Qg, Qs, Qi, Qj, QA, QX, goInt, QV, intCmp, Qp, Tag.isNN, Qc, DV.cells, Qd, Qt, Qk, ty21]; (first | (refine hK1 _ _ ?_; clear hK1 K1) | (split <;> (rename_i hsp; (try simp only [beq_iff_eq, beq_eq_false_iff_ne, ne_eq, decide_eq_true_eq, decide_eq_false_iff_not] at hsp); (try (first | have hsq := Int.not_le.2 hsp | have hsq := Int.not_lt.2 hsp | have hsq := Int.not_le.1 hsp | have hsq := Int.not_lt.1 hsp)); (try subst hsp); (try simp only [hsp])) <;> (refine hK1 _ _ ?_; clear hK1 K1))))
    · refine Qn.done (good _ _ (by simp [upd, q4]) (by simp [QaG, q3, q4]; omega) (by simp [upd, h9]) (by simp [upd]) rfl)
    · refine Qn.done (bad _ _ (by simp [upd]) (by simp [QaG, q3, q4]; omega) rfl)
    · refine Qn.done (bad _ _ (by simp [upd]) (by simp [QaG, q3, q4]; omega) rfl)
  · refine Dwp.stepH fun K hK => ?_
    show Rg _ _ _ _ K (0 :: ([1] ++ [])) _ _
    refine Rg.overS (s := s) (pos := i) rfl rfl rfl rfl (by simp [eval, h9]; try rfl) hob hlt ?_
    refine Rg.run tT rfl _ _ _ ?_
    simp [Q4, QaC, Qam, init]
    refine Rg.nil (hK _ _ ?_)
    clear hK K
    refine Dwp.seq (Dwp.condF (by simp [eval, upd]) (Dwp.exit ?_))
    have hall : Qgf QaG s = true := (QdZ QaG s).2 fun j h => (hok j (by omega)).2
    refine Dwp.step tT rfl fun K hK => ?_
    simp
    refine hK _ _ (Dwp.ret ?_) rfl
    exact fin _ _ (by simp [upd, QcA, hall]; omega)
theorem e227 : Go.FA.Good Tryz.prog (227, s227) := ⟨c227, Tryz.f227, _, Tryz.func227, rfl, by decide⟩
theorem call227 (T : Tab) (hT : T 227 = some s227) (s : ByteArray) (h : s.size ≤ lim) : dcall T 227 [.lit (.string s)] = some (.lit (.bool (QcA s))) :=
  Qad (A := Enc.str) (B := Enc.bool) hT (if_pos h)
end
end Go.Proofs.Yt
