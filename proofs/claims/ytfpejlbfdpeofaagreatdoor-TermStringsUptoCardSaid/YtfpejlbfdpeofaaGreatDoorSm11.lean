/- Contracts of functions of the program, by a machine over abstract values; part 12. No condition beyond those of each theorem. -/
import Derived.Test.YtfpejlbfdpeofaaGreatDoorSm10
set_option linter.unusedVariables false
set_option linter.unusedSimpArgs false
namespace Go.Proofs.Yt
open Go Go.FA Go.Proofs Go.RowKit
set_option linter.unusedSimpArgs false
set_option maxRecDepth 100000
theorem set6 (a b c d e f : DV) (t : Tm) : setAt [a, b, c, d, e, f] 0 t.cells = t.cells := by cases t; simp [Tm.cells, setAt]
theorem QfU {n : Int} (h0 : -4611686018427387904 ≤ n) (h : n < 4611686018427387904) : IntKind.i64.wrap n = n := by
  simp [IntKind.wrap, IntKind.bits, IntKind.signed]; omega
def Wr (id : Nat) (s : ByteArray) (σ : St) : Prop := id < σ.n ∧ ∃ p x, σ.objs id = some (.cells 110 [p, x]) ∧ (p = .lit (.pointer none) ∨ p = .ptr id 0) ∧
  ((x = .lit (.slice none 0 0) ∧ s = ⟨#[]⟩) ∨ ∃ bid, bid < σ.n ∧ x = .live bid 1 0 s.size ∧ σ.objs bid = some (.buf 5 (bytesD s)))
def Fr (id : Nat) (σ σ' : St) : Prop := σ.n ≤ σ'.n ∧ ∀ j, j < σ.n → j ≠ id → (∀ t bs, σ.objs j ≠ some (.buf t bs)) → σ'.objs j = σ.objs j
theorem Fr.refl (id : Nat) (σ : St) : Fr id σ σ := ⟨Nat.le_refl _, fun _ _ _ _ => rfl⟩
theorem Fr.trans {id : Nat} {σ σ1 σ2 : St} (h : Fr id σ σ1) (h2 : Fr id σ1 σ2) : Fr id σ σ2 := by
  refine ⟨Nat.le_trans h.1 h2.1, fun j hj hn hb => ?_⟩
  have e := h.2 j hj hn hb
  rw [← e]
  exact h2.2 j (Nat.lt_of_lt_of_le hj h.1) hn (by rw [e]; exact hb)
theorem bytesD_len (s : ByteArray) : (bytesD s).length = s.size := by simp [bytesD]
theorem bytesD_app (s t : ByteArray) : bytesD (s ++ t) = bytesD s ++ bytesD t := by simp [bytesD]
theorem elem5 : Qw ⟨.int .u8, 1, 1, .lit (.int .u8 0)⟩ = true := by decide
theorem app_nil {τ : St} {t : ByteArray} (ht : t.size ≠ 0) (hl : t.size ≤ 16777216) : QaQ Tryz.prog τ.n τ 106 9 (.lit (.slice none 0 0)) (.lit (.string t)) = some (.live τ.n 1 0 t.size, { τ with objs := upd τ.objs τ.n (some (.buf 5 (bytesD t))) }) := by
  simp [QaQ, Qhp, ty9, ty5, elem5, ht, Qf, hl]
theorem app_live {τ : St} {sid : Nat} {s t : ByteArray} (h : τ.objs sid = some (.buf 5 (bytesD s))) (hs : sid ≠ τ.n) (ht : t.size ≠ 0) (hl : s.size + t.size ≤ 16777216) :
    QaQ Tryz.prog τ.n τ 106 9 (.live sid 1 0 s.size) (.lit (.string t)) = some (.live τ.n 1 0 (s.size + t.size), { τ with objs := upd (upd τ.objs sid none) τ.n (some (.buf 5 (bytesD s ++ bytesD t))) }) := by
  simp [QaQ, Qhp, ty9, ty5, elem5, ht, Qf, hl, h, hs, bytesD_len]
set_option maxHeartbeats 1000000 in
theorem Qgj (id : Nat) (s t : ByteArray) (σ : St) (hw : Wr id s σ) (ht : t.size ≠ 0) (hl : s.size + t.size ≤ 16777216) : HC Tryz.prog 162 [.ptr id 0, .lit (.string t)] σ (fun _ σ' => Wr id (s ++ t) σ' ∧ Fr id σ σ') := by
  obtain ⟨hid, p, x, ho, hp, hx⟩ := hw
  have tT := Q7 (P := Tryz.prog)
  refine HC.of_body (T := QF []) Tryz.func162 rfl (by decide) (Nat.le_of_ble_eq_true rfl) fun E => ?_
  refine Dwp.step tT rfl fun K hK => ?_
  simp [QB, QE, Ql, QK, own, Qm, dop, QJ, eval, Qy, QG, Ex.then, Ex.inBlock, upd, QL, Tag.isNN, Qn, intCmp, Qz, QA, TyI.agg, Qb, Qs, Qd, Qr, QM, QC, Qp, mapOf, Qx, Qo, Qe, Qk, Qg, Qu, DV.cells, Qt, Qh, Qq, Qv, rowsOf, Qw, Qf, Qa, Qa.go, Qi, Qj, Qc, goInt, init]
  refine hK _ _ ?_ rfl; clear hK K
  refine Dwp.stepH fun K hK => ?_
  show Rg _ _ _ _ K ([0] ++ (1 :: [])) _ _
  refine Rg.run tT rfl _ _ _ ?_
  simp [Qac, Qa5, Qay, QB, QE, Ql, QK, own, Qm, dop, QJ, eval, Qy, QG, Ex.then, Ex.inBlock, upd, QL, Tag.isNN, Qn, intCmp, Qz, QA, TyI.agg, Qb, Qs, Qd, Qr, QM, QC, Qp, mapOf, Qx, Qo, Qe, Qk, Qg, Qu, DV.cells, Qt, Qh, Qq, Qv, rowsOf, Qw, Qf, Qa, Qa.go, Qi, Qj, Qc, goInt, init]
  have hne : id ≠ σ.n := by omega
  refine Rg.call (xs := [.ptr id 0]) rfl rfl rfl rfl (by simp [Qk, eval, upd]) (hc262 (x := x) (p := p) (by simpa using ho) hp) ?_
  rintro d σ1 ⟨rfl, rfl⟩
  refine Rg.nil (hK _ _ ?_)
  clear hK K
  refine Dwp.stepH fun K hK => ?_
  show Rg _ _ _ _ K ([0, 1, 2, 3, 4, 5] ++ (6 :: ([7, 8, 9] ++ []))) _ _
  refine Rg.run tT rfl _ _ _ ?_
  simp [Qac, Qa5, Qay, QB, QE, Ql, QK, own, Qm, dop, QJ, eval, Qy, QG, Ex.then, Ex.inBlock, upd, QL, Tag.isNN, Qn, intCmp, Qz, QA, TyI.agg, Qb, Qs, Qd, Qr, QM, QC, Qp, mapOf, Qx, Qo, Qe, Qk, Qg, Qu, DV.cells, Qt, Qh, Qq, Qv, rowsOf, Qw, Qf, Qa, Qa.go, Qi, Qj, Qc, goInt, init, QiZ, Qhp, Qa9, Q9]
  have fin : ∀ (m : Nat) (σ' : St), σ.n ≤ m → m < σ'.n → σ.n ≤ σ'.n → σ'.objs id = some (.cells 110 [.ptr id 0, .live m 1 0 (s ++ t).size]) → σ'.objs m = some (.buf 5 (bytesD (s ++ t))) →
      (∀ j, j < σ.n → j ≠ id → (∀ t bs, σ.objs j ≠ some (.buf t bs)) → σ'.objs j = σ.objs j) → Wr id (s ++ t) σ' ∧ Fr id σ σ' :=
    fun m σ' hm h2 h3 h1 h4 h5 => ⟨⟨by omega, _, _, h1, .inr rfl, .inr ⟨m, h2, rfl, h4⟩⟩, h3, h5⟩
  have hnj : ∀ j, id ≠ σ.n + j := fun j => by omega
  have hnj' : ∀ j, ¬ σ.n + j = id := fun j => by omega
  rcases hx with ⟨rfl, rfl⟩ | ⟨bid, hb, rfl, hob⟩
  · refine Rg.appendLS rfl rfl rfl rfl (app_nil ht (Nat.le_trans (Nat.le_add_left _ _) hl)) ?_
    show Rg _ _ _ _ K ([7, 8, 9] ++ []) _ _
    refine Rg.run tT rfl _ _ _ ?_
    simp [Qac, Qa5, Qay, QB, QE, Ql, QK, own, Qm, dop, QJ, eval, Qy, QG, Ex.then, Ex.inBlock, upd, QL, Tag.isNN, Qn, intCmp, Qz, QA, TyI.agg, Qb, Qs, Qd, Qr, QM, QC, Qp, mapOf, Qx, Qo, Qe, Qk, Qg, Qu, DV.cells, Qt, Qh, Qq, Qv, rowsOf, Qw, Qf, Qa, Qa.go, Qi, Qj, Qc, goInt, init, QiZ, Qhp, Qa9, Q9, hnj, setAt]
    refine Rg.nil (hK _ _ ?_)
    clear hK K
    refine Dwp.step tT rfl fun K hK => ?_
    simp [QB, QE, Ql, QK, own, Qm, dop, QJ, eval, Qy, QG, Ex.then, Ex.inBlock, upd, QL, Tag.isNN, Qn, intCmp, Qz, QA, TyI.agg, Qb, Qs, Qd, Qr, QM, QC, Qp, mapOf, Qx, Qo, Qe, Qk, Qg, Qu, DV.cells, Qt, Qh, Qq, Qv, rowsOf, Qw, Qf, Qa, Qa.go, Qi, Qj, Qc, goInt, ty9]
    refine hK _ _ (Dwp.ret ?_) rfl
    refine ⟨.inr rfl, .tuple [.lit (.int .i64 t.size), .lit .nilIface], by show QH Tryz.prog _ _ [ResultVar.tmp 4, ResultVar.tmp 5] = _; simp [QH, QX, upd], ?_⟩
    have hee : (⟨#[]⟩ ++ t : ByteArray) = t := ByteArray.empty_append
    refine fin (σ.n + 2) _ (by omega) (by first | omega | (simp only []; omega) | (show _ < _ + 1; omega)) (by first | omega | (simp only []; omega) | (show _ < _ + 1; omega)) (by simp [upd, hee]) (by simp [upd, hee, hnj', hnj]) ?_
    intro j h1 h2 h3
    have h4 : j ≠ σ.n + 2 := by omega
    simp [upd, h2, h4]
  · have hbi : bid ≠ id := by rintro rfl; rw [ho] at hob; cases hob
    refine Rg.appendLS rfl rfl rfl rfl (app_live (τ := { n := σ.n + 2, objs := upd σ.objs id (some (.cells 110 [.ptr id 0, .live bid 1 0 s.size])), toks := σ.toks }) (by simp [upd, hob, hbi]) (by first | omega | (simp only []; omega) | (show _ < _ + 1; omega)) ht hl) ?_
    show Rg _ _ _ _ K ([7, 8, 9] ++ []) _ _
    refine Rg.run tT rfl _ _ _ ?_
    have hbi' : id ≠ bid := fun e => hbi e.symm
    simp [Qac, Qa5, Qay, QB, QE, Ql, QK, own, Qm, dop, QJ, eval, Qy, QG, Ex.then, Ex.inBlock, upd, QL, Tag.isNN, Qn, intCmp, Qz, QA, TyI.agg, Qb, Qs, Qd, Qr, QM, QC, Qp, mapOf, Qx, Qo, Qe, Qk, Qg, Qu, DV.cells, Qt, Qh, Qq, Qv, rowsOf, Qw, Qf, Qa, Qa.go, Qi, Qj, Qc, goInt, init, QiZ, Qhp, Qa9, Q9, hnj, setAt, hbi']
    refine Rg.nil (hK _ _ ?_)
    clear hK K
    refine Dwp.step tT rfl fun K hK => ?_
    simp [QB, QE, Ql, QK, own, Qm, dop, QJ, eval, Qy, QG, Ex.then, Ex.inBlock, upd, QL, Tag.isNN, Qn, intCmp, Qz, QA, TyI.agg, Qb, Qs, Qd, Qr, QM, QC, Qp, mapOf, Qx, Qo, Qe, Qk, Qg, Qu, DV.cells, Qt, Qh, Qq, Qv, rowsOf, Qw, Qf, Qa, Qa.go, Qi, Qj, Qc, goInt, ty9]
    refine hK _ _ (Dwp.ret ?_) rfl
    refine ⟨.inr rfl, .tuple [.lit (.int .i64 t.size), .lit .nilIface], by show QH Tryz.prog _ _ [ResultVar.tmp 4, ResultVar.tmp 5] = _; simp [QH, QX, upd], ?_⟩
    refine fin (σ.n + 2) _ (by omega) (by first | omega | (simp only []; omega) | (show _ < _ + 1; omega)) (by first | omega | (simp only []; omega) | (show _ < _ + 1; omega)) (by simp [upd]) (by simp [upd, hnj', hnj, bytesD_app]) ?_
    intro j h1 h2 h3
    have h4 : j ≠ σ.n + 2 := by omega
    have h5 : j ≠ bid := by rintro rfl; exact h3 _ _ hob
    simp [upd, h2, h4, h5]
end Go.Proofs.Yt
namespace Go.Proofs.Yt
open Go Go.FA Go.Proofs Go.RowKit
set_option linter.unusedSimpArgs false
set_option maxRecDepth 100000
mutual
def Qij {X : Type} (st : Tm → Int → X → Bool × X) : Tm → Int → X → Bool × X
  | .mk k n z s ks r, lv, x =>
    if (st (.mk k n z s ks r) lv x).1 = true then
      if (QcF st ks (lv + 1) (st (.mk k n z s ks r) lv x).2).1 = true then QcF st r (lv + 1) (QcF st ks (lv + 1) (st (.mk k n z s ks r) lv x).2).2
      else (false, (QcF st ks (lv + 1) (st (.mk k n z s ks r) lv x).2).2)
    else (false, (st (.mk k n z s ks r) lv x).2)
def QcF {X : Type} (st : Tm → Int → X → Bool × X) : List Tm → Int → X → Bool × X
  | [], lv, x => (true, x)
  | t :: ts, lv, x => if (Qij st t lv x).1 = true then QcF st ts lv (Qij st t lv x).2 else (false, (Qij st t lv x).2)
end
structure Seer where
  X : Type
  f : FuncId
  capt : List DV
  step : Tm → Int → X → Bool × X
  inv : X → St → Prop
  out : X → St → Prop
  call : ∀ (t : Tm) (lv : Int) (x : X) (σ : St), okT t → 0 ≤ lv → lv ≤ 1099511627776 → inv x σ → HC Tryz.prog f ([] ++ [.agg t.cells, .lit (.int .i64 lv)] ++ capt) σ
    (fun e σ' => e = .lit (.bool (step t lv x).1) ∧ σ.n ≤ σ'.n ∧ ((step t lv x).1 = true → inv (step t lv x).2 σ') ∧ ((step t lv x).1 = false → out (step t lv x).2 σ'))
  mono : ∀ (x : X) (σ σ' : St), inv x σ → σ.n ≤ σ'.n → (∀ i, i < σ.n → σ'.objs i = σ.objs i) → (∀ i, i < σ.n → σ'.toks i = σ.toks i) → inv x σ'
  monoO : ∀ (x : X) (σ σ' : St), out x σ → σ.n ≤ σ'.n → (∀ i, i < σ.n → σ'.objs i = σ.objs i) → (∀ i, i < σ.n → σ'.toks i = σ.toks i) → out x σ'
namespace Seer
variable (S : Seer)
abbrev vis (t : Tm) (lv : Int) (x : S.X) := Qij S.step t lv x
abbrev viss (l : List Tm) (lv : Int) (x : S.X) := QcF S.step l lv x
def fn : DV := .func (.func S.f) [] S.capt
def H (n : Nat) : Prop := ∀ (t : Tm) (lv : Int) (x : S.X) (σ : St), tsz t ≤ n → tsz t ≤ tlim → okT t → 0 ≤ lv → lv + tsz t ≤ 1099511627776 → S.inv x σ →
  HC Tryz.prog 158 [.agg t.cells, .lit (.int .i64 lv), S.fn] σ (fun e σ' => e = .lit (.bool (S.vis t lv x).1) ∧ σ.n ≤ σ'.n ∧ ((S.vis t lv x).1 = true → S.inv (S.vis t lv x).2 σ') ∧ ((S.vis t lv x).1 = false → S.out (S.vis t lv x).2 σ'))
set_option maxHeartbeats 2000000 in
theorem h158 (n : Nat) (ih : ∀ m, m < n → S.H m) : S.H n := by
  intro t lv x σ hn hlim hok hlv0 hlv hinv
  obtain ⟨k, nn, z, s, ks, r⟩ := t
  have tT := Q7 (P := Tryz.prog)
  refine HC.of_body (T := QF []) Tryz.func158 rfl (by decide) (Nat.le_of_ble_eq_true rfl) fun E => ?_
  generalize QF [] = T at *
  have hoks : Qgk ks := by rw [okT] at hok; exact hok.2.2.2.2.1
  have hokr : Qgk r := by rw [okT] at hok; exact hok.2.2.2.2.2
  have hr : r.length ≤ tlim := by have := Qbk r; simp only [tsz] at hlim; omega
  have hks : ks.length ≤ tlim := by have := Qbk ks; simp only [tsz] at hlim; omega
  unfold tlim at hr hks
  have hcall := fun σ' hi => S.call (.mk k nn z s ks r) lv x σ' hok hlv0 (by omega) hi
  have hwl : IntKind.i64.wrap (lv + 1) = lv + 1 := QfU (by omega) (by omega)
  let R : DV → St → Prop := fun e σ' => e = .lit (.bool (S.vis (.mk k nn z s ks r) lv x).1) ∧ σ.n ≤ σ'.n ∧ ((S.vis (.mk k nn z s ks r) lv x).1 = true → S.inv (S.vis (.mk k nn z s ks r) lv x).2 σ') ∧ ((S.vis (.mk k nn z s ks r) lv x).1 = false → S.out (S.vis (.mk k nn z s ks r) lv x).2 σ')
  have fin : ∀ (b : Bool) (y : S.X) (a : Nat → DV) (σ' : St), a 6 = .lit (.bool b) → S.vis (.mk k nn z s ks r) lv x = (b, y) → σ.n ≤ σ'.n → (b = true → S.inv y σ') → (b = false → S.out y σ') → Qiu Tryz.prog Tryz.f158.results R Ex.ret a σ' := by
    intro b y a σ' h6 hv hn hi ho
    refine ⟨.inr rfl, .lit (.bool b), ?_, ?_⟩
    · show QH Tryz.prog σ' _ [ResultVar.tmp 6] = _
      simp [QH, QX, h6]
    · show _ ∧ _; rw [hv]; exact ⟨rfl, hn, hi, ho⟩
  simp only [Q5] at hcall ⊢
  obtain ⟨fv, hfv⟩ : ∃ v, v = S.fn := ⟨_, rfl⟩
  rw [← hfv]
  refine Dwp.step tT rfl fun K hK => ?_
  simp [QB, QE, Ql, QK, own, Qm, dop, QJ, eval, Qy, QG, Ex.then, Ex.inBlock, upd, QL, Tag.isNN, Qn, intCmp, Qz, QA, TyI.agg, Qb, Qs, Qd, Qr, QM, QC, Qp, mapOf, Qx, Qo, Qe, Qk, Qg, Qu, DV.cells, Qt, Qh, Qq, Qv, rowsOf, Qw, Qf, Qa, Qa.go, Qi, Qj, Qc, goInt, init, Q5]
  refine hK _ _ ?_ rfl; clear hK K
  refine Dwp.seq ?_
  refine Dwp.stepH fun K hK => ?_
  show Rg _ _ _ _ K ([0, 1, 2] ++ (3 :: ([4] ++ []))) _ _
  refine Rg.run tT rfl _ _ _ ?_
  simp [Qac, Qa5, Qay, QB, QE, Ql, QK, own, Qm, dop, QJ, eval, Qy, QG, Ex.then, Ex.inBlock, upd, QL, Tag.isNN, Qn, intCmp, Qz, QA, TyI.agg, Qb, Qs, Qd, Qr, QM, QC, Qp, mapOf, Qx, Qo, Qe, Qk, Qg, Qu, DV.cells, Qt, Qh, Qq, Qv, rowsOf, Qw, Qf, Qa, Qa.go, Qi, Qj, Qc, goInt, init, Qar]
  refine Rg.call (xs := _) rfl rfl rfl rfl (by simp [Qk, eval, upd, init, hfv, fn]) (hcall _ (S.mono x σ _ hinv (by show σ.n ≤ σ.n + 2; omega) (by simp) (by simp))) ?_
  rintro e τ ⟨rfl, hnn, hi1, ho1⟩
  have hn2 : σ.n ≤ τ.n := by have : σ.n + 2 ≤ τ.n := hnn; omega
  show Rg _ _ _ _ K ([4] ++ []) _ _
  refine Rg.run tT rfl _ _ _ ?_
  simp [Qac, Qa5, Qay, QB, QE, Ql, QK, own, Qm, dop, QJ, eval, Qy, QG, Ex.then, Ex.inBlock, upd, QL, Tag.isNN, Qn, intCmp, Qz, QA, TyI.agg, Qb, Qs, Qd, Qr, QM, QC, Qp, mapOf, Qx, Qo, Qe, Qk, Qg, Qu, DV.cells, Qt, Qh, Qq, Qv, rowsOf, Qw, Qf, Qa, Qa.go, Qi, Qj, Qc, goInt]
  refine Rg.nil (hK _ _ ?_)
  rcases hb : (S.step (.mk k nn z s ks r) lv x).1 with _ | _
  · refine Dwp.condT (by simp [eval, upd]) ?_
    refine Dwp.step tT rfl fun K hK => ?_
    simp [QB, QE, Ql, QK, own, Qm, dop, QJ, eval, Qy, QG, Ex.then, Ex.inBlock, upd, QL, Tag.isNN, Qn, intCmp, Qz, QA, TyI.agg, Qb, Qs, Qd, Qr, QM, QC, Qp, mapOf, Qx, Qo, Qe, Qk, Qg, Qu, DV.cells, Qt, Qh, Qq, Qv, rowsOf, Qw, Qf, Qa, Qa.go, Qi, Qj, Qc, goInt]
    refine hK _ _ (Dwp.ret ?_) rfl
    exact fin false _ _ _ (by simp [upd]) (by simp only [vis, Qij, hb]; rfl) (by show σ.n ≤ τ.n + 1; omega) (by simp) (fun _ => S.monoO _ _ _ (ho1 hb) (by show τ.n ≤ τ.n + 1; omega) (by simp) (by simp))
  refine Dwp.condF (by simp [eval, upd]) (Dwp.skip ?_)
  obtain ⟨x1, hx1⟩ : ∃ y, y = (S.step (.mk k nn z s ks r) lv x).2 := ⟨_, rfl⟩
  have hi1 := hi1 hb
  rw [← hx1] at hi1
  refine Dwp.seq ?_
  refine Dwp.step tT rfl fun K hK => ?_
  simp [QB, QE, Ql, QK, own, Qm, dop, QJ, eval, Qy, QG, Ex.then, Ex.inBlock, upd, QL, Tag.isNN, Qn, intCmp, Qz, QA, TyI.agg, Qb, Qs, Qd, Qr, QM, QC, Qp, mapOf, Qx, Qo, Qe, Qk, Qg, Qu, DV.cells, Qt, Qh, Qq, Qv, rowsOf, Qw, Qf, Qa, Qa.go, Qi, Qj, Qc, goInt, init, QaL, Qar, ty3]
  refine hK _ _ ?_ rfl; clear hK K
  refine Dwp.range tT ks.length (fun i a τ => a 1 = .lit (.int .i64 lv) ∧ a 2 = fv ∧ a 3 = .row [.lit (.int .i64 k), .lit (.int .i64 nn), .lit (.string z), .lit (.string s), .slice 6 .none (ks.map Tm.cells), .slice 6 .none (r.map Tm.cells)] 0 ∧ a 17 = .slice 6 .none (ks.map Tm.cells) ∧ σ.n ≤ τ.n ∧ ∃ xi, S.inv xi τ ∧ S.viss ks (lv + 1) x1 = S.viss (ks.drop i) (lv + 1) xi)
    ⟨rfl, rfl, rfl⟩ ⟨rfl, rfl, rfl⟩ ⟨rfl, rfl, rfl⟩ (by decide) (by decide) (by omega) (by simp [upd]) (by simp [upd]) ⟨by simp [upd, init], by simp [upd, init], by simp [upd], by simp [upd], by show σ.n ≤ τ.n + 4; omega, x1, S.mono _ _ _ hi1 (by show τ.n ≤ τ.n + 4; omega) (by simp) (by simp), by simp⟩ ?_ ?_
  · rintro i a τ hi hidx hlen ⟨g1, g2, g3, g17, hnn, xi, hxi, hvi⟩
    have hkd : ks.drop i = ks[i] :: ks.drop (i + 1) := List.drop_eq_getElem_cons hi
    have hmem : ks[i] ∈ ks := List.getElem_mem _
    have hsz : tsz ks[i] < n := by have := QaF ks _ hmem; simp only [tsz] at hn; omega
    have hszl : tsz ks[i] ≤ tlim := by have := QaF ks _ hmem; simp only [tsz] at hlim; omega
    have hszv : lv + 1 + tsz ks[i] ≤ 1099511627776 := by have := QaF ks _ hmem; simp only [tsz] at hlv; omega
    have hokk : okT ks[i] := Qde ks _ hoks hmem
    refine Dwp.step tT rfl fun K hK => ?_
    simp [QB, QE, Ql, QK, own, Qm, dop, QJ, eval, Qy, QG, Ex.then, Ex.inBlock, upd, QL, Tag.isNN, Qn, intCmp, Qz, QA, TyI.agg, Qb, Qs, Qd, Qr, QM, QC, Qp, mapOf, Qx, Qo, Qe, Qk, Qg, Qu, DV.cells, Qt, Qh, Qq, Qv, rowsOf, Qw, Qf, Qa, Qa.go, Qi, Qj, Qc, goInt, g17, hidx, QaL, Qar, hi, Tm.cells_len, Qah, set6]
    refine hK _ _ ?_ rfl; clear hK K
    refine Dwp.stepH fun K hK => ?_
    show Rg _ _ _ _ K ([0, 1, 2, 3] ++ (4 :: ([5] ++ []))) _ _
    refine Rg.run tT rfl _ _ _ ?_
    simp [Qac, Qa5, Qay, QB, QE, Ql, QK, own, Qm, dop, QJ, eval, Qy, QG, Ex.then, Ex.inBlock, upd, QL, Tag.isNN, Qn, intCmp, Qz, QA, TyI.agg, Qb, Qs, Qd, Qr, QM, QC, Qp, mapOf, Qx, Qo, Qe, Qk, Qg, Qu, DV.cells, Qt, Qh, Qq, Qv, rowsOf, Qw, Qf, Qa, Qa.go, Qi, Qj, Qc, goInt, g1, g2, Qar, Tm.cells_len, Qah, hwl]
    refine Rg.call (xs := [.agg ks[i].cells, .lit (.int .i64 (lv + 1)), S.fn]) rfl rfl rfl rfl (by simp [Qk, eval, upd, hfv]) (ih (tsz ks[i]) hsz ks[i] (lv + 1) xi _ (Nat.le_refl _) hszl hokk (by omega) hszv (S.mono xi τ _ hxi (by show τ.n ≤ τ.n + 1 + 4; omega) (by intro j hj; simp [upd, show j ≠ τ.n + 1 + 2 by omega]) (by simp))) ?_
    rintro e τ' ⟨rfl, gnn', gi, go⟩
    have gnn2 : τ.n + 1 + 4 ≤ τ'.n := gnn'
    show Rg _ _ _ _ K ([5] ++ []) _ _
    refine Rg.run tT rfl _ _ _ ?_
    simp [Qac, Qa5, Qay, QB, QE, Ql, QK, own, Qm, dop, QJ, eval, Qy, QG, Ex.then, Ex.inBlock, upd, QL, Tag.isNN, Qn, intCmp, Qz, QA, TyI.agg, Qb, Qs, Qd, Qr, QM, QC, Qp, mapOf, Qx, Qo, Qe, Qk, Qg, Qu, DV.cells, Qt, Qh, Qq, Qv, rowsOf, Qw, Qf, Qa, Qa.go, Qi, Qj, Qc, goInt, g1, g2]
    refine Rg.nil (hK _ _ ?_)
    rcases hbb : (S.vis ks[i] (lv + 1) xi).1 with _ | _
    · refine Dwp.condT (by simp [eval, upd]) ?_
      refine Dwp.step tT rfl fun K hK => ?_
      simp [QB, QE, Ql, QK, own, Qm, dop, QJ, eval, Qy, QG, Ex.then, Ex.inBlock, upd, QL, Tag.isNN, Qn, intCmp, Qz, QA, TyI.agg, Qb, Qs, Qd, Qr, QM, QC, Qp, mapOf, Qx, Qo, Qe, Qk, Qg, Qu, DV.cells, Qt, Qh, Qq, Qv, rowsOf, Qw, Qf, Qa, Qa.go, Qi, Qj, Qc, goInt]
      refine hK _ _ (Dwp.ret ?_) rfl
      have hf2 : S.viss ks (lv + 1) x1 = (false, (S.vis ks[i] (lv + 1) xi).2) := by rw [hvi, hkd]; simp [viss, QcF, hbb]
      exact fin false _ _ _ (by simp [upd]) (by simp only [vis, Qij, hb, if_true, ← hx1, hf2]; rfl) (by show σ.n ≤ τ'.n + 1; omega) (by simp) (fun _ => S.monoO _ _ _ (go hbb) (by show τ'.n ≤ τ'.n + 1; omega) (by simp) (by simp))
    · refine Dwp.condF (by simp [eval, upd]) (Dwp.skip ?_)
      have hf2 : S.viss ks (lv + 1) x1 = S.viss (ks.drop (i + 1)) (lv + 1) (S.vis ks[i] (lv + 1) xi).2 := by rw [hvi, hkd]; simp [viss, QcF, hbb]
      exact ⟨by simp [upd, hidx], by simp [upd, hlen], by simp [upd, g1], by simp [upd, g2], by simp [upd, g3], by simp [upd, g17], by show σ.n ≤ τ'.n + 2; omega, _, S.mono _ _ _ (gi hbb) (by show τ'.n ≤ τ'.n + 2; omega) (by simp) (by simp), hf2⟩
  rintro a τ hidx hlen ⟨g1, g2, g3, g17, hnn, x2, hi2, hvi⟩
  have hv1 : S.viss ks (lv + 1) x1 = (true, x2) := by rw [hvi, List.drop_length]; simp [viss, QcF]
  have hv2 : S.vis (.mk k nn z s ks r) lv x = S.viss r (lv + 1) x2 := by simp only [vis, Qij, hb, if_true, ← hx1, hv1]
  refine Dwp.seq ?_
  refine Dwp.step tT rfl fun K hK => ?_
  simp [QB, QE, Ql, QK, own, Qm, dop, QJ, eval, Qy, QG, Ex.then, Ex.inBlock, upd, QL, Tag.isNN, Qn, intCmp, Qz, QA, TyI.agg, Qb, Qs, Qd, Qr, QM, QC, Qp, mapOf, Qx, Qo, Qe, Qk, Qg, Qu, DV.cells, Qt, Qh, Qq, Qv, rowsOf, Qw, Qf, Qa, Qa.go, Qi, Qj, Qc, goInt, g3, QaL, Qar, ty3]
  refine hK _ _ ?_ rfl; clear hK K
  refine Dwp.range tT r.length (fun i a τ => a 1 = .lit (.int .i64 lv) ∧ a 2 = fv ∧ a 31 = .slice 6 .none (r.map Tm.cells) ∧ σ.n ≤ τ.n ∧ ∃ xi, S.inv xi τ ∧ S.viss r (lv + 1) x2 = S.viss (r.drop i) (lv + 1) xi)
    ⟨rfl, rfl, rfl⟩ ⟨rfl, rfl, rfl⟩ ⟨rfl, rfl, rfl⟩ (by decide) (by decide) (by omega) (by simp [upd]) (by simp [upd]) ⟨by simp [upd, g1], by simp [upd, g2], by simp [upd], by show σ.n ≤ τ.n + 1 + 4; omega, x2, S.mono _ _ _ hi2 (by show τ.n ≤ τ.n + 1 + 4; omega) (by simp) (by simp), by simp⟩ ?_ ?_
  · rintro i a τ hi hidx hlen ⟨g1, g2, g17, hnn, xi, hxi, hvi⟩
    have hkd : r.drop i = r[i] :: r.drop (i + 1) := List.drop_eq_getElem_cons hi
    have hmem : r[i] ∈ r := List.getElem_mem _
    have hsz : tsz r[i] < n := by have := QaF r _ hmem; simp only [tsz] at hn; omega
    have hszl : tsz r[i] ≤ tlim := by have := QaF r _ hmem; simp only [tsz] at hlim; omega
    have hszv : lv + 1 + tsz r[i] ≤ 1099511627776 := by have := QaF r _ hmem; simp only [tsz] at hlv; omega
    have hokk : okT r[i] := Qde r _ hokr hmem
    refine Dwp.step tT rfl fun K hK => ?_
    simp [QB, QE, Ql, QK, own, Qm, dop, QJ, eval, Qy, QG, Ex.then, Ex.inBlock, upd, QL, Tag.isNN, Qn, intCmp, Qz, QA, TyI.agg, Qb, Qs, Qd, Qr, QM, QC, Qp, mapOf, Qx, Qo, Qe, Qk, Qg, Qu, DV.cells, Qt, Qh, Qq, Qv, rowsOf, Qw, Qf, Qa, Qa.go, Qi, Qj, Qc, goInt, g17, hidx, QaL, Qar, hi, Tm.cells_len, Qah, set6]
    refine hK _ _ ?_ rfl; clear hK K
    refine Dwp.stepH fun K hK => ?_
    show Rg _ _ _ _ K ([0, 1, 2, 3] ++ (4 :: ([5] ++ []))) _ _
    refine Rg.run tT rfl _ _ _ ?_
    simp [Qac, Qa5, Qay, QB, QE, Ql, QK, own, Qm, dop, QJ, eval, Qy, QG, Ex.then, Ex.inBlock, upd, QL, Tag.isNN, Qn, intCmp, Qz, QA, TyI.agg, Qb, Qs, Qd, Qr, QM, QC, Qp, mapOf, Qx, Qo, Qe, Qk, Qg, Qu, DV.cells, Qt, Qh, Qq, Qv, rowsOf, Qw, Qf, Qa, Qa.go, Qi, Qj, Qc, goInt, g1, g2, Qar, Tm.cells_len, Qah, hwl]
    refine Rg.call (xs := [.agg r[i].cells, .lit (.int .i64 (lv + 1)), S.fn]) rfl rfl rfl rfl (by simp [Qk, eval, upd, hfv]) (ih (tsz r[i]) hsz r[i] (lv + 1) xi _ (Nat.le_refl _) hszl hokk (by omega) hszv (S.mono xi τ _ hxi (by show τ.n ≤ τ.n + 1 + 4; omega) (by intro j hj; simp [upd, show j ≠ τ.n + 1 + 2 by omega]) (by simp))) ?_
    rintro e τ' ⟨rfl, gnn', gi, go⟩
    have gnn2 : τ.n + 1 + 4 ≤ τ'.n := gnn'
    show Rg _ _ _ _ K ([5] ++ []) _ _
    refine Rg.run tT rfl _ _ _ ?_
    simp [Qac, Qa5, Qay, QB, QE, Ql, QK, own, Qm, dop, QJ, eval, Qy, QG, Ex.then, Ex.inBlock, upd, QL, Tag.isNN, Qn, intCmp, Qz, QA, TyI.agg, Qb, Qs, Qd, Qr, QM, QC, Qp, mapOf, Qx, Qo, Qe, Qk, Qg, Qu, DV.cells, Qt, Qh, Qq, Qv, rowsOf, Qw, Qf, Qa, Qa.go, Qi, Qj, Qc, goInt, g1, g2]
    refine Rg.nil (hK _ _ ?_)
    rcases hbb : (S.vis r[i] (lv + 1) xi).1 with _ | _
    · refine Dwp.condT (by simp [eval, upd]) ?_
      refine Dwp.step tT rfl fun K hK => ?_
      simp [QB, QE, Ql, QK, own, Qm, dop, QJ, eval, Qy, QG, Ex.then, Ex.inBlock, upd, QL, Tag.isNN, Qn, intCmp, Qz, QA, TyI.agg, Qb, Qs, Qd, Qr, QM, QC, Qp, mapOf, Qx, Qo, Qe, Qk, Qg, Qu, DV.cells, Qt, Qh, Qq, Qv, rowsOf, Qw, Qf, Qa, Qa.go, Qi, Qj, Qc, goInt]
      refine hK _ _ (Dwp.ret ?_) rfl
      have hf2 : S.viss r (lv + 1) x2 = (false, (S.vis r[i] (lv + 1) xi).2) := by rw [hvi, hkd]; simp [viss, QcF, hbb]
      exact fin false _ _ _ (by simp [upd]) (by rw [hv2, hf2]) (by show σ.n ≤ τ'.n + 1; omega) (by simp) (fun _ => S.monoO _ _ _ (go hbb) (by show τ'.n ≤ τ'.n + 1; omega) (by simp) (by simp))
    · refine Dwp.condF (by simp [eval, upd]) (Dwp.skip ?_)
      have hf2 : S.viss r (lv + 1) x2 = S.viss (r.drop (i + 1)) (lv + 1) (S.vis r[i] (lv + 1) xi).2 := by rw [hvi, hkd]; simp [viss, QcF, hbb]
      exact ⟨by simp [upd, hidx], by simp [upd, hlen], by simp [upd, g1], by simp [upd, g2], by simp [upd, g17], by show σ.n ≤ τ'.n + 2; omega, _, S.mono _ _ _ (gi hbb) (by show τ'.n ≤ τ'.n + 2; omega) (by simp) (by simp), hf2⟩
  rintro a τ hidx hlen ⟨g1, g2, g17, hnn, x3, hi3, hvi⟩
  have hv3 : S.viss r (lv + 1) x2 = (true, x3) := by rw [hvi, List.drop_length]; simp [viss, QcF]
  refine Dwp.step tT rfl fun K hK => ?_
  simp [QB, QE, Ql, QK, own, Qm, dop, QJ, eval, Qy, QG, Ex.then, Ex.inBlock, upd, QL, Tag.isNN, Qn, intCmp, Qz, QA, TyI.agg, Qb, Qs, Qd, Qr, QM, QC, Qp, mapOf, Qx, Qo, Qe, Qk, Qg, Qu, DV.cells, Qt, Qh, Qq, Qv, rowsOf, Qw, Qf, Qa, Qa.go, Qi, Qj, Qc, goInt]
  refine hK _ _ (Dwp.ret ?_) rfl
  exact fin true x3 _ _ (by simp [upd]) (by rw [hv2, hv3]) (by show σ.n ≤ τ.n + 1 + 1; omega) (fun _ => S.mono _ _ _ hi3 (by show τ.n ≤ τ.n + 1 + 1; omega) (by simp) (by simp)) (by simp)
theorem hAll : ∀ n, S.H n := fun n => Nat.strongRecOn n fun n ih => S.h158 n ih
end Seer
end Go.Proofs.Yt
namespace Go.Proofs.Yt
open Go Go.FA Go.Proofs Go.RowKit
set_option linter.unusedSimpArgs false
set_option maxRecDepth 100000
def Qfe : Tm → Bool | .mk _ _ _ _ ks r => ks.isEmpty && r.isEmpty
def s226 : Sp := sp (QS Enc.tm) Enc.bool (fun t => some (Qfe t))
theorem c226 : QD Tryz.prog 226 s226 := by
  refine QD.of_sp (T := QF []) Tryz.func226 rfl (Nat.le_of_ble_eq_true rfl) fun E t y hy => ?_
  obtain ⟨k, nn, x, s, ks, r⟩ := t
  cases hy
  have tT := Q7 (P := Tryz.prog)
  generalize QF [] = T at *
  simp only [QS, QI.one, tmC, Q5]
  refine Dwp.step tT rfl fun K hK => ?_
  simp [QB, QE, Ql, QK, own, Qm, dop, QJ, eval, Qy, QG, Ex.then, Ex.inBlock, upd, QL, Tag.isNN, Qn, intCmp, Qz, QA, TyI.agg, Qb, Qs, Qd, Qr, QM, QC, Qp, mapOf, Qx, Qo, Qe, Qk, Qg, Qu, DV.cells, Qt, Qh, Qq, Qv, rowsOf, Qw, Qf, Qa, Qa.go, Qi, Qj, Qc, goInt, init, Q5]
  refine hK _ _ ?_ rfl; clear hK K
  refine Dwp.step tT rfl fun K hK => ?_
  repeat' ((first | refine QG.stepD rfl rfl ?_ | refine QG.stepG rfl rfl rfl ?_ | refine QG.stepN rfl rfl ?_ | refine QG.stepGN rfl rfl rfl ?_); intro K1 hK1; simp [*, QW, QO, QK, dop, eval, Qy, upd, Qb, Qs, Qz, QA, TyI.agg, Qd, Qr, Qk, Qg, QC, QM, goInt, QL, intCmp, Qn, Tag.isNN, Qc, DV.cells, Qf, Qt, Qh, init, Qbp, ty3, ty9, QaL, Qar, Q5, QjE]; (first | (refine hK1 _ _ ?_; clear hK1 K1) | (split <;> (rename_i hsp; (try simp only [beq_iff_eq, beq_eq_false_iff_ne, ne_eq, decide_eq_true_eq, decide_eq_false_iff_not] at hsp); (try (first | have hsq := Int.not_le.2 hsp | have hsq := Int.not_lt.2 hsp | have hsq := Int.not_le.1 hsp | have hsq := Int.not_lt.1 hsp)); (try subst hsp); (try simp only [hsp])) <;> (refine hK1 _ _ ?_; clear hK1 K1))))
  all_goals refine QG.done (hK _ _ (Dwp.ret ?_) rfl)
  all_goals refine QaR Tryz.func226 rfl _ ?_
  all_goals simp [upd, Qfe, *]
theorem e226 : Go.FA.Good Tryz.prog (226, s226) := ⟨c226, Tryz.f226, _, Tryz.func226, rfl, by decide⟩
theorem call226 (T : Tab) (hT : T 226 = some s226) (t : Tm) : dcall T 226 [.agg t.cells] = some (.lit (.bool (Qfe t))) :=
  QaN (A := Enc.tm) (B := Enc.bool) hT rfl
def Qhq (s : ByteArray) : Bool := decide (s = ⟨#[95]⟩) || decide (s = ⟨#[36]⟩)
def s178 : Sp := sp (QS Enc.str) Enc.bool (fun s => some (Qhq s))
theorem c178 : QD Tryz.prog 178 s178 := by
  refine QD.of_sp (T := QF []) Tryz.func178 rfl (Nat.le_of_ble_eq_true rfl) fun E s y hy => ?_
  cases hy
  have tT := Q7 (P := Tryz.prog)
  generalize QF [] = T at *
  refine Dwp.step tT rfl fun K hK => ?_
  simp [QB, QE, Ql, QK, own, Qm, dop, QJ, eval, Qy, QG, Ex.then, Ex.inBlock, upd, QL, Tag.isNN, Qn, intCmp, Qz, QA, TyI.agg, Qb, Qs, Qd, Qr, QM, QC, Qp, mapOf, Qx, Qo, Qe, Qk, Qg, Qu, DV.cells, Qt, Qh, Qq, Qv, rowsOf, Qw, Qf, Qa, Qa.go, Qi, Qj, Qc, goInt, init, QS, QI.one, Enc.str]
  refine hK _ _ ?_ rfl; clear hK K
  refine Dwp.step tT rfl fun K hK => ?_
  repeat' ((first | refine QG.stepD rfl rfl ?_ | refine QG.stepG rfl rfl rfl ?_ | refine QG.stepN rfl rfl ?_ | refine QG.stepGN rfl rfl rfl ?_); intro K1 hK1; simp [*, QW, QO, QK, dop, eval, Qy, upd, Qb, Qs, Qz, QA, TyI.agg, Qd, Qr, Qk, Qg, QC, QM, goInt, QL, intCmp, Qn, Tag.isNN, Qc, DV.cells, Qf, Qt, Qh, init, ty9]; (first | (refine hK1 _ _ ?_; clear hK1 K1) | (split <;> (rename_i hsp; (try simp only [beq_iff_eq, beq_eq_false_iff_ne, ne_eq, decide_eq_true_eq, decide_eq_false_iff_not] at hsp); (try (first | have hsq := Int.not_le.2 hsp | have hsq := Int.not_lt.2 hsp | have hsq := Int.not_le.1 hsp | have hsq := Int.not_lt.1 hsp)); (try subst hsp); (try simp only [hsp])) <;> (refine hK1 _ _ ?_; clear hK1 K1))))
  all_goals refine QG.done (hK _ _ (Dwp.ret ?_) rfl)
  all_goals refine QaR Tryz.func178 rfl _ ?_
  all_goals simp [upd, Qhq, *]
theorem e178 : Go.FA.Good Tryz.prog (178, s178) := ⟨c178, Tryz.f178, _, Tryz.func178, rfl, by decide⟩
theorem Qjr (T : Tab) (hT : T 178 = some s178) (s : ByteArray) : dcall T 178 [.lit (.string s)] = some (.lit (.bool (Qhq s))) :=
  QaN (A := Enc.str) (B := Enc.bool) hT rfl
def Qjy (x s : ByteArray) : Bool := if Qhq x = true then decide (s = ⟨#[65, 110, 121]⟩) else Q3 x && Q3 s
def s230 : Sp := sp (QR Enc.str Enc.str) Enc.bool (fun x => some (Qjy x.1 x.2))
theorem c230 : QD Tryz.prog 230 s230 := by
  refine QD.of_sp (T := QF [(178, s178), (105, s105)]) Tryz.func230 rfl (Nat.le_of_ble_eq_true rfl) fun E xx y hy => ?_
  obtain ⟨x, s⟩ := xx
  cases hy
  have tT : QP Tryz.prog (QF [(178, s178), (105, s105)]) := .cons e178 (.cons QjY .nil)
  have g1 := Qjr (QF [(178, s178), (105, s105)]) rfl x
  have g2 := QbV (QF [(178, s178), (105, s105)]) rfl x
  have g3 := QbV (QF [(178, s178), (105, s105)]) rfl s
  generalize QF [(178, s178), (105, s105)] = T at *
  refine Dwp.step tT rfl fun K hK => ?_
  simp [QB, QE, Ql, QK, own, Qm, dop, QJ, eval, Qy, QG, Ex.then, Ex.inBlock, upd, QL, Tag.isNN, Qn, intCmp, Qz, QA, TyI.agg, Qb, Qs, Qd, Qr, QM, QC, Qp, mapOf, Qx, Qo, Qe, Qk, Qg, Qu, DV.cells, Qt, Qh, Qq, Qv, rowsOf, Qw, Qf, Qa, Qa.go, Qi, Qj, Qc, goInt, init, QR, QI.one, QI.and, Enc.str]
  refine hK _ _ ?_ rfl; clear hK K
  refine Dwp.seq ?_
  refine Dwp.step tT rfl fun K hK => ?_
  rcases hu : Qhq x with _ | _
  · simp [QB, QE, Ql, QK, own, Qm, dop, QJ, eval, Qy, QG, Ex.then, Ex.inBlock, upd, QL, Tag.isNN, Qn, intCmp, Qz, QA, TyI.agg, Qb, Qs, Qd, Qr, QM, QC, Qp, mapOf, Qx, Qo, Qe, Qk, Qg, Qu, DV.cells, Qt, Qh, Qq, Qv, rowsOf, Qw, Qf, Qa, Qa.go, Qi, Qj, Qc, goInt, init, g1, hu]
    refine hK _ _ ?_ rfl; clear hK K
    refine Dwp.condF (by simp [eval, upd]) (Dwp.skip ?_)
    refine Dwp.step tT rfl fun K hK => ?_
    repeat' ((first | refine QG.stepD rfl rfl ?_ | refine QG.stepG rfl rfl rfl ?_ | refine QG.stepN rfl rfl ?_ | refine QG.stepGN rfl rfl rfl ?_); intro K1 hK1; simp [*, QW, QO, QK, dop, eval, Qy, upd, Qb, Qs, Qz, QA, TyI.agg, Qd, Qr, Qk, Qg, QC, QM, goInt, QL, intCmp, Qn, Tag.isNN, Qc, DV.cells, Qf, Qt, Qh, init, ty9, Qm]; (first | (refine hK1 _ _ ?_; clear hK1 K1) | (split <;> (rename_i hsp; (try simp only [beq_iff_eq, beq_eq_false_iff_ne, ne_eq, decide_eq_true_eq, decide_eq_false_iff_not] at hsp); (try (first | have hsq := Int.not_le.2 hsp | have hsq := Int.not_lt.2 hsp | have hsq := Int.not_le.1 hsp | have hsq := Int.not_lt.1 hsp)); (try subst hsp); (try simp only [hsp])) <;> (refine hK1 _ _ ?_; clear hK1 K1))))
    all_goals refine QG.done (hK _ _ (Dwp.ret ?_) rfl)
    all_goals refine QaR Tryz.func230 rfl _ ?_
    all_goals simp [upd, Qjy, *]
  · simp [QB, QE, Ql, QK, own, Qm, dop, QJ, eval, Qy, QG, Ex.then, Ex.inBlock, upd, QL, Tag.isNN, Qn, intCmp, Qz, QA, TyI.agg, Qb, Qs, Qd, Qr, QM, QC, Qp, mapOf, Qx, Qo, Qe, Qk, Qg, Qu, DV.cells, Qt, Qh, Qq, Qv, rowsOf, Qw, Qf, Qa, Qa.go, Qi, Qj, Qc, goInt, init, g1, hu]
    refine hK _ _ ?_ rfl; clear hK K
    refine Dwp.condT (by simp [eval, upd]) ?_
    refine Dwp.step tT rfl fun K hK => ?_
    simp [QB, QE, Ql, QK, own, Qm, dop, QJ, eval, Qy, QG, Ex.then, Ex.inBlock, upd, QL, Tag.isNN, Qn, intCmp, Qz, QA, TyI.agg, Qb, Qs, Qd, Qr, QM, QC, Qp, mapOf, Qx, Qo, Qe, Qk, Qg, Qu, DV.cells, Qt, Qh, Qq, Qv, rowsOf, Qw, Qf, Qa, Qa.go, Qi, Qj, Qc, goInt, init, ty9]
    refine hK _ _ (Dwp.ret ?_) rfl
    refine QaR Tryz.func230 rfl _ ?_
    simp [upd, Qjy, hu]
theorem e230 : Go.FA.Good Tryz.prog (230, s230) := ⟨c230, Tryz.f230, _, Tryz.func230, rfl, by decide⟩
theorem call230 (T : Tab) (hT : T 230 = some s230) (x s : ByteArray) : dcall T 230 [.lit (.string x), .lit (.string s)] = some (.lit (.bool (Qjy x s))) :=
  Qb6 (A := Enc.str) (B := Enc.str) (C := Enc.bool) hT rfl
end Go.Proofs.Yt
