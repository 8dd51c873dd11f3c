/- Contracts of functions of the program, by a machine over abstract values; part 16. No condition beyond those of each theorem. -/
import Derived.Test.YtfpejlbfdpeofaaGreatDoorSm14
import Derived.Sort.Walk0
set_option linter.unusedVariables false
set_option linter.unusedSimpArgs false
namespace Go.Proofs.Yt
open Go Go.FA Go.Proofs Go.RowKit
set_option maxRecDepth 100000
section
attribute [local simp] QF QZ Qo QJ own Qm dop QN eval Qr Qn Ex.then Ex.inBlock upd QV Tag.isNN Qp intCmp Qv Qx TyI.agg Qa Qu Qg Qs QX QA QD mapOf QQ QC Qq Qi Qj QI DV.cells Qt Qk QE QK rowsOf QL Qd Qe Qe.go Qz QB Qc goInt
def Qhs (t : Tm) (_ : Int) (x : List ByteArray) : Bool × List ByteArray := (true, if t.kind = 6 ∧ t.text ≠ ⟨#[95]⟩ then x ++ [t.text] else x)
def Qlr (id : Nat) (x : List ByteArray) (σ : St) : Prop := id < σ.n ∧ ((x = [] ∧ σ.objs id = some (.cells 22 [.lit (.slice none 0 0)])) ∨
  ∃ bid, bid < σ.n ∧ bid ≠ id ∧ σ.objs id = some (.cells 22 [.live bid 1 0 x.length]) ∧ σ.objs bid = some (.buf 9 (Qgn x)))
theorem elem9 : QL ⟨.string, 1, 16, .lit (.string ⟨#[]⟩)⟩ = true := by decide
theorem appS_nil {τ : St} {t : ByteArray} {tg : Tag} : QbF Tryz.prog τ.n τ 22 (.lit (.slice none 0 0)) (.slice 1 tg [[.lit (.string t)]]) = some (.live τ.n 1 0 1, { τ with objs := upd τ.objs τ.n (some (.buf 9 [.lit (.string t)])) }) := by
  simp [QbF, Qah, ty9, elem9, Qd, rowsOf]
theorem appS_live {τ : St} {sid : Nat} {x : List ByteArray} {t : ByteArray} {tg : Tag} (h : τ.objs sid = some (.buf 9 (Qgn x))) (hs : sid ≠ τ.n) (hl : x.length + 1 ≤ 16777216) :
    QbF Tryz.prog τ.n τ 22 (.live sid 1 0 x.length) (.slice 1 tg [[.lit (.string t)]]) = some (.live τ.n 1 0 (x.length + 1), { τ with objs := upd (upd τ.objs sid none) τ.n (some (.buf 9 (Qgn x ++ [.lit (.string t)]))) }) := by
  have e : (Qgn x).length = x.length := by simp [Qgn]
  simp [QbF, Qah, ty9, elem9, Qd, rowsOf, h, e, hs, hl]
set_option maxHeartbeats 4000000 in
theorem h93 (id : Nat) (t : Tm) (lv : Int) (x : List ByteArray) (σ : St) (hx : x.length < 16777216) (hi : Qlr id x σ) :
    HC Tryz.prog 93 [.agg t.cells, .lit (.int .i64 lv), .ptr id 0] σ (fun e σ' => e = .lit (.bool true) ∧ σ.n ≤ σ'.n ∧ Qlr id (Qhs t lv x).2 σ') := by
  obtain ⟨k, nn, z, s, ks, r⟩ := t
  have tT := Q9 (P := Tryz.prog)
  refine HC.of_body (T := Qf []) Tryz.func93 rfl (by decide) (Nat.le_of_ble_eq_true rfl) fun E => ?_
  generalize Qf [] = T at *
  obtain ⟨hid, hi⟩ := hi
  simp only [QG, Qhs, Tm.kind, Tm.text]
  have hne : ∀ j, id ≠ σ.n + j := fun j => by omega
  have fin : ∀ (y : List ByteArray) (a : Nat → DV) (σ' : St), a 5 = .lit (.bool true) → σ.n ≤ σ'.n → Qlr id y σ' → (if k = 6 ∧ z ≠ ⟨#[95]⟩ then x ++ [z] else x) = y →
      Qf2 Tryz.prog Tryz.f93.results (fun e σ' => e = .lit (.bool true) ∧ σ.n ≤ σ'.n ∧ Qlr id (if k = 6 ∧ z ≠ ⟨#[95]⟩ then x ++ [z] else x) σ') Ex.ret a σ' := by
    intro y a σ' h5 hn hv hy
    refine ⟨.inr rfl, _, ?_, rfl, hn, by rw [hy]; exact hv⟩
    show Qh Tryz.prog σ' _ [ResultVar.tmp 5] = _
    simp [Qh, QW, h5]
  refine Dwp.step tT rfl fun K hK => ?_
  simp [init, QG]
  refine hK _ _ ?_ rfl; clear hK K
  refine Dwp.seq ?_
  by_cases hc : k = 6 ∧ z ≠ ⟨#[95]⟩
  · obtain ⟨rfl, hz⟩ := hc
    refine Dwp.step tT rfl fun K hK => ?_
    repeat' ((first | refine Qn.stepD rfl rfl ?_ | refine Qn.stepG rfl rfl rfl ?_ | refine Qn.stepN rfl rfl ?_ | refine Qn.stepGN rfl rfl rfl ?_); intro K1 hK1; simp [*, QO, Qw, QJ, dop, eval, Qr, upd, Qa, Qu, Qv, Qx, TyI.agg, Qg, Qs, Qi, Qj, QA, QX, goInt, QV, intCmp, Qp, Tag.isNN, Qc, DV.cells, Qd, Qt, Qk, init, QaB, ty9, Q5, Qm, hz]; (first | (refine hK1 _ _ ?_; clear hK1 K1) | (split <;> (rename_i hsp; (try simp only [beq_iff_eq, beq_eq_false_iff_ne, ne_eq, decide_eq_true_eq, decide_eq_false_iff_not] at hsp); (try (first | have hsq := Int.not_le.2 hsp | have hsq := Int.not_lt.2 hsp | have hsq := Int.not_le.1 hsp | have hsq := Int.not_lt.1 hsp)); (try subst hsp); (try simp only [hsp])) <;> (refine hK1 _ _ ?_; clear hK1 K1))))
    refine Qn.done (hK _ _ ?_ rfl)
    clear hK K
    refine Dwp.condT (by simp [eval, upd, hz]) ?_
    refine Dwp.regH fun K hK => ?_
    have last : ∀ (y : List ByteArray) (a' : Nat → DV) (σ' : St), y = x ++ [z] → σ.n ≤ σ'.n → Qlr id y σ' → K a' σ' := by
      intro y a' σ' hy hn hv
      refine hK _ _ ?_
      clear hK K
      show Dwp _ _ _ _ _ _ _ _
      refine Dwp.step tT rfl fun K hK => ?_
      simp
      refine hK _ _ (Dwp.ret ?_) rfl
      refine fin y _ _ (by simp [upd]) (by simp only []; omega) ?_ (by rw [if_pos ⟨rfl, hz⟩, hy])
      obtain ⟨q1, q2⟩ := hv
      refine ⟨by simp only []; omega, ?_⟩
      rcases q2 with q2 | ⟨b, q3, q4, q5, q6⟩
      · exact .inl q2
      · exact .inr ⟨b, by simp only []; omega, q4, q5, q6⟩
    show Rg _ _ _ _ K ([0, 1, 2, 3] ++ (4 :: ([5] ++ []))) _ _
    refine Rg.run tT rfl _ _ _ ?_
    rcases hi with ⟨rfl, ho⟩ | ⟨bid, hb, hbi, ho, hob⟩
    · simp [Q4, QaC, Qam, init, Q5, Qah, ty9, ho]
      refine Rg.appendL rfl rfl rfl rfl appS_nil ?_
      show Rg _ _ _ _ K ([5] ++ []) _ _
      refine Rg.run tT rfl _ _ _ ?_
      have h10 : ¬ id = σ.n + 2 + 8 := by omega
      have h10' : ¬ σ.n + 2 + 8 = id := by omega
      generalize hm : σ.n + 2 + 8 = m at *
      simp [Q4, QaC, Qam, init, Qah, ho, h10, setAt]
      refine Rg.nil (last [z] _ _ (by simp) (by simp only []; omega) ⟨by simp only []; omega, .inr ⟨m, by simp only []; omega, fun e => h10 e.symm, by simp [upd], by simp [upd, h10', Qgn]⟩⟩)
    · simp [Q4, QaC, Qam, init, Q5, Qah, ty9, ho]
      refine Rg.appendL rfl rfl rfl rfl (appS_live (τ := { n := σ.n + 2 + 8, objs := σ.objs, toks := σ.toks }) hob (by simp only []; omega) (by omega)) ?_
      show Rg _ _ _ _ K ([5] ++ []) _ _
      refine Rg.run tT rfl _ _ _ ?_
      have h10 : ¬ id = σ.n + 2 + 8 := by omega
      have h10' : ¬ σ.n + 2 + 8 = id := by omega
      have hbi' : ¬ id = bid := fun e => hbi e.symm
      generalize hm : σ.n + 2 + 8 = m at *
      simp [Q4, QaC, Qam, init, Qah, ho, h10, hbi', setAt]
      refine Rg.nil (last (x ++ [z]) _ _ rfl (by simp only []; omega) ⟨by simp only []; omega, .inr ⟨m, by simp only []; omega, fun e => h10 e.symm, by simp [upd], by simp [upd, h10', Qgn]⟩⟩)
  · rcases Classical.em (k = 6) with rfl | hk
    · have hz : z = ⟨#[95]⟩ := Classical.byContradiction fun q => hc ⟨rfl, q⟩
      subst hz
      refine Dwp.step tT rfl fun K hK => ?_
      repeat' ((first | refine Qn.stepD rfl rfl ?_ | refine Qn.stepG rfl rfl rfl ?_ | refine Qn.stepN rfl rfl ?_ | refine Qn.stepGN rfl rfl rfl ?_); intro K1 hK1; simp [*, QO, Qw, QJ, dop, eval, Qr, upd, Qa, Qu, Qv, Qx, TyI.agg, Qg, Qs, Qi, Qj, QA, QX, goInt, QV, intCmp, Qp, Tag.isNN, Qc, DV.cells, Qd, Qt, Qk, init, QaB, ty9, Q5, Qm]; (first | (refine hK1 _ _ ?_; clear hK1 K1) | (split <;> (rename_i hsp; (try simp only [beq_iff_eq, beq_eq_false_iff_ne, ne_eq, decide_eq_true_eq, decide_eq_false_iff_not] at hsp); (try (first | have hsq := Int.not_le.2 hsp | have hsq := Int.not_lt.2 hsp | have hsq := Int.not_le.1 hsp | have hsq := Int.not_lt.1 hsp)); (try subst hsp); (try simp only [hsp])) <;> (refine hK1 _ _ ?_; clear hK1 K1))))
      refine Qn.done (hK _ _ ?_ rfl)
      clear hK K
      refine Dwp.condF (by simp [eval, upd]) (Dwp.skip ?_)
      show Dwp _ _ _ _ _ _ _ _
      refine Dwp.step tT rfl fun K hK => ?_
      simp
      refine hK _ _ (Dwp.ret ?_) rfl
      refine fin x _ _ (by simp [upd]) (by simp only []; omega) ⟨by simp only []; omega, ?_⟩ (if_neg hc)
      rcases hi with hi | ⟨b, q3, q4, q5, q6⟩
      · exact .inl hi
      · exact .inr ⟨b, by simp only []; omega, q4, q5, q6⟩
    · refine Dwp.step tT rfl fun K hK => ?_
      repeat' ((first | refine Qn.stepD rfl rfl ?_ | refine Qn.stepG rfl rfl rfl ?_ | refine Qn.stepN rfl rfl ?_ | refine Qn.stepGN rfl rfl rfl ?_); intro K1 hK1; simp [*, QO, Qw, QJ, dop, eval, Qr, upd, Qa, Qu, Qv, Qx, TyI.agg, Qg, Qs, Qi, Qj, QA, QX, goInt, QV, intCmp, Qp, Tag.isNN, Qc, DV.cells, Qd, Qt, Qk, init, QaB, ty9, Q5, Qm, hk]; (first | (refine hK1 _ _ ?_; clear hK1 K1) | (split <;> (rename_i hsp; (try simp only [beq_iff_eq, beq_eq_false_iff_ne, ne_eq, decide_eq_true_eq, decide_eq_false_iff_not] at hsp); (try (first | have hsq := Int.not_le.2 hsp | have hsq := Int.not_lt.2 hsp | have hsq := Int.not_le.1 hsp | have hsq := Int.not_lt.1 hsp)); (try subst hsp); (try simp only [hsp])) <;> (refine hK1 _ _ ?_; clear hK1 K1))))
      refine Qn.done (hK _ _ ?_ rfl)
      clear hK K
      refine Dwp.condF (by simp [eval, upd, hk]) (Dwp.skip ?_)
      show Dwp _ _ _ _ _ _ _ _
      refine Dwp.step tT rfl fun K hK => ?_
      simp
      refine hK _ _ (Dwp.ret ?_) rfl
      refine fin x _ _ (by simp [upd]) (by simp only []; omega) ⟨by simp only []; omega, ?_⟩ (if_neg hc)
      rcases hi with hi | ⟨b, q3, q4, q5, q6⟩
      · exact .inl hi
      · exact .inr ⟨b, by simp only []; omega, q4, q5, q6⟩
end
end Go.Proofs.Yt
namespace Go.Proofs.Yt
open Go Go.FA Go.Proofs Go.RowKit Go.Shelf
set_option maxRecDepth 100000
section
attribute [local simp] QF QZ Qo QJ own Qm dop QN eval Qr Qn Ex.then Ex.inBlock upd QV Tag.isNN Qp intCmp Qv Qx TyI.agg Qa Qu Qg Qs QX QA QD mapOf QQ QC Qq Qi Qj QI DV.cells Qt Qk QE QK rowsOf QL Qd Qe Qe.go Qz QB Qc goInt
def QjP (id : Nat) : Qk0 where
  X := List ByteArray
  f := 93
  capt := [.ptr id 0]
  step := Qhs
  cost := List.length
  most := 16777216
  grows := fun t lv x => by simp only [Qhs]; split <;> simp
  inv := Qlr id
  out := fun _ _ => True
  call := fun t lv x σ hok h1 h2 hc hi => (h93 id t lv x σ hc hi).mono fun e σ' ⟨r1, r2, r3⟩ => ⟨r1, r2, fun _ => r3, fun h => by cases h⟩
  mono := fun x σ σ' ⟨h1, h2⟩ hn ho ht => ⟨by omega, by
    rcases h2 with ⟨q1, q2⟩ | ⟨b, q3, q4, q5, q6⟩
    · exact .inl ⟨q1, by rw [ho _ h1]; exact q2⟩
    · exact .inr ⟨b, by omega, q4, by rw [ho _ h1]; exact q5, by rw [ho _ q3]; exact q6⟩⟩
  monoO := fun _ _ _ _ _ _ _ => trivial
mutual
def Qce : Tm → List ByteArray
  | .mk k n z s ks r => (if k = 6 ∧ z ≠ ⟨#[95]⟩ then [z] else []) ++ QcM ks ++ QcM r
def QcM : List Tm → List ByteArray
  | [] => []
  | t :: l => Qce t ++ QcM l
end
mutual
theorem QiZ : ∀ (t : Tm) (lv : Int) (x : List ByteArray), Qfh Qhs t lv x = (true, x ++ Qce t)
  | .mk k n z s ks r, lv, x => by
    have h : (Qhs (.mk k n z s ks r) lv x) = (true, x ++ (if k = 6 ∧ z ≠ ⟨#[95]⟩ then [z] else [])) := by
      show (true, if k = 6 ∧ z ≠ ⟨#[95]⟩ then x ++ [z] else x) = _
      by_cases hc : k = 6 ∧ z ≠ ⟨#[95]⟩
      · rw [if_pos hc, if_pos hc]
      · rw [if_neg hc, if_neg hc, List.append_nil]
    simp only [Qfh, h, QfB ks, QfB r, Qce, if_true, List.append_assoc]
theorem QfB : ∀ (l : List Tm) (lv : Int) (x : List ByteArray), Qa7 Qhs l lv x = (true, x ++ QcM l)
  | [], lv, x => by simp [Qa7, QcM]
  | t :: l, lv, x => by simp only [Qa7, QiZ t, QfB l, QcM, if_true, List.append_assoc]
end
mutual
theorem Qg9 : ∀ t : Tm, (Qce t).length ≤ tsz t
  | .mk k n z s ks r => by
    have h1 := QfO ks
    have h2 := QfO r
    simp only [Qce, tsz, List.length_append]
    split <;> simp <;> omega
theorem QfO : ∀ l : List Tm, (QcM l).length ≤ QaI l
  | [] => Nat.le_refl _
  | t :: l => by
    have h1 := Qg9 t
    have h2 := QfO l
    simp only [QcM, QaI, List.length_append]; omega
end
theorem Qhp : ∀ l : List ByteArray, (l.map fun x => [DV.lit (.string x)]).flatten = Qgn l
  | [] => rfl
  | x :: l => by
    have ih := Qhp l
    unfold Qgn at ih ⊢
    simp only [List.map_cons, List.flatten_cons, ih, List.cons_append, List.nil_append]
theorem QjM {f : FuncId} {σ : St} {v : Value} {d : DV} (hx : ∃ fn c, Tryz.prog.funcs[f]? = some fn ∧ fn.body = some c ∧ fn.name ≠ "runtime.NumGoroutine") (hd : ∀ C w, Qy C w d v)
    (h : ∀ w, Calls Tryz.prog f #[.slice none 0 0] w fun e w' => e = .returned v ∧ w' = w) : HC Tryz.prog f [.lit (.slice none 0 0)] σ (fun d' σ' => d' = d ∧ σ' = σ) := by
  refine ⟨hx, fun E C w args hl hs => ?_⟩
  match args, hl with
  | [u], hl =>
    simp only [QP, Qy] at hl
    obtain ⟨rfl, _⟩ := hl
    refine (h w).mono ?_
    rintro e w' ⟨rfl, rfl⟩
    exact ⟨_, rfl, d, σ, ⟨rfl, rfl⟩, C, .refl C, .refl C _, hd _ _, hs⟩
theorem h94n (σ : St) : HC Tryz.prog 94 [.lit (.slice none 0 0)] σ (fun d σ' => d = .lit (.tuple #[]) ∧ σ' = σ) :=
  QjM ⟨Tryz.f94, _, Tryz.func94, rfl, by decide⟩ (fun _ _ => rfl) fun w => Qib.none none 0 w
theorem h95n (σ : St) : HC Tryz.prog 95 [.lit (.slice none 0 0)] σ (fun d σ' => d = .lit (.slice none 0 0) ∧ σ' = σ) :=
  QjM ⟨Tryz.f95, _, Tryz.func95, rfl, by decide⟩ (fun _ _ => rfl) fun w => Any.slices_Compact_string_empty QjF none 0 w
def QcC (t : Tm) : List ByteArray × Int := if Qas t = true then (Qdc (QaT (Qce t)), 0) else ([], 2)
open Classical in
noncomputable def sT41 : Sp := sp (QM Enc.tm) Enc.strsErr (fun t => if okT t ∧ tsz t ≤ tlim then some (QcC t) else none)
set_option maxHeartbeats 4000000 in
theorem cT41 : Qb Tryz.prog 41 sT41 := by
  refine Qb.of_sp (T := Qf [(23, s23)]) Tryz.func41 rfl (Nat.le_of_ble_eq_true rfl) fun E t y hy => ?_
  split at hy
  case isFalse => cases hy
  next hlim =>
  obtain ⟨hok, hl⟩ := hlim
  cases hy
  have tT : QH Tryz.prog (Qf [(23, s23)]) := .cons e23 .nil
  have g := Qll (Qf [(23, s23)]) rfl t hok hl
  generalize Qf [(23, s23)] = T at *
  refine Dwp.step tT rfl fun K hK => ?_
  simp [init, QM, Ql.one, Enc.tm, Enc.agg, Ql.tm, Tm.cells_len, QT]
  refine hK _ _ ?_ rfl; clear hK K
  refine Dwp.seq ?_
  refine Dwp.step tT rfl fun K hK => ?_
  simp [init, Q5, Tm.cells_len, QT, g]
  refine hK _ _ ?_ rfl; clear hK K
  rcases hv : Qas t with _ | _
  · refine Dwp.condT (by simp [eval, upd, hv]) ?_
    refine Dwp.step tT rfl fun K hK => ?_
    simp
    refine hK _ _ (Dwp.ret ?_) rfl
    have hf : QcC t = ([], 2) := by simp [QcC, hv]
    rw [hf]
    simp [Q3, Qh, QW, frz, Q2, Q0, Ex.then, upd, Enc.strsErr, Enc.tup, QR, Ql.and, Ql.one, Enc.strs, Enc.slice, Enc.str, Enc.i64, Enc.int]
  refine Dwp.condF (by simp [eval, upd, hv]) (Dwp.skip ?_)
  show Dwp _ _ _ _ _ _ _ _
  have hf : QcC t = (Qdc (QaT (Qce t)), 0) := by simp [QcC, hv]
  rw [hf]
  refine Dwp.step tT rfl fun K hK => ?_
  simp [Qah]
  refine hK _ _ ?_ rfl
  clear hK K
  have hv0 : ∀ n', σ0.n + 6 < n' → Qlr (σ0.n + 6) [] { n := n', objs := upd σ0.objs (σ0.n + 6) (some (.cells 22 [.lit (.slice none 0 0)])), toks := σ0.toks } := fun n' h => ⟨h, .inl ⟨rfl, by simp [upd]⟩⟩
  have hne0 : σ0.n + 6 < σ0.n + 3 + 3 + 1 := by omega
  generalize σ0.n + 6 = id at *
  have hvis : (QjP id).vis t 1 ([] : List ByteArray) = (true, Qce t) := by
    show Qfh Qhs t 1 [] = _
    rw [QiZ]; rfl
  have hcost : (QjP id).cost ([] : List ByteArray) + tsz t ≤ (QjP id).most := by
    show 0 + tsz t ≤ 16777216
    unfold tlim at hl; omega
  refine Dwp.stepH fun K hK => ?_
  show Rg _ _ _ _ K ([0, 1] ++ (2 :: [])) _ _
  refine Rg.run tT rfl _ _ _ ?_
  simp [Q4, QaC, Qam, Qab, init, Q5, Tm.cells_len, QT]
  refine Rg.call (xs := [.agg t.cells, (QjP id).fn]) rfl rfl rfl rfl (by rfl) ((QjP id).h92 t ([] : List ByteArray) _ hl hok hcost (hv0 _ (by first | omega | (simp only []; omega)))) ?_
  rintro d τ ⟨_, hn1, hi1, _⟩
  have hi2 : Qlr id (Qce t) τ := by
    have := hi1 (by rw [hvis])
    rw [hvis] at this
    exact this
  clear hi1 hvis hcost hv0
  refine Rg.nil (hK _ _ ?_)
  clear hK K
  have hlen : (Qce t).length < 1099511627776 := by
    have := Qg9 t
    unfold tlim at hl; omega
  obtain ⟨hidn, hi2⟩ := hi2
  refine Dwp.stepH fun K hK => ?_
  show Rg _ _ _ _ K ([0] ++ (1 :: [])) _ _
  refine Rg.run tT rfl _ _ _ ?_
  rcases hi2 with ⟨hnil, ho⟩ | ⟨bid, hb, hbi, ho, hob⟩
  · simp [Q4, QaC, Qam, init, Qah, ho]
    refine Rg.call (xs := [.lit (.slice none 0 0)]) rfl rfl rfl rfl (by rfl) (h94n _) ?_
    rintro d τ2 ⟨rfl, rfl⟩
    refine Rg.nil (hK _ _ ?_)
    clear hK K
    refine Dwp.stepH fun K hK => ?_
    show Rg _ _ _ _ K ([0] ++ (1 :: ([2, 3] ++ []))) _ _
    refine Rg.run tT rfl _ _ _ ?_
    simp [Q4, QaC, Qam, init, Qah, ho]
    refine Rg.call (xs := [.lit (.slice none 0 0)]) rfl rfl rfl rfl (by rfl) (h95n _) ?_
    rintro d τ3 ⟨rfl, rfl⟩
    show Rg _ _ _ _ K ([2, 3] ++ []) _ _
    refine Rg.run tT rfl _ _ _ ?_
    simp [Q4, QaC, Qam]
    refine Rg.nil (hK _ _ (Dwp.ret ?_))
    rw [hnil]
    have e0 : Qdc (QaT []) = [] := by simp [Qdc, QaT, Lib.compact, Lib.compactUpTo]
    rw [e0]
    simp [Q3, Qh, QW, frz, Q2, Q0, Ex.then, upd, Enc.strsErr, Enc.tup, QR, Ql.and, Ql.one, Enc.strs, Enc.slice, Enc.str, Enc.i64, Enc.int]
  · have hbi' : ¬ id = bid := fun e => hbi e.symm
    simp [Q4, QaC, Qam, init, Qah, ho]
    refine Rg.call (xs := [.live bid 1 0 (Qce t).length]) rfl rfl rfl rfl (by rfl) (h94 bid (Qce t) _ hob hlen) ?_
    rintro d τ2 ⟨rfl, rfl⟩
    refine Rg.nil (hK _ _ ?_)
    clear hK K
    have hsl : (QaT (Qce t)).length = (Qce t).length := Qbs _
    rw [← hsl] at ho hlen
    generalize QaT (Qce t) = l at *
    refine Dwp.stepH fun K hK => ?_
    show Rg _ _ _ _ K ([0] ++ (1 :: ([2, 3] ++ []))) _ _
    refine Rg.run tT rfl _ _ _ ?_
    simp [Q4, QaC, Qam, init, Qah, ho, hbi']
    refine Rg.call (xs := [.live bid 1 0 l.length]) rfl rfl rfl rfl (by rfl) (h95 bid l _ (by simp [upd]) hlen) ?_
    rintro d τ3 ⟨rfl, rfl⟩
    show Rg _ _ _ _ K ([2, 3] ++ []) _ _
    refine Rg.run tT rfl _ _ _ ?_
    simp [Q4, QaC, Qam]
    refine Rg.nil (hK _ _ ?_)
    generalize Qdc l = l2 at *
    have hfl := Qhp l2
    refine Dwp.freezeL bid 1 (t := 9) (rows := l2.map fun x => [DV.lit (.string x)]) (fun r => if r = 2 then .slice 1 .none (l2.map fun x => [DV.lit (.string x)]) else if r = 3 then .lit (.int .i64 0) else .junk) (by simp [upd, hfl]) (by simp) ?_ (Dwp.ret ?_)
    · intro r
      by_cases h2 : r = 2
      · subst h2
        have e : l2.length = (l2.map fun x => [DV.lit (.string x)]).length := by simp
        show FrzL _ _ _ _ (.live bid 1 0 l2.length) (.slice 1 .none _)
        rw [e]
        exact .live
      · by_cases h3 : r = 3
        · subst h3
          simp [upd]
          exact .keep _
        · simp only [h2, h3, if_false]
          exact .junk _
    · refine ⟨.inr rfl, .tuple [.slice 1 .none (l2.map fun x => [DV.lit (.string x)]), .lit (.int .i64 0)], ?_, ?_⟩
      · show Qh Tryz.prog _ _ [.tmp 2, .tmp 3] = _
        simp [Qh, QW]
      · have e : ∀ τ : St, frz τ (.tuple [.slice 1 .none (l2.map fun x => [DV.lit (.string x)]), .lit (.int .i64 0)]) = Enc.strsErr.enc (l2, 0) := fun _ => rfl
        rw [e]
        exact Enc.strsErr.de (l2, 0)
theorem eT41 : Go.FA.Good Tryz.prog (41, sT41) := ⟨cT41, Tryz.f41, _, Tryz.func41, rfl, by decide⟩
end
end Go.Proofs.Yt
namespace Go.Proofs.Yt
open Go Go.FA Go.Proofs Go.RowKit
set_option maxRecDepth 100000
section
attribute [local simp] QF QZ Qo QJ own Qm dop QN eval Qr Qn Ex.then Ex.inBlock upd QV Tag.isNN Qp intCmp Qv Qx TyI.agg Qa Qu Qg Qs QX QA QD mapOf QQ QC Qq Qi Qj QI DV.cells Qt Qk QE QK rowsOf QL Qd Qe Qe.go Qz QB Qc goInt
def geS (a b : ByteArray) : Bool := !Op.bytesLess a.toList b.toList
def Qe8 (l : List ByteArray) (s : ByteArray) : Nat → Nat
  | 0 => 0
  | k + 1 => if geS (l[k]?.getD ⟨#[]⟩) s = true then Qe8 l s k else k + 1
theorem QgG (l : List ByteArray) (s : ByteArray) : ∀ k, Qe8 l s k ≤ k
  | 0 => Nat.le_refl _
  | k + 1 => by
    have := QgG l s k
    unfold Qe8; split <;> omega
def QkW (l : List ByteArray) (s : ByteArray) : List ByteArray :=
  if Qe8 l s l.length < l.length ∧ l[Qe8 l s l.length]?.getD ⟨#[]⟩ = s then l else l.take (Qe8 l s l.length) ++ (s :: l.drop (Qe8 l s l.length))
def Ow (l : List ByteArray) (d : DV) : Prop := ∃ tag : Tag, tag.owns = true ∧ d = .slice 1 tag (Qal l)
theorem Qhv (l : List ByteArray) : (Qal l).length = l.length := by simp [Qal]
theorem QhF (l : List ByteArray) (i : Nat) (h : i < l.length) : (Qal l)[i]? = some [.lit (.string (l[i]?.getD ⟨#[]⟩))] := by
  simp [Qal, h]
set_option maxHeartbeats 4000000 in
theorem h161 (l : List ByteArray) (s : ByteArray) (d : DV) (σ : St) (hd : Ow l d) (hl : l.length ≤ 16777215) :
    HC Tryz.prog 161 [d, .lit (.string s)] σ (fun d' σ' => Ow (QkW l s) d' ∧ σ.n ≤ σ'.n) := by
  obtain ⟨tag, htag, rfl⟩ := hd
  have tT := Q9 (P := Tryz.prog)
  refine HC.of_body (T := Qf []) Tryz.func161 rfl (by decide) (Nat.le_of_ble_eq_true rfl) fun E => ?_
  generalize Qf [] = T at *
  have hrl := Qhv l
  refine Dwp.step tT rfl fun K hK => ?_
  simp [init]
  refine hK _ _ ?_ rfl; clear hK K
  refine Dwp.step tT rfl fun K hK => ?_
  simp [init, Qah, Qhv]
  refine hK _ _ ?_ rfl; clear hK K
  refine Dwp.seq (Dwp.mono (Q := fun e a' τ' => e = .normal ∧ a' 0 = .slice 1 tag (Qal l) ∧ a' 1 = .lit (.string s) ∧ a' 5 = .lit (.int .i64 (Qe8 l s l.length)) ∧ σ.n ≤ τ'.n) ?_ ?_)
  · refine Dwp.block (Dwp.loop (fun q a τ => q ≤ l.length ∧ a 0 = .slice 1 tag (Qal l) ∧ a 1 = .lit (.string s) ∧ a 5 = .lit (.int .i64 q) ∧ Qe8 l s l.length = Qe8 l s q ∧ σ.n ≤ τ.n) l.length
      ⟨Nat.le_refl _, by simp [upd, init], by simp [upd, init], by simp [upd], rfl, by simp only []; omega⟩ ?_)
    rintro q a τ ⟨hq, g0, g1, g5, hc, hn⟩
    match q, hq, g5, hc with
    | 0, hq, g5, hc =>
      refine Dwp.seq ?_
      refine Dwp.step tT rfl fun K hK => ?_
      repeat' ((first | refine Qn.stepD rfl rfl ?_ | refine Qn.stepG rfl rfl rfl ?_ | refine Qn.stepN rfl rfl ?_ | refine Qn.stepGN rfl rfl rfl ?_); intro K1 hK1; simp [*, QO, Qw, QJ, dop, eval, Qr, upd, Qa, Qu, Qv, Qx, TyI.agg, Qg, Qs, Qi, Qj, QA, QX, goInt, QV, intCmp, Qp, Tag.isNN, Qc, DV.cells, Qd, Qt, Qk, g0, g1, g5, Qah, ty9, ty3, Qm]; (first | (refine hK1 _ _ ?_; clear hK1 K1) | (split <;> (rename_i hsp; (try simp only [beq_iff_eq, beq_eq_false_iff_ne, ne_eq, decide_eq_true_eq, decide_eq_false_iff_not] at hsp); (try (first | have hsq := Int.not_le.2 hsp | have hsq := Int.not_lt.2 hsp | have hsq := Int.not_le.1 hsp | have hsq := Int.not_lt.1 hsp)); (try subst hsp); (try simp only [hsp])) <;> (refine hK1 _ _ ?_; clear hK1 K1))))
      refine Qn.done (hK _ _ ?_ rfl)
      clear hK K
      refine Dwp.condF (by simp [eval, upd]) (Dwp.exit ?_)
      exact ⟨rfl, by simp [upd, g0], by simp [upd, g1], by rw [hc]; simp [upd, g5, Qe8], by simp only []; omega⟩
    | k + 1, hq, g5, hc =>
      have hk : k < l.length := by omega
      have hge : ∀ h : k < (Qal l).length, (Qal l)[k] = [.lit (.string (l[k]?.getD ⟨#[]⟩))] := fun h => by
        have := QhF l k hk
        rw [List.getElem?_eq_getElem h] at this
        exact Option.some.inj this
      have wk : IntKind.i64.wrap (k : Int) = (k : Int) := QaY (by omega) (by omega)
      have hpos : (0 : Int) < ((k + 1 : Nat) : Int) := by omega
      have hcn : Qe8 l s (k + 1) = if geS (l[k]?.getD ⟨#[]⟩) s = true then Qe8 l s k else k + 1 := rfl
      unfold geS at hcn
      generalize hx : l[k]?.getD ⟨#[]⟩ = x at *
      refine Dwp.seq ?_
      refine Dwp.step tT rfl fun K hK => ?_
      rcases hless : Op.bytesLess x.toList s.toList with _ | _
      · rw [hless] at hcn
        repeat' ((first | refine Qn.stepD rfl rfl ?_ | refine Qn.stepG rfl rfl rfl ?_ | refine Qn.stepN rfl rfl ?_ | refine Qn.stepGN rfl rfl rfl ?_); intro K1 hK1; simp [*, QO, Qw, QJ, dop, eval, Qr, upd, Qa, Qu, Qv, Qx, TyI.agg, Qg, Qs, Qi, Qj, QA, QX, goInt, QV, intCmp, Qp, Tag.isNN, Qc, DV.cells, Qd, Qt, Qk, g0, g1, g5, Qah, ty9, ty3, Qm, wk, hge, hpos, hk, hrl, hless]; (first | (refine hK1 _ _ ?_; clear hK1 K1) | (split <;> (rename_i hsp; (try simp only [beq_iff_eq, beq_eq_false_iff_ne, ne_eq, decide_eq_true_eq, decide_eq_false_iff_not] at hsp); (try (first | have hsq := Int.not_le.2 hsp | have hsq := Int.not_lt.2 hsp | have hsq := Int.not_le.1 hsp | have hsq := Int.not_lt.1 hsp)); (try subst hsp); (try simp only [hsp])) <;> (refine hK1 _ _ ?_; clear hK1 K1))))
        refine Qn.done (hK _ _ ?_ rfl)
        clear hK K
        refine Dwp.condT (by simp [eval, upd, hless]) (Dwp.skip ?_)
        show Dwp _ _ _ _ _ _ _ _
        refine Dwp.block ?_
        refine Dwp.reg tT rfl fun K hK => ?_
        simp [g5, ty3, wk]
        refine hK _ _ ?_ rfl
        exact ⟨k, by omega, by omega, by simp [upd, g0], by simp [upd, g1], by simp [upd], by rw [hc, hcn]; rfl, by simp only []; omega⟩
      · rw [hless] at hcn
        repeat' ((first | refine Qn.stepD rfl rfl ?_ | refine Qn.stepG rfl rfl rfl ?_ | refine Qn.stepN rfl rfl ?_ | refine Qn.stepGN rfl rfl rfl ?_); intro K1 hK1; simp [*, QO, Qw, QJ, dop, eval, Qr, upd, Qa, Qu, Qv, Qx, TyI.agg, Qg, Qs, Qi, Qj, QA, QX, goInt, QV, intCmp, Qp, Tag.isNN, Qc, DV.cells, Qd, Qt, Qk, g0, g1, g5, Qah, ty9, ty3, Qm, wk, hge, hpos, hk, hrl, hless]; (first | (refine hK1 _ _ ?_; clear hK1 K1) | (split <;> (rename_i hsp; (try simp only [beq_iff_eq, beq_eq_false_iff_ne, ne_eq, decide_eq_true_eq, decide_eq_false_iff_not] at hsp); (try (first | have hsq := Int.not_le.2 hsp | have hsq := Int.not_lt.2 hsp | have hsq := Int.not_le.1 hsp | have hsq := Int.not_lt.1 hsp)); (try subst hsp); (try simp only [hsp])) <;> (refine hK1 _ _ ?_; clear hK1 K1))))
        refine Qn.done (hK _ _ ?_ rfl)
        clear hK K
        refine Dwp.condF (by simp [eval, upd, hless]) (Dwp.exit ?_)
        exact ⟨rfl, by simp [upd, g0], by simp [upd, g1], by rw [hc, hcn]; simp [upd, g5], by simp only []; omega⟩
  · rintro e a τ ⟨rfl, g0, g1, g5, hn⟩
    show Dwp _ _ _ _ _ _ _ _
    have hcle := QgG l s l.length
    have hadd : QkW l s = if Qe8 l s l.length < l.length ∧ l[Qe8 l s l.length]?.getD ⟨#[]⟩ = s then l else l.take (Qe8 l s l.length) ++ (s :: l.drop (Qe8 l s l.length)) := rfl
    rw [hadd]
    generalize Qe8 l s l.length = c at *
    have fin : ∀ (y : List ByteArray) (a' : Nat → DV) (σ' : St) (d : DV), a' 4 = d → Ow y d → σ.n ≤ σ'.n → (if c < l.length ∧ l[c]?.getD ⟨#[]⟩ = s then l else l.take c ++ (s :: l.drop c)) = y →
        Qf2 Tryz.prog Tryz.f161.results (fun d' σ' => Ow (if c < l.length ∧ l[c]?.getD ⟨#[]⟩ = s then l else l.take c ++ (s :: l.drop c)) d' ∧ σ.n ≤ σ'.n) Ex.ret a' σ' := by
      intro y a' σ' d h4 ho hn2 hy
      refine ⟨.inr rfl, d, ?_, by rw [hy]; exact ho, hn2⟩
      show Qh Tryz.prog σ' _ [ResultVar.tmp 4] = _
      obtain ⟨tg, _, rfl⟩ := ho
      simp [Qh, QW, h4]
    refine Dwp.seq ?_
    have bad : ∀ (a' : Nat → DV) (σ' : St), a' 0 = .slice 1 tag (Qal l) → a' 1 = .lit (.string s) → a' 5 = .lit (.int .i64 c) → σ.n ≤ σ'.n → ¬ (c < l.length ∧ l[c]?.getD ⟨#[]⟩ = s) →
        Dwp Tryz.prog T E Tryz.f161.ntmps (match Tryz.f161.body with | some (.seq _ (.seq _ (.seq _ (.seq _ x)))) => x | _ => .skip) (Qf2 Tryz.prog Tryz.f161.results (fun d' σ' => Ow (if c < l.length ∧ l[c]?.getD ⟨#[]⟩ = s then l else l.take c ++ (s :: l.drop c)) d' ∧ σ.n ≤ σ'.n)) a' σ' := by
      intro a' σ' q0 q1 q5 hn2 hno
      have hown : (if tag.owns = true ∨ c = 0 then Tag.full else Tag.none) = .full := if_pos (.inl htag)
      have hmin : min c (Qal l).length = c := by rw [hrl]; omega
      show Dwp _ _ _ _ _ _ _ _
      refine Dwp.drawStep [.none, .none, .none, .none, .none, .none, .none, .none, .none, .tok, .tok, .none] mixed tT rfl rfl fun K hK => ?_
      have htk : List.take l.length (Qal l) = Qal l := List.take_of_length_le (by omega)
      have f1 : 1 + (l.length - c) ≤ 16777216 := by omega
      have f2 : c + (l.length - c + 1) ≤ 16777216 := by omega
      simp [QbI, touch, QaO, Qbt, setAt, q0, q1, q5, Qah, ty9, htag, hrl, hcle, htk, f1, f2]
      refine hK _ _ (Dwp.ret ?_) rfl
      refine fin (l.take c ++ (s :: l.drop c)) _ _ _ (by simp only [upd]; rfl) ⟨.tok (σ'.n + 10) 0, rfl, ?_⟩ (by simp only []; omega) (if_neg hno)
      simp [Qal]
    by_cases hcl : c < l.length
    · have hge : ∀ h : c < (Qal l).length, (Qal l)[c] = [.lit (.string (l[c]?.getD ⟨#[]⟩))] := fun h => by
        have := QhF l c hcl
        rw [List.getElem?_eq_getElem h] at this
        exact Option.some.inj this
      generalize hx : l[c]?.getD ⟨#[]⟩ = x at *
      by_cases hxs : x = s
      · have hx2 : decide (x = s) = true := decide_eq_true hxs
        refine Dwp.step tT rfl fun K hK => ?_
        repeat' ((first | refine Qn.stepD rfl rfl ?_ | refine Qn.stepG rfl rfl rfl ?_ | refine Qn.stepN rfl rfl ?_ | refine Qn.stepGN rfl rfl rfl ?_); intro K1 hK1; simp [*, QO, Qw, QJ, dop, eval, Qr, upd, Qa, Qu, Qv, Qx, TyI.agg, Qg, Qs, Qi, Qj, QA, QX, goInt, QV, intCmp, Qp, Tag.isNN, Qc, DV.cells, Qd, Qt, Qk, g0, g1, g5, Qah, ty9, ty3, Qm, hge, hcl, hrl, hx2, hxs]; (first | (refine hK1 _ _ ?_; clear hK1 K1) | (split <;> (rename_i hsp; (try simp only [beq_iff_eq, beq_eq_false_iff_ne, ne_eq, decide_eq_true_eq, decide_eq_false_iff_not] at hsp); (try (first | have hsq := Int.not_le.2 hsp | have hsq := Int.not_lt.2 hsp | have hsq := Int.not_le.1 hsp | have hsq := Int.not_lt.1 hsp)); (try subst hsp); (try simp only [hsp])) <;> (refine hK1 _ _ ?_; clear hK1 K1))))
        refine Qn.done (hK _ _ ?_ rfl)
        clear hK K
        refine Dwp.condT (by simp [eval, upd, hx2, hxs]) ?_
        refine Dwp.step tT rfl fun K hK => ?_
        simp [g0]
        refine hK _ _ (Dwp.ret ?_) rfl
        exact fin l _ _ (.slice 1 tag (Qal l)) (by simp [upd]) ⟨tag, htag, rfl⟩ (by simp only []; omega) (if_pos ⟨hcl, hxs⟩)
      · have hx2 : decide (x = s) = false := decide_eq_false hxs
        refine Dwp.step tT rfl fun K hK => ?_
        repeat' ((first | refine Qn.stepD rfl rfl ?_ | refine Qn.stepG rfl rfl rfl ?_ | refine Qn.stepN rfl rfl ?_ | refine Qn.stepGN rfl rfl rfl ?_); intro K1 hK1; simp [*, QO, Qw, QJ, dop, eval, Qr, upd, Qa, Qu, Qv, Qx, TyI.agg, Qg, Qs, Qi, Qj, QA, QX, goInt, QV, intCmp, Qp, Tag.isNN, Qc, DV.cells, Qd, Qt, Qk, g0, g1, g5, Qah, ty9, ty3, Qm, hge, hcl, hrl, hx2, hxs]; (first | (refine hK1 _ _ ?_; clear hK1 K1) | (split <;> (rename_i hsp; (try simp only [beq_iff_eq, beq_eq_false_iff_ne, ne_eq, decide_eq_true_eq, decide_eq_false_iff_not] at hsp); (try (first | have hsq := Int.not_le.2 hsp | have hsq := Int.not_lt.2 hsp | have hsq := Int.not_le.1 hsp | have hsq := Int.not_lt.1 hsp)); (try subst hsp); (try simp only [hsp])) <;> (refine hK1 _ _ ?_; clear hK1 K1))))
        refine Qn.done (hK _ _ ?_ rfl)
        clear hK K
        refine Dwp.condF (by simp [eval, upd, hx2, hxs]) (Dwp.skip ?_)
        exact bad _ _ (by simp [upd, g0]) (by simp [upd, g1]) (by simp [upd, g5]) (by simp only []; omega) (fun q => hxs q.2)
    · refine Dwp.step tT rfl fun K hK => ?_
      repeat' ((first | refine Qn.stepD rfl rfl ?_ | refine Qn.stepG rfl rfl rfl ?_ | refine Qn.stepN rfl rfl ?_ | refine Qn.stepGN rfl rfl rfl ?_); intro K1 hK1; simp [*, QO, Qw, QJ, dop, eval, Qr, upd, Qa, Qu, Qv, Qx, TyI.agg, Qg, Qs, Qi, Qj, QA, QX, goInt, QV, intCmp, Qp, Tag.isNN, Qc, DV.cells, Qd, Qt, Qk, g0, g1, g5, Qah, ty9, ty3, Qm, hcl, hrl]; (first | (refine hK1 _ _ ?_; clear hK1 K1) | (split <;> (rename_i hsp; (try simp only [beq_iff_eq, beq_eq_false_iff_ne, ne_eq, decide_eq_true_eq, decide_eq_false_iff_not] at hsp); (try (first | have hsq := Int.not_le.2 hsp | have hsq := Int.not_lt.2 hsp | have hsq := Int.not_le.1 hsp | have hsq := Int.not_lt.1 hsp)); (try subst hsp); (try simp only [hsp])) <;> (refine hK1 _ _ ?_; clear hK1 K1))))
      refine Qn.done (hK _ _ ?_ rfl)
      clear hK K
      refine Dwp.condF (by simp [eval, upd, hcl]) (Dwp.skip ?_)
      exact bad _ _ (by simp [upd, g0]) (by simp [upd, g1]) (by simp [upd, g5]) (by simp only []; omega) (fun q => hcl q.1)
def Qh6 (k : Int) (z : ByteArray) (out : List ByteArray) : List ByteArray := if k = 6 ∧ z ≠ ⟨#[95]⟩ then QkW out z else out
mutual
def QdF : Tm → List ByteArray → List ByteArray
  | .mk k n z s ks r, out => QaW r (QaW ks (Qh6 k z out))
def QaW : List Tm → List ByteArray → List ByteArray
  | [], out => out
  | t :: l, out => QaW l (QdF t out)
end
theorem Qgm : ∀ (l m : List Tm) (out : List ByteArray), QaW (l ++ m) out = QaW m (QaW l out)
  | [], m, out => rfl
  | t :: l, m, out => by simp only [List.cons_append, QaW, Qgm l m]
theorem addL_len (l : List ByteArray) (s : ByteArray) : (QkW l s).length ≤ l.length + 1 := by
  unfold QkW
  split
  · omega
  · simp only [List.length_append, List.length_cons, List.length_take, List.length_drop]
    have := QgG l s l.length
    omega
theorem Qjk (k : Int) (z : ByteArray) (out : List ByteArray) : (Qh6 k z out).length ≤ out.length + 1 := by
  unfold Qh6
  split
  · exact addL_len _ _
  · omega
mutual
theorem QhY : ∀ (t : Tm) (out : List ByteArray), (QdF t out).length ≤ out.length + tsz t
  | .mk k n z s ks r, out => by
    have h0 := Qjk k z out
    have h1 := Qei ks (Qh6 k z out)
    have h2 := Qei r (QaW ks (Qh6 k z out))
    simp only [QdF, tsz]; omega
theorem Qei : ∀ (l : List Tm) (out : List ByteArray), (QaW l out).length ≤ out.length + QaI l
  | [], out => by simp [QaW]
  | t :: l, out => by
    have h1 := QhY t out
    have h2 := Qei l (QdF t out)
    simp only [QaW, QaI]; omega
end
theorem QgF (l m : List Tm) : QaI (l ++ m) = QaI l + QaI m := by
  induction l with
  | nil => simp [QaI]
  | cons t l ih => simp only [List.cons_append, QaI, ih]; omega
def H96 (n : Nat) : Prop := ∀ (t : Tm) (out : List ByteArray) (d : DV) (σ : St), tsz t ≤ n → tsz t ≤ tlim → okT t → Ow out d → out.length + tsz t ≤ 16777215 →
  HC Tryz.prog 96 [d, .agg t.cells] σ (fun d' σ' => Ow (QdF t out) d' ∧ σ.n ≤ σ'.n)
theorem dres_slice {res : DV} {a : Nat → DV} {t : Nat} {l : List ByteArray} (h : a t = res) (ho : Ow l res) (τ : St) : Qh Tryz.prog τ a [ResultVar.tmp t] = some res := by
  obtain ⟨tg, _, rfl⟩ := ho
  simp [Qh, QW, h]
set_option maxHeartbeats 8000000 in
theorem h96 (n : Nat) (ih : H96 n) : H96 (n + 1) := by
  intro t out d σ hn hlim hok hd hlen
  obtain ⟨k, nn, z, s, ks, r⟩ := t
  have tT := Q9 (P := Tryz.prog)
  refine HC.of_body (T := Qf []) Tryz.func96 rfl (by decide) (Nat.le_of_ble_eq_true rfl) fun E => ?_
  generalize Qf [] = T at *
  simp only [okT] at hok
  simp only [tsz] at hn hlim hlen
  have hkl : (ks ++ r).length ≤ 16777216 := by
    have h1 := Qao ks; have h2 := Qao r; unfold tlim at hlim; rw [List.length_append]; omega
  have hokk : ∀ t ∈ ks ++ r, okT t := fun t ht => by
    rcases List.mem_append.1 ht with ht | ht
    · exact QaQ ks t hok.2.2.2.2.1 ht
    · exact QaQ r t hok.2.2.2.2.2 ht
  have hszk : ∀ t ∈ ks ++ r, tsz t ≤ QaI ks + QaI r := fun t ht => by
    rw [← QgF]; exact Qac _ t ht
  have hres : QdF (.mk k nn z s ks r) out = QaW (ks ++ r) (Qh6 k z out) := by rw [Qgm]; rfl
  rw [hres]
  have hown := Qjk k z out
  have hdd := hd
  obtain ⟨tag, htag, rfl⟩ := hd
  simp only [QG]
  refine Dwp.step tT rfl fun K hK => ?_
  simp [init, QG]
  refine hK _ _ ?_ rfl; clear hK K
  refine Dwp.seq ?_
  refine Dwp.mono (Q := fun e a' τ => e = .normal ∧ a' 3 = .row [.lit (.int .i64 k), .lit (.int .i64 nn), .lit (.string z), .lit (.string s), .slice 6 .none (ks.map Tm.cells), .slice 6 .none (r.map Tm.cells)] 0 ∧ Ow (Qh6 k z out) (a' 0) ∧ σ.n ≤ τ.n) ?_ ?_
  · by_cases hc : k = 6 ∧ z ≠ ⟨#[95]⟩
    · obtain ⟨rfl, hz⟩ := hc
      refine Dwp.step tT rfl fun K hK => ?_
      repeat' ((first | refine Qn.stepD rfl rfl ?_ | refine Qn.stepG rfl rfl rfl ?_ | refine Qn.stepN rfl rfl ?_ | refine Qn.stepGN rfl rfl rfl ?_); intro K1 hK1; simp [*, QO, Qw, QJ, dop, eval, Qr, upd, Qa, Qu, Qv, Qx, TyI.agg, Qg, Qs, Qi, Qj, QA, QX, goInt, QV, intCmp, Qp, Tag.isNN, Qc, DV.cells, Qd, Qt, Qk, init, QaB, ty9, Q5, Qm, hz]; (first | (refine hK1 _ _ ?_; clear hK1 K1) | (split <;> (rename_i hsp; (try simp only [beq_iff_eq, beq_eq_false_iff_ne, ne_eq, decide_eq_true_eq, decide_eq_false_iff_not] at hsp); (try (first | have hsq := Int.not_le.2 hsp | have hsq := Int.not_lt.2 hsp | have hsq := Int.not_le.1 hsp | have hsq := Int.not_lt.1 hsp)); (try subst hsp); (try simp only [hsp])) <;> (refine hK1 _ _ ?_; clear hK1 K1))))
      refine Qn.done (hK _ _ ?_ rfl)
      clear hK K
      refine Dwp.condT (by simp [eval, upd, hz]) ?_
      refine Dwp.regH fun K hK => ?_
      show Rg _ _ _ _ K ([0, 1, 2] ++ (3 :: ([4] ++ []))) _ _
      refine Rg.run tT rfl _ _ _ ?_
      simp [Q4, QaC, Qam, init, Q5, ty9]
      refine Rg.call (xs := [.slice 1 tag (Qal out), .lit (.string z)]) rfl rfl rfl rfl (by rfl) (h161 out z _ _ hdd (by omega)) ?_
      rintro d' τ ⟨ho, hn2⟩
      show Rg _ _ _ _ K ([4] ++ []) _ _
      refine Rg.run tT rfl _ _ _ ?_
      simp [Q4, QaC, Qam]
      refine Rg.nil (hK _ _ ⟨rfl, by simp [QN, upd], ?_, by simp only [] at hn2 ⊢; omega⟩)
      have : Qh6 6 z out = QkW out z := if_pos ⟨rfl, hz⟩
      rw [this]
      simpa [QN, upd] using ho
    · have hno : Qh6 k z out = out := if_neg hc
      rw [hno]
      rcases Classical.em (k = 6) with rfl | hk
      · have hz : z = ⟨#[95]⟩ := Classical.byContradiction fun q => hc ⟨rfl, q⟩
        subst hz
        refine Dwp.step tT rfl fun K hK => ?_
        repeat' ((first | refine Qn.stepD rfl rfl ?_ | refine Qn.stepG rfl rfl rfl ?_ | refine Qn.stepN rfl rfl ?_ | refine Qn.stepGN rfl rfl rfl ?_); intro K1 hK1; simp [*, QO, Qw, QJ, dop, eval, Qr, upd, Qa, Qu, Qv, Qx, TyI.agg, Qg, Qs, Qi, Qj, QA, QX, goInt, QV, intCmp, Qp, Tag.isNN, Qc, DV.cells, Qd, Qt, Qk, init, QaB, ty9, Q5, Qm]; (first | (refine hK1 _ _ ?_; clear hK1 K1) | (split <;> (rename_i hsp; (try simp only [beq_iff_eq, beq_eq_false_iff_ne, ne_eq, decide_eq_true_eq, decide_eq_false_iff_not] at hsp); (try (first | have hsq := Int.not_le.2 hsp | have hsq := Int.not_lt.2 hsp | have hsq := Int.not_le.1 hsp | have hsq := Int.not_lt.1 hsp)); (try subst hsp); (try simp only [hsp])) <;> (refine hK1 _ _ ?_; clear hK1 K1))))
        refine Qn.done (hK _ _ ?_ rfl)
        clear hK K
        refine Dwp.condF (by simp [eval, upd]) (Dwp.skip ?_)
        exact ⟨rfl, by simp [upd], by simpa [upd, init] using hdd, by simp only []; omega⟩
      · refine Dwp.step tT rfl fun K hK => ?_
        repeat' ((first | refine Qn.stepD rfl rfl ?_ | refine Qn.stepG rfl rfl rfl ?_ | refine Qn.stepN rfl rfl ?_ | refine Qn.stepGN rfl rfl rfl ?_); intro K1 hK1; simp [*, QO, Qw, QJ, dop, eval, Qr, upd, Qa, Qu, Qv, Qx, TyI.agg, Qg, Qs, Qi, Qj, QA, QX, goInt, QV, intCmp, Qp, Tag.isNN, Qc, DV.cells, Qd, Qt, Qk, init, QaB, ty9, Q5, Qm, hk]; (first | (refine hK1 _ _ ?_; clear hK1 K1) | (split <;> (rename_i hsp; (try simp only [beq_iff_eq, beq_eq_false_iff_ne, ne_eq, decide_eq_true_eq, decide_eq_false_iff_not] at hsp); (try (first | have hsq := Int.not_le.2 hsp | have hsq := Int.not_lt.2 hsp | have hsq := Int.not_le.1 hsp | have hsq := Int.not_lt.1 hsp)); (try subst hsp); (try simp only [hsp])) <;> (refine hK1 _ _ ?_; clear hK1 K1))))
        refine Qn.done (hK _ _ ?_ rfl)
        clear hK K
        refine Dwp.condF (by simp [eval, upd, hk]) (Dwp.skip ?_)
        exact ⟨rfl, by simp [upd], by simpa [upd, init] using hdd, by simp only []; omega⟩
  · rintro e a τ ⟨rfl, g3, ho, hn1⟩
    show Dwp _ _ _ _ _ _ _ _
    refine Dwp.seq ?_
    have hm1 : (ks.map Tm.cells).length + (r.map Tm.cells).length ≤ 16777216 := by simpa using hkl
    have hm2 : ks.length ≤ 16777216 := by rw [List.length_append] at hkl; omega
    have hm3 : ks.length + r.length ≤ 16777216 := by rw [List.length_append] at hkl; omega
    refine Dwp.drawStep [.none, .none, .none, .tok, .none, .none, .tok, .none, .none] mixed tT rfl rfl fun K hK => ?_
    simp [QbI, touch, QaO, Qbt, setAt, g3, Qak, Q5, hm2, hm3]
    refine hK _ _ ?_ rfl
    clear hK K
    have htl : QaI (ks ++ r) ≤ n ∧ QaI (ks ++ r) ≤ tlim := by rw [QgF]; omega
    have hbudget : (Qh6 k z out).length + QaI (ks ++ r) ≤ 16777215 := by rw [QgF]; omega
    have hmap : ks.map Tm.cells ++ r.map Tm.cells = (ks ++ r).map Tm.cells := by simp
    have hcast : (ks.length : Int) + (r.length : Int) = ((ks ++ r).length : Int) := by simp
    rw [hmap, hcast]
    clear hm1 hm2 hm3 hmap hcast hres hown hdd hszk hok hn hlim hlen
    generalize Qh6 k z out = o0 at *
    generalize ks ++ r = all at *
    generalize hmt : τ.n + 3 = mt at *
    refine Dwp.range tT all.length (fun i a τ' => a 25 = .slice 6 (.tok mt 1) (all.map Tm.cells) ∧ σ.n ≤ τ'.n ∧ ∃ oi, Ow oi (a 0) ∧ QaW all o0 = QaW (all.drop i) oi ∧ oi.length + QaI (all.drop i) ≤ 16777215)
      ⟨rfl, rfl, rfl⟩ ⟨rfl, rfl, rfl⟩ ⟨rfl, rfl, rfl⟩ (by decide) (by decide) (by omega) (by simp [upd]) (by simp [upd]) ⟨by simp [upd], by simp only []; omega, o0, by simpa [upd] using ho, by simp, by simpa using hbudget⟩ ?_ ?_
    · rintro i a τ2 hi hidx hlen2 ⟨g25, gn, oi, go, gfo, gbu⟩
      have hkd : all.drop i = all[i] :: all.drop (i + 1) := List.drop_eq_getElem_cons hi
      have hmem : all[i] ∈ all := List.getElem_mem _
      have hmz := Qac all _ hmem
      rw [hkd] at gfo gbu
      simp only [QaW, QaI] at gfo gbu
      have hfl := QhY all[i] oi
      refine Dwp.step tT rfl fun K hK => ?_
      simp [g25, hidx, Qak, Q5, hi, Tm.cells_len, QT, Qky]
      refine hK _ _ ?_ rfl; clear hK K
      refine Dwp.regH fun K hK => ?_
      show Rg _ _ _ _ K ([0, 1] ++ (2 :: ([3] ++ []))) _ _
      refine Rg.run tT rfl _ _ _ ?_
      have hgo := go
      obtain ⟨tg, htg, ha0⟩ := go
      simp [Q4, QaC, Qam, ha0, Q5, Tm.cells_len, QT]
      refine Rg.call (xs := [.slice 1 tg (Qal oi), .agg all[i].cells]) rfl rfl rfl rfl (by rfl) (ih all[i] oi _ _ (by omega) (by omega) (hokk _ hmem) ⟨tg, htg, rfl⟩ (by omega)) ?_
      rintro d' τ3 ⟨ho3, hn3⟩
      show Rg _ _ _ _ K ([3] ++ []) _ _
      refine Rg.run tT rfl _ _ _ ?_
      simp [Q4, QaC, Qam]
      refine Rg.nil (hK _ _ ⟨by simp [QN, upd, hidx], by simp [QN, upd, hlen2], by simp [QN, upd, g25], by simp only [] at hn3 ⊢; omega, QdF all[i] oi, by simpa [QN, upd] using ho3, gfo, by omega⟩)
    · rintro a τ2 hidx hlen2 ⟨g25, gn, oi, go, gfo, gbu⟩
      rw [List.drop_length] at gfo
      have hfin : QaW all o0 = oi := gfo
      rw [hfin]
      have hgo := go
      obtain ⟨tg, htg, ha0⟩ := go
      show Dwp _ _ _ _ _ _ _ _
      refine Dwp.step tT rfl fun K hK => ?_
      simp [ha0]
      refine hK _ _ (Dwp.ret ?_) rfl
      rw [ha0] at hgo
      refine ⟨.inr rfl, .slice 1 tg (Qal oi), ?_, hgo, by simp only []; omega⟩
      exact dres_slice (t := 4) (by simp [upd]) hgo _
theorem Qko : ∀ n : Nat, H96 n
  | 0 => fun t out d σ h => absurd h (by have := Qeg t; omega)
  | n + 1 => h96 n (Qko n)
end
end Go.Proofs.Yt
namespace Go.Proofs.Yt
open Go Go.FA Go.Proofs Go.RowKit
abbrev LtB (a b : List UInt8) : Prop := a < b
theorem strict_eq {l m : List (List UInt8)} (hl : l.Pairwise LtB) (hm : m.Pairwise LtB) (h : ∀ x, x ∈ l ↔ x ∈ m) : l = m := by
  have nd : ∀ {k : List (List UInt8)}, k.Pairwise LtB → k.Nodup := fun hk => hk.imp fun hab e => by subst e; exact List.lt_irrefl _ hab
  exact List.Perm.eq_of_pairwise (le := LtB) (fun a b _ _ h1 h2 => absurd h2 (List.lt_asymm h1)) hl hm ((List.perm_ext_iff_of_nodup (nd hl) (nd hm)).2 h)
theorem Qkx {d : List (List UInt8)} (hd : d.Pairwise (· ≤ ·)) {i j : Nat} (hij : i ≤ j) (hj : j < d.length) : d[i]'(by omega) ≤ d[j] := by
  rcases Nat.lt_or_ge i j with h | h
  · exact List.pairwise_iff_getElem.1 hd i j (by omega) hj h
  · have : i = j := by omega
    subst this
    exact List.le_refl _
theorem QeY {d : List (List UInt8)} (hd : d.Pairwise (· ≤ ·)) : ∀ m, m ≤ d.length → (Lib.compactUpTo d.toArray m).Pairwise LtB ∧ ∀ x, x ∈ Lib.compactUpTo d.toArray m ↔ ∃ j, ∃ h : j < d.length, j < m ∧ d[j] = x
  | 0, _ => by
    have e : Lib.compactUpTo d.toArray 0 = [] := rfl
    rw [e]
    exact ⟨.nil, fun x => by simp⟩
  | m + 1, hm => by
    obtain ⟨h1, h2⟩ := QeY hd m (by omega)
    have hget : ∀ j, (h : j < d.length) → d.toArray[j]! = d[j] := fun j h => by simp [h]
    have hmem : ∀ y, (y ∈ Lib.compactUpTo d.toArray m ∨ y = d[m]'(by omega)) ↔ ∃ j, ∃ h : j < d.length, j < m + 1 ∧ d[j] = y := by
      intro y
      rw [h2]
      constructor
      · rintro (⟨j, h, q, e⟩ | e)
        · exact ⟨j, h, by omega, e⟩
        · exact ⟨m, by omega, by omega, e.symm⟩
      · rintro ⟨j, h, q, e⟩
        rcases Nat.lt_or_ge j m with r | r
        · exact .inl ⟨j, h, r, e⟩
        · have : j = m := by omega
          subst this
          exact .inr e.symm
    rw [Lib.compactUpTo_succ]
    by_cases hk : Lib.keeps d.toArray m = true
    · rw [if_pos hk, hget m (by omega)]
      refine ⟨List.pairwise_append.2 ⟨h1, List.pairwise_singleton _ _, ?_⟩, fun y => by rw [← hmem]; simp⟩
      intro x hx y hy
      simp only [List.mem_singleton] at hy
      subst hy
      obtain ⟨j, h, q, rfl⟩ := (h2 x).1 hx
      simp only [Lib.keeps, decide_eq_true_eq] at hk
      have hne : d[m]'(by omega) ≠ d[m - 1]'(by omega) := by
        rcases hk with rfl | hk
        · omega
        · rwa [hget m (by omega), hget (m - 1) (by omega)] at hk
      have h3 : d[j] ≤ d[m - 1]'(by omega) := Qkx hd (by omega) (by omega)
      have h4 : d[m - 1]'(by omega) ≤ d[m]'(by omega) := Qkx hd (by omega) (by omega)
      have h5 : d[m - 1]'(by omega) < d[m]'(by omega) := by
        rcases List.le_iff_lt_or_eq.1 h4 with q | q
        · exact q
        · exact absurd q.symm hne
      exact List.lt_of_le_of_lt h3 h5
    · rw [if_neg hk, List.append_nil]
      refine ⟨h1, fun y => ?_⟩
      rw [← hmem]
      constructor
      · exact .inl
      · rintro (q | q)
        · exact q
        · simp only [Lib.keeps, decide_eq_true_eq] at hk
          have hm0 : m ≠ 0 := fun e => hk (.inl e)
          have he : d[m]'(by omega) = d[m - 1]'(by omega) := by
            have := fun q => hk (.inr q)
            rw [hget m (by omega), hget (m - 1) (by omega)] at this
            exact Classical.byContradiction fun q => this q
          rw [h2]
          exact ⟨m - 1, by omega, by omega, by rw [q, he]⟩
theorem sort_le (l : List (List UInt8)) : (l.mergeSort fun x y => decide (x ≤ y)).Pairwise (· ≤ ·) := by
  have := List.pairwise_mergeSort (le := fun x y : List UInt8 => decide (x ≤ y)) (fun a b c h1 h2 => by simp only [decide_eq_true_eq] at *; exact List.le_trans h1 h2) (fun a b => by simp only [Bool.or_eq_true, decide_eq_true_eq]; exact List.le_total a b) l
  exact this.imp fun h => by simpa using h
theorem Qh4 (l : List (List UInt8)) : (l.map lb).map bl = l := by
  rw [List.map_map]
  have : bl ∘ lb = id := rfl
  rw [this, List.map_id]
theorem comp_spec (L : List ByteArray) : ((Qdc (QaT L)).map bl).Pairwise LtB ∧ ∀ x, x ∈ (Qdc (QaT L)).map bl ↔ x ∈ L.map bl := by
  unfold Qdc QaT
  rw [Qh4, Qh4]
  have h := QeY (sort_le (L.map bl)) _ (Nat.le_refl _)
  refine ⟨h.1, fun x => ?_⟩
  unfold Lib.compact
  rw [h.2]
  constructor
  · rintro ⟨j, hj, _, rfl⟩
    exact (List.mem_mergeSort (le := fun x y : List UInt8 => decide (x ≤ y))).1 (List.getElem_mem hj)
  · intro hx
    have := (List.mem_mergeSort (le := fun x y : List UInt8 => decide (x ≤ y))).2 hx
    obtain ⟨j, hj, e⟩ := List.getElem_of_mem this
    exact ⟨j, hj, hj, e⟩
theorem geS_iff (a b : ByteArray) : geS a b = true ↔ bl b ≤ bl a := by
  unfold geS
  rw [bytesLess_eq, ByteArray.toList_eq, ByteArray.toList_eq, ← List.not_lt]
  simp [bl]
theorem Qi2 (l : List ByteArray) (s : ByteArray) : ∀ k, k ≤ l.length → (∀ j, (h : j < l.length) → Qe8 l s k ≤ j → j < k → bl s ≤ bl l[j]) ∧ (∀ j, (h : j < l.length) → j + 1 = Qe8 l s k → bl l[j] < bl s)
  | 0, _ => ⟨fun j h h1 h2 => by omega, fun j h h1 => by simp [Qe8] at h1⟩
  | k + 1, hk => by
    obtain ⟨h1, h2⟩ := Qi2 l s k (by omega)
    have hge := geS_iff (l[k]'(by omega)) s
    have hg : l[k]?.getD ⟨#[]⟩ = l[k]'(by omega) := by simp [show k < l.length by omega]
    unfold Qe8
    rw [hg]
    split
    · next hc =>
      refine ⟨fun j h q1 q2 => ?_, h2⟩
      rcases Nat.lt_or_ge j k with r | r
      · exact h1 j h q1 r
      · have : j = k := by omega
        subst this
        exact hge.1 hc
    · next hc =>
      refine ⟨fun j h q1 q2 => by omega, fun j h q => ?_⟩
      have : j = k := by omega
      subst this
      rw [← List.not_le]
      exact fun e => hc (hge.2 e)
theorem addL_spec {l : List ByteArray} {s : ByteArray} (hl : (l.map bl).Pairwise LtB) : ((QkW l s).map bl).Pairwise LtB ∧ ∀ x, x ∈ (QkW l s).map bl ↔ x = bl s ∨ x ∈ l.map bl := by
  obtain ⟨h1, h2⟩ := Qi2 l s l.length (Nat.le_refl _)
  have hc := QgG l s l.length
  unfold QkW
  generalize Qe8 l s l.length = c at *
  have hlt : ∀ i j, (hi : i < l.length) → (hj : j < l.length) → i < j → bl l[i] < bl l[j] := fun i j hi hj hij => by
    have := List.pairwise_iff_getElem.1 hl i j (by simpa using hi) (by simpa using hj) hij
    simpa using this
  split
  · next h =>
    obtain ⟨hcl, he⟩ := h
    have hg : l[c]?.getD ⟨#[]⟩ = l[c] := by simp [hcl]
    rw [hg] at he
    refine ⟨hl, fun x => ⟨.inr, ?_⟩⟩
    rintro (rfl | h)
    · exact List.mem_map.2 ⟨l[c], List.getElem_mem hcl, by rw [he]⟩
    · exact h
  · next h =>
    have hno : ∀ hcl : c < l.length, l[c] ≠ s := fun hcl e => h ⟨hcl, by simp [hcl, e]⟩
    have hbelow : ∀ x ∈ l.take c, bl x < bl s := by
      intro x hx
      obtain ⟨j, hj, rfl⟩ := List.getElem_of_mem hx
      simp only [List.length_take] at hj
      rw [List.getElem_take]
      have hj1 : j < c := by omega
      have hlast := h2 (c - 1) (by omega) (by omega)
      rcases Nat.lt_or_ge j (c - 1) with r | r
      · exact List.lt_trans (hlt j (c - 1) (by omega) (by omega) r) hlast
      · have : j = c - 1 := by omega
        subst this
        exact hlast
    have habove : ∀ x ∈ l.drop c, bl s < bl x := by
      intro x hx
      obtain ⟨j, hj, rfl⟩ := List.getElem_of_mem hx
      simp only [List.length_drop] at hj
      rw [List.getElem_drop]
      have hcl : c < l.length := by omega
      have h3 : bl s < bl l[c] := by
        rcases List.le_iff_lt_or_eq.1 (h1 c hcl (Nat.le_refl _) hcl) with q | q
        · exact q
        · exact absurd (by have := congrArg lb q; exact this.symm) (hno hcl)
      rcases Nat.eq_zero_or_pos j with rfl | r
      · exact h3
      · exact List.lt_trans h3 (hlt c (c + j) hcl (by omega) (by omega))
    constructor
    · simp only [List.map_append, List.map_cons]
      refine List.pairwise_append.2 ⟨?_, ?_, ?_⟩
      · rw [List.map_take]; exact hl.sublist (List.take_sublist _ _)
      · refine List.pairwise_cons.2 ⟨?_, ?_⟩
        · intro y hy
          obtain ⟨x, hx, rfl⟩ := List.mem_map.1 hy
          exact habove x hx
        · rw [List.map_drop]; exact hl.sublist (List.drop_sublist _ _)
      · intro y hy z hz
        obtain ⟨x, hx, rfl⟩ := List.mem_map.1 hy
        rcases List.mem_cons.1 hz with rfl | hz
        · exact hbelow x hx
        · obtain ⟨w, hw, rfl⟩ := List.mem_map.1 hz
          exact List.lt_trans (hbelow x hx) (habove w hw)
    · intro x
      have e : l.map bl = (l.take c).map bl ++ (l.drop c).map bl := by rw [← List.map_append, List.take_append_drop]
      rw [e]
      simp only [List.map_append, List.map_cons, List.mem_append, List.mem_cons]
      constructor
      · rintro (q | q | q)
        · exact .inr (.inl q)
        · exact .inl q
        · exact .inr (.inr q)
      · rintro (q | q | q)
        · exact .inr (.inl q)
        · exact .inl q
        · exact .inr (.inr q)
mutual
theorem Qgp : ∀ (t : Tm) (out : List ByteArray), (out.map bl).Pairwise LtB → ((QdF t out).map bl).Pairwise LtB ∧ ∀ x, x ∈ (QdF t out).map bl ↔ x ∈ out.map bl ∨ x ∈ (Qce t).map bl
  | .mk k n z s ks r, out, h => by
    have h0 : ((Qh6 k z out).map bl).Pairwise LtB ∧ ∀ x, x ∈ (Qh6 k z out).map bl ↔ x ∈ out.map bl ∨ x ∈ (if k = 6 ∧ z ≠ ⟨#[95]⟩ then [z] else []).map bl := by
      unfold Qh6
      by_cases hc : k = 6 ∧ z ≠ ⟨#[95]⟩
      · rw [if_pos hc, if_pos hc]
        obtain ⟨q1, q2⟩ := addL_spec (s := z) h
        refine ⟨q1, fun x => ?_⟩
        rw [q2]
        simp only [List.map_cons, List.map_nil, List.mem_singleton]
        exact Or.comm
      · rw [if_neg hc, if_neg hc]
        exact ⟨h, fun x => by simp⟩
    obtain ⟨h1, h2⟩ := Qdu ks (Qh6 k z out) h0.1
    obtain ⟨h3, h4⟩ := Qdu r (QaW ks (Qh6 k z out)) h1
    simp only [QdF, Qce]
    refine ⟨h3, fun x => ?_⟩
    rw [h4, h2, h0.2]
    simp only [List.map_append, List.mem_append, or_assoc]
theorem Qdu : ∀ (l : List Tm) (out : List ByteArray), (out.map bl).Pairwise LtB → ((QaW l out).map bl).Pairwise LtB ∧ ∀ x, x ∈ (QaW l out).map bl ↔ x ∈ out.map bl ∨ x ∈ (QcM l).map bl
  | [], out, h => ⟨h, fun x => by simp [QaW, QcM]⟩
  | t :: l, out, h => by
    obtain ⟨h1, h2⟩ := Qgp t out h
    obtain ⟨h3, h4⟩ := Qdu l (QdF t out) h1
    simp only [QaW, QcM]
    refine ⟨h3, fun x => ?_⟩
    rw [h4, h2]
    simp only [List.map_append, List.mem_append, or_assoc]
end
theorem vars_same (t : Tm) : Qdc (QaT (Qce t)) = QdF t [] := by
  obtain ⟨h1, h2⟩ := comp_spec (Qce t)
  obtain ⟨h3, h4⟩ := Qgp t [] .nil
  have h := strict_eq h1 h3 fun x => by rw [h2, h4]; simp
  have h5 := congrArg (List.map lb) h
  have e : ∀ l : List ByteArray, (l.map bl).map lb = l := fun l => by
    rw [List.map_map]
    have : lb ∘ bl = id := rfl
    rw [this, List.map_id]
  rwa [e, e] at h5
end Go.Proofs.Yt
namespace Go.Proofs.Yt
open Go Go.FA Go.Proofs Go.RowKit
set_option maxRecDepth 100000
section
attribute [local simp] QF QZ Qo QJ own Qm dop QN eval Qr Qn Ex.then Ex.inBlock upd QV Tag.isNN Qp intCmp Qv Qx TyI.agg Qa Qu Qg Qs QX QA QD mapOf QQ QC Qq Qi Qj QI DV.cells Qt Qk QE QK rowsOf QL Qd Qe Qe.go Qz QB Qc goInt
def Wr (id : Nat) (s : ByteArray) (σ : St) : Prop := id < σ.n ∧ ∃ p x, σ.objs id = some (.cells 110 [p, x]) ∧ (p = .lit (.pointer none) ∨ p = .ptr id 0) ∧
  ((x = .lit (.slice none 0 0) ∧ s = ⟨#[]⟩) ∨ ∃ bid, bid < σ.n ∧ x = .live bid 1 0 s.size ∧ σ.objs bid = some (.buf 5 (bytesD s)))
def Fr (id : Nat) (σ σ' : St) : Prop := σ.n ≤ σ'.n ∧ ∀ j, j < σ.n → j ≠ id → (∀ t bs, σ.objs j ≠ some (.buf t bs)) → σ'.objs j = σ.objs j
theorem Fr.refl (id : Nat) (σ : St) : Fr id σ σ := ⟨Nat.le_refl _, fun _ _ _ _ => rfl⟩
theorem Fr.trans {id : Nat} {σ σ1 σ2 : St} (h : Fr id σ σ1) (h2 : Fr id σ1 σ2) : Fr id σ σ2 := by
  refine ⟨Nat.le_trans h.1 h2.1, fun j hj hn hb => ?_⟩
  have e := h.2 j hj hn hb
  rw [← e]
  exact h2.2 j (Nat.lt_of_lt_of_le hj h.1) hn (by rw [e]; exact hb)
theorem bytesD_len (s : ByteArray) : (bytesD s).length = s.size := by simp [bytesD]
theorem bytesD_app (s t : ByteArray) : bytesD (s ++ t) = bytesD s ++ bytesD t := by simp [bytesD]
theorem elem5 : QL ⟨.int .u8, 1, 1, .lit (.int .u8 0)⟩ = true := by decide
theorem app_nil {τ : St} {t : ByteArray} (ht : t.size ≠ 0) (hl : t.size ≤ 16777216) : Qbe Tryz.prog τ.n τ 106 9 (.lit (.slice none 0 0)) (.lit (.string t)) = some (.live τ.n 1 0 t.size, { τ with objs := upd τ.objs τ.n (some (.buf 5 (bytesD t))) }) := by
  simp [Qbe, Qin, ty9, ty5, elem5, ht, Qd, hl]
theorem app_live {τ : St} {sid : Nat} {s t : ByteArray} (h : τ.objs sid = some (.buf 5 (bytesD s))) (hs : sid ≠ τ.n) (ht : t.size ≠ 0) (hl : s.size + t.size ≤ 16777216) :
    Qbe Tryz.prog τ.n τ 106 9 (.live sid 1 0 s.size) (.lit (.string t)) = some (.live τ.n 1 0 (s.size + t.size), { τ with objs := upd (upd τ.objs sid none) τ.n (some (.buf 5 (bytesD s ++ bytesD t))) }) := by
  simp [Qbe, Qin, ty9, ty5, elem5, ht, Qd, hl, h, hs, bytesD_len]
set_option maxHeartbeats 1000000 in
theorem Qha (id : Nat) (s t : ByteArray) (σ : St) (hw : Wr id s σ) (ht : t.size ≠ 0) (hl : s.size + t.size ≤ 16777216) : HC Tryz.prog 162 [.ptr id 0, .lit (.string t)] σ (fun _ σ' => Wr id (s ++ t) σ' ∧ Fr id σ σ') := by
  obtain ⟨hid, p, x, ho, hp, hx⟩ := hw
  have tT := Q9 (P := Tryz.prog)
  refine HC.of_body (T := Qf []) Tryz.func162 rfl (by decide) (Nat.le_of_ble_eq_true rfl) fun E => ?_
  refine Dwp.step tT rfl fun K hK => ?_
  simp [init]
  refine hK _ _ ?_ rfl; clear hK K
  refine Dwp.stepH fun K hK => ?_
  show Rg _ _ _ _ K ([0] ++ (1 :: [])) _ _
  refine Rg.run tT rfl _ _ _ ?_
  simp [Q4, QaC, Qam, init]
  have hne : id ≠ σ.n := by omega
  refine Rg.call (xs := [.ptr id 0]) rfl rfl rfl rfl (by simp [Qi, eval, upd]) (hc262 (x := x) (p := p) (by simpa using ho) hp) ?_
  rintro d σ1 ⟨rfl, rfl⟩
  refine Rg.nil (hK _ _ ?_)
  clear hK K
  refine Dwp.stepH fun K hK => ?_
  show Rg _ _ _ _ K ([0, 1, 2, 3, 4, 5] ++ (6 :: ([7, 8, 9] ++ []))) _ _
  refine Rg.run tT rfl _ _ _ ?_
  simp [Q4, QaC, Qam, init, Qkz, Qin, Qbr, Qab]
  have fin : ∀ (m : Nat) (σ' : St), σ.n ≤ m → m < σ'.n → σ.n ≤ σ'.n → σ'.objs id = some (.cells 110 [.ptr id 0, .live m 1 0 (s ++ t).size]) → σ'.objs m = some (.buf 5 (bytesD (s ++ t))) →
      (∀ j, j < σ.n → j ≠ id → (∀ t bs, σ.objs j ≠ some (.buf t bs)) → σ'.objs j = σ.objs j) → Wr id (s ++ t) σ' ∧ Fr id σ σ' :=
    fun m σ' hm h2 h3 h1 h4 h5 => ⟨⟨by omega, _, _, h1, .inr rfl, .inr ⟨m, h2, rfl, h4⟩⟩, h3, h5⟩
  have hnj : ∀ j, id ≠ σ.n + j := fun j => by omega
  have hnj' : ∀ j, ¬ σ.n + j = id := fun j => by omega
  rcases hx with ⟨rfl, rfl⟩ | ⟨bid, hb, rfl, hob⟩
  · refine Rg.appendLS rfl rfl rfl rfl (app_nil ht (Nat.le_trans (Nat.le_add_left _ _) hl)) ?_
    show Rg _ _ _ _ K ([7, 8, 9] ++ []) _ _
    refine Rg.run tT rfl _ _ _ ?_
    simp [Q4, QaC, Qam, init, Qkz, Qin, Qbr, Qab, hnj, setAt]
    refine Rg.nil (hK _ _ ?_)
    clear hK K
    refine Dwp.step tT rfl fun K hK => ?_
    simp [ty9]
    refine hK _ _ (Dwp.ret ?_) rfl
    refine ⟨.inr rfl, .tuple [.lit (.int .i64 t.size), .lit .nilIface], by show Qh Tryz.prog _ _ [ResultVar.tmp 4, ResultVar.tmp 5] = _; simp [Qh, QW, upd], ?_⟩
    have hee : (⟨#[]⟩ ++ t : ByteArray) = t := ByteArray.empty_append
    refine fin (σ.n + 2) _ (by omega) (by first | omega | (simp only []; omega) | (show _ < _ + 1; omega)) (by first | omega | (simp only []; omega) | (show _ < _ + 1; omega)) (by simp [upd, hee]) (by simp [upd, hee, hnj', hnj]) ?_
    intro j h1 h2 h3
    have h4 : j ≠ σ.n + 2 := by omega
    simp [upd, h2, h4]
  · have hbi : bid ≠ id := by rintro rfl; rw [ho] at hob; cases hob
    refine Rg.appendLS rfl rfl rfl rfl (app_live (τ := { n := σ.n + 2, objs := upd σ.objs id (some (.cells 110 [.ptr id 0, .live bid 1 0 s.size])), toks := σ.toks }) (by simp [upd, hob, hbi]) (by first | omega | (simp only []; omega) | (show _ < _ + 1; omega)) ht hl) ?_
    show Rg _ _ _ _ K ([7, 8, 9] ++ []) _ _
    refine Rg.run tT rfl _ _ _ ?_
    have hbi' : id ≠ bid := fun e => hbi e.symm
    simp [Q4, QaC, Qam, init, Qkz, Qin, Qbr, Qab, hnj, setAt, hbi']
    refine Rg.nil (hK _ _ ?_)
    clear hK K
    refine Dwp.step tT rfl fun K hK => ?_
    simp [ty9]
    refine hK _ _ (Dwp.ret ?_) rfl
    refine ⟨.inr rfl, .tuple [.lit (.int .i64 t.size), .lit .nilIface], by show Qh Tryz.prog _ _ [ResultVar.tmp 4, ResultVar.tmp 5] = _; simp [Qh, QW, upd], ?_⟩
    refine fin (σ.n + 2) _ (by omega) (by first | omega | (simp only []; omega) | (show _ < _ + 1; omega)) (by first | omega | (simp only []; omega) | (show _ < _ + 1; omega)) (by simp [upd]) (by simp [upd, hnj', hnj, bytesD_app]) ?_
    intro j h1 h2 h3
    have h4 : j ≠ σ.n + 2 := by omega
    have h5 : j ≠ bid := by rintro rfl; exact h3 _ _ hob
    simp [upd, h2, h4, h5]
end
end Go.Proofs.Yt
