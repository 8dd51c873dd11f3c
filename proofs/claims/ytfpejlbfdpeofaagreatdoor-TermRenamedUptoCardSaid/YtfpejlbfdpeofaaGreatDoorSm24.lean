/- Contracts of functions of the program, by a machine over abstract values; part 25. No condition beyond those of each theorem. -/
import Derived.Test.YtfpejlbfdpeofaaGreatDoorSm23
set_option linter.unusedVariables false
set_option linter.unusedSimpArgs false
namespace Go.Proofs.Yt
open Go Go.FA Go.Proofs Go.RowKit
set_option linter.unusedSimpArgs false
set_option maxRecDepth 100000
theorem call22 (T : Tab) (hT : T 22 = some s22x) : dcall T 22 [] = some (.lit (.bool true)) := by
  simp [dcall, hT, s22x]
end Go.Proofs.Yt
namespace Go.FA
open Go.RowKit
set_option linter.unusedSimpArgs false
variable {P : Program} {T : Tab} {E : Entry} {C : Ctx} {w : World} {σ : St} {n : Nat} {a : Nat → DV} {ops : Array Oper} {K : (Nat → DV) → St → Prop} {i : Nat} {rest : List Nat} {o : Oper}
theorem QfA {b : Nat} : ∀ (x y : List DV) (off : Nat), QaG C w b off (x ++ y) → QaG C w b off x ∧ QaG C w b (off + x.length) y
  | [], y, off, h => ⟨by simp [QaG], by simpa using h⟩
  | d :: x, y, off, h => by
    simp only [List.cons_append, QaG] at h ⊢
    obtain ⟨h1, h2⟩ := QfA x y (off + 1) h.2
    exact ⟨⟨h.1, h1⟩, by simpa [Nat.add_assoc, Nat.add_comm 1] using h2⟩
theorem Qfq {k b : Nat} : ∀ (rows : List (List DV)) (off : Nat), (∀ r ∈ rows, r.length = k) → QaG C w b off rows.flatten → Qay C w k b off rows
  | [], off, _, _ => by simp [Qay]
  | r :: rs, off, hl, h => by
    simp only [List.flatten_cons] at h
    obtain ⟨h1, h2⟩ := QfA r rs.flatten off h
    have hk := hl r (by simp)
    simp only [Qay]
    exact ⟨hk, h1, Qfq rs (off + k) (fun x hx => hl x (by simp [hx])) (by rw [← hk]; exact h2)⟩
end Go.FA
namespace Go.FA
open Go.RowKit
set_option linter.unusedSimpArgs false
variable {P : Program} {T : Tab} {E : Entry} {n : Nat} {Q : Ex → (Nat → DV) → St → Prop} {a : Nat → DV} {σ : St}
inductive FrzL (σ : St) (id k : Nat) (rows : List (List DV)) : DV → DV → Prop where
  | keep (d : DV) : FrzL σ id k rows d d
  | junk (d : DV) : FrzL σ id k rows d .junk
  | live : FrzL σ id k rows (.live id k 0 rows.length) (.slice k .none rows)
theorem Dwp.freezeL {c : Code} (id k : Nat) {t : TypeId} {rows : List (List DV)} (a' : Nat → DV) (ho : σ.objs id = some (.buf t rows.flatten)) (hl : ∀ r ∈ rows, r.length = k) (ha : ∀ t, FrzL σ id k rows (a t) (a' t))
    (h : Dwp P T E n c Q a' { σ with objs := upd σ.objs id none }) : Dwp P T E n c Q a σ := by
  refine ⟨fun ca w ds hok => ?_⟩
  obtain ⟨hn, C, hf, hs⟩ := hok
  obtain ⟨b, hb, hB, hlt, hnp, hnm, hO⟩ := hs.obj id _ ho
  let C' : Ctx := { C with pc := fun k j => C.pc k j ∨ k = b, pm := fun k => C.pm k ∨ k = b }
  have hle : C.Le C' := ⟨fun _ _ e => e, fun _ x e => ⟨x, e, Nat.le_refl _, fun _ => rfl⟩, fun _ _ p => .inl p, fun _ p => .inl p, rfl⟩
  have hst : Step C w w := .refl C w
  refine h.out ca w ds ⟨hn, C', ⟨fun t => ?_, hf.le.trans hle, hf.st.trans hf.le hst⟩, ?_⟩
  · have ht := hf.rel t
    have hfr := ha t
    generalize ca.getD t undef = v at ht
    generalize a' t = d' at hfr
    generalize a t = d at hfr ht
    show QM C' w d' v
    cases hfr with
    | keep d => exact Qas hle hst _ _ ht
    | junk d => simp [QM]
    | live =>
      simp only [QM] at ht ⊢
      obtain ⟨b', cap, c', e, q1, rfl, q2, _, _, _⟩ := ht
      obtain rfl : b = b' := by rw [hb] at q1; exact Option.some.inj q1
      obtain ⟨vs, tl, h1, h2, h3⟩ := hO
      refine .inl ⟨b, 0, cap, rfl, q2, Qfq rows 0 hl (QcZ (QT hle hst _ _ h2) (fun v hv => h3 v (by simp [hv])) fun i v hv => ⟨.inr rfl, ?_⟩), trivial⟩
      rw [cell?_of_cells h1, Nat.zero_add]
      have hi : i < vs.length := by
        rcases Nat.lt_or_ge i vs.length with q | q
        · exact q
        · rw [List.getElem?_eq_none q] at hv; cases hv
      simp only [List.getElem?_toArray]
      rw [List.getElem?_append_left hi]; exact hv
  · have hup : ∀ i oi, upd σ.objs id none i = some oi → i ≠ id ∧ σ.objs i = some oi := by
      intro i oi hi
      by_cases e : i = id
      · subst e; simp [upd] at hi
      · exact ⟨e, by simpa [upd, e] using hi⟩
    constructor
    · exact hs.lo
    · exact hs.below
    · exact hs.bsize
    · exact hs.pB
    · exact hs.mB
    · exact fun b o p => .inl (hs.psup _ _ p)
    · exact fun b p => .inl (hs.msup _ p)
    · intro k j p
      rcases p with p | rfl
      · exact hs.psub _ _ p
      · exact .inr ⟨hB, hlt⟩
    · intro k p
      rcases p with p | rfl
      · exact hs.msub _ p
      · exact .inr ⟨hB, hlt⟩
    · intro i oi hi
      obtain ⟨hne, hi'⟩ := hup i oi hi
      obtain ⟨bi, g1, g2, g3, g4, g5, g6⟩ := hs.obj i oi hi'
      have hbb : bi ≠ b := fun e => hne (hs.inj i id oi _ bi hi' ho g1 (by rw [hb, e]))
      exact ⟨bi, g1, g2, g3, fun j p => p.elim (g4 j) hbb, fun p => p.elim g5 hbb, g6.mono hle hst rfl⟩
    · intro i j oi oj bb hi hj g1 g2
      exact hs.inj i j oi oj bb (hup i oi hi).2 (hup j oj hj).2 g1 g2
    · intro t g ht
      obtain ⟨x, g1, g2, g3⟩ := hs.tok t g ht
      refine ⟨x, g1, g2, fun hx => ?_⟩
      obtain ⟨g4, g5, g6, g7⟩ := g3 hx
      have hbb : x.blk ≠ b := fun e => hs.tobj t g x id _ ht g1 hx ho (by rw [hb, e])
      exact ⟨g4, g5, fun o ho' p => p.elim (g6 o ho') hbb, fun p => p.elim g7 hbb⟩
    · exact hs.tinj
    · intro t g x i oi ht g1 hx hi
      exact hs.tobj t g x i oi ht g1 hx (hup i oi hi).2
    · exact hs.fresh
end Go.FA
namespace Go.Proofs.Yt
open Go Go.FA Go.Proofs Go.RowKit
set_option linter.unusedSimpArgs false
set_option maxRecDepth 100000
abbrev QH.ex : QH (ByteArray × ByteArray) := (QH.one Enc.str).and (QH.one Enc.str)
abbrev Enc.ex : Enc (ByteArray × ByteArray) := Enc.agg QH.ex
def swN (a b s : ByteArray) : ByteArray := if s = a then b else if s = b then a else s
def sT177 : Sp := sp (QR Enc.ex Enc.str) Enc.str (fun x => some (swN x.1.1 x.1.2 x.2))
theorem QiW (T : Tab) (hT : T 177 = some sT177) (a b s : ByteArray) : dcall T 177 [.agg [.lit (.string a), .lit (.string b)], .lit (.string s)] = some (.lit (.string (swN a b s))) :=
  Qa9 (A := Enc.ex) (B := Enc.str) (C := Enc.str) (x := (a, b)) hT rfl
theorem c177 : Qy Tryz.prog 177 sT177 := by
  refine Qy.of_sp (T := QD []) Tryz.func177 rfl (Nat.le_of_ble_eq_true rfl) fun E xx y hy => ?_
  obtain ⟨⟨a, b⟩, s⟩ := xx
  cases hy
  have tT := Q5 (P := Tryz.prog)
  generalize QD [] = T at *
  simp only [QR, QH.one, QH.and, Enc.ex, Enc.agg, QH.ex, Enc.str, List.cons_append, List.nil_append]
  refine Dwp.step tT rfl fun K hK => ?_
  simp [QB, QE, Qk, QJ, own, Ql, dop, QI, eval, Qx, QF, Ex.then, Ex.inBlock, upd, QK, Tag.isNN, Qm, intCmp, Qz, QA, TyI.agg, Qb, Qs, Qd, Qq, QL, QC, Qo, mapOf, Qw, Qn, Qe, Qh, Qf, Qt, DV.cells, Qr, Qg, Qp, Qu, rowsOf, Qv, growLimit, Qa, Qa.go, Qi, Qj, Qc, goInt, init]
  refine hK _ _ ?_ rfl; clear hK K
  refine Dwp.seq ?_
  refine Dwp.step tT rfl fun K hK => ?_
  simp [QB, QE, Qk, QJ, own, Ql, dop, QI, eval, Qx, QF, Ex.then, Ex.inBlock, upd, QK, Tag.isNN, Qm, intCmp, Qz, QA, TyI.agg, Qb, Qs, Qd, Qq, QL, QC, Qo, mapOf, Qw, Qn, Qe, Qh, Qf, Qt, DV.cells, Qr, Qg, Qp, Qu, rowsOf, Qv, growLimit, Qa, Qa.go, Qi, Qj, Qc, goInt, init]
  refine hK _ _ ?_ rfl; clear hK K
  refine Dwp.block ?_
  refine Dwp.step tT rfl fun K hK => ?_
  by_cases h1 : s = a
  · simp [QB, QE, Qk, QJ, own, Ql, dop, QI, eval, Qx, QF, Ex.then, Ex.inBlock, upd, QK, Tag.isNN, Qm, intCmp, Qz, QA, TyI.agg, Qb, Qs, Qd, Qq, QL, QC, Qo, mapOf, Qw, Qn, Qe, Qh, Qf, Qt, DV.cells, Qr, Qg, Qp, Qu, rowsOf, Qv, growLimit, Qa, Qa.go, Qi, Qj, Qc, goInt, init, Qdi, ty9, h1]
    refine hK _ _ ?_ rfl; clear hK K
    refine Dwp.condT (by simp [eval, upd]) ?_
    refine Dwp.step tT rfl fun K hK => ?_
    simp [QB, QE, Qk, QJ, own, Ql, dop, QI, eval, Qx, QF, Ex.then, Ex.inBlock, upd, QK, Tag.isNN, Qm, intCmp, Qz, QA, TyI.agg, Qb, Qs, Qd, Qq, QL, QC, Qo, mapOf, Qw, Qn, Qe, Qh, Qf, Qt, DV.cells, Qr, Qg, Qp, Qu, rowsOf, Qv, growLimit, Qa, Qa.go, Qi, Qj, Qc, goInt, init, Qdi, ty9]
    refine hK _ _ (Dwp.ret ?_) rfl
    simp [Q1, QG, QY, frz, QW, QX, Ex.then, Ex.inBlock, upd, Enc.str, swN, h1]
  simp [QB, QE, Qk, QJ, own, Ql, dop, QI, eval, Qx, QF, Ex.then, Ex.inBlock, upd, QK, Tag.isNN, Qm, intCmp, Qz, QA, TyI.agg, Qb, Qs, Qd, Qq, QL, QC, Qo, mapOf, Qw, Qn, Qe, Qh, Qf, Qt, DV.cells, Qr, Qg, Qp, Qu, rowsOf, Qv, growLimit, Qa, Qa.go, Qi, Qj, Qc, goInt, init, Qdi, ty9, h1]
  refine hK _ _ ?_ rfl; clear hK K
  refine Dwp.condF (by simp [eval, upd, h1]) ?_
  refine Dwp.step tT rfl fun K hK => ?_
  by_cases h2 : s = b
  · simp [QB, QE, Qk, QJ, own, Ql, dop, QI, eval, Qx, QF, Ex.then, Ex.inBlock, upd, QK, Tag.isNN, Qm, intCmp, Qz, QA, TyI.agg, Qb, Qs, Qd, Qq, QL, QC, Qo, mapOf, Qw, Qn, Qe, Qh, Qf, Qt, DV.cells, Qr, Qg, Qp, Qu, rowsOf, Qv, growLimit, Qa, Qa.go, Qi, Qj, Qc, goInt, init, Qdi, ty9, h2]
    refine hK _ _ ?_ rfl; clear hK K
    refine Dwp.condT (by simp [eval, upd]) ?_
    refine Dwp.step tT rfl fun K hK => ?_
    simp [QB, QE, Qk, QJ, own, Ql, dop, QI, eval, Qx, QF, Ex.then, Ex.inBlock, upd, QK, Tag.isNN, Qm, intCmp, Qz, QA, TyI.agg, Qb, Qs, Qd, Qq, QL, QC, Qo, mapOf, Qw, Qn, Qe, Qh, Qf, Qt, DV.cells, Qr, Qg, Qp, Qu, rowsOf, Qv, growLimit, Qa, Qa.go, Qi, Qj, Qc, goInt, init, Qdi, ty9]
    refine hK _ _ (Dwp.ret ?_) rfl
    simp [Q1, QG, QY, frz, QW, QX, Ex.then, Ex.inBlock, upd, Enc.str, swN, h1, h2]
    try (intro e; rw [h2] at h1; exact absurd e h1)
  simp [QB, QE, Qk, QJ, own, Ql, dop, QI, eval, Qx, QF, Ex.then, Ex.inBlock, upd, QK, Tag.isNN, Qm, intCmp, Qz, QA, TyI.agg, Qb, Qs, Qd, Qq, QL, QC, Qo, mapOf, Qw, Qn, Qe, Qh, Qf, Qt, DV.cells, Qr, Qg, Qp, Qu, rowsOf, Qv, growLimit, Qa, Qa.go, Qi, Qj, Qc, goInt, init, Qdi, ty9, h2]
  refine hK _ _ ?_ rfl; clear hK K
  refine Dwp.condF (by simp [eval, upd, h2]) (Dwp.skip ?_)
  refine Dwp.step tT rfl fun K hK => ?_
  simp [QB, QE, Qk, QJ, own, Ql, dop, QI, eval, Qx, QF, Ex.then, Ex.inBlock, upd, QK, Tag.isNN, Qm, intCmp, Qz, QA, TyI.agg, Qb, Qs, Qd, Qq, QL, QC, Qo, mapOf, Qw, Qn, Qe, Qh, Qf, Qt, DV.cells, Qr, Qg, Qp, Qu, rowsOf, Qv, growLimit, Qa, Qa.go, Qi, Qj, Qc, goInt, init]
  refine hK _ _ (Dwp.ret ?_) rfl
  simp [Q1, QG, QY, frz, QW, QX, Ex.then, Ex.inBlock, upd, Enc.str, swN, h1, h2]
theorem e177 : Go.FA.Good Tryz.prog (177, sT177) := ⟨c177, Tryz.f177, _, Tryz.func177, rfl, by decide⟩
def Qdd (a b : ByteArray) : Tm → Tm | .mk k n x s ks r => .mk k n (swN a b x) s ks r
def sT179 : Sp := sp (QR Enc.ex Enc.tm) Enc.tm (fun x => some (Qdd x.1.1 x.1.2 x.2))
theorem c179 : Qy Tryz.prog 179 sT179 := by
  refine Qy.of_sp (T := QD [(177, sT177)]) Tryz.func179 rfl (Nat.le_of_ble_eq_true rfl) fun E xx y hy => ?_
  obtain ⟨⟨a, b⟩, ⟨k, n, x, s, ks, r⟩⟩ := xx
  cases hy
  have tT : QO Tryz.prog (QD [(177, sT177)]) := .cons e177 .nil
  have g := QiW (QD [(177, sT177)]) rfl a b x
  generalize QD [(177, sT177)] = T at *
  simp only [QR, QH.one, QH.and, Enc.ex, Enc.agg, QH.ex, Enc.str, List.cons_append, List.nil_append, tmC, Q8]
  refine Dwp.stepH fun K hK => ?_
  show Rg _ _ _ _ K ([0] ++ (1 :: ([2] ++ []))) _ _
  refine Rg.run tT rfl _ _ _ ?_
  simp [Qbn, Qe2, QbJ, QB, QE, Qk, QJ, own, Ql, dop, QI, eval, Qx, QF, Ex.then, Ex.inBlock, upd, QK, Tag.isNN, Qm, intCmp, Qz, QA, TyI.agg, Qb, Qs, Qd, Qq, QL, QC, Qo, mapOf, Qw, Qn, Qe, Qh, Qf, Qt, DV.cells, Qr, Qg, Qp, Qu, rowsOf, Qv, growLimit, Qa, Qa.go, Qi, Qj, Qc, goInt, init]
  refine Rg.box (cs := [.lit (.int .i64 k), .lit (.int .i64 n), .lit (.string x), .lit (.string s), .slice 6 .none (ks.map Tm.cells), .slice 6 .none (r.map Tm.cells)]) rfl rfl rfl rfl (by simp [eval, upd, init, DV.cells]) ?_
  show Rg _ _ _ _ K ([2] ++ []) _ _
  refine Rg.run tT rfl _ _ _ ?_
  simp [Qbn, Qe2, QbJ, QB, QE, Qk, QJ, own, Ql, dop, QI, eval, Qx, QF, Ex.then, Ex.inBlock, upd, QK, Tag.isNN, Qm, intCmp, Qz, QA, TyI.agg, Qb, Qs, Qd, Qq, QL, QC, Qo, mapOf, Qw, Qn, Qe, Qh, Qf, Qt, DV.cells, Qr, Qg, Qp, Qu, rowsOf, Qv, growLimit, Qa, Qa.go, Qi, Qj, Qc, goInt, init, Qaf, σ0]
  refine Rg.nil (hK _ _ ?_)
  clear hK K
  refine Dwp.step tT rfl fun K hK => ?_
  simp [QB, QE, Qk, QJ, own, Ql, dop, QI, eval, Qx, QF, Ex.then, Ex.inBlock, upd, QK, Tag.isNN, Qm, intCmp, Qz, QA, TyI.agg, Qb, Qs, Qd, Qq, QL, QC, Qo, mapOf, Qw, Qn, Qe, Qh, Qf, Qt, DV.cells, Qr, Qg, Qp, Qu, rowsOf, Qv, growLimit, Qa, Qa.go, Qi, Qj, Qc, goInt, init, Qdi, Qaf, ty9, g, setAt]
  refine hK _ _ ?_ rfl; clear hK K
  refine Dwp.step tT rfl fun K hK => ?_
  simp [QB, QE, Qk, QJ, own, Ql, dop, QI, eval, Qx, QF, Ex.then, Ex.inBlock, upd, QK, Tag.isNN, Qm, intCmp, Qz, QA, TyI.agg, Qb, Qs, Qd, Qq, QL, QC, Qo, mapOf, Qw, Qn, Qe, Qh, Qf, Qt, DV.cells, Qr, Qg, Qp, Qu, rowsOf, Qv, growLimit, Qa, Qa.go, Qi, Qj, Qc, goInt, init, Qdi, Qaf, ty9, g, setAt]
  refine hK _ _ (Dwp.ret ?_) rfl
  simp [Q1, QG, QY, frz, QW, QX, upd, Qz, Qaf, QA, TyI.agg, Enc.tm, Enc.agg, QH.tm, Tm.decL, Tm.decC, Qdd, Tm.dec_rows, ← Tm.rows_map]
theorem e179 : Go.FA.Good Tryz.prog (179, sT179) := ⟨c179, Tryz.f179, _, Tryz.func179, rfl, by decide⟩
theorem call179 (T : Tab) (hT : T 179 = some sT179) (a b : ByteArray) (t : Tm) : dcall T 179 [.agg [.lit (.string a), .lit (.string b)], .agg t.cells] = some (.agg (Qdd a b t).cells) :=
  Qa9 (A := Enc.ex) (B := Enc.tm) (C := Enc.tm) (x := (a, b)) hT rfl
def Enc.fnX : Enc (FuncId × ByteArray × ByteArray) where
  enc x := .func (.func x.1) [.agg [.lit (.string x.2.1), .lit (.string x.2.2)]] []
  dec d := match d with | .func (.func f) [.agg [.lit (.string a), .lit (.string b)]] [] => some (f, a, b) | _ => none
  le d x h := by
    split at h
    · simp at h; subst h; exact DLe.refl _
    · simp at h
  pure _ := by simp [Qaz, QaC]
  de _ := rfl
theorem Qbx {α : Type} : ∀ (v cs : List α) (o : Nat), o + v.length ≤ cs.length → setAt cs o v = cs.take o ++ v ++ cs.drop (o + v.length)
  | [], cs, o, _ => by simp [setAt]
  | x :: v, cs, o, h => by
    simp only [List.length_cons] at h
    rw [setAt, Qbx v (cs.set o x) (o + 1) (by simp; omega)]
    have h1 : o < cs.length := by omega
    have e1 : (cs.set o x).take (o + 1) = cs.take o ++ [x] := by
      rw [List.take_succ_eq_append_getElem (by simp; omega), List.take_set_of_le (Nat.le_refl _)]
      simp
    have e2 : (cs.set o x).drop (o + 1 + v.length) = cs.drop (o + (v.length + 1)) := by
      rw [List.drop_set_of_lt (by omega)]
      congr 1; omega
    rw [e1, e2]; simp
theorem Qhc {α : Type} {k : Nat} : ∀ (rows : List (List α)) (i : Nat), (∀ r ∈ rows, r.length = k) → rows.flatten.take (i * k) = (rows.take i).flatten
  | [], i, _ => by simp
  | r :: rs, 0, _ => by simp
  | r :: rs, i + 1, h => by
    have hr := h r (by simp)
    rw [List.flatten_cons, List.take_succ_cons, List.flatten_cons, show (i + 1) * k = r.length + i * k by rw [hr, Nat.succ_mul, Nat.add_comm], List.take_length_add_append, Qhc rs i fun x hx => h x (by simp [hx])]
theorem QgZ {α : Type} {k : Nat} : ∀ (rows : List (List α)) (i : Nat), (∀ r ∈ rows, r.length = k) → rows.flatten.drop (i * k) = (rows.drop i).flatten
  | [], i, _ => by simp
  | r :: rs, 0, _ => by simp
  | r :: rs, i + 1, h => by
    have hr := h r (by simp)
    rw [List.flatten_cons, List.drop_succ_cons, show (i + 1) * k = r.length + i * k by rw [hr, Nat.succ_mul, Nat.add_comm], ← List.drop_drop, List.drop_left, QgZ rs i fun x hx => h x (by simp [hx])]
theorem QfY {α : Type} {k : Nat} : ∀ (rows : List (List α)), (∀ r ∈ rows, r.length = k) → rows.flatten.length = rows.length * k
  | [], _ => by simp
  | r :: rs, h => by
    rw [List.flatten_cons, List.length_append, h r (by simp), QfY rs fun x hx => h x (by simp [hx]), List.length_cons, Nat.succ_mul, Nat.add_comm]
theorem setAt_flat {α : Type} {k : Nat} (rows : List (List α)) (i : Nat) (v : List α) (h : ∀ r ∈ rows, r.length = k) (hi : i < rows.length) (hv : v.length = k) : setAt rows.flatten (i * k) v = (rows.take i ++ v :: rows.drop (i + 1)).flatten := by
  have hb : i * k + k ≤ rows.length * k := by rw [← Nat.succ_mul]; exact Nat.mul_le_mul_right k hi
  rw [Qbx _ _ _ (by rw [QfY rows h, hv]; exact hb), Qhc rows i h, hv, ← Nat.succ_mul, QgZ rows (i + 1) h]
  simp
def z6 : List DV := [.lit (.int .i64 0), .lit (.int .i64 0), .lit (.string ⟨#[]⟩), .lit (.string ⟨#[]⟩), .lit (.slice none 0 0), .lit (.slice none 0 0)]
def QbX (g : Tm → Tm) (l : List Tm) (i : Nat) : List (List DV) := (l.take i).map (fun t => (g t).cells) ++ List.replicate (l.length - i) z6
theorem Qgn (g : Tm → Tm) (l : List Tm) (i : Nat) (hi : i ≤ l.length) : (QbX g l i).length = l.length := by simp [QbX]; omega
theorem QgS (g : Tm → Tm) (l : List Tm) (i : Nat) : ∀ r ∈ QbX g l i, r.length = 6 := by
  intro r hr
  rcases List.mem_append.1 hr with h | h
  · obtain ⟨t, _, rfl⟩ := List.mem_map.1 h
    exact Tm.cells_len _
  · rw [List.eq_of_mem_replicate h]; rfl
theorem rowsI_next (g : Tm → Tm) (l : List Tm) (i : Nat) (hi : i < l.length) : (QbX g l i).take i ++ (g l[i]).cells :: (QbX g l i).drop (i + 1) = QbX g l (i + 1) := by
  have h1 : (QbX g l i).take i = (l.take i).map (fun t => (g t).cells) := by
    rw [QbX, List.take_append_of_le_length (by simp; omega)]
    exact List.take_of_length_le (by simp; exact Nat.min_le_left _ _)
  have h2 : (QbX g l i).drop (i + 1) = List.replicate (l.length - (i + 1)) z6 := by
    rw [QbX, List.drop_append, List.drop_eq_nil_of_le (by simp; omega), List.nil_append, List.drop_replicate]
    congr 1; simp; omega
  rw [h1, h2, QbX, List.take_succ_eq_append_getElem hi]
  simp only [List.map_append, List.map_cons, List.map_nil, List.append_assoc, List.cons_append, List.nil_append]
theorem QeU (g : Tm → Tm) : ∀ l : List Tm, Qac QH.tm (l.map fun t => (g t).cells) = some (l.map g)
  | [] => rfl
  | t :: l => by
    have ih := QeU g l
    have h1 : QH.tm.dec (g t).cells = some (g t) := Tm.dec_cells _
    simp only [List.map_cons, Qac]
    rw [ih, h1]
set_option maxHeartbeats 2000000 in
theorem each_body {T : Tab} (tT : QO Tryz.prog T) (f : FuncId) (a0 b : ByteArray) (g : Tm → Tm) (l : List Tm) (hl : l.length ≤ 16777216) (hg : ∀ t ∈ l, dcall T f [.agg [.lit (.string a0), .lit (.string b)], .agg t.cells] = some (.agg (g t).cells)) (E : QhZ) :
    ∀ c, Tryz.f172.body = some c → Dwp Tryz.prog T E.val Tryz.f172.ntmps c (Q1 Tryz.prog Tryz.f172.results Enc.tms (l.map g)) (init [.slice 6 .none (l.map Tm.cells), .func (.func f) [.agg [.lit (.string a0), .lit (.string b)]] []]) σ0 := by
  intro c hc
  cases hc
  refine Dwp.step tT rfl fun K hK => ?_
  simp [QB, QE, Qk, QJ, own, Ql, dop, QI, eval, Qx, QF, Ex.then, Ex.inBlock, upd, QK, Tag.isNN, Qm, intCmp, Qz, QA, TyI.agg, Qb, Qs, Qd, Qq, QL, QC, Qo, mapOf, Qw, Qn, Qe, Qh, Qf, Qt, DV.cells, Qr, Qg, Qp, Qu, rowsOf, Qv, growLimit, Qa, Qa.go, Qi, Qj, Qc, goInt, init]
  refine hK _ _ ?_ rfl; clear hK K
  refine Dwp.seq ?_
  refine Dwp.step tT rfl fun K hK => ?_
  by_cases h0 : l = []
  · subst h0
    simp [QB, QE, Qk, QJ, own, Ql, dop, QI, eval, Qx, QF, Ex.then, Ex.inBlock, upd, QK, Tag.isNN, Qm, intCmp, Qz, QA, TyI.agg, Qb, Qs, Qd, Qq, QL, QC, Qo, mapOf, Qw, Qn, Qe, Qh, Qf, Qt, DV.cells, Qr, Qg, Qp, Qu, rowsOf, Qv, growLimit, Qa, Qa.go, Qi, Qj, Qc, goInt, init, QaF]
    refine hK _ _ ?_ rfl; clear hK K
    refine Dwp.condT (by simp [eval, upd]) ?_
    refine Dwp.step tT rfl fun K hK => ?_
    simp [QB, QE, Qk, QJ, own, Ql, dop, QI, eval, Qx, QF, Ex.then, Ex.inBlock, upd, QK, Tag.isNN, Qm, intCmp, Qz, QA, TyI.agg, Qb, Qs, Qd, Qq, QL, QC, Qo, mapOf, Qw, Qn, Qe, Qh, Qf, Qt, DV.cells, Qr, Qg, Qp, Qu, rowsOf, Qv, growLimit, Qa, Qa.go, Qi, Qj, Qc, goInt]
    refine hK _ _ (Dwp.ret ?_) rfl
    simp [Q1, QG, QY, frz, QW, QX, Ex.then, upd, Enc.tms, Enc.slice, QH.tm]
  have hne := len_nil h0
  obtain ⟨N, hN⟩ : ∃ N : Int, (l.length : Int) = N := ⟨_, rfl⟩
  rw [hN] at hne
  simp [QB, QE, Qk, QJ, own, Ql, dop, QI, eval, Qx, QF, Ex.then, Ex.inBlock, upd, QK, Tag.isNN, Qm, intCmp, Qz, QA, TyI.agg, Qb, Qs, Qd, Qq, QL, QC, Qo, mapOf, Qw, Qn, Qe, Qh, Qf, Qt, DV.cells, Qr, Qg, Qp, Qu, rowsOf, Qv, growLimit, Qa, Qa.go, Qi, Qj, Qc, goInt, init, QaF, hN, hne]
  refine hK _ _ ?_ rfl; clear hK K
  refine Dwp.condF (by simp [eval, upd, hne]) (Dwp.skip ?_)
  refine Dwp.stepH fun K hK => ?_
  show Rg _ _ _ _ K ([0, 1] ++ (2 :: ([3] ++ []))) _ _
  refine Rg.run tT rfl _ _ _ ?_
  simp [Qbn, Qe2, QbJ, QB, QE, Qk, QJ, own, Ql, dop, QI, eval, Qx, QF, Ex.then, Ex.inBlock, upd, QK, Tag.isNN, Qm, intCmp, Qz, QA, TyI.agg, Qb, Qs, Qd, Qq, QL, QC, Qo, mapOf, Qw, Qn, Qe, Qh, Qf, Qt, DV.cells, Qr, Qg, Qp, Qu, rowsOf, Qv, growLimit, Qa, Qa.go, Qi, Qj, Qc, goInt, init, QaF]
  have hgl : l.length ≤ growLimit := by unfold growLimit; exact hl
  refine Rg.makeL (d := .live 4 6 0 l.length) (σ1 := { σ0 with n := 4, objs := upd σ0.objs 4 (some (.buf 30 (QbX g l 0).flatten)) }) rfl rfl rfl rfl (by simp [QfF, QaF, Qaf, eval, upd, Qv, DV.cells, hgl, QbX, z6, σ0]) ?_
  show Rg _ _ _ _ K ([3] ++ []) _ _
  refine Rg.run tT rfl _ _ _ ?_
  simp [Qbn, Qe2, QbJ, QB, QE, Qk, QJ, own, Ql, dop, QI, eval, Qx, QF, Ex.then, Ex.inBlock, upd, QK, Tag.isNN, Qm, intCmp, Qz, QA, TyI.agg, Qb, Qs, Qd, Qq, QL, QC, Qo, mapOf, Qw, Qn, Qe, Qh, Qf, Qt, DV.cells, Qr, Qg, Qp, Qu, rowsOf, Qv, growLimit, Qa, Qa.go, Qi, Qj, Qc, goInt, σ0]
  refine Rg.nil (hK _ _ ?_)
  clear hK K
  refine Dwp.seq ?_
  refine Dwp.step tT rfl fun K hK => ?_
  simp [QB, QE, Qk, QJ, own, Ql, dop, QI, eval, Qx, QF, Ex.then, Ex.inBlock, upd, QK, Tag.isNN, Qm, intCmp, Qz, QA, TyI.agg, Qb, Qs, Qd, Qq, QL, QC, Qo, mapOf, Qw, Qn, Qe, Qh, Qf, Qt, DV.cells, Qr, Qg, Qp, Qu, rowsOf, Qv, growLimit, Qa, Qa.go, Qi, Qj, Qc, goInt, init, QaF]
  refine hK _ _ ?_ rfl; clear hK K
  refine Dwp.range tT l.length (fun i a τ => a 1 = .func (.func f) [.agg [.lit (.string a0), .lit (.string b)]] [] ∧ a 5 = .live 4 6 0 l.length ∧ a 14 = .slice 6 .none (l.map Tm.cells) ∧ 4 < τ.n ∧ τ.objs 4 = some (.buf 30 (QbX g l i).flatten))
    ⟨rfl, rfl, rfl⟩ ⟨rfl, rfl, rfl⟩ ⟨rfl, rfl, rfl⟩ (by decide) (by decide) (by omega) (by simp [upd]) (by simp [upd]) ⟨by simp [upd, init], by simp [upd], by simp [upd], by simp, by simp [upd]⟩ ?_ ?_
  · rintro i a τ hi hidx hlen2 ⟨g1, g5, g14, g4, gob⟩
    have hgi := hg l[i] (List.getElem_mem _)
    have hi' : (i : Int) < (l.length : Int) := by omega
    have hfl : i * 6 + 6 ≤ (QbX g l i).flatten.length := by
      rw [QfY _ (QgS g l i), Qgn g l i (by omega), ← Nat.succ_mul]; exact Nat.mul_le_mul_right 6 hi
    have hset := setAt_flat (QbX g l i) i (g l[i]).cells (QgS g l i) (by rw [Qgn g l i (by omega)]; exact hi) (Tm.cells_len _)
    rw [rowsI_next g l i hi] at hset
    have hne4 : ¬ 4 = τ.n + 1 + 3 := by omega
    generalize (QbX g l i).flatten = fl at gob hset hfl
    refine Dwp.step tT rfl fun K hK => ?_
    simp [QB, QE, Qk, QJ, own, Ql, dop, QI, eval, Qx, QF, Ex.then, Ex.inBlock, upd, QK, Tag.isNN, Qm, intCmp, Qz, QA, TyI.agg, Qb, Qs, Qd, Qq, QL, QC, Qo, mapOf, Qw, Qn, Qe, Qh, Qf, Qt, DV.cells, Qr, Qg, Qp, Qu, rowsOf, Qv, growLimit, Qa, Qa.go, Qi, Qj, Qc, goInt, g14, hidx, QaF, Qaf, hi, Tm.cells_len, Q6, set6]
    refine hK _ _ ?_ rfl; clear hK K
    refine Dwp.reg tT rfl fun K hK => ?_
    simp [QB, QE, Qk, QJ, own, Ql, dop, QI, eval, Qx, QF, Ex.then, Ex.inBlock, upd, QK, Tag.isNN, Qm, intCmp, Qz, QA, TyI.agg, Qb, Qs, Qd, Qq, QL, QC, Qo, mapOf, Qw, Qn, Qe, Qh, Qf, Qt, DV.cells, Qr, Qg, Qp, Qu, rowsOf, Qv, growLimit, Qa, Qa.go, Qi, Qj, Qc, goInt, g1, g5, hidx, QaF, Qaf, hi, hi', Tm.cells_len, Q6, hgi, gob, hne4, show ¬ τ.n = 0 by omega, hset, hfl]
    refine hK _ _ ?_ rfl
    exact ⟨by simp [upd, hidx], by simp [upd, hlen2], by simp [upd, g1], by simp [upd, g5], by simp [upd, g14], by simp only []; omega, by simp [upd]⟩
  · rintro a τ hidx hlen2 ⟨g1, g5, g14, g4, gob⟩
    have hr : QbX g l l.length = l.map (fun t => (g t).cells) := by simp [QbX]
    rw [hr] at gob
    refine Dwp.freezeL 4 6 (fun t => if t = 5 then .slice 6 .none (l.map (fun t => (g t).cells)) else .junk) gob (by intro r hr; obtain ⟨t, _, rfl⟩ := List.mem_map.1 hr; exact Tm.cells_len _) (fun t => ?_) ?_
    · by_cases h5 : t = 5
      · subst h5
        rw [show upd a 17 (DV.lit (.bool false)) 5 = .live 4 6 0 l.length by simp [upd, g5]]
        have : l.length = (l.map (fun t => (g t).cells)).length := by simp
        rw [this]; exact .live
      · simp only [h5, if_false]; exact .junk _
    refine Dwp.step tT rfl fun K hK => ?_
    simp [QB, QE, Qk, QJ, own, Ql, dop, QI, eval, Qx, QF, Ex.then, Ex.inBlock, upd, QK, Tag.isNN, Qm, intCmp, Qz, QA, TyI.agg, Qb, Qs, Qd, Qq, QL, QC, Qo, mapOf, Qw, Qn, Qe, Qh, Qf, Qt, DV.cells, Qr, Qg, Qp, Qu, rowsOf, Qv, growLimit, Qa, Qa.go, Qi, Qj, Qc, goInt]
    refine hK _ _ (Dwp.ret ?_) rfl
    have hd := QeU g l
    simp [Q1, QG, QY, frz, QW, QX, Ex.then, upd, Enc.tms, Enc.slice, hd]
    rfl
def Qbp (a b : ByteArray) (k : Int) (x : ByteArray) : ByteArray := if k = 5 then swN a b (Qcm x).1 ++ (Qcm x).2 else if k = 6 ∧ Qho x = false then swN a b x else x
def QbA (a b : ByteArray) (k : Int) (x s : ByteArray) : ByteArray := if k = 6 ∧ Qho x = false then swN a b s else s
mutual
def Qc8 (a b : ByteArray) : Tm → Tm
  | .mk k n x s ks r => .mk k n (Qbp a b k x) (QbA a b k x s) (Qbj a b ks) (r.map (Qdd a b))
def Qbj (a b : ByteArray) : List Tm → List Tm
  | [] => []
  | t :: l => Qc8 a b t :: Qbj a b l
end
theorem Qer (a b : ByteArray) : ∀ l : List Tm, Qbj a b l = l.map (Qc8 a b)
  | [] => rfl
  | t :: l => by simp [Qbj, Qer a b l]
open Classical in
noncomputable def QdS (n : Nat) : Sp := sp (QR Enc.ex Enc.tm) Enc.tm (fun x => if tsz x.2 ≤ n ∧ okT x.2 ∧ x.1.1.size ≤ lim ∧ x.1.2.size ≤ lim then some (Qc8 x.1.1 x.1.2 x.2) else none)
def chg (c : FuncId × ByteArray × ByteArray) : Tm → Tm := if c.1 = 179 then Qdd c.2.1 c.2.2 else Qc8 c.2.1 c.2.2
open Classical in
noncomputable def QeR (n : Nat) : Sp := sp (QR Enc.tms Enc.fnX) Enc.tms (fun x => if x.1.length ≤ 16777216 ∧ (x.2.1 = 179 ∨ (x.2.1 = 106 ∧ Qbf x.1 ≤ n ∧ QdK x.1 ∧ x.2.2.1.size ≤ lim ∧ x.2.2.2.size ≤ lim)) then some (x.1.map (chg x.2)) else none)
open Classical in
theorem Qi3 {n : Nat} (T : Tab) (hT : T 106 = some (QdS n)) (a b : ByteArray) (t : Tm) (h : tsz t ≤ n ∧ okT t ∧ a.size ≤ lim ∧ b.size ≤ lim) : dcall T 106 [.agg [.lit (.string a), .lit (.string b)], .agg t.cells] = some (.agg (Qc8 a b t).cells) :=
  Qa9 (A := Enc.ex) (B := Enc.tm) (C := Enc.tm) (x := (a, b)) hT (if_pos h)
open Classical in
theorem QiI {n : Nat} (T : Tab) (hT : T 172 = some (QeR n)) (l : List Tm) (c : FuncId × ByteArray × ByteArray) (h : l.length ≤ 16777216 ∧ (c.1 = 179 ∨ (c.1 = 106 ∧ Qbf l ≤ n ∧ QdK l ∧ c.2.1.size ≤ lim ∧ c.2.2.size ≤ lim))) :
    dcall T 172 [.slice 6 .none (l.map Tm.cells), .func (.func c.1) [.agg [.lit (.string c.2.1), .lit (.string c.2.2)]] []] = some (.slice 6 .none ((l.map (chg c)).map Tm.cells)) :=
  Qa9 (A := Enc.tms) (B := Enc.fnX) (C := Enc.tms) hT (if_pos h)
theorem c172 (n : Nat) (c106 : Qy Tryz.prog 106 (QdS n)) : Qy Tryz.prog 172 (QeR n) := by
  refine Qy.of_sp (T := QD [(106, QdS n), (179, sT179)]) Tryz.func172 rfl (Nat.le_of_ble_eq_true rfl) fun E xx y hy => ?_
  obtain ⟨l, f, a, b⟩ := xx
  simp only [] at hy
  split at hy
  case isFalse => cases hy
  next hlim =>
  obtain ⟨hl, hc⟩ := hlim
  cases hy
  have tT : QO Tryz.prog (QD [(106, QdS n), (179, sT179)]) := .cons ⟨c106, Tryz.f106, _, Tryz.func106, rfl, by decide⟩ (.cons e179 .nil)
  refine each_body tT f a b (chg (f, a, b)) l hl (fun t ht => ?_) E _ rfl
  rcases hc with rfl | ⟨rfl, h1, h2, h3, h4⟩
  · exact call179 _ rfl a b t
  · exact Qi3 _ rfl a b t ⟨by have := Qam l t ht; omega, QbW l t h2 ht, h3, h4⟩
end Go.Proofs.Yt
