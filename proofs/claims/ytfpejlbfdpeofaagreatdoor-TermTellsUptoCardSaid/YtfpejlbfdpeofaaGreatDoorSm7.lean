/- Contracts of functions of the program, by a machine over abstract values; part 8. No condition beyond those of each theorem. -/
import Derived.Test.YtfpejlbfdpeofaaGreatDoorSm6
set_option linter.unusedVariables false
set_option linter.unusedSimpArgs false
namespace Go.Proofs.Yt
open Go Go.FA Go.Proofs
set_option maxRecDepth 100000
section
attribute [local simp] QF QZ Qo QJ own Qm dop QN eval Qr Qn Ex.then Ex.inBlock upd QV Tag.isNN Qp intCmp Qv Qx TyI.agg Qa Qu Qg Qs QX QA QD mapOf QQ QC Qq Qi Qj QI DV.cells Qt Qk QE QK rowsOf QL Qd Qe Qe.go Qz QB Qc goInt
def digit (d : ByteArray) : Bool := match d.data.toList with | [c] => decide (49 ≤ (c.toNat : Int)) && decide ((c.toNat : Int) ≤ 56) | _ => false
def QeQ (s : ByteArray) : Bool := QU (Qai s).1 && (!(Qai s).2.2 || digit (Qai s).2.1)
theorem size_one {d : ByteArray} (h : d.size = 1) : ∃ c, d = ⟨#[c]⟩ := by
  obtain ⟨⟨l⟩⟩ := d
  match l, h with
  | [c], _ => exact ⟨c, rfl⟩
theorem digit_ne {d : ByteArray} (h : d.size ≠ 1) : digit d = false := by
  obtain ⟨⟨l⟩⟩ := d
  match l, h with
  | [], _ => rfl
  | [c], h => exact absurd rfl h
  | _ :: _ :: _, _ => rfl
theorem callCut (T : Tab) (hT : T 353 = some s357) (s : ByteArray) (hs : s.size ≤ lim) : dcall T 353 [.lit (.string s), .lit (.string ⟨#[39]⟩)] = some (.tuple [.lit (.string (Qai s).1), .lit (.string (Qai s).2.1), .lit (.bool (Qai s).2.2)]) := by
  simp [dcall, hT, s357, sp, QR, Q6, Ql.and, Ql.one, Enc.str, Enc.bool, hs, Enc.cut, Enc.tup]
def s344 : Sp := sp (QM Enc.str) Enc.bool (fun s => if s.size ≤ lim then some (QeQ s) else none)
theorem t132 : QH Tryz.prog (Qf [(353, s357), (105, s105)]) := .cons e353 (.cons Qk4 .nil)
theorem c344 : Qb Tryz.prog 344 s344 := by
  refine Qb.of_sp (T := Qf [(353, s357), (105, s105)]) Tryz.func344 rfl (Nat.le_of_ble_eq_true rfl) fun E s y hy => ?_
  by_cases hlim : s.size ≤ lim <;> simp [hlim] at hy
  subst hy
  refine Dwp.step t132 rfl fun K hK => ?_
  simp [dcall, Qf, setAt, init, QM, QR, Q6, Ql.one, Ql.and, Enc.bool, Enc.int, Enc.str, Enc.strs, Enc.slice, Enc.agg, Enc.tup, Enc.err, Enc.fn]
  refine hK _ _ ?_ rfl; clear hK K
  have g1 := callCut (Qf [(353, s357), (105, s105)]) rfl s hlim
  have g2 := Qct (Qf [(353, s357), (105, s105)]) rfl (Qai s).1
  generalize hcut : Qai s = q at g1 g2
  obtain ⟨n, d, f⟩ := q
  refine Dwp.step t132 rfl fun K hK => ?_
  simp only [dcall, Qf] at g1 g2
  simp at g1 g2
  simp [dcall, Qf, setAt, init, QM, QR, Q6, Ql.one, Ql.and, Enc.bool, Enc.int, Enc.str, Enc.strs, Enc.slice, Enc.agg, Enc.tup, Enc.err, Enc.fn, g1]
  refine hK _ _ ?_ rfl; clear hK K
  refine Dwp.step t132 rfl fun K hK => ?_
  have hok : QeQ s = (QU n && (!f || digit d)) := by simp [QeQ, hcut]
  cases h1 : QU n with
  | false =>
    simp [dcall, Qf, setAt, g2, h1]
    refine hK _ _ (Dwp.ret ?_) rfl
    simp [Q3, Qh, QW, frz, Q2, Q0, init, QM, QR, Q6, Ql.one, Ql.and, Enc.bool, Enc.int, Enc.str, Enc.strs, Enc.slice, Enc.agg, Enc.tup, Enc.err, Enc.fn, Ex.then, upd, hok, h1]
  | true =>
    cases f with
    | false =>
      simp [dcall, Qf, setAt, g2, h1]
      refine hK _ _ (Dwp.ret ?_) rfl
      simp [Q3, Qh, QW, frz, Q2, Q0, init, QM, QR, Q6, Ql.one, Ql.and, Enc.bool, Enc.int, Enc.str, Enc.strs, Enc.slice, Enc.agg, Enc.tup, Enc.err, Enc.fn, Ex.then, upd, hok, h1]
    | true =>
      by_cases hd : d.size = 1
      · obtain ⟨c, rfl⟩ := size_one hd
        have e1 : (ByteArray.mk #[c]).size = 1 := rfl
        have e2 : (ByteArray.mk #[c])[0]? = some c := rfl
        have e3 : (ByteArray.mk #[c])[0]'(by rw [e1]; omega) = c := rfl
        have hdg : digit ⟨#[c]⟩ = (decide (49 ≤ (c.toNat : Int)) && decide ((c.toNat : Int) ≤ 56)) := rfl
        by_cases h49 : 49 ≤ (c.toNat : Int)
        · simp [dcall, Qf, setAt, g2, h1, ty9, e1, e2, e3, h49]
          refine hK _ _ (Dwp.ret ?_) rfl
          simp [Q3, Qh, QW, frz, Q2, Q0, init, QM, QR, Q6, Ql.one, Ql.and, Enc.bool, Enc.int, Enc.str, Enc.strs, Enc.slice, Enc.agg, Enc.tup, Enc.err, Enc.fn, Ex.then, upd, hok, h1, hdg, h49]
        · simp [dcall, Qf, setAt, g2, h1, ty9, e1, e2, e3, h49]
          refine hK _ _ (Dwp.ret ?_) rfl
          simp [Q3, Qh, QW, frz, Q2, Q0, init, QM, QR, Q6, Ql.one, Ql.and, Enc.bool, Enc.int, Enc.str, Enc.strs, Enc.slice, Enc.agg, Enc.tup, Enc.err, Enc.fn, Ex.then, upd, hok, h1, hdg, h49]
      · have hd' : ((d.size : Int) == 1) = false := by simp; omega
        simp [dcall, Qf, setAt, g2, h1, ty9, hd']
        refine hK _ _ (Dwp.ret ?_) rfl
        simp [Q3, Qh, QW, frz, Q2, Q0, init, QM, QR, Q6, Ql.one, Ql.and, Enc.bool, Enc.int, Enc.str, Enc.strs, Enc.slice, Enc.agg, Enc.tup, Enc.err, Enc.fn, Ex.then, upd, hok, h1, digit_ne hd]
theorem e344 : Go.FA.Good Tryz.prog (344, s344) := ⟨c344, Tryz.f344, _, Tryz.func344, rfl, by decide⟩
@[simp] theorem opd0 (o : OpD) : (Ql.opd.enc o)[0]? = some (.lit (.string o.name)) := rfl
@[simp] theorem opd1 (o : OpD) : (Ql.opd.enc o)[1]? = some (Enc.strs.enc o.args) := rfl
@[simp] theorem opd2 (o : OpD) : (Ql.opd.enc o)[2]? = some (.lit (.string o.sort)) := rfl
@[simp] theorem opd3 (o : OpD) : (Ql.opd.enc o)[3]? = some (Enc.pies.enc o.pieces) := rfl
@[simp] theorem opd4 (o : OpD) : (Ql.opd.enc o)[4]? = some (.lit (.int .i64 o.prec)) := rfl
@[simp] theorem opd5 (o : OpD) : (Ql.opd.enc o)[5]? = some (.lit (.int .i64 o.assoc)) := rfl
@[simp] theorem opd6 (o : OpD) : (Ql.opd.enc o)[6]? = some (Enc.ints.enc o.strict) := rfl
@[simp] theorem opdLen (o : OpD) : (Ql.opd.enc o).length = 7 := rfl
@[simp] theorem opdTake (o : OpD) : (Ql.opd.enc o).take 7 = Ql.opd.enc o := rfl
@[simp] theorem bookLen (b : Book) : (Ql.book.enc b).length = 3 := rfl
@[simp] theorem bookTake (b : Book) : (Ql.book.enc b).take 3 = Ql.book.enc b := rfl
theorem call344 (T : Tab) (hT : T 344 = some s344) (s : ByteArray) (hs : s.size ≤ lim) : dcall T 344 [.lit (.string s)] = some (.lit (.bool (QeQ s))) := by
  simp [dcall, hT, s344, sp, QM, Ql.one, Enc.str, Enc.bool, hs]
theorem Qj5 (T : Tab) (hT : T 120 = some s120) (s : ByteArray) : dcall T 120 [.lit (.string s)] = some (.lit (.bool (Qb8 s))) := by
  simp [dcall, hT, s120, sp, QM, Ql.one, Enc.str, Enc.bool]
theorem QjO (T : Tab) (hT : T 339 = some s339) (b : Book) (s : ByteArray) : dcall T 339 [.agg (Ql.book.enc b), .lit (.string s)] = some (.lit (.bool (b.decl s))) := by
  simp [dcall, hT, s339, sp, QR, Ql.and, Ql.one, Enc.book, Enc.agg, Ql.book.de, Enc.str, Enc.bool]
def Qgy (b : Book) (o : OpD) : Bool := decide (o.args.length ≤ 8) && o.args.all b.has
theorem Qkk (T : Tab) (hT : T 345 = some s345) (b : Book) (o : OpD) : dcall T 345 [.agg (Ql.book.enc b), .agg (Ql.opd.enc o)] = some (.lit (.bool (Qgy b o))) := by
  simp [dcall, hT, s345, sp, QR, Ql.and, Ql.one, Enc.book, Enc.opd, Enc.agg, Ql.book.de, Ql.opd.de, Enc.bool, Qgy]
theorem call346 (T : Tab) (hT : T 346 = some s346) (o : OpD) (h : o.args.length ≤ lim) : dcall T 346 [.agg (Ql.opd.enc o)] = some (.lit (.bool (QbC o))) := by
  simp [dcall, hT, s346, sp, QM, Ql.one, Enc.opd, Enc.agg, Ql.opd.de, Enc.bool, h]
theorem call347 (T : Tab) (hT : T 347 = some s347) (o : OpD) : dcall T 347 [.agg (Ql.opd.enc o)] = some (.lit (.bool (Qcc o))) := by
  simp [dcall, hT, s347, sp, QM, Ql.one, Enc.opd, Enc.agg, Ql.opd.de, Enc.bool]
def QgP (o : OpD) : Bool := o.strict.all (fun n => decide (1 ≤ n) && decide (n ≤ o.args.length)) && decide o.strict.Nodup
theorem call348 (T : Tab) (hT : T 348 = some s348) (o : OpD) (h : o.args.length ≤ lim) (h' : o.strict.length ≤ lim) : dcall T 348 [.agg (Ql.opd.enc o)] = some (.lit (.bool (QgP o))) := by
  simp [dcall, hT, s348, sp, QM, Ql.one, Enc.opd, Enc.agg, Ql.opd.de, Enc.bool, h, h', QgP]
def OpD.small (o : OpD) : Prop := o.name.size ≤ lim ∧ o.args.length ≤ lim ∧ o.pieces.length ≤ lim ∧ o.strict.length ≤ lim
instance (o : OpD) : Decidable o.small := by unfold OpD.small; infer_instance
def Qf3 (b : Book) (o : OpD) : Bool := !QeQ o.name || Qb8 o.name || !Qgy b o || !b.decl o.sort || !QbC o || !Qcc o || !QgP o
def s330 : Sp := sp (QR Enc.book Enc.opd) Enc.bool (fun x => if x.2.small then some (Qf3 x.1 x.2) else none)
abbrev T116 : Tab := Qf [(344, s344), (120, s120), (345, s345), (339, s339), (346, s346), (347, s347), (348, s348)]
theorem t116 : QH Tryz.prog T116 := .cons e344 (.cons e120 (.cons e345 (.cons e339 (.cons e346 (.cons e347 (.cons e348 .nil))))))
theorem c330 : Qb Tryz.prog 330 s330 := by
  refine Qb.of_sp (T := T116) Tryz.func330 rfl (Nat.le_of_ble_eq_true rfl) fun E x y hy => ?_
  obtain ⟨b, o⟩ := x
  by_cases hs : o.small <;> simp [hs] at hy
  subst hy
  obtain ⟨hn, ha, hp, hst⟩ := hs
  have g1 := call344 T116 rfl o.name hn
  have g2 := Qj5 T116 rfl o.name
  have g3 := Qkk T116 rfl b o
  have g4 := QjO T116 rfl b o.sort
  have g5 := call346 T116 rfl o ha
  have g6 := call347 T116 rfl o
  have g7 := call348 T116 rfl o ha hst
  refine Dwp.step t116 rfl fun K hK => ?_
  simp [dcall, Qf, setAt, init, QM, QR, Q6, Ql.one, Ql.and, Enc.bool, Enc.int, Enc.str, Enc.strs, Enc.slice, Enc.agg, Enc.tup, Enc.err, Enc.fn, Enc.opd, Enc.book]
  refine hK _ _ ?_ rfl; clear hK K
  refine Dwp.step t116 rfl fun K hK => ?_
  generalize hT : T116 = T at *
  cases k1 : QeQ o.name with
  | false =>
    simp [QF, Qo, QJ, own, Qm, dop, QN, eval, Qr, Qn, upd, Qa, Qv, Qx, TyI.agg, QbY, Q1, ty9, Qi, g1, k1]
    refine hK _ _ (Dwp.ret ?_) rfl
    simp [Q3, Qh, QW, frz, Q2, Q0, init, QM, QR, Q6, Ql.one, Ql.and, Enc.bool, Enc.int, Enc.str, Enc.strs, Enc.slice, Enc.agg, Enc.tup, Enc.err, Enc.fn, Ex.then, upd, Qf3, k1]
  | true =>
  cases k2 : Qb8 o.name with
  | true =>
    simp [QF, Qo, QJ, own, Qm, dop, QN, eval, Qr, Qn, upd, Qa, Qv, Qx, TyI.agg, QbY, Q1, ty9, Qi, g1, k1, g2, k2]
    refine hK _ _ (Dwp.ret ?_) rfl
    simp [Q3, Qh, QW, frz, Q2, Q0, init, QM, QR, Q6, Ql.one, Ql.and, Enc.bool, Enc.int, Enc.str, Enc.strs, Enc.slice, Enc.agg, Enc.tup, Enc.err, Enc.fn, Ex.then, upd, Qf3, k1, k2]
  | false =>
  cases k3 : Qgy b o with
  | false =>
    simp [QF, Qo, QJ, own, Qm, dop, QN, eval, Qr, Qn, upd, Qa, Qv, Qx, TyI.agg, QbY, Q1, ty9, Qi, g1, k1, g2, k2, g3, k3]
    refine hK _ _ (Dwp.ret ?_) rfl
    simp [Q3, Qh, QW, frz, Q2, Q0, init, QM, QR, Q6, Ql.one, Ql.and, Enc.bool, Enc.int, Enc.str, Enc.strs, Enc.slice, Enc.agg, Enc.tup, Enc.err, Enc.fn, Ex.then, upd, Qf3, k1, k2, k3]
  | true =>
  cases k4 : b.decl o.sort with
  | false =>
    simp [QF, Qo, QJ, own, Qm, dop, QN, eval, Qr, Qn, upd, Qa, Qv, Qx, TyI.agg, QbY, Q1, ty9, Qi, g1, k1, g2, k2, g3, k3, g4, k4]
    refine hK _ _ (Dwp.ret ?_) rfl
    simp [Q3, Qh, QW, frz, Q2, Q0, init, QM, QR, Q6, Ql.one, Ql.and, Enc.bool, Enc.int, Enc.str, Enc.strs, Enc.slice, Enc.agg, Enc.tup, Enc.err, Enc.fn, Ex.then, upd, Qf3, k1, k2, k3, k4]
  | true =>
  cases k5 : QbC o with
  | false =>
    simp [QF, Qo, QJ, own, Qm, dop, QN, eval, Qr, Qn, upd, Qa, Qv, Qx, TyI.agg, QbY, Q1, ty9, Qi, g1, k1, g2, k2, g3, k3, g4, k4, g5, k5]
    refine hK _ _ (Dwp.ret ?_) rfl
    simp [Q3, Qh, QW, frz, Q2, Q0, init, QM, QR, Q6, Ql.one, Ql.and, Enc.bool, Enc.int, Enc.str, Enc.strs, Enc.slice, Enc.agg, Enc.tup, Enc.err, Enc.fn, Ex.then, upd, Qf3, k1, k2, k3, k4, k5]
  | true =>
  cases k6 : Qcc o with
  | false =>
    simp [QF, Qo, QJ, own, Qm, dop, QN, eval, Qr, Qn, upd, Qa, Qv, Qx, TyI.agg, QbY, Q1, ty9, Qi, g1, k1, g2, k2, g3, k3, g4, k4, g5, k5, g6, k6]
    refine hK _ _ (Dwp.ret ?_) rfl
    simp [Q3, Qh, QW, frz, Q2, Q0, init, QM, QR, Q6, Ql.one, Ql.and, Enc.bool, Enc.int, Enc.str, Enc.strs, Enc.slice, Enc.agg, Enc.tup, Enc.err, Enc.fn, Ex.then, upd, Qf3, k1, k2, k3, k4, k5, k6]
  | true =>
    simp [QF, Qo, QJ, own, Qm, dop, QN, eval, Qr, Qn, upd, Qa, Qv, Qx, TyI.agg, QbY, Q1, ty9, Qi, g1, k1, g2, k2, g3, k3, g4, k4, g5, k5, g6, k6, g7]
    refine hK _ _ (Dwp.ret ?_) rfl
    simp [Q3, Qh, QW, frz, Q2, Q0, init, QM, QR, Q6, Ql.one, Ql.and, Enc.bool, Enc.int, Enc.str, Enc.strs, Enc.slice, Enc.agg, Enc.tup, Enc.err, Enc.fn, Ex.then, upd, Qf3, k1, k2, k3, k4, k5, k6]
theorem e330 : Go.FA.Good Tryz.prog (330, s330) := ⟨c330, Tryz.f330, _, Tryz.func330, rfl, by decide⟩
end
end Go.Proofs.Yt
