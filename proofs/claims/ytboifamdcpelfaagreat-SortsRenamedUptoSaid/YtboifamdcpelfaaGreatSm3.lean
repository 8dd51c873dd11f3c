/- Contracts of functions of the program, by a machine over abstract values; part 4. No condition beyond those of each theorem. -/
import Derived.Test.YtboifamdcpelfaaGreatSm2
import Derived.Shelf.Sort.Plain
import Derived.Shelf.Slices.In.SortNone
import Derived.Sort.Row
import Derived.Sort.Grow
import Derived.Sort.EncStr
namespace Go.Proofs.Yt
open Go Go.FA Go.Proofs
set_option linter.unusedVariables false
set_option linter.unusedSimpArgs false
set_option maxRecDepth 100000

def Enc.boolErr : Enc (Bool × Int) := Enc.tup (arg2 Enc.bool Enc.i64)
/-- an answer with a book that was opened, or the error -/
def withBook {β : Type} (r : Option (Option Book × Int)) (no : β) (f : Book → Option β) : Option (β × Int) := match r with
  | some (some b, e) => if e = 0 then (f b).map (·, 0) else none
  | some (none, e) => if e = 0 then none else some (no, e)
  | none => none
def s14 : Sp := sp (arg3 Enc.sigd Enc.str Enc.str) Enc.boolErr (fun x => withBook (openF x.1 [x.2.1, x.2.2]) false fun b => b.atMost x.2.1 x.2.2)
abbrev T14 : Tab := tabOf [(44, s44), (50, s50)]
theorem c14 (e44 : Go.FA.Good Tryz.prog (44, s44)) : CallSound Tryz.prog 14 s14 := by
  have t14 : TabOk Tryz.prog T14 := .cons e44 (.cons e50 .nil)
  refine CallSound.of_sp (T := T14) Tryz.func14 rfl (Nat.le_of_ble_eq_true rfl) fun E x y hy => ?_
  obtain ⟨s, lo, hi⟩ := x
  simp only [withBook] at hy
  cases hr : openF s [lo, hi] with
  | none => rw [hr] at hy; cases hy
  | some r =>
  rw [hr] at hy
  have g := call44 T14 rfl s (.slice 1 .full [[.lit (.string lo)], [.lit (.string hi)]]) [lo, hi] r rfl hr
  have h50 : T14 50 = some s50 := rfl
  refine Dwp.step t14 rfl fun K hK => ?_
  simp [drunL, drunO, dwanted, dopS, own, plainOf, dop, dput, eval, ofVal, Then, Ex.then, Ex.inBlock, upd, dbin, Tag.isNN, nilTest, intCmp, dload, dpart, TyI.agg, dfieldAddr, dfield, dindexAddr, dindex, dlen, lenOk, dlookup, mapOf, keyFits, dmapUpdate, dcallee, dcall, tabOf, dbuiltin, dstore, DV.cells, setAt, dslice, dboundOk, dappend, appTag, rowsOf, elemOk, growLimit, dbuildCells, dbuildCells.go, structOk, fieldsOk, dbuildRows, goInt, init, arg3, EncR.and, EncR.one, Enc.sigd, Enc.agg]
  refine hK _ _ ?_ rfl; clear hK K
  refine Dwp.step t14 rfl fun K hK => ?_
  generalize T14 = T at *
  obtain ⟨o, e⟩ := r
  cases o with
  | none =>
    simp only [Enc.opened, noBook] at g
    simp only [] at hy
    split at hy
    case isTrue => cases hy
    next he =>
    cases hy
    have he' : (e != 0) = true := by simp [he]
    simp [drunL, dwanted, dopS, own, dop, dput, eval, ofVal, Then, upd, init, arg3, EncR.and, EncR.one, Enc.str, dload, dpart, TyI.agg, ty26, ty58, ty22, ty9, dbuildRows, growLimit, dcallee, g, DV.cells, dstore, setNo]
    refine hK _ _ ?_ rfl; clear hK K
    refine Dwp.seq ?_
    refine Dwp.step t14 rfl fun K hK => ?_
    simp [drunL, dwanted, dopS, own, dop, dput, eval, ofVal, Then, upd, dbin, intCmp, he']
    refine hK _ _ ?_ rfl; clear hK K
    refine Dwp.condT (by simp [eval, upd]) ?_
    refine Dwp.step t14 rfl fun K hK => ?_
    simp [drunL, drunO, dwanted, dopS, own, plainOf, dop, dput, eval, ofVal, Then, Ex.then, Ex.inBlock, upd, dbin, Tag.isNN, nilTest, intCmp, dload, dpart, TyI.agg, dfieldAddr, dfield, dindexAddr, dindex, dlen, lenOk, dlookup, mapOf, keyFits, dmapUpdate, dcallee, dcall, tabOf, dbuiltin, dstore, DV.cells, setAt, dslice, dboundOk, dappend, appTag, rowsOf, elemOk, growLimit, dbuildCells, dbuildCells.go, structOk, fieldsOk, dbuildRows, goInt]
    refine hK _ _ (Dwp.ret ?_) rfl
    simp [Done, dresults, dres, frz, frz1, frz2, Ex.then, upd, Enc.boolErr, Enc.tup, arg2, EncR.and, EncR.one, Enc.bool, Enc.i64, Enc.int]
  | some b =>
    simp only [Enc.opened, Enc.book, Enc.agg] at g
    simp only [] at hy
    split at hy
    case isFalse => cases hy
    next he =>
    subst he
    obtain ⟨v, hv, rfl⟩ := Option.map_eq_some_iff.1 hy
    have g2 : dcall T 50 [Enc.book.enc b, Enc.str.enc lo, Enc.str.enc hi] = some (Enc.bool.enc v) := dcall3 (B := Enc.str) (C := Enc.str) (D := Enc.bool) h50 hv
    simp only [Enc.book, Enc.agg, Enc.str, Enc.bool] at g2
    simp [drunL, dwanted, dopS, own, dop, dput, eval, ofVal, Then, upd, init, arg3, EncR.and, EncR.one, Enc.str, dload, dpart, TyI.agg, ty26, ty58, ty22, ty9, dbuildRows, growLimit, dcallee, g, DV.cells, dstore, setBook]
    refine hK _ _ ?_ rfl; clear hK K
    refine Dwp.seq ?_
    refine Dwp.step t14 rfl fun K hK => ?_
    simp [drunL, dwanted, dopS, own, dop, dput, eval, ofVal, Then, upd, dbin, intCmp]
    refine hK _ _ ?_ rfl; clear hK K
    refine Dwp.condF (by simp [eval, upd]) (Dwp.skip ?_)
    refine Dwp.step t14 rfl fun K hK => ?_
    simp [drunL, dwanted, dopS, own, dop, dput, eval, ofVal, Then, upd, init, arg3, EncR.and, EncR.one, Enc.str, dload, dpart, TyI.agg, ty58, dcallee, g2]
    refine hK _ _ (Dwp.ret ?_) rfl
    simp [Done, dresults, dres, frz, frz1, frz2, Ex.then, upd, Enc.boolErr, Enc.tup, arg2, EncR.and, EncR.one, Enc.bool, Enc.i64, Enc.int]
end Go.Proofs.Yt
namespace Go.Proofs.Yt
open Go Go.FA Go.Proofs
set_option linter.unusedVariables false
set_option linter.unusedSimpArgs false
set_option maxRecDepth 100000

/-- one at most the other -/
def Book.meet (b : Book) (lo hi : ByteArray) : Option Bool := match b.atMost lo hi with
  | some true => some true
  | some false => b.atMost hi lo
  | none => none
def s16 : Sp := sp (arg3 Enc.sigd Enc.str Enc.str) Enc.boolErr (fun x => withBook (openF x.1 [x.2.1, x.2.2]) false fun b => b.meet x.2.1 x.2.2)
abbrev T16 : Tab := tabOf [(44, s44), (50, s50)]
theorem c16 (e44 : Go.FA.Good Tryz.prog (44, s44)) : CallSound Tryz.prog 16 s16 := by
  have t16 : TabOk Tryz.prog T16 := .cons e44 (.cons e50 .nil)
  refine CallSound.of_sp (T := T16) Tryz.func16 rfl (Nat.le_of_ble_eq_true rfl) fun E x y hy => ?_
  obtain ⟨s, lo, hi⟩ := x
  simp only [withBook] at hy
  cases hr : openF s [lo, hi] with
  | none => rw [hr] at hy; cases hy
  | some r =>
  rw [hr] at hy
  have g := call44 T16 rfl s (.slice 1 .full [[.lit (.string lo)], [.lit (.string hi)]]) [lo, hi] r rfl hr
  have h50 : T16 50 = some s50 := rfl
  refine Dwp.step t16 rfl fun K hK => ?_
  simp [drunL, drunO, dwanted, dopS, own, plainOf, dop, dput, eval, ofVal, Then, Ex.then, Ex.inBlock, upd, dbin, Tag.isNN, nilTest, intCmp, dload, dpart, TyI.agg, dfieldAddr, dfield, dindexAddr, dindex, dlen, lenOk, dlookup, mapOf, keyFits, dmapUpdate, dcallee, dcall, tabOf, dbuiltin, dstore, DV.cells, setAt, dslice, dboundOk, dappend, appTag, rowsOf, elemOk, growLimit, dbuildCells, dbuildCells.go, structOk, fieldsOk, dbuildRows, goInt, init, arg3, EncR.and, EncR.one, Enc.sigd, Enc.agg]
  refine hK _ _ ?_ rfl; clear hK K
  refine Dwp.step t16 rfl fun K hK => ?_
  generalize T16 = T at *
  obtain ⟨o, e⟩ := r
  cases o with
  | none =>
    simp only [Enc.opened, noBook] at g
    simp only [] at hy
    split at hy
    case isTrue => cases hy
    next he =>
    cases hy
    have he' : (e != 0) = true := by simp [he]
    simp [drunL, dwanted, dopS, own, dop, dput, eval, ofVal, Then, upd, init, arg3, EncR.and, EncR.one, Enc.str, dload, dpart, TyI.agg, ty26, ty58, ty22, ty9, dbuildRows, growLimit, dcallee, g, DV.cells, dstore, setNo]
    refine hK _ _ ?_ rfl; clear hK K
    refine Dwp.seq ?_
    refine Dwp.step t16 rfl fun K hK => ?_
    simp [drunL, dwanted, dopS, own, dop, dput, eval, ofVal, Then, upd, dbin, intCmp, he']
    refine hK _ _ ?_ rfl; clear hK K
    refine Dwp.condT (by simp [eval, upd]) ?_
    refine Dwp.step t16 rfl fun K hK => ?_
    simp [drunL, drunO, dwanted, dopS, own, plainOf, dop, dput, eval, ofVal, Then, Ex.then, Ex.inBlock, upd, dbin, Tag.isNN, nilTest, intCmp, dload, dpart, TyI.agg, dfieldAddr, dfield, dindexAddr, dindex, dlen, lenOk, dlookup, mapOf, keyFits, dmapUpdate, dcallee, dcall, tabOf, dbuiltin, dstore, DV.cells, setAt, dslice, dboundOk, dappend, appTag, rowsOf, elemOk, growLimit, dbuildCells, dbuildCells.go, structOk, fieldsOk, dbuildRows, goInt]
    refine hK _ _ (Dwp.ret ?_) rfl
    simp [Done, dresults, dres, frz, frz1, frz2, Ex.then, upd, Enc.boolErr, Enc.tup, arg2, EncR.and, EncR.one, Enc.bool, Enc.i64, Enc.int]
  | some b =>
    simp only [Enc.opened, Enc.book, Enc.agg] at g
    simp only [] at hy
    split at hy
    case isFalse => cases hy
    next he =>
    subst he
    obtain ⟨v, hv, rfl⟩ := Option.map_eq_some_iff.1 hy
    simp [drunL, dwanted, dopS, own, dop, dput, eval, ofVal, Then, upd, init, arg3, EncR.and, EncR.one, Enc.str, dload, dpart, TyI.agg, ty26, ty58, ty22, ty9, dbuildRows, growLimit, dcallee, g, DV.cells, dstore, setBook]
    refine hK _ _ ?_ rfl; clear hK K
    refine Dwp.seq ?_
    refine Dwp.step t16 rfl fun K hK => ?_
    simp [drunL, dwanted, dopS, own, dop, dput, eval, ofVal, Then, upd, dbin, intCmp]
    refine hK _ _ ?_ rfl; clear hK K
    refine Dwp.condF (by simp [eval, upd]) (Dwp.skip ?_)
    refine Dwp.step t16 rfl fun K hK => ?_
    unfold Book.meet at hv
    cases h1 : b.atMost lo hi with
    | none => rw [h1] at hv; cases hv
    | some v1 =>
    rw [h1] at hv
    have g2 : dcall T 50 [Enc.book.enc b, Enc.str.enc lo, Enc.str.enc hi] = some (Enc.bool.enc v1) := dcall3 (B := Enc.str) (C := Enc.str) (D := Enc.bool) h50 h1
    simp only [Enc.book, Enc.agg, Enc.str, Enc.bool] at g2
    cases v1 with
    | true =>
      cases hv
      repeat (first
        | (refine Then.stepD rfl rfl (fun K1 hK1 => ?_); simp [Then1, Guarded, dopS, dop, eval, ofVal, upd, init, arg3, EncR.and, EncR.one, Enc.str, dload, dpart, TyI.agg, ty58, dcallee, g2]; refine hK1 _ _ ?_; clear hK1 K1)
        | (refine Then.stepG rfl rfl rfl (fun K1 hK1 => ?_); simp [Then1, Guarded, dopS, dop, eval, ofVal, upd, init, arg3, EncR.and, EncR.one, Enc.str, dload, dpart, TyI.agg, ty58, dcallee, g2]; refine hK1 _ _ ?_; clear hK1 K1)
        | (refine Then.stepN rfl rfl (fun K1 hK1 => ?_); simp [Then1, Guarded, dopS, dop, eval, ofVal, upd, init, arg3, EncR.and, EncR.one, Enc.str, dload, dpart, TyI.agg, ty58, dcallee, g2]; refine hK1 _ _ ?_; clear hK1 K1)
        | (refine Then.stepGN rfl rfl rfl (fun K1 hK1 => ?_); simp [Then1, Guarded, dopS, dop, eval, ofVal, upd, init, arg3, EncR.and, EncR.one, Enc.str, dload, dpart, TyI.agg, ty58, dcallee, g2]; refine hK1 _ _ ?_; clear hK1 K1))
      refine Then.done (hK _ _ (Dwp.ret ?_) rfl)
      simp [Done, dresults, dres, frz, frz1, frz2, Ex.then, upd, Enc.boolErr, Enc.tup, arg2, EncR.and, EncR.one, Enc.bool, Enc.i64, Enc.int]
    | false =>
      have g3 : dcall T 50 [Enc.book.enc b, Enc.str.enc hi, Enc.str.enc lo] = some (Enc.bool.enc v) := dcall3 (B := Enc.str) (C := Enc.str) (D := Enc.bool) h50 hv
      simp only [Enc.book, Enc.agg, Enc.str, Enc.bool] at g3
      repeat (first
        | (refine Then.stepD rfl rfl (fun K1 hK1 => ?_); simp [Then1, Guarded, dopS, dop, eval, ofVal, upd, init, arg3, EncR.and, EncR.one, Enc.str, dload, dpart, TyI.agg, ty58, dcallee, g2, g3]; refine hK1 _ _ ?_; clear hK1 K1)
        | (refine Then.stepG rfl rfl rfl (fun K1 hK1 => ?_); simp [Then1, Guarded, dopS, dop, eval, ofVal, upd, init, arg3, EncR.and, EncR.one, Enc.str, dload, dpart, TyI.agg, ty58, dcallee, g2, g3]; refine hK1 _ _ ?_; clear hK1 K1)
        | (refine Then.stepN rfl rfl (fun K1 hK1 => ?_); simp [Then1, Guarded, dopS, dop, eval, ofVal, upd, init, arg3, EncR.and, EncR.one, Enc.str, dload, dpart, TyI.agg, ty58, dcallee, g2, g3]; refine hK1 _ _ ?_; clear hK1 K1)
        | (refine Then.stepGN rfl rfl rfl (fun K1 hK1 => ?_); simp [Then1, Guarded, dopS, dop, eval, ofVal, upd, init, arg3, EncR.and, EncR.one, Enc.str, dload, dpart, TyI.agg, ty58, dcallee, g2, g3]; refine hK1 _ _ ?_; clear hK1 K1))
      refine Then.done (hK _ _ (Dwp.ret ?_) rfl)
      simp [Done, dresults, dres, frz, frz1, frz2, Ex.then, upd, Enc.boolErr, Enc.tup, arg2, EncR.and, EncR.one, Enc.bool, Enc.i64, Enc.int]
end Go.Proofs.Yt
namespace Go.Proofs.Yt
open Go Go.FA Go.Proofs
set_option linter.unusedVariables false
set_option linter.unusedSimpArgs false
set_option maxRecDepth 100000

def atMostF (s : SigD) (lo hi : ByteArray) : Option (Bool × Int) := withBook (openF s [lo, hi]) false fun b => b.atMost lo hi
/-- the law's own: AtMost is true and there is no error -/
def s40 : Sp := sp (arg3 Enc.sigd Enc.str Enc.str) Enc.bool (fun x => (atMostF x.1 x.2.1 x.2.2).map fun r => r.1 && decide (r.2 = 0))
theorem c40 (e14 : Go.FA.Good Tryz.prog (14, s14)) : CallSound Tryz.prog 40 s40 := by
  have t40 : TabOk Tryz.prog (tabOf [(14, s14)]) := .cons e14 .nil
  refine CallSound.of_sp (T := tabOf [(14, s14)]) Tryz.func40 rfl (Nat.le_of_ble_eq_true rfl) fun E x y hy => ?_
  obtain ⟨s, lo, hi⟩ := x
  obtain ⟨⟨v, e⟩, hr, rfl⟩ := Option.map_eq_some_iff.1 hy
  have g : dcall (tabOf [(14, s14)]) 14 [Enc.sigd.enc s, Enc.str.enc lo, Enc.str.enc hi] = some (Enc.boolErr.enc (v, e)) := dcall3 (A := Enc.sigd) (B := Enc.str) (C := Enc.str) (D := Enc.boolErr) rfl hr
  simp only [Enc.sigd, Enc.agg, Enc.str, Enc.boolErr, Enc.tup, arg2, EncR.and, EncR.one, Enc.bool, Enc.i64, Enc.int] at g
  refine Dwp.step t40 rfl fun K hK => ?_
  simp [drunL, drunO, dwanted, dopS, own, plainOf, dop, dput, eval, ofVal, Then, Ex.then, Ex.inBlock, upd, dbin, Tag.isNN, nilTest, intCmp, dload, dpart, TyI.agg, dfieldAddr, dfield, dindexAddr, dindex, dlen, lenOk, dlookup, mapOf, keyFits, dmapUpdate, dcallee, dcall, tabOf, dbuiltin, dstore, DV.cells, setAt, dslice, dboundOk, dappend, appTag, rowsOf, elemOk, growLimit, dbuildCells, dbuildCells.go, structOk, fieldsOk, dbuildRows, goInt, init, arg3, EncR.and, EncR.one, Enc.sigd, Enc.agg]
  refine hK _ _ ?_ rfl; clear hK K
  refine Dwp.step t40 rfl fun K hK => ?_
  generalize tabOf [(14, s14)] = T at *
  simp at g
  repeat (first
    | (refine Then.stepD rfl rfl (fun K1 hK1 => ?_); simp [Then1, Guarded, dopS, dop, eval, ofVal, upd, init, arg3, EncR.and, EncR.one, Enc.str, dload, dpart, TyI.agg, ty26, dcallee, g]; refine hK1 _ _ ?_; clear hK1 K1)
    | (refine Then.stepG rfl rfl rfl (fun K1 hK1 => ?_); simp [Then1, Guarded, dopS, dop, eval, ofVal, upd, init, arg3, EncR.and, EncR.one, Enc.str, dload, dpart, TyI.agg, ty26, dcallee, g]; refine hK1 _ _ ?_; clear hK1 K1)
    | (refine Then.stepN rfl rfl (fun K1 hK1 => ?_); simp [Then1, Guarded, dopS, dop, eval, ofVal, upd, init, arg3, EncR.and, EncR.one, Enc.str, dload, dpart, TyI.agg, ty26, dcallee, g]; refine hK1 _ _ ?_; clear hK1 K1)
    | (refine Then.stepGN rfl rfl rfl (fun K1 hK1 => ?_); simp [Then1, Guarded, dopS, dop, eval, ofVal, upd, init, arg3, EncR.and, EncR.one, Enc.str, dload, dpart, TyI.agg, ty26, dcallee, g]; refine hK1 _ _ ?_; clear hK1 K1))
  refine Then.done ?_
  refine hK _ _ ?_ rfl; clear hK K
  refine Dwp.step t40 rfl fun K hK => ?_
  have h2 : (e == 0) = decide (e = 0) := rfl
  cases v with
  | true =>
    repeat (first
      | (refine Then.stepD rfl rfl (fun K1 hK1 => ?_); simp [Then1, Guarded, dopS, dop, eval, ofVal, upd, dbin, intCmp, h2]; refine hK1 _ _ ?_; clear hK1 K1)
      | (refine Then.stepG rfl rfl rfl (fun K1 hK1 => ?_); simp [Then1, Guarded, dopS, dop, eval, ofVal, upd, dbin, intCmp, h2]; refine hK1 _ _ ?_; clear hK1 K1)
      | (refine Then.stepN rfl rfl (fun K1 hK1 => ?_); simp [Then1, Guarded, dopS, dop, eval, ofVal, upd, dbin, intCmp, h2]; refine hK1 _ _ ?_; clear hK1 K1)
      | (refine Then.stepGN rfl rfl rfl (fun K1 hK1 => ?_); simp [Then1, Guarded, dopS, dop, eval, ofVal, upd, dbin, intCmp, h2]; refine hK1 _ _ ?_; clear hK1 K1))
    refine Then.done (hK _ _ (Dwp.ret ?_) rfl)
    simp [Done, dresults, dres, frz, frz1, frz2, Enc.bool, upd]
  | false =>
    repeat (first
      | (refine Then.stepD rfl rfl (fun K1 hK1 => ?_); simp [Then1, Guarded, dopS, dop, eval, ofVal, upd, dbin, intCmp, h2]; refine hK1 _ _ ?_; clear hK1 K1)
      | (refine Then.stepG rfl rfl rfl (fun K1 hK1 => ?_); simp [Then1, Guarded, dopS, dop, eval, ofVal, upd, dbin, intCmp, h2]; refine hK1 _ _ ?_; clear hK1 K1)
      | (refine Then.stepN rfl rfl (fun K1 hK1 => ?_); simp [Then1, Guarded, dopS, dop, eval, ofVal, upd, dbin, intCmp, h2]; refine hK1 _ _ ?_; clear hK1 K1)
      | (refine Then.stepGN rfl rfl rfl (fun K1 hK1 => ?_); simp [Then1, Guarded, dopS, dop, eval, ofVal, upd, dbin, intCmp, h2]; refine hK1 _ _ ?_; clear hK1 K1))
    refine Then.done (hK _ _ (Dwp.ret ?_) rfl)
    simp [Done, dresults, dres, frz, frz1, frz2, Enc.bool, upd]
end Go.Proofs.Yt
namespace Go.Proofs.Yt
open Go Go.FA Go.Proofs
set_option linter.unusedVariables false
set_option linter.unusedSimpArgs false
set_option maxRecDepth 100000

/-! a map under way whose values are slices that are appended to: each has its own token -/
abbrev Tk := List ByteArray × Option (Nat × Nat)
def Tk.dv (v : Tk) : DV := match v.2 with
  | some (t, g) => .slice 1 (.tok t g) (v.1.map fun s => [DV.lit (.string s)])
  | none => .lit (.slice none 0 0)
def tkl (m : List (ByteArray × Tk)) : List Nat := m.filterMap fun p => p.2.2.map (·.1)
def TkOk (toks : Nat → Option Nat) (n : Nat) : List (ByteArray × Tk) → Prop
  | [] => True
  | p :: m => (match p.2.2 with | none => p.2.1 = [] | some (t, g) => toks t = some g ∧ t < n ∧ t ∉ tkl m) ∧ TkOk toks n m
def strip (m : List (ByteArray × Tk)) : List (ByteArray × List ByteArray) := m.map fun p => (p.1, p.2.1)

theorem assoc_dv {α : Type} (f : α → DV) (k : ByteArray) : ∀ m : List (ByteArray × α), assoc (.string k) (m.map fun p => .string p.1) (m.map fun p => f p.2) = some ((mget k m).map f)
  | [] => rfl
  | p :: m => by
    simp only [List.map_cons, assoc, eqKey, mget, assoc_dv f k m]
    by_cases h : k = p.1
    · simp [h]
    · simp [h]
theorem putKey_dv {α : Type} (f : α → DV) (k : ByteArray) (v : α) : ∀ m : List (ByteArray × α),
    putKey (.string k) (f v) (m.map fun p => .string p.1) (m.map fun p => f p.2) = some ((mput k v m).map (fun p => .string p.1), (mput k v m).map fun p => f p.2)
  | [] => rfl
  | p :: m => by
    simp only [List.map_cons, putKey, eqKey, mput]
    by_cases h : k = p.1
    · simp [h]
    · simp [h, putKey_dv f k v m]
theorem strip_put (k : ByteArray) (v : Tk) : ∀ m, strip (mput k v m) = mput k v.1 (strip m)
  | [] => rfl
  | p :: m => by
    simp only [mput, strip, List.map_cons]
    by_cases h : k = p.1
    · simp [h]
    · simp only [h, if_false, List.map_cons]
      congr 1
      exact strip_put k v m
theorem strip_get (k : ByteArray) : ∀ m, mget k (strip m) = (mget k m).map (·.1)
  | [] => rfl
  | p :: m => by
    simp only [mget, strip, List.map_cons]
    by_cases h : k = p.1
    · simp [h]
    · simp only [h, if_false]
      exact strip_get k m
theorem tkl_lt {toks : Nat → Option Nat} {n : Nat} : ∀ {m}, TkOk toks n m → ∀ t ∈ tkl m, t < n
  | [], _, t, ht => by simp [tkl] at ht
  | p :: m, h, t, ht => by
    obtain ⟨h1, h2⟩ := h
    obtain ⟨k, l, o⟩ := p
    cases o with
    | none => exact tkl_lt h2 t (by simpa [tkl] using ht)
    | some x =>
      simp only [tkl, List.filterMap_cons, Option.map_some, List.mem_cons] at ht
      rcases ht with rfl | ht
      · exact h1.2.1
      · exact tkl_lt h2 t ht
theorem TkOk.other {toks : Nat → Option Nat} {n n' t : Nat} {x : Option Nat} (hn : n ≤ n') : ∀ {m}, TkOk toks n m → t ∉ tkl m → TkOk (upd toks t x) n' m
  | [], _, _ => trivial
  | p :: m, h, ht => by
    obtain ⟨h1, h2⟩ := h
    obtain ⟨k, l, o⟩ := p
    cases o with
    | none => exact ⟨h1, TkOk.other hn h2 (by simpa [tkl] using ht)⟩
    | some y =>
      simp only [tkl, List.filterMap_cons, Option.map_some, List.mem_cons, not_or] at ht
      refine ⟨⟨?_, by have := h1.2.1; omega, h1.2.2⟩, TkOk.other hn h2 ht.2⟩
      have : ¬ y.1 = t := fun e => ht.1 e.symm
      simp only [upd, this, if_false]; exact h1.1
theorem TkOk.grow {toks : Nat → Option Nat} {n n' : Nat} (hn : n ≤ n') : ∀ {m}, TkOk toks n m → TkOk toks n' m
  | [], _ => trivial
  | p :: m, h => by
    obtain ⟨h1, h2⟩ := h
    refine ⟨?_, TkOk.grow hn h2⟩
    split at h1
    · exact h1
    · exact ⟨h1.1, by have := h1.2.1; omega, h1.2.2⟩
theorem mem_tkl {k : ByteArray} {l : List ByteArray} {t g : Nat} : ∀ {m}, mget k m = some (l, some (t, g)) → t ∈ tkl m
  | [], h => by simp [mget] at h
  | p :: m, h => by
    simp only [mget] at h
    split at h
    · simp only [Option.some.injEq] at h; simp [tkl, h]
    · have := mem_tkl h
      simp only [tkl, List.filterMap_cons]
      split
      · exact this
      · exact List.mem_cons_of_mem _ this
theorem tkl_put {k : ByteArray} {l' : List ByteArray} {t g : Nat} : ∀ {m} {x}, x ∈ tkl (mput k (l', some (t, g)) m) → x = t ∨ x ∈ tkl m
  | [], x, h => by simp [mput, tkl] at h; exact .inl h
  | p :: m, x, h => by
    simp only [mput] at h
    split at h
    · simp only [tkl, List.filterMap_cons, Option.map_some, List.mem_cons] at h
      rcases h with h | h
      · exact .inl h
      · right; simp only [tkl, List.filterMap_cons]; split
        · exact h
        · exact List.mem_cons_of_mem _ h
    · simp only [tkl, List.filterMap_cons] at h ⊢
      split at h
      · exact tkl_put h
      · rcases List.mem_cons.1 h with h | h
        · right; rw [h]; exact List.mem_cons_self
        · rcases tkl_put h with h | h
          · exact .inl h
          · exact .inr (List.mem_cons_of_mem _ h)
theorem TkOk.put {toks : Nat → Option Nat} {n n' t g' : Nat} {k : ByteArray} {l l' : List ByteArray} {o : Option (Nat × Nat)} (hn : n ≤ n') (ht : t < n') (ho : match o with | none => n ≤ t | some x => t = x.1) :
    ∀ {m}, TkOk toks n m → mget k m = some (l, o) → TkOk (upd toks t (some g')) n' (mput k (l', some (t, g')) m)
  | [], _, h => by simp [mget] at h
  | p :: m, h, hg => by
    obtain ⟨h1, h2⟩ := h
    simp only [mget] at hg
    simp only [mput]
    split at hg
    · next hk =>
      rw [if_pos hk]
      simp only [Option.some.injEq] at hg
      have hnm : t ∉ tkl m := by
        cases o with
        | none => intro hm; have := tkl_lt h2 t hm; omega
        | some x => simp only [hg] at h1; rw [ho]; exact h1.2.2
      exact ⟨⟨by simp [upd], ht, hnm⟩, h2.other hn hnm⟩
    · next hk =>
      rw [if_neg hk]
      refine ⟨?_, TkOk.put hn ht ho h2 hg⟩
      split at h1
      · exact h1
      · next y z e =>
        have hne : ¬ y = t := by
          cases o with
          | none => intro e; have := h1.2.1; omega
          | some x => intro e; subst e; exact h1.2.2 (by rw [ho]; exact mem_tkl (g := x.2) hg)
        refine ⟨by simp only [upd, hne, if_false]; exact h1.1, by have := h1.2.1; omega, fun hm => ?_⟩
        rcases tkl_put hm with q | q
        · exact hne q
        · exact h1.2.2 q
theorem dec_tk {toks : Nat → Option Nat} {n : Nat} : ∀ {m}, TkOk toks n m → decMap Enc.strs (m.map fun p => .string p.1) (m.map fun p => Tk.dv p.2) = some (strip m)
  | [], _ => rfl
  | p :: m, h => by
    obtain ⟨h1, h2⟩ := h
    have hd : Enc.strs.dec (Tk.dv p.2) = some p.2.1 := by
      obtain ⟨k, l, o⟩ := p
      cases o with
      | none => simp only at h1; subst h1; rfl
      | some x =>
        have := decRows_enc (EncR.one Enc.str) l
        simp only [EncR.one, Enc.str] at this
        simp [Tk.dv, Enc.strs, Enc.slice, EncR.one, Enc.str]; exact this
    simp only [List.map_cons, decMap, hd, dec_tk h2]
    rfl
def names0 (l : List ByteArray) : List (ByteArray × Tk) := l.foldl (fun m n => mput n ([], none) m) []
theorem names0_take {l : List ByteArray} {i : Nat} (h : i < l.length) : names0 (l.take (i + 1)) = mput l[i] ([], none) (names0 (l.take i)) := by
  unfold names0; rw [List.take_succ_eq_append_getElem h, List.foldl_append]; rfl
theorem tkl_none {k : ByteArray} {t : Nat} : ∀ {m}, t ∉ tkl m → t ∉ tkl (mput k ([], none) m)
  | [], _ => by simp [mput, tkl]
  | p :: m, h => by
    have h2 : t ∉ tkl m := by
      intro hm; apply h
      simp only [tkl, List.filterMap_cons]; split
      · exact hm
      · exact List.mem_cons_of_mem _ hm
    simp only [mput]
    split
    · simpa [tkl] using h2
    · simp only [tkl, List.filterMap_cons] at h ⊢
      split
      · exact tkl_none h2
      · next y e =>
        rw [e] at h
        intro hm
        rcases List.mem_cons.1 hm with q | q
        · exact h (by rw [q]; exact List.mem_cons_self)
        · exact tkl_none h2 q
theorem TkOk.blank {toks : Nat → Option Nat} {n : Nat} {k : ByteArray} : ∀ {m}, TkOk toks n m → TkOk toks n (mput k ([], none) m)
  | [], _ => ⟨rfl, trivial⟩
  | p :: m, h => by
    obtain ⟨h1, h2⟩ := h
    simp only [mput]
    split
    · exact ⟨rfl, h2⟩
    · refine ⟨?_, TkOk.blank h2⟩
      split at h1
      · exact h1
      · exact ⟨h1.1, h1.2.1, tkl_none h1.2.2⟩
theorem TkOk.names (toks : Nat → Option Nat) (n : Nat) (l : List ByteArray) : TkOk toks n (names0 l) := by
  unfold names0
  have : ∀ (l : List ByteArray) (m : List (ByteArray × Tk)), TkOk toks n m → TkOk toks n (l.foldl (fun m n => mput n ([], none) m) m) := by
    intro l
    induction l with
    | nil => exact fun m h => h
    | cons x l ih => exact fun m h => ih _ h.blank
  exact this l [] trivial
theorem strip_names (l : List ByteArray) : strip (names0 l) = l.foldl (fun m n => mput n [] m) [] := by
  unfold names0
  have : ∀ (l : List ByteArray) (m : List (ByteArray × Tk)), strip (l.foldl (fun m n => mput n ([], none) m) m) = l.foldl (fun m n => mput n [] m) (strip m) := by
    intro l
    induction l with
    | nil => exact fun m => rfl
    | cons x l ih => intro m; simp only [List.foldl_cons, ih, strip_put]
  exact this l []
theorem foldBel_take {l : List Bel} {i : Nat} (h : i < l.length) (m : List (ByteArray × List ByteArray)) : (l.take (i + 1)).foldl addBel m = addBel ((l.take i).foldl addBel m) l[i] := by
  rw [List.take_succ_eq_append_getElem h, List.foldl_append]; rfl
end Go.Proofs.Yt
namespace Go.Proofs.Yt
open Go Go.FA Go.Proofs
set_option linter.unusedVariables false
set_option linter.unusedSimpArgs false
set_option maxRecDepth 100000

def key1 (m : List (ByteArray × Tk)) : List Value := m.map fun p => .string p.1
def val1 (m : List (ByteArray × Tk)) : List DV := m.map fun p => Tk.dv p.2
def mapD (m : List (ByteArray × OpD)) : DV := .fmap (m.map fun p => .string p.1) (m.map fun p => .agg (EncR.opd.enc p.2))
theorem callByName (T : Tab) (hT : T 108 = some s108) (l : List OpD) (h : l.length ≤ lim) : dcall T 108 [Enc.ops.enc l] = some (mapD (byName l)) := by
  have : dcall T 108 [Enc.ops.enc l] = some ((Enc.map Enc.opd).enc (byName l)) := dcall1 (A := Enc.ops) (B := Enc.map Enc.opd) hT (if_pos h)
  exact this
def base87 (s : SigD) (L : List ByteArray) (a : Nat → DV) (σ : St) : Prop :=
  a 1 = .row (EncR.sigd.enc s) 0 ∧ a 2 = .ptr 1 0 ∧ a 3 = .ptr 10 0 ∧ 12 ≤ σ.n ∧
  σ.objs 10 = some (.cells 58 [.map 2, mapD (byName s.ops), mapD (byName s.funs)]) ∧ σ.objs 1 = some (.cells 58 [.lit (.map none), .lit (.map none), .lit (.map none)])
def inv87a (s : SigD) (L : List ByteArray) : Nat → (Nat → DV) → St → Prop := fun k a σ => ∃ i, i ≤ L.length ∧ k = L.length - i ∧ base87 s L a σ ∧
  a 20 = .slice 1 .none (L.map fun s => [DV.lit (.string s)]) ∧ a 21 = .lit (.int .i64 L.length) ∧ a 22 = .lit (.int .i64 i) ∧
  σ.objs 2 = some (.map (key1 (names0 (L.take i))) (val1 (names0 (L.take i))))
def LenOk (n : Nat) (m : List (ByteArray × Tk)) : Prop := ∀ p ∈ m, p.2.1.length ≤ n
def inv87b (s : SigD) (L : List ByteArray) : Nat → (Nat → DV) → St → Prop := fun k a σ => ∃ i m, i ≤ s.below.length ∧ k = s.below.length - i ∧ base87 s L a σ ∧
  a 31 = .slice 2 .none (s.below.map EncR.bel.enc) ∧ a 32 = .lit (.int .i64 s.below.length) ∧ a 33 = .lit (.int .i64 i) ∧
  σ.objs 2 = some (.map (key1 m) (val1 m)) ∧ TkOk σ.toks σ.n m ∧ LenOk i m ∧ strip m = (s.below.take i).foldl addBel (L.foldl (fun m n => mput n [] m) [])
abbrev T87 : Tab := tabOf [(108, s108), (110, s110), (109, s109), (54, s54)]
theorem t87 : TabOk Tryz.prog T87 := .cons e108 (.cons e110 (.cons e109 (.cons e54 .nil)))
theorem strsC (l : List ByteArray) : Enc.strs.enc l = .slice 1 .none (l.map fun s => [DV.lit (.string s)]) := rfl
theorem put1 (k : ByteArray) (v : Tk) (m : List (ByteArray × Tk)) : putKey (.string k) (Tk.dv v) (key1 m) (val1 m) = some (key1 (mput k v m), val1 (mput k v m)) := putKey_dv Tk.dv k v m
theorem get1 (k : ByteArray) (m : List (ByteArray × Tk)) : assoc (.string k) (key1 m) (val1 m) = some ((mget k m).map Tk.dv) := assoc_dv Tk.dv k m
theorem set3 (x y z : DV) : setAt [DV.lit (.map none), .lit (.map none), .lit (.map none)] 0 [x, y, z] = [x, y, z] := rfl
theorem set2 (x y : DV) : setAt [DV.lit (.string ⟨#[]⟩), .lit (.string ⟨#[]⟩)] 0 [x, y] = [x, y] := rfl
theorem mem_mput {α : Type} {k : ByteArray} {v : α} {p : ByteArray × α} : ∀ {m : List (ByteArray × α)}, p ∈ mput k v m → p = (k, v) ∨ p ∈ m
  | [], h => by simp [mput] at h; exact .inl h
  | q :: m, h => by
    simp only [mput] at h
    split at h
    · rcases List.mem_cons.1 h with h | h
      · exact .inl h
      · exact .inr (List.mem_cons_of_mem _ h)
    · rcases List.mem_cons.1 h with h | h
      · exact .inr (by rw [h]; exact List.mem_cons_self)
      · rcases mem_mput h with h | h
        · exact .inl h
        · exact .inr (List.mem_cons_of_mem _ h)
theorem mget_mem {α : Type} {k : ByteArray} {v : α} : ∀ {m : List (ByteArray × α)}, mget k m = some v → (k, v) ∈ m
  | [], h => by simp [mget] at h
  | p :: m, h => by
    simp only [mget] at h
    split at h
    · next hk => simp at h; rw [← h, hk]; exact List.mem_cons_self
    · exact List.mem_cons_of_mem _ (mget_mem h)
theorem LenOk.names (l : List ByteArray) : LenOk 0 (names0 l) := by
  unfold names0
  have : ∀ (l : List ByteArray) (m : List (ByteArray × Tk)), LenOk 0 m → LenOk 0 (l.foldl (fun m n => mput n ([], none) m) m) := by
    intro l
    induction l with
    | nil => exact fun m h => h
    | cons x l ih =>
      refine fun m h => ih _ fun p hp => ?_
      rcases mem_mput hp with rfl | hp
      · simp
      · exact h p hp
  exact this l [] (fun p hp => by simp at hp)
@[simp] theorem frz1_mapD (σ : St) (m : List (ByteArray × OpD)) : frz1 σ (mapD m) = mapD m := rfl
theorem has87 (T : Tab) (hT : T 54 = some s54) {toks : Nat → Option Nat} {n : Nat} {m : List (ByteArray × Tk)} (h : TkOk toks n m) (A B : List (ByteArray × OpD)) (k : ByteArray) :
    dcall T 54 [.agg [.fmap (key1 m) (val1 m), mapD A, mapD B], .slice 1 .full [[.lit (.string k)]]] = some (.lit (.bool (mget k (strip m)).isSome)) ∧
    dcall T 54 [.agg [.map 2, mapD A, mapD B], .slice 1 .full [[.lit (.string k)]]] = none := by
  have h1 : (Enc.map Enc.strs).dec (.fmap (key1 m) (val1 m)) = some (strip m) := dec_tk h
  have h2 : ∀ A, (Enc.map Enc.opd).dec (mapD A) = some A := fun A => (Enc.map Enc.opd).de A
  have h3 : Enc.strs.dec (.slice 1 .full [[.lit (.string k)]]) = some [k] := rfl
  have h4 : (Enc.map Enc.strs).dec (.map 2) = none := rfl
  constructor
  · simp [dcall, hT, s54, sp, arg2, EncR.and, EncR.one, Enc.book, Enc.agg, EncR.book, h1, h2, h3, Enc.bool, Book.has, lim]
  · simp [dcall, hT, s54, sp, arg2, EncR.and, EncR.one, Enc.book, Enc.agg, EncR.book, h4]
theorem TkOk.nil {toks : Nat → Option Nat} {n : Nat} {k : ByteArray} {l : List ByteArray} : ∀ {m}, TkOk toks n m → mget k m = some (l, none) → l = []
  | [], _, h => by simp [mget] at h
  | p :: m, h, hg => by
    obtain ⟨h1, h2⟩ := h
    simp only [mget] at hg
    split at hg
    · simp only [Option.some.injEq] at hg; rw [hg] at h1; exact h1
    · exact h2.nil hg
theorem TkOk.get {toks : Nat → Option Nat} {n : Nat} {k : ByteArray} {l : List ByteArray} {t g : Nat} : ∀ {m}, TkOk toks n m → mget k m = some (l, some (t, g)) → toks t = some g ∧ t < n
  | [], _, h => by simp [mget] at h
  | p :: m, h, hg => by
    obtain ⟨h1, h2⟩ := h
    simp only [mget] at hg
    split at hg
    · simp only [Option.some.injEq] at hg; rw [hg] at h1; exact ⟨h1.1, h1.2.1⟩
    · exact h2.get hg
theorem LenOk.put {n : Nat} {m : List (ByteArray × Tk)} (h : LenOk n m) {k : ByteArray} {v : Tk} (hv : v.1.length ≤ n + 1) : LenOk (n + 1) (mput k v m) := fun p hp => by
  rcases mem_mput hp with rfl | hp
  · exact hv
  · have := h p hp; omega
theorem c87 : CallSound Tryz.prog 87 s87 := by
  refine CallSound.of_sp (T := T87) Tryz.func87 rfl (Nat.le_of_ble_eq_true rfl) fun E s y hy => ?_
  by_cases hw : s.within = true <;> simp [hw] at hy
  subst hy
  have hw' := hw
  simp only [SigD.within, Bool.and_eq_true, decide_eq_true_eq] at hw'
  obtain ⟨⟨w1, w2⟩, w3⟩ := hw'
  have hL : (given ++ s.sorts).length ≤ 47 := by simp [given]; omega
  have g1 := callByName T87 rfl s.ops (by unfold lim; omega)
  have g2 := callByName T87 rfl s.funs (by unfold lim; omega)
  have g3 := call110 T87 rfl
  have g4 := call109 T87 rfl given s.sorts (by simp [given]; omega)
  simp only [strsC] at g3 g4
  have g5 : T87 54 = some s54 := rfl
  refine Dwp.step t87 rfl fun K hK => ?_
  simp [drunL, drunO, dwanted, dopS, own, plainOf, dop, dput, eval, ofVal, Then, Ex.then, Ex.inBlock, upd, dbin, Tag.isNN, nilTest, intCmp, dload, dpart, TyI.agg, dfieldAddr, dfield, dindexAddr, dindex, dlen, lenOk, dlookup, mapOf, keyFits, dmapUpdate, dcallee, dcall, tabOf, dbuiltin, dstore, DV.cells, setAt, dslice, dboundOk, dappend, appTag, rowsOf, elemOk, growLimit, dbuildCells, dbuildCells.go, structOk, fieldsOk, dbuildRows, goInt, init, arg1, EncR.one, Enc.sigd, Enc.agg, ty58]
  refine hK _ _ ?_ rfl; clear hK K
  refine Dwp.drawStep [.newobj, .none, .none, .none, .none, .none, .none, .none, .newobj, .wobj] mixed t87 rfl (by decide) fun K hK => ?_
  obtain ⟨L, hLe⟩ : ∃ L, L = given ++ s.sorts := ⟨_, rfl⟩
  rw [← hLe] at hL g4
  have tT := t87
  generalize T87 = T at *
  simp [drunT, touch, touchP, drunL, drunO, dwanted, dopS, own, plainOf, dop, dput, eval, ofVal, Then, Ex.then, Ex.inBlock, upd, dbin, Tag.isNN, nilTest, intCmp, dload, dpart, TyI.agg, dfieldAddr, dfield, dindexAddr, dindex, dlen, lenOk, dlookup, mapOf, keyFits, dmapUpdate, dcallee, dbuiltin, dstore, DV.cells, setAt, dslice, dboundOk, dappend, appTag, rowsOf, elemOk, growLimit, dbuildCells, dbuildCells.go, structOk, fieldsOk, dbuildRows, goInt, init, arg1, EncR.one, Enc.sigd, Enc.agg, ty26, ty24, ty58, ty55, ty56, g1, g2, mapD, set3]
  refine hK _ _ ?_ rfl; clear hK K
  refine Dwp.seq ?_
  refine Dwp.drawStep [] mixed tT rfl (by decide) fun K hK => ?_
  simp [drunT, touch, touchP, drunL, drunO, dwanted, dopS, own, plainOf, dop, dput, eval, ofVal, Then, Ex.then, Ex.inBlock, upd, dbin, Tag.isNN, nilTest, intCmp, dload, dpart, TyI.agg, dfieldAddr, dfield, dindexAddr, dindex, dlen, lenOk, dlookup, mapOf, keyFits, dmapUpdate, dcallee, dbuiltin, dstore, DV.cells, setAt, dslice, dboundOk, dappend, appTag, rowsOf, elemOk, growLimit, dbuildCells, dbuildCells.go, structOk, fieldsOk, dbuildRows, goInt, ty26, ty22, ty119, g3, g4, strsC]
  refine hK _ _ ?_ rfl; clear hK K
  refine (Dwp.block (Dwp.loop (inv87a s L) L.length ⟨0, by simp, by simp, ⟨by simp [upd], by simp [upd, σ0], by simp [upd, σ0], by simp, by simp [upd, σ0, mapD], by simp [upd, σ0]⟩, by simp [upd], by simp [upd], by simp [upd], by simp [upd, σ0, names0, key1, val1]⟩ ?_))
  rintro k a σ ⟨i, hi, rfl, ⟨h1, h2, h3, hn, ho3, ho2⟩, h20, h21, h22, hobj⟩
  refine Dwp.step tT rfl fun K hK => ?_
  simp [drunL, drunO, dwanted, dopS, own, plainOf, dop, dput, eval, ofVal, Then, Ex.then, Ex.inBlock, upd, dbin, Tag.isNN, nilTest, intCmp, dload, dpart, TyI.agg, dfieldAddr, dfield, dindexAddr, dindex, dlen, lenOk, dlookup, mapOf, keyFits, dmapUpdate, dcallee, dcall, tabOf, dbuiltin, dstore, DV.cells, setAt, dslice, dboundOk, dappend, appTag, rowsOf, elemOk, growLimit, dbuildCells, dbuildCells.go, structOk, fieldsOk, dbuildRows, goInt, h21, h22]
  refine hK _ _ ?_ rfl; clear hK K
  by_cases hlt : i < L.length
  · refine Dwp.seq (Dwp.condT (by simp [eval, upd, hlt]) (Dwp.skip ?_))
    refine Dwp.seq (Dwp.block ?_)
    refine Dwp.step tT rfl fun K hK => ?_
    simp [drunL, drunO, dwanted, dopS, own, plainOf, dop, dput, eval, ofVal, Then, Ex.then, Ex.inBlock, upd, dbin, Tag.isNN, nilTest, intCmp, dload, dpart, TyI.agg, dfieldAddr, dfield, dindexAddr, dindex, dlen, lenOk, dlookup, mapOf, keyFits, dmapUpdate, dcallee, dcall, tabOf, dbuiltin, dstore, DV.cells, setAt, dslice, dboundOk, dappend, appTag, rowsOf, elemOk, growLimit, dbuildCells, dbuildCells.go, structOk, fieldsOk, dbuildRows, goInt, h20, h22, ty22, ty9, hlt]
    refine hK _ _ ?_ rfl; clear hK K
    refine Dwp.reg tT rfl fun K hK => ?_
    have hP := put1 L[i] ([], none) (names0 (L.take i))
    simp only [Tk.dv] at hP
    simp [drunL, drunO, dwanted, dopS, own, plainOf, dop, dput, eval, ofVal, Then, Ex.then, Ex.inBlock, upd, dbin, Tag.isNN, nilTest, intCmp, dload, dpart, TyI.agg, dfieldAddr, dfield, dindexAddr, dindex, dlen, lenOk, dlookup, mapOf, keyFits, dmapUpdate, dcallee, dcall, tabOf, dbuiltin, dstore, DV.cells, setAt, dslice, dboundOk, dappend, appTag, rowsOf, elemOk, growLimit, dbuildCells, dbuildCells.go, structOk, fieldsOk, dbuildRows, goInt, h3, ho3, hobj, ty58, ty55, ty9, ty22, hP]
    refine hK _ _ ?_ rfl; clear hK K
    refine Dwp.reg tT rfl fun K hK => ?_
    simp [drunL, drunO, dwanted, dopS, own, plainOf, dop, dput, eval, ofVal, Then, Ex.then, Ex.inBlock, upd, dbin, Tag.isNN, nilTest, intCmp, dload, dpart, TyI.agg, dfieldAddr, dfield, dindexAddr, dindex, dlen, lenOk, dlookup, mapOf, keyFits, dmapUpdate, dcallee, dcall, tabOf, dbuiltin, dstore, DV.cells, setAt, dslice, dboundOk, dappend, appTag, rowsOf, elemOk, growLimit, dbuildCells, dbuildCells.go, structOk, fieldsOk, dbuildRows, goInt, h22]
    refine hK _ _ ?_ rfl; clear hK K
    have hnt := names0_take hlt
    refine ⟨L.length - (i + 1), by omega, i + 1, by omega, rfl, ⟨by simp [upd, h1], by simp [upd, h2], by simp [upd, h3], by simp <;> omega, by simp [upd, ho3], by simp [upd, ho2]⟩, by simp [upd, h20], by simp [upd, h21], by simp [upd, wrap_small (n := (i : Int) + 1) (by omega) (by omega)], ?_⟩
    rw [hnt]
    simp [upd]
  refine Dwp.seq (Dwp.condF (by simp [eval, upd, hlt]) (Dwp.exit ?_))
  simp only [Ex.then, Ex.inBlock, if_true]
  rw [List.take_of_length_le (by omega)] at hobj
  have hbase : base87 s L a σ := ⟨h1, h2, h3, hn, ho3, ho2⟩
  refine Dwp.seq ?_
  refine Dwp.step tT rfl fun K hK => ?_
  simp [drunL, drunO, dwanted, dopS, own, plainOf, dop, dput, eval, ofVal, Then, Ex.then, Ex.inBlock, upd, dbin, Tag.isNN, nilTest, intCmp, dload, dpart, TyI.agg, dfieldAddr, dfield, dindexAddr, dindex, dlen, lenOk, dlookup, mapOf, keyFits, dmapUpdate, dcallee, dbuiltin, dstore, DV.cells, setAt, dslice, dboundOk, dappend, appTag, rowsOf, elemOk, growLimit, dbuildCells, dbuildCells.go, structOk, fieldsOk, dbuildRows, goInt, h1, ty26, ty23, Enc.bels, Enc.slice]
  refine hK _ _ ?_ rfl; clear hK K
  refine (Dwp.block (Dwp.loop (inv87b s L) s.below.length ⟨0, names0 L, by simp, by simp, ⟨by simp [upd, h1], by simp [upd, h2], by simp [upd, h3], by simp <;> omega, by simp [ho3], by simp [ho2]⟩, by simp [upd], by simp [upd], by simp [upd], by simpa using hobj, TkOk.names _ _ _, LenOk.names _, by simp [strip_names]⟩ ?_))
  clear hobj hbase h1 h2 h3 hn ho3 ho2
  rintro k a σ ⟨i, m, hi, rfl, ⟨h1, h2, h3, hn, ho3, ho2⟩, h31, h32, h33, hobj, htk, hlen, hst⟩
  refine Dwp.step tT rfl fun K hK => ?_
  simp [drunL, drunO, dwanted, dopS, own, plainOf, dop, dput, eval, ofVal, Then, Ex.then, Ex.inBlock, upd, dbin, Tag.isNN, nilTest, intCmp, dload, dpart, TyI.agg, dfieldAddr, dfield, dindexAddr, dindex, dlen, lenOk, dlookup, mapOf, keyFits, dmapUpdate, dcallee, dcall, tabOf, dbuiltin, dstore, DV.cells, setAt, dslice, dboundOk, dappend, appTag, rowsOf, elemOk, growLimit, dbuildCells, dbuildCells.go, structOk, fieldsOk, dbuildRows, goInt, h32, h33]
  refine hK _ _ ?_ rfl; clear hK K
  by_cases hlt : i < s.below.length
  · refine Dwp.seq (Dwp.condT (by simp [eval, upd, hlt]) (Dwp.skip ?_))
    refine Dwp.seq (Dwp.block ?_)
    refine Dwp.step tT rfl fun K hK => ?_
    simp [drunL, drunO, dwanted, dopS, own, plainOf, dop, dput, eval, ofVal, Then, Ex.then, Ex.inBlock, upd, dbin, Tag.isNN, nilTest, intCmp, dload, dpart, TyI.agg, dfieldAddr, dfield, dindexAddr, dindex, dlen, lenOk, dlookup, mapOf, keyFits, dmapUpdate, dcallee, dcall, tabOf, dbuiltin, dstore, DV.cells, setAt, dslice, dboundOk, dappend, appTag, rowsOf, elemOk, growLimit, dbuildCells, dbuildCells.go, structOk, fieldsOk, dbuildRows, goInt, h31, h33, ty23, ty78, hlt, EncR.bel, set2]
    refine hK _ _ ?_ rfl; clear hK K
    have hf := foldBel_take hlt (L.foldl (fun m n => mput n [] m) [])
    generalize s.below[i] = b at *
    obtain ⟨g6, g7⟩ := has87 T g5 htk (byName s.ops) (byName s.funs) b.low
    simp only [mapD] at g6 g7 ho3
    have hn10 : ¬ (10 = σ.n + 1 + 2) := by omega
    have hn2 : ¬ (2 = σ.n + 1 + 2) := by omega
    have hn1 : ¬ (1 = σ.n + 1 + 2) := by omega
    refine Dwp.step tT rfl fun K hK => ?_
    simp [drunL, dwanted, dopS, own, plainOf, dop, dput, eval, ofVal, Then, upd, dload, dpart, TyI.agg, dfieldAddr, dcallee, dbuildRows, growLimit, DV.cells, h3, ho3, hobj, hn10, hn2, hn1, ty58, ty78, ty9, ty22, g7, frz2, frz1, g6, mapD]
    refine hK _ _ ?_ rfl; clear hK K
    have hfin : ∀ (m' : List (ByteArray × Tk)) (a' : Nat → DV) (σ' : St), base87 s L a' σ' → a' 31 = a 31 → a' 32 = a 32 → a' 33 = .lit (.int .i64 ((i : Int) + 1)) → σ'.objs 2 = some (.map (key1 m') (val1 m')) → TkOk σ'.toks σ'.n m' → LenOk (i + 1) m' →
        strip m' = addBel ((s.below.take i).foldl addBel (L.foldl (fun m n => mput n [] m) [])) b → ∃ k', k' < s.below.length - i ∧ inv87b s L k' a' σ' := by
      intro m' a' σ' hb e31 e32 e33 ho' ht' hl' hs'
      exact ⟨s.below.length - (i + 1), by omega, i + 1, m', by omega, rfl, hb, by rw [e31, h31], by rw [e32, h32], by rw [e33]; simp, ho', ht', hl', by rw [hf, hs']⟩
    have hwi : IntKind.i64.wrap ((i : Int) + 1) = (i : Int) + 1 := wrap_small (n := (i : Int) + 1) (by omega) (by omega)
    have hg := strip_get b.low m
    cases hm : mget b.low m with
    | none =>
      rw [hm] at hg
      rw [hg]
      refine Dwp.condF (by simp [eval, upd]) (Dwp.skip ?_)
      refine Dwp.reg tT rfl fun K hK => ?_
      simp [drunL, drunO, dwanted, dopS, own, plainOf, dop, dput, eval, ofVal, Then, Ex.then, Ex.inBlock, upd, dbin, Tag.isNN, nilTest, intCmp, dload, dpart, TyI.agg, dfieldAddr, dfield, dindexAddr, dindex, dlen, lenOk, dlookup, mapOf, keyFits, dmapUpdate, dcallee, dcall, tabOf, dbuiltin, dstore, DV.cells, setAt, dslice, dboundOk, dappend, appTag, rowsOf, elemOk, growLimit, dbuildCells, dbuildCells.go, structOk, fieldsOk, dbuildRows, goInt, h33, hwi]
      refine hK _ _ ?_ rfl; clear hK K
      refine hfin m _ _ ⟨by simp [upd, h1], by simp [upd, h2], by simp [upd, h3], by simp <;> omega, by simp [upd, hn10, ho3, mapD], by simp [upd, hn1, ho2]⟩ (by simp [upd]) (by simp [upd]) (by simp [upd]) (by simp [upd, hn2, hobj]) (htk.grow (by simp <;> omega)) (fun p hp => by have := hlen p hp; omega) ?_
      rw [← hst, addBel, hg]; rfl
    | some v =>
      obtain ⟨l, o⟩ := v
      rw [hm] at hg
      rw [hg]
      refine Dwp.condT (by simp [eval, upd]) ?_
      refine Dwp.draw [.none, .robj, .none, .robj, .none, .robj, .none, .robj, .robj, .none, .robj, .none, .tok, .wobj] mixed tT rfl (by decide) fun K hK => ?_
      have hga := get1 b.low m
      rw [hm] at hga
      cases o with
      | none =>
        have hpu := put1 b.low (l ++ [b.high], some (σ.n + 1 + 4 + 5 + 12, 0)) m
        have hl0 : l = [] := htk.nil hm
        subst hl0
        simp only [Option.map_some, Tk.dv, List.nil_append, List.map_cons, List.map_nil] at hga hpu
        simp [drunT, touch, touchP, drunL, drunO, dwanted, dopS, own, plainOf, dop, dput, eval, ofVal, Then, Ex.then, Ex.inBlock, upd, dbin, Tag.isNN, nilTest, intCmp, dload, dpart, TyI.agg, dfieldAddr, dfield, dindexAddr, dindex, dlen, lenOk, dlookup, mapOf, keyFits, dmapUpdate, dcallee, dbuiltin, dstore, DV.cells, setAt, dslice, dboundOk, dappend, appTag, rowsOf, elemOk, growLimit, dbuildCells, dbuildCells.go, structOk, fieldsOk, dbuildRows, goInt, h3, ho3, hobj, hn10, hn2, hn1, ty58, ty78, ty9, ty22, ty55, hga, hpu]
        refine hK _ _ ?_ rfl; clear hK K
        refine Dwp.reg tT rfl fun K hK => ?_
        simp [drunL, drunO, dwanted, dopS, own, plainOf, dop, dput, eval, ofVal, Then, Ex.then, Ex.inBlock, upd, dbin, Tag.isNN, nilTest, intCmp, dload, dpart, TyI.agg, dfieldAddr, dfield, dindexAddr, dindex, dlen, lenOk, dlookup, mapOf, keyFits, dmapUpdate, dcallee, dcall, tabOf, dbuiltin, dstore, DV.cells, setAt, dslice, dboundOk, dappend, appTag, rowsOf, elemOk, growLimit, dbuildCells, dbuildCells.go, structOk, fieldsOk, dbuildRows, goInt, h33, hwi]
        refine hK _ _ ?_ rfl; clear hK K
        refine hfin (mput b.low ([b.high], some (σ.n + 1 + 4 + 5 + 12, 0)) m) _ _ ⟨by simp [upd, h1], by simp [upd, h2], by simp [upd, h3], by simp <;> omega, by simp [upd, hn10, ho3, mapD], by simp [upd, hn1, ho2]⟩ (by simp [upd]) (by simp [upd]) (by simp [upd]) (by simp [upd]) (TkOk.put (by simp <;> omega) (by simp <;> omega) (by simp <;> omega) htk hm) (hlen.put (by simp)) ?_
        rw [← hst, addBel, hg, strip_put]; rfl
      | some x =>
        obtain ⟨t, g⟩ := x
        obtain ⟨q1, q2⟩ := htk.get hm
        have hlb : l.length ≤ i := hlen _ (mget_mem hm)
        have hlb2 : l.length + 1 ≤ 16777216 := by omega
        have hpu := put1 b.low (l ++ [b.high], some (t, g + 1)) m
        simp only [Option.map_some, Tk.dv, List.map_append, List.map_cons, List.map_nil] at hga hpu
        simp [drunT, touch, touchP, drunL, drunO, dwanted, dopS, own, plainOf, dop, dput, eval, ofVal, Then, Ex.then, Ex.inBlock, upd, dbin, Tag.isNN, nilTest, intCmp, dload, dpart, TyI.agg, dfieldAddr, dfield, dindexAddr, dindex, dlen, lenOk, dlookup, mapOf, keyFits, dmapUpdate, dcallee, dbuiltin, dstore, DV.cells, setAt, dslice, dboundOk, dappend, appTag, rowsOf, elemOk, growLimit, dbuildCells, dbuildCells.go, structOk, fieldsOk, dbuildRows, goInt, h3, ho3, hobj, hn10, hn2, hn1, ty58, ty78, ty9, ty22, ty55, hga, hpu, q1, hlb2]
        refine hK _ _ ?_ rfl; clear hK K
        refine Dwp.reg tT rfl fun K hK => ?_
        simp [drunL, drunO, dwanted, dopS, own, plainOf, dop, dput, eval, ofVal, Then, Ex.then, Ex.inBlock, upd, dbin, Tag.isNN, nilTest, intCmp, dload, dpart, TyI.agg, dfieldAddr, dfield, dindexAddr, dindex, dlen, lenOk, dlookup, mapOf, keyFits, dmapUpdate, dcallee, dcall, tabOf, dbuiltin, dstore, DV.cells, setAt, dslice, dboundOk, dappend, appTag, rowsOf, elemOk, growLimit, dbuildCells, dbuildCells.go, structOk, fieldsOk, dbuildRows, goInt, h33, hwi]
        refine hK _ _ ?_ rfl; clear hK K
        refine hfin (mput b.low (l ++ [b.high], some (t, g + 1)) m) _ _ ⟨by simp [upd, h1], by simp [upd, h2], by simp [upd, h3], by simp <;> omega, by simp [upd, hn10, ho3, mapD], by simp [upd, hn1, ho2]⟩ (by simp [upd]) (by simp [upd]) (by simp [upd]) (by simp [upd]) (TkOk.put (by simp <;> omega) (by simp <;> omega) rfl htk hm) (hlen.put (by simp <;> omega)) ?_
        rw [← hst, addBel, hg, strip_put]; rfl
  refine Dwp.seq (Dwp.condF (by simp [eval, upd, hlt]) (Dwp.exit ?_))
  simp only [Ex.then, Ex.inBlock, if_true]
  rw [List.take_of_length_le (by omega)] at hst
  refine Dwp.step tT rfl fun K hK => ?_
  simp only [mapD] at ho3
  simp [drunL, drunO, dwanted, dopS, own, plainOf, dop, dput, eval, ofVal, Then, Ex.then, Ex.inBlock, upd, dbin, Tag.isNN, nilTest, intCmp, dload, dpart, TyI.agg, dfieldAddr, dfield, dindexAddr, dindex, dlen, lenOk, dlookup, mapOf, keyFits, dmapUpdate, dcallee, dcall, tabOf, dbuiltin, dstore, DV.cells, setAt, dslice, dboundOk, dappend, appTag, rowsOf, elemOk, growLimit, dbuildCells, dbuildCells.go, structOk, fieldsOk, dbuildRows, goInt, h2, h3, ho3, ho2, ty58, set3]
  refine hK _ _ (Dwp.ret ?_) rfl
  have hd1 := dec_tk htk
  have hd2 := fun A => decMap_enc Enc.opd A
  simp only [Enc.opd, Enc.agg] at hd2
  simp [Done, dresults, dres, frz, frz1, frz2, upd, h2, hobj, ty58, dload, dpart, TyI.agg]
  have e1 : (Enc.map Enc.strs).dec (.fmap (key1 m) (val1 m)) = some (strip m) := hd1
  have e2 : ∀ A, (Enc.map Enc.opd).dec (mapD A) = some A := fun A => (Enc.map Enc.opd).de A
  simp only [mapD] at e2
  simp only [Enc.book, Enc.agg, EncR.book, e1, e2, hst, newBook, hLe]
theorem e87 : Go.FA.Good Tryz.prog (87, s87) := ⟨c87, Tryz.f87, _, Tryz.func87, rfl, by decide⟩
theorem e112 : Go.FA.Good Tryz.prog (112, s112) := ⟨c112 e128, Tryz.f112, _, Tryz.func112, rfl, by decide⟩
theorem e88 : Go.FA.Good Tryz.prog (88, s88) := ⟨c88 e112, Tryz.f88, _, Tryz.func88, rfl, by decide⟩
theorem e44 : Go.FA.Good Tryz.prog (44, s44) := ⟨c44 e87 e88, Tryz.f44, _, Tryz.func44, rfl, by decide⟩
end Go.Proofs.Yt
namespace Go.Proofs.Yt
open Go Go.FA Go.Proofs Go.Shelf
set_option maxRecDepth 100000
def ren190 : Go.Shelf.Ren := ⟨fun n => if n = 190 then 98 else if n = 125 then 124 else if n = 258 then 123 else if n = 128 then 146 else if n = 129 then 147 else if n = 302 then 137 else if n = 303 then 138 else if n = 304 then 139 else if n = 305 then 140 else if n = 306 then 141 else if n = 307 then 142 else if n = 308 then 143 else if n = 309 then 144 else if n = 310 then 145 else if n = 333 then 153 else if n = 329 then 154 else if n = 330 then 155 else if n = 334 then 156 else if n = 335 then 157 else if n = 336 then 158 else if n = 344 then 164 else n, fun n => if n = 31 then 22 else if n = 9 then 9 else if n = 3 then 3 else if n = 46 then 118 else if n = 0 then 0 else if n = 51 then 132 else if n = 53 then 134 else if n = 4 then 4 else if n = 183 then 125 else if n = 182 then 124 else if n = 131 then 129 else if n = 5 then 5 else if n = 218 then 141 else if n = 222 then 145 else if n = 228 then 150 else if n = 229 then 151 else n, fun n => n⟩
theorem lays190 : Lays.n190 Tryz.prog ren190 :=
{ mixed := Eq.refl true, f125 := Eq.trans Tryz.func124 (congrArg some (Eq.refl (Body.n125 ren190))),
  f128 := Eq.trans Tryz.func146 (congrArg some (Eq.refl (Body.n128 ren190))),
  f129 := Eq.trans Tryz.func147 (congrArg some (Eq.refl (Body.n129 ren190))),
  f190 := Eq.trans Tryz.func98 (congrArg some (Eq.refl (Body.n190 ren190))),
  f258 := Eq.trans Tryz.func123 (congrArg some (Eq.refl (Body.n258 ren190))),
  f302 := Eq.trans Tryz.func137 (congrArg some (Eq.refl (Body.n302 ren190))),
  f303 := Eq.trans Tryz.func138 (congrArg some (Eq.refl (Body.n303 ren190))),
  f304 := Eq.trans Tryz.func139 (congrArg some (Eq.refl (Body.n304 ren190))),
  f305 := Eq.trans Tryz.func140 (congrArg some (Eq.refl (Body.n305 ren190))),
  f306 := Eq.trans Tryz.func141 (congrArg some (Eq.refl (Body.n306 ren190))),
  f307 := Eq.trans Tryz.func142 (congrArg some (Eq.refl (Body.n307 ren190))),
  f308 := Eq.trans Tryz.func143 (congrArg some (Eq.refl (Body.n308 ren190))),
  f309 := Eq.trans Tryz.func144 (congrArg some (Eq.refl (Body.n309 ren190))),
  f310 := Eq.trans Tryz.func145 (congrArg some (Eq.refl (Body.n310 ren190))),
  f329 := Eq.trans Tryz.func154 (congrArg some (Eq.refl (Body.n329 ren190))),
  f330 := Eq.trans Tryz.func155 (congrArg some (Eq.refl (Body.n330 ren190))),
  f333 := Eq.trans Tryz.func153 (congrArg some (Eq.refl (Body.n333 ren190))),
  f334 := Eq.trans Tryz.func156 (congrArg some (Eq.refl (Body.n334 ren190))),
  f335 := Eq.trans Tryz.func157 (congrArg some (Eq.refl (Body.n335 ren190))),
  f336 := Eq.trans Tryz.func158 (congrArg some (Eq.refl (Body.n336 ren190))),
  f344 := Eq.trans Tryz.func164 (congrArg some (Eq.refl (Body.n344 ren190))), t0 := Tryz.underlying0,
  a0 := Tryz.isAgg0, z0 := Tryz.sizeOf0, v0 := Tryz.zeroValue0, t3 := Tryz.underlying3, a3 := Tryz.isAgg3,
  z3 := Tryz.sizeOf3, v3 := Tryz.zeroValue3, t4 := Tryz.underlying4, a4 := Tryz.isAgg4, z4 := Tryz.sizeOf4,
  v4 := Tryz.zeroValue4, t5 := Tryz.underlying5, a5 := Tryz.isAgg5, z5 := Tryz.sizeOf5, v5 := Tryz.zeroValue5,
  t9 := Tryz.underlying9, a9 := Tryz.isAgg9, z9 := Tryz.sizeOf9, v9 := Tryz.zeroValue9, t31 := Tryz.underlying22,
  a31 := Tryz.isAgg22, z31 := Tryz.sizeOf22, v31 := Tryz.zeroValue22, t46 := Tryz.underlying118, a46 := Tryz.isAgg118,
  z46 := Tryz.sizeOf118, v46 := Tryz.zeroValue118, t51 := Tryz.underlying132, a51 := Tryz.isAgg132,
  z51 := Tryz.sizeOf132, v51 := Tryz.zeroValue132, t53 := Tryz.underlying134, a53 := Tryz.isAgg134,
  z53 := Tryz.sizeOf134, v53 := Tryz.zeroValue134, t131 := Tryz.underlying129, a131 := Tryz.isAgg129,
  z131 := Tryz.sizeOf129, v131 := Tryz.zeroValue129, t182 := Tryz.underlying124, a182 := Tryz.isAgg124,
  z182 := Tryz.sizeOf124, v182 := Tryz.zeroValue124, t183 := Tryz.underlying125, a183 := Tryz.isAgg125,
  z183 := Tryz.sizeOf125, v183 := Tryz.zeroValue125, t218 := Tryz.underlying141, a218 := Tryz.isAgg141,
  z218 := Tryz.sizeOf141, v218 := Tryz.zeroValue141, t222 := Tryz.underlying145, a222 := Tryz.isAgg145,
  z222 := Tryz.sizeOf145, v222 := Tryz.zeroValue145, t228 := Tryz.underlying150, a228 := Tryz.isAgg150,
  z228 := Tryz.sizeOf150, v228 := Tryz.zeroValue150, t229 := Tryz.underlying151, a229 := Tryz.isAgg151,
  z229 := Tryz.sizeOf151, v229 := Tryz.zeroValue151 }
end Go.Proofs.Yt
namespace Go.FA
open Go.RowKit
set_option linter.unusedVariables false
set_option linter.unusedSimpArgs false
variable {P : Program} {T : Tab} {E : Entry} {F : Nat → Prop} {C : Ctx} {w : World} {σ : St} {n : Nat} {Q : Ex → (Nat → DV) → St → Prop} {a : Nat → DV}

theorem box_obj_sound {t : TypeId} {x : DV} {v : Value} {cs : List DV} {id : Nat} (hc : x.cells = some cs) (hv : VRel C w x v) (hs : SRel E F C w σ) (hF : F id) :
    ∃ u w', (Instr.box t v).run P w = .ok u w' ∧ Res E (fun j => F j ∧ j ≠ id) C w { σ with objs := upd σ.objs id (some (.cells t cs)) } (.ptr id 0) u w' := by
  obtain ⟨vs, h1, h2, h3⟩ := cells_rel hc hv
  obtain ⟨C', hle, hst, hob, _, _, _, hs'⟩ := hs.new_obj (id := id) (ob := .cells vs.toArray t) (o := .cells t cs) hF (fun C' hle hst =>
    ⟨vs, heap_alloc_new w _, LRel_mono hle hst _ _ h2, h3⟩)
  refine ⟨.pointer (some ⟨w.heap.size, 0, none⟩), w.alloc (.cells vs.toArray t), ?_, C', hle, hst, ?_, hs'⟩
  · simp [Instr.box, newVar, newRow, h1]
  · simp only [VRel]; exact ⟨_, hob, rfl⟩

/-- a region whose first operation puts a value into a variable that is written later -/
theorem Dwp.boxed {rid : Nat} {ops : Array Oper} {o0 : Oper} {rest : List Oper} {t : TypeId} {x : Operand} {cs : List DV}
    (hT : TabOk P T) (hd : dstsOk n ops = true) (hops : ops.toList = o0 :: rest) (h0 : o0.op = .box t x) (hg : o0.guard = none) (hx : (eval a x).cells = some cs)
    (h1 : ∀ K : (Nat → DV) → St → Prop, (∀ a' σ', Q .normal a' { σ' with n := σ.n + ops.size } → σ'.n = σ.n → K a' σ') →
      Then (drunL P T ops σ.n 1 rest (dput a o0.dst (.ptr σ.n 0)) { σ with objs := upd σ.objs σ.n (some (.cells t cs)) }) K) :
    Dwp P T E n (.region rid ops false) Q a σ := by
  refine ⟨fun ca w ds hok => wp_region ?_⟩
  obtain ⟨hn, C, hf, hs⟩ := hok
  have hsz : ops.size = rest.length + 1 := by have := congrArg List.length hops; simpa using this
  have ho0 : ops[0]? = some o0 := by
    have : ops.toList[0]? = some o0 := by rw [hops]; rfl
    simpa using this
  have hrest : ∀ j, rest[j]? = ops[1 + j]? := fun j => by
    have : ops.toList[j + 1]? = rest[j]? := by rw [hops]; simp
    rw [← this, Nat.add_comm]; simp
  have hrange : List.range ops.size = 0 :: List.range' 1 rest.length := by
    rw [List.range_eq_range', hsz, List.range'_succ]
  rw [hrange]
  simp only [wpOps, ho0]
  rw [if_pos (by unfold Region.wanted; rw [hg])]
  left
  have hdst : ∀ t, o0.dst = some t → t < ca.size := by
    intro t ht
    have hm : o0 ∈ ops.toList := by rw [hops]; simp
    have := List.all_eq_true.1 hd o0 hm
    rw [ht] at this; rw [hn]; simpa using this
  have hop : (execOp (Act.eval ⟨ca, ds⟩) o0) = (do pure (.value (← Instr.box t (Act.eval ⟨ca, ds⟩ x)))) := by
    simp only [execOp, h0]
  obtain ⟨u, w', hrun, C', hle, hst, hv, hS⟩ := box_obj_sound (P := P) (t := t) (id := σ.n) hx (eval_rel (ds := ds) hf x) hs (Nat.le_refl _)
  unfold Oper.wp Oper.upon
  have hr : (execOp (Act.eval ⟨ca, ds⟩) o0).run P w = .ok (.value u) w' := by rw [hop]; simp only [Sem.run_bind, hrun, Result.andThen_ok, Sem.run_pure]
  rw [hr]
  have hK1 := h1 _ fun _ _ q1 q2 => And.intro q1 q2
  unfold Then at hK1
  split at hK1
  · next a' σ' heq =>
    rw [drunL_eq P T ops σ.n rest 1 _ _ hrest] at heq
    simp only []
    rw [put_eq]
    refine drunO_sound (E := E) hT hd (List.range' 1 rest.length) _ _ _ _ _ _ List.nodup_range' (fun i hi => by rw [List.mem_range'] at hi; omega) heq
      ⟨by rw [put_size]; exact hn, C', (hf.mono hle hst).put hv hdst, hS.fewer fun i hi => ?_⟩ fun ca' w'' hok' => ?_
    · rcases hi with ⟨j, hj, rfl⟩ | hi
      · rw [List.mem_range'] at hj
        obtain ⟨i, hi1, rfl⟩ := hj
        constructor <;> omega
      · constructor <;> omega
    · obtain ⟨hn', C'', hf', hs'⟩ := hok'
      refine ⟨rfl, .normal, a', _, rfl, hK1.1, hn', C'', hf', ?_⟩
      exact ⟨hs'.lo, hs'.below, hs'.bsize, hs'.pB, hs'.mB, hs'.psup, hs'.msup, hs'.psub, hs'.msub, hs'.obj, hs'.inj, hs'.tok, hs'.tinj, hs'.tobj, fun i hi => hs'.fresh i (.inr (by rw [hK1.2] at *; exact hi))⟩
  · exact hK1.elim
end Go.FA
namespace Go.FA
open Go.RowKit Go.Sort Go.Proofs
set_option linter.unusedVariables false
set_option linter.unusedSimpArgs false
variable {P : Program} {T : Tab} {E : Entry} {F : Nat → Prop} {C : Ctx} {w : World} {σ : St} {n : Nat} {Q : Ex → (Nat → DV) → St → Prop} {a : Nat → DV}

/-- the contract of the library's sort of strings -/
structure SortsS (P : Program) (f : FuncId) : Prop where
  some : ∀ (blk off cap : Nat) (ss : List (List UInt8)) (w : World), Holds encStr w blk off ss.toArray → blk < w.heap.size → ss.length < 4611686018427387904 →
    Calls P f #[.slice (some ⟨blk, off, none⟩) ss.length cap] w fun e w' => e = .returned (.tuple #[]) ∧ ∃ n os, w' = grow (putRow encStr (Sort.ahead w n) blk off (ss.mergeSort fun x y => decide (x ≤ y)).toArray) os
  none : ∀ (p : Option Addr) (cap : Nat) (w : World), Calls P f #[.slice p 0 cap] w fun e w' => e = .returned (.tuple #[]) ∧ w' = w

def bl (s : ByteArray) : List UInt8 := s.data.toList
def lb (l : List UInt8) : ByteArray := ⟨l.toArray⟩
theorem lb_bl (s : ByteArray) : lb (bl s) = s := rfl
theorem bl_lb (l : List UInt8) : bl (lb l) = l := rfl
/-- strings in order -/
def sortB (l : List ByteArray) : List ByteArray := ((l.map bl).mergeSort fun x y => decide (x ≤ y)).map lb
theorem length_sortB (l : List ByteArray) : (sortB l).length = l.length := by simp [sortB]
def rowsS (l : List ByteArray) : List (List DV) := l.map fun x => [DV.lit (.string x)]

theorem rows_cells {b : Nat} : ∀ (l : List ByteArray) (o : Nat), RRel C w 1 b o (rowsS l) → ∀ j x, l[j]? = some x → w.cell? ⟨b, o + j, none⟩ = some (.string x)
  | [], o, h, j, x, hx => by simp at hx
  | y :: l, o, h, j, x, hx => by
    simp only [rowsS, List.map_cons, RRel] at h
    cases j with
    | zero =>
      simp at hx; subst hx
      have := h.2.1
      simp only [CRel, VRel] at this
      obtain ⟨⟨_, v, h1, _, h2⟩, _⟩ := this
      rw [h2] at h1; exact h1
    | succ j =>
      have := rows_cells l (o + 1) h.2.2 j x (by simpa using hx)
      rwa [show o + 1 + j = o + (j + 1) by omega] at this
theorem cells_rows {b : Nat} : ∀ (l : List ByteArray) (o : Nat), (∀ j x, l[j]? = some x → C.pc b (o + j) ∧ w.cell? ⟨b, o + j, none⟩ = some (.string x)) → RRel C w 1 b o (rowsS l)
  | [], o, h => by simp [rowsS, RRel]
  | y :: l, o, h => by
    simp only [rowsS, List.map_cons, RRel, CRel, VRel]
    have h0 := h 0 y rfl
    refine ⟨rfl, ⟨⟨h0.1, _, h0.2, rfl, rfl⟩, trivial⟩, cells_rows l (o + 1) fun j x hx => ?_⟩
    have := h (j + 1) x (by simpa using hx)
    rwa [show o + (j + 1) = o + 1 + j by omega] at this

theorem Dwp.sortS {f : FuncId} (hs : SortsS P f) (hfn : ∃ fn c, P.funcs[f]? = some fn ∧ fn.body = some c ∧ fn.name ≠ "runtime.NumGoroutine") {rid : Nat} {ops : Array Oper} {o0 o1 : Oper} {s d0 : Tmp} {tys : Array TypeId}
    (hops : ops = #[o0, o1]) (h0 : o0.op = .move (.tmp s)) (hd0 : o0.dst = some d0) (hg0 : o0.guard = none) (h1 : o1.op = .call ⟨.value (.func f), #[.tmp d0], tys⟩) (hg1 : o1.guard = none) (hne : s ≠ d0) (hd1 : o1.dst ≠ some s)
    (hd : dstsOk n ops = true) (l : List ByteArray) (ha : (a s = .lit (.slice none 0 0) ∧ l = []) ∨ ∃ t g, a s = .slice 1 (.tok t g) (rowsS l)) (hl : l.length < 1099511627776)
    (h : Q .normal (fun t => if t = s then .slice 1 .none (rowsS (sortB l)) else .junk) { n := σ.n + ops.size, objs := fun _ => none, toks := fun _ => none }) :
    Dwp P T E n (.region rid ops false) Q a σ := by
  subst hops
  refine ⟨fun ca w ds hok => wp_region ?_⟩
  obtain ⟨hn, C, hf, hS⟩ := hok
  have hb0 : d0 < ca.size := by
    have := List.all_eq_true.1 hd o0 (by simp)
    rw [hd0] at this; rw [hn]; simpa using this
  have hr : List.range (#[o0, o1] : Array Oper).size = [0, 1] := rfl
  rw [hr]
  simp only [wpOps, List.getElem?_toArray, List.getElem?_cons_zero, List.getElem?_cons_succ]
  rw [if_pos (by unfold Region.wanted; rw [hg0])]
  left
  have e0 : (execOp (Act.eval ⟨ca, ds⟩) o0).run P w = .ok (.value (ca.getD s undef)) w := by simp only [execOp, h0]; rfl
  unfold Oper.wp
  rw [e0]
  show (if Region.wanted o1 _ = true then _ else _)
  rw [if_pos (by unfold Region.wanted; rw [hg1])]
  left
  generalize hca : (Act.put ⟨ca, ds⟩ o0.dst (ca.getD s undef)) = act1
  have hact : act1 = ⟨ca.setIfInBounds d0 (ca.getD s undef), ds⟩ := by
    rw [← hca, hd0]; simp [Act.put]
  have hev : Act.eval act1 (.tmp d0) = ca.getD s undef := by
    rw [hact]; simp [Act.eval, hb0]
  have e1 : (execOp (Act.eval act1) o1).run P w = .ok (.enter f #[ca.getD s undef]) w := by
    obtain ⟨fn, c, q1, q2, q3⟩ := hfn
    have : Act.eval act1 (.func f) = .func (.func f) #[] #[] := rfl
    simp only [execOp, h1, resolve, this, Deferred.ofValue, Sem.run_bind, Sem.run_pure, Result.andThen_ok, invoke, callFunc, run_program, q1]
    simp [q2, q3, hev]
  rw [e1]
  unfold Oper.upon
  have hv := hf s
  generalize hvv : ca.getD s undef = v at *
  -- what is left behind
  have fin : ∀ (C' : Ctx) (w' : World) (r : Value), SRel E (fun i => σ.n + 2 ≤ i) C' w' { n := σ.n + 2, objs := fun _ => none, toks := fun _ => none } → VRel C' w' (.slice 1 .none (rowsS (sortB l))) v →
      Post E n ds Q .normal (act1.put o1.dst r) w' := by
    intro C' w' r hS' hv'
    rw [hact, put_eq]
    refine ⟨rfl, .normal, _, _, rfl, h, ?_, C', ?_, hS'⟩
    · rw [put_size]; simp [hn]
    · intro t
      by_cases ht : t = s
      · subst ht
        simp only [if_true]
        have hg : (Act.put ⟨ca.setIfInBounds d0 v, ds⟩ o1.dst r).tmps.getD t undef = v := by
          unfold Act.put
          cases hdd : o1.dst with
          | none => simp [Array.getD_eq_getD_getElem?, Array.getElem?_setIfInBounds, Ne.symm hne]; simpa [Array.getD_eq_getD_getElem?] using hvv
          | some d => 
            have hdt : d ≠ t := fun e => hd1 (by rw [hdd, e])
            simp [Array.getD_eq_getD_getElem?, Array.getElem?_setIfInBounds, Ne.symm hne, hdt]; simpa [Array.getD_eq_getD_getElem?] using hvv
        rw [hg]; exact hv'
      · simp only [ht, if_false, VRel]
  have lone : ∀ (w' : World) (C' : Ctx), C'.lo = E.B → Below E.B w w' → (∀ b o, E.P0 b o → C'.pc b o) → (∀ b, E.M0 b → C'.pm b) → (∀ b o, C'.pc b o → E.P0 b o ∨ (E.B ≤ b ∧ b < w'.heap.size)) → (∀ b, C'.pm b → E.M0 b) →
      (∀ i, C'.obj i = none ∧ C'.tk i = none) → SRel E (fun i => σ.n + 2 ≤ i) C' w' { n := σ.n + 2, objs := fun _ => none, toks := fun _ => none } := by
    intro w' C' q0 q1 q2 q3 q4 q5 q6
    exact ⟨q0, hS.below.trans q1, Nat.le_trans hS.bsize q1.size, hS.pB, hS.mB, q2, q3, q4, fun b p => .inl (q5 b p), fun i o hi => by simp at hi, fun i j oi oj b hi => by simp at hi, fun t g ht => by simp at ht, fun t t' g g' x x' ht => by simp at ht, fun t g x i o ht => by simp at ht, fun i _ => q6 i⟩
  have empty : ∀ ad : Option Addr, v = .slice ad 0 0 → l = [] → Calls P f #[v] w fun e w' => e = .returned (.tuple #[]) ∧ Post E n ds Q .normal (act1.put o1.dst (.tuple #[])) w' := by
    intro ad hve hle
    rw [hve]
    refine (hs.none ad 0 w).mono ?_
    rintro e w' ⟨rfl, rfl⟩
    refine ⟨rfl, fin ⟨fun _ => none, fun _ => none, E.P0, E.M0, E.B⟩ w' _ (lone w' _ rfl (Below.refl _ _) (fun _ _ p => p) (fun _ p => p) (fun _ _ p => .inl p) (fun _ p => p) fun _ => ⟨rfl, rfl⟩) ?_⟩
    subst hle
    simp only [VRel]
    exact .inr ⟨ad, hve, by simp [sortB, rowsS], trivial⟩
  rcases ha with ⟨ha, hle⟩ | ⟨t, g, ha⟩
  · rw [ha] at hv
    simp only [VRel] at hv
    refine (empty _ hv hle).mono ?_
    rintro e w' ⟨rfl, hp⟩; exact hp
  · rw [ha] at hv
    simp only [VRel] at hv
    rcases hv with ⟨b, o, cap, hve, hcap, hR, _, how, c, e, hc⟩ | ⟨ad, hve, hle, _⟩
    · have hlt : b < w.heap.size := by
        rcases Nat.lt_or_ge b w.heap.size with r | r
        · exact r
        · simp [Array.getElem?_eq_none r] at hc
      have hlen : (rowsS l).length = (l.map bl).length := by simp [rowsS]
      have hH : Holds encStr w b o (l.map bl).toArray := by
        intro j hj
        have hjl : j < l.length := by simpa using hj
        refine ⟨?_, ?_⟩
        · have := rows_cells l o hR j l[j] (by simp [hjl])
          rw [this]
          simp [hjl, encStr, bl]
        · simp [World.frozen?, hc]
      rw [hve, hlen]
      refine (hs.some b o cap (l.map bl) w hH hlt (by simp; omega)).mono ?_
      rintro e w' ⟨rfl, m, os, rfl⟩
      obtain ⟨ls, hls⟩ : ∃ ls, ls = (l.map bl).mergeSort fun x y => decide (x ≤ y) := ⟨_, rfl⟩
      have hlsl : ls.length = l.length := by rw [hls]; simp
      rw [← hls]
      have hsz : (putRow encStr (Sort.ahead w m) b o ls.toArray).heap.size = w.heap.size := by simp
      have hcell : ∀ (j : Nat) (x : ByteArray), (sortB l)[j]? = some x → (grow (putRow encStr (Sort.ahead w m) b o ls.toArray) os).cell? ⟨b, o + j, none⟩ = some (.string x) := by
        intro j x hx
        have hjl : j < ls.length := by
          have : j < (sortB l).length := by
            rcases Nat.lt_or_ge j (sortB l).length with q | q
            · exact q
            · simp [List.getElem?_eq_none q] at hx
          rw [length_sortB] at this; omega
        rw [cell?_grow _ _ _ (by rw [hsz]; exact hlt), cell?_putRow encStr (Sort.ahead w m) b o (l.map bl).toArray ls.toArray (holds_ahead _ _ _ _ _ _ hH) (by simp [hlsl]) j (by simpa using hjl)]
        simp only [sortB, ← hls, List.getElem?_map, List.getElem?_eq_getElem hjl, Option.map_some, Option.some.injEq] at hx
        rw [← hx]
        simp [hjl, encStr, lb]
      have hbel : Below E.B w (grow (putRow encStr (Sort.ahead w m) b o ls.toArray) os) := by
        refine ⟨rfl, rfl, rfl, by rw [size_grow, hsz]; omega, fun k hk => ?_⟩
        have hkb : k ≠ b := by have := hS.lo; omega
        have hks : k < w.heap.size := by have := hS.bsize; omega
        rw [heap_grow_old _ _ (by rw [hsz]; exact hks)]
        simp [putRow, mapBlock, Array.getElem?_modify, Ne.symm hkb]
      refine fin ⟨fun _ => none, fun _ => none, fun k j => E.P0 k j ∨ (k = b ∧ o ≤ j), E.M0, E.B⟩ _ _ (lone _ _ rfl hbel (fun _ _ p => .inl p) (fun _ p => p) (fun k j p => p.imp (fun q => q) fun q => by rw [q.1, size_grow, hsz]; exact ⟨by have := hS.lo; omega, by omega⟩) (fun _ p => p) fun _ => ⟨rfl, rfl⟩) ?_
      have hls2 : (rowsS (sortB l)).length = (rowsS l).length := by simp [rowsS, length_sortB]
      simp only [VRel]
      refine .inl ⟨b, o, cap, by rw [hve, hls2], by rw [hls2]; exact hcap, cells_rows _ _ fun j x hx => ⟨.inr ⟨rfl, by omega⟩, hcell j x hx⟩, trivial⟩
    · refine (empty ad hve (by simpa [rowsS] using hle)).mono ?_
      rintro e w' ⟨rfl, hp⟩; exact hp
end Go.FA
namespace Go.Proofs.Yt
open Go Go.FA Go.Proofs
set_option linter.unusedVariables false
set_option linter.unusedSimpArgs false
set_option maxRecDepth 100000

theorem e12 : Go.FA.Good Tryz.prog (12, s12) := ⟨c12 e44, Tryz.f12, _, Tryz.func12, rfl, by decide⟩
theorem e14 : Go.FA.Good Tryz.prog (14, s14) := ⟨c14 e44, Tryz.f14, _, Tryz.func14, rfl, by decide⟩
theorem e16 : Go.FA.Good Tryz.prog (16, s16) := ⟨c16 e44, Tryz.f16, _, Tryz.func16, rfl, by decide⟩
theorem e40 : Go.FA.Good Tryz.prog (40, s40) := ⟨c40 e14, Tryz.f40, _, Tryz.func40, rfl, by decide⟩
theorem sorts98 : SortsS Tryz.prog 98 := ⟨fun blk off cap ss w h1 h2 h3 => Any.slices_Sort_string lays190 blk off cap ss w h1 h2 h3, fun p cap w => Any.slices_Sort_string_none lays190 p cap w⟩

def OpD.fits (o : OpD) : Prop := o.args.length ≤ 1048576 ∧ o.pieces.length ≤ 1048576 ∧ o.strict.length ≤ 1048576
instance (o : OpD) : Decidable o.fits := by unfold OpD.fits; infer_instance
def s96 : Sp := sp (arg1 Enc.opd) Enc.opd (fun o => if o.fits then some o else none)
abbrev T96 : Tab := tabOf [(120, s120), (121, s121), (122, s122)]
theorem t96 : TabOk Tryz.prog T96 := .cons e120 (.cons e121 (.cons e122 .nil))
theorem piesC (l : List Pie) : Enc.pies.enc l = .slice 2 .none (l.map EncR.pie.enc) := rfl
theorem intsC (l : List Int) : Enc.ints.enc l = .slice 1 .none (l.map fun n => [DV.lit (.int .i64 n)]) := rfl
theorem setA1 (o : OpD) : setAt (EncR.opd.enc o) 1 [.slice 1 .none (o.args.map fun s => [DV.lit (.string s)])] = EncR.opd.enc o := rfl
theorem setA3 (o : OpD) : setAt (EncR.opd.enc o) 3 [.slice 2 .none (o.pieces.map EncR.pie.enc)] = EncR.opd.enc o := rfl
theorem setA6 (o : OpD) : setAt (EncR.opd.enc o) 6 [.slice 1 .none (o.strict.map fun n => [DV.lit (.int .i64 n)])] = EncR.opd.enc o := rfl
theorem frzOpd (σ : St) (o : OpD) : (EncR.opd.enc o).map (frz1 σ) = EncR.opd.enc o := rfl
theorem c96 : CallSound Tryz.prog 96 s96 := by
  refine CallSound.of_sp (T := T96) Tryz.func96 rfl (Nat.le_of_ble_eq_true rfl) fun E o y hy => ?_
  by_cases hfit : o.fits <;> simp [hfit] at hy
  subst hy
  obtain ⟨f1, f2, f3⟩ := hfit
  have g1 : dcall T96 120 [Enc.strs.enc o.args] = some (Enc.strs.enc o.args) := dcall1 (A := Enc.strs) (B := Enc.strs) rfl (by simp [f1])
  have g2 : dcall T96 121 [Enc.pies.enc o.pieces] = some (Enc.pies.enc o.pieces) := dcall1 (A := Enc.pies) (B := Enc.pies) rfl (by simp [f2])
  have g3 : dcall T96 122 [Enc.ints.enc o.strict] = some (Enc.ints.enc o.strict) := dcall1 (A := Enc.ints) (B := Enc.ints) rfl (by simp [f3])
  simp only [strsC, piesC, intsC] at g1 g2 g3
  have tT := t96
  generalize T96 = T at *
  refine Dwp.seq (Dwp.boxed (cs := EncR.opd.enc o) tT rfl rfl rfl rfl rfl fun K hK => ?_)
  simp [drunL, drunO, dwanted, dopS, own, plainOf, dop, dput, eval, ofVal, Then, Ex.then, Ex.inBlock, upd, dbin, Tag.isNN, nilTest, intCmp, dload, dpart, TyI.agg, dfieldAddr, dfield, dindexAddr, dindex, dlen, lenOk, dlookup, mapOf, keyFits, dmapUpdate, dcallee, dbuiltin, dstore, DV.cells, setAt, dslice, dboundOk, dappend, appTag, rowsOf, elemOk, growLimit, dbuildCells, dbuildCells.go, structOk, fieldsOk, dbuildRows, goInt, ty38]
  refine hK _ _ ?_ rfl; clear hK K
  refine Dwp.step tT rfl fun K hK => ?_
  simp [drunL, drunO, dwanted, dopS, own, plainOf, dop, dput, eval, ofVal, Then, Ex.then, Ex.inBlock, upd, dbin, Tag.isNN, nilTest, intCmp, dload, dpart, TyI.agg, dfieldAddr, dfield, dindexAddr, dindex, dlen, lenOk, dlookup, mapOf, keyFits, dmapUpdate, dcallee, dbuiltin, dstore, DV.cells, dslice, dboundOk, dappend, appTag, rowsOf, elemOk, growLimit, dbuildCells, dbuildCells.go, structOk, fieldsOk, dbuildRows, goInt, ty38, ty22, strsC, g1, setA1]
  refine hK _ _ ?_ rfl; clear hK K
  refine Dwp.step tT rfl fun K hK => ?_
  simp [drunL, drunO, dwanted, dopS, own, plainOf, dop, dput, eval, ofVal, Then, Ex.then, Ex.inBlock, upd, dbin, Tag.isNN, nilTest, intCmp, dload, dpart, TyI.agg, dfieldAddr, dfield, dindexAddr, dindex, dlen, lenOk, dlookup, mapOf, keyFits, dmapUpdate, dcallee, dbuiltin, dstore, DV.cells, dslice, dboundOk, dappend, appTag, rowsOf, elemOk, growLimit, dbuildCells, dbuildCells.go, structOk, fieldsOk, dbuildRows, goInt, ty38, ty34, piesC, g2, setA3]
  refine hK _ _ ?_ rfl; clear hK K
  refine Dwp.step tT rfl fun K hK => ?_
  simp [drunL, drunO, dwanted, dopS, own, plainOf, dop, dput, eval, ofVal, Then, Ex.then, Ex.inBlock, upd, dbin, Tag.isNN, nilTest, intCmp, dload, dpart, TyI.agg, dfieldAddr, dfield, dindexAddr, dindex, dlen, lenOk, dlookup, mapOf, keyFits, dmapUpdate, dcallee, dbuiltin, dstore, DV.cells, dslice, dboundOk, dappend, appTag, rowsOf, elemOk, growLimit, dbuildCells, dbuildCells.go, structOk, fieldsOk, dbuildRows, goInt, ty38, ty36, intsC, g3, setA6]
  refine hK _ _ ?_ rfl; clear hK K
  refine Dwp.step tT rfl fun K hK => ?_
  simp [drunL, drunO, dwanted, dopS, own, plainOf, dop, dput, eval, ofVal, Then, Ex.then, Ex.inBlock, upd, dbin, Tag.isNN, nilTest, intCmp, dload, dpart, TyI.agg, dfieldAddr, dfield, dindexAddr, dindex, dlen, lenOk, dlookup, mapOf, keyFits, dmapUpdate, dcallee, dbuiltin, dstore, DV.cells, dslice, dboundOk, dappend, appTag, rowsOf, elemOk, growLimit, dbuildCells, dbuildCells.go, structOk, fieldsOk, dbuildRows, goInt, ty38, setOpd]
  refine hK _ _ (Dwp.ret ?_) rfl
  have := EncR.opd.de o
  simp [Done, dresults, dres, frz, frz1, frz2, upd, dload, dpart, TyI.agg, ty38, Enc.opd, Enc.agg, frzOpd, this]
theorem e96 : Go.FA.Good Tryz.prog (96, s96) := ⟨c96, Tryz.f96, _, Tryz.func96, rfl, by decide⟩

/-- an operator and an error's number -/
def Enc.opErr : Enc (OpD × Int) := Enc.tup (arg2 Enc.opd Enc.i64)
def noOp : OpD := ⟨⟨#[]⟩, [], ⟨#[]⟩, [], 0, 0, []⟩
def noOpD : List DV := [.lit (.string ⟨#[]⟩), .lit (.slice none 0 0), .lit (.string ⟨#[]⟩), .lit (.slice none 0 0), .lit (.int .i64 0), .lit (.int .i64 0), .lit (.slice none 0 0)]
theorem decNo : EncR.opd.dec noOpD = some noOp := rfl
def lookF (m : List (ByteArray × OpD)) (k : ByteArray) : Option (OpD × Int) := match mget k m with
  | some o => if o.fits then some (o, 0) else none
  | none => some (noOp, 4)
def s58 : Sp := sp (arg2 (Enc.map Enc.opd) Enc.str) Enc.opErr (fun x => lookF x.1 x.2)
theorem setO (o : OpD) : setAt noOpD 0 (EncR.opd.enc o) = EncR.opd.enc o := rfl
theorem setN : setAt noOpD 0 noOpD = noOpD := rfl
abbrev T58 : Tab := tabOf [(96, s96)]
theorem c58 : CallSound Tryz.prog 58 s58 := by
  have t58 : TabOk Tryz.prog T58 := .cons e96 .nil
  refine CallSound.of_sp (T := T58) Tryz.func58 rfl (Nat.le_of_ble_eq_true rfl) fun E x y hy => ?_
  obtain ⟨m, k⟩ := x
  simp only [lookF] at hy
  have hA := assoc_enc Enc.opd k m
  have setO' := setO
  have setN' := setN
  have decNo' := decNo
  simp only [noOpD] at setO' setN' decNo'
  cases hm : mget k m with
  | none =>
    rw [hm] at hy hA
    cases hy
    refine Dwp.step t58 rfl fun K hK => ?_
    simp [drunL, drunO, dwanted, dopS, own, plainOf, dop, dput, eval, ofVal, Then, Ex.then, Ex.inBlock, upd, dbin, Tag.isNN, nilTest, intCmp, dload, dpart, TyI.agg, dfieldAddr, dfield, dindexAddr, dindex, dlen, lenOk, dlookup, mapOf, keyFits, dmapUpdate, dcallee, dcall, tabOf, dbuiltin, dstore, DV.cells, setAt, dslice, dboundOk, dappend, appTag, rowsOf, elemOk, growLimit, dbuildCells, dbuildCells.go, structOk, fieldsOk, dbuildRows, goInt, ty38]
    refine hK _ _ ?_ rfl; clear hK K
    refine Dwp.step t58 rfl fun K hK => ?_
    simp [drunL, drunO, dwanted, dopS, own, plainOf, dop, dput, eval, ofVal, Then, Ex.then, Ex.inBlock, upd, dbin, Tag.isNN, nilTest, intCmp, dload, dpart, TyI.agg, dfieldAddr, dfield, dindexAddr, dindex, dlen, lenOk, dlookup, mapOf, keyFits, dmapUpdate, dcallee, dbuiltin, dstore, DV.cells, dslice, dboundOk, dappend, appTag, rowsOf, elemOk, growLimit, dbuildCells, dbuildCells.go, structOk, fieldsOk, dbuildRows, goInt, init, arg2, EncR.and, EncR.one, Enc.map, Enc.str, ty56, ty9, ty38, hA, setN']
    refine hK _ _ ?_ rfl; clear hK K
    refine Dwp.seq ?_
    refine Dwp.step t58 rfl fun K hK => ?_
    simp [drunL, drunO, dwanted, dopS, own, plainOf, dop, dput, eval, ofVal, Then, Ex.then, Ex.inBlock, upd, dbin, Tag.isNN, nilTest, intCmp, dload, dpart, TyI.agg, dfieldAddr, dfield, dindexAddr, dindex, dlen, lenOk, dlookup, mapOf, keyFits, dmapUpdate, dcallee, dcall, tabOf, dbuiltin, dstore, DV.cells, setAt, dslice, dboundOk, dappend, appTag, rowsOf, elemOk, growLimit, dbuildCells, dbuildCells.go, structOk, fieldsOk, dbuildRows, goInt]
    refine hK _ _ ?_ rfl; clear hK K
    refine Dwp.condT (by simp [eval, upd]) ?_
    refine Dwp.step t58 rfl fun K hK => ?_
    simp [drunL, drunO, dwanted, dopS, own, plainOf, dop, dput, eval, ofVal, Then, Ex.then, Ex.inBlock, upd, dbin, Tag.isNN, nilTest, intCmp, dload, dpart, TyI.agg, dfieldAddr, dfield, dindexAddr, dindex, dlen, lenOk, dlookup, mapOf, keyFits, dmapUpdate, dcallee, dbuiltin, dstore, DV.cells, dslice, dboundOk, dappend, appTag, rowsOf, elemOk, growLimit, dbuildCells, dbuildCells.go, structOk, fieldsOk, dbuildRows, goInt, ty38, setN']
    refine hK _ _ (Dwp.ret ?_) rfl
    simp [Done, dresults, dres, frz, frz1, frz2, Ex.then, upd, dload, dpart, TyI.agg, ty38, Enc.opErr, Enc.tup, arg2, EncR.and, EncR.one, Enc.opd, Enc.agg, Enc.i64, Enc.int, setN', decNo']
  | some o =>
    rw [hm] at hy hA
    simp only [] at hy
    split at hy
    case isFalse => cases hy
    next hf =>
    cases hy
    simp only [Enc.opd, Enc.agg, Option.map_some] at hA
    have g : dcall T58 96 [.agg (EncR.opd.enc o)] = some (.agg (EncR.opd.enc o)) := dcall1 (A := Enc.opd) (B := Enc.opd) rfl (if_pos hf)
    refine Dwp.step t58 rfl fun K hK => ?_
    simp [drunL, drunO, dwanted, dopS, own, plainOf, dop, dput, eval, ofVal, Then, Ex.then, Ex.inBlock, upd, dbin, Tag.isNN, nilTest, intCmp, dload, dpart, TyI.agg, dfieldAddr, dfield, dindexAddr, dindex, dlen, lenOk, dlookup, mapOf, keyFits, dmapUpdate, dcallee, dcall, tabOf, dbuiltin, dstore, DV.cells, setAt, dslice, dboundOk, dappend, appTag, rowsOf, elemOk, growLimit, dbuildCells, dbuildCells.go, structOk, fieldsOk, dbuildRows, goInt, ty38]
    refine hK _ _ ?_ rfl; clear hK K
    refine Dwp.step t58 rfl fun K hK => ?_
    simp [drunL, drunO, dwanted, dopS, own, plainOf, dop, dput, eval, ofVal, Then, Ex.then, Ex.inBlock, upd, dbin, Tag.isNN, nilTest, intCmp, dload, dpart, TyI.agg, dfieldAddr, dfield, dindexAddr, dindex, dlen, lenOk, dlookup, mapOf, keyFits, dmapUpdate, dcallee, dbuiltin, dstore, DV.cells, dslice, dboundOk, dappend, appTag, rowsOf, elemOk, growLimit, dbuildCells, dbuildCells.go, structOk, fieldsOk, dbuildRows, goInt, init, arg2, EncR.and, EncR.one, Enc.map, Enc.str, ty56, ty9, ty38, hA, Enc.opd, Enc.agg, setO']
    refine hK _ _ ?_ rfl; clear hK K
    refine Dwp.seq ?_
    refine Dwp.step t58 rfl fun K hK => ?_
    simp [drunL, drunO, dwanted, dopS, own, plainOf, dop, dput, eval, ofVal, Then, Ex.then, Ex.inBlock, upd, dbin, Tag.isNN, nilTest, intCmp, dload, dpart, TyI.agg, dfieldAddr, dfield, dindexAddr, dindex, dlen, lenOk, dlookup, mapOf, keyFits, dmapUpdate, dcallee, dcall, tabOf, dbuiltin, dstore, DV.cells, setAt, dslice, dboundOk, dappend, appTag, rowsOf, elemOk, growLimit, dbuildCells, dbuildCells.go, structOk, fieldsOk, dbuildRows, goInt]
    refine hK _ _ ?_ rfl; clear hK K
    refine Dwp.condF (by simp [eval, upd]) (Dwp.skip ?_)
    refine Dwp.step t58 rfl fun K hK => ?_
    generalize T58 = T at *
    simp [drunL, drunO, dwanted, dopS, own, plainOf, dop, dput, eval, ofVal, Then, Ex.then, Ex.inBlock, upd, dbin, Tag.isNN, nilTest, intCmp, dload, dpart, TyI.agg, dfieldAddr, dfield, dindexAddr, dindex, dlen, lenOk, dlookup, mapOf, keyFits, dmapUpdate, dcallee, dbuiltin, dstore, DV.cells, dslice, dboundOk, dappend, appTag, rowsOf, elemOk, growLimit, dbuildCells, dbuildCells.go, structOk, fieldsOk, dbuildRows, goInt, ty38, g, setO']
    refine hK _ _ (Dwp.ret ?_) rfl
    have := EncR.opd.de o
    simp [Done, dresults, dres, frz, frz1, frz2, Ex.then, upd, dload, dpart, TyI.agg, ty38, Enc.opErr, Enc.tup, arg2, EncR.and, EncR.one, Enc.opd, Enc.agg, Enc.i64, Enc.int, setO', frzOpd, this]
theorem e58 : Go.FA.Good Tryz.prog (58, s58) := ⟨c58, Tryz.f58, _, Tryz.func58, rfl, by decide⟩
end Go.Proofs.Yt
namespace Go.Proofs.Yt
open Go Go.FA Go.Proofs
set_option linter.unusedVariables false
set_option linter.unusedSimpArgs false
set_option maxRecDepth 100000
abbrev T22 : Tab := tabOf [(44, s44), (58, s58)]

def findF22 (s : SigD) (k : ByteArray) : Option (OpD × Int) := match openF s [] with
  | some (some b, e) => if e = 0 then lookF b.ops k else none
  | some (none, e) => if e = 0 then none else some (noOp, e)
  | none => none
def s22 : Sp := sp (arg2 Enc.sigd Enc.str) Enc.opErr (fun x => findF22 x.1 x.2)
theorem c22 : CallSound Tryz.prog 22 s22 := by
  have tt : TabOk Tryz.prog T22 := .cons e44 (.cons e58 .nil)
  refine CallSound.of_sp (T := T22) Tryz.func22 rfl (Nat.le_of_ble_eq_true rfl) fun E x y hy => ?_
  obtain ⟨s, k⟩ := x
  have setO' := setO
  have setN' := setN
  have decNo' := decNo
  simp only [noOpD] at setO' setN' decNo'
  simp only [findF22] at hy
  cases hr : openF s [] with
  | none => rw [hr] at hy; cases hy
  | some r =>
  rw [hr] at hy
  have g := call44 T22 rfl s (.lit (.slice none 0 0)) [] r rfl hr
  have g2 : T22 58 = some s58 := rfl
  generalize T22 = T at *
  refine Dwp.step tt rfl fun K hK => ?_
  simp [drunL, drunO, dwanted, dopS, own, plainOf, dop, dput, eval, ofVal, Then, Ex.then, Ex.inBlock, upd, dbin, Tag.isNN, nilTest, intCmp, dload, dpart, TyI.agg, dfieldAddr, dfield, dindexAddr, dindex, dlen, lenOk, dlookup, mapOf, keyFits, dmapUpdate, dcallee, dbuiltin, dstore, DV.cells, setAt, dslice, dboundOk, dappend, appTag, rowsOf, elemOk, growLimit, dbuildCells, dbuildCells.go, structOk, fieldsOk, dbuildRows, goInt, init, arg2, EncR.and, EncR.one, Enc.sigd, Enc.agg, ty38]
  refine hK _ _ ?_ rfl; clear hK K
  refine Dwp.step tt rfl fun K hK => ?_
  obtain ⟨o, e⟩ := r
  cases o with
  | none =>
    simp only [Enc.opened, noBook] at g
    simp only [] at hy
    split at hy
    case isTrue => cases hy
    next he =>
    cases hy
    have he' : (e != 0) = true := by simp [he]
    simp [drunL, dwanted, dopS, own, dop, dput, eval, ofVal, Then, upd, dload, dpart, TyI.agg, ty26, ty58, dcallee, g, DV.cells, dstore, setNo]
    refine hK _ _ ?_ rfl; clear hK K
    refine Dwp.seq ?_
    refine Dwp.step tt rfl fun K hK => ?_
    simp [drunL, dwanted, dopS, own, dop, dput, eval, ofVal, Then, upd, dbin, intCmp, he']
    refine hK _ _ ?_ rfl; clear hK K
    refine Dwp.condT (by simp [eval, upd]) ?_
    refine Dwp.step tt rfl fun K hK => ?_
    simp [drunL, drunO, dwanted, dopS, own, plainOf, dop, dput, eval, ofVal, Then, Ex.then, Ex.inBlock, upd, dbin, Tag.isNN, nilTest, intCmp, dload, dpart, TyI.agg, dfieldAddr, dfield, dindexAddr, dindex, dlen, lenOk, dlookup, mapOf, keyFits, dmapUpdate, dcallee, dbuiltin, dstore, DV.cells, dslice, dboundOk, dappend, appTag, rowsOf, elemOk, growLimit, dbuildCells, dbuildCells.go, structOk, fieldsOk, dbuildRows, goInt, ty38, setN']
    refine hK _ _ (Dwp.ret ?_) rfl
    simp [Done, dresults, dres, frz, frz1, frz2, Ex.then, upd, dload, dpart, TyI.agg, ty38, Enc.opErr, Enc.tup, arg2, EncR.and, EncR.one, Enc.opd, Enc.agg, Enc.i64, Enc.int, setN', decNo']
  | some b =>
    simp only [Enc.opened, Enc.book, Enc.agg] at g
    simp only [] at hy
    split at hy
    case isFalse => cases hy
    next he =>
    subst he
    simp [drunL, dwanted, dopS, own, dop, dput, eval, ofVal, Then, upd, dload, dpart, TyI.agg, ty26, ty58, dcallee, g, DV.cells, dstore, setBook]
    refine hK _ _ ?_ rfl; clear hK K
    refine Dwp.seq ?_
    refine Dwp.step tt rfl fun K hK => ?_
    simp [drunL, dwanted, dopS, own, dop, dput, eval, ofVal, Then, upd, dbin, intCmp]
    refine hK _ _ ?_ rfl; clear hK K
    refine Dwp.condF (by simp [eval, upd]) (Dwp.skip ?_)
    obtain ⟨o, e⟩ := y
    have g3 : dcall T 58 [(Enc.map Enc.opd).enc b.ops, .lit (.string k)] = some (Enc.opErr.enc (o, e)) := dcall2 (A := Enc.map Enc.opd) (B := Enc.str) (C := Enc.opErr) g2 hy
    simp only [Enc.map, Enc.opErr, Enc.tup, Enc.opd, Enc.agg, arg2, EncR.and, EncR.one, Enc.i64, Enc.int] at g3
    refine Dwp.step tt rfl fun K hK => ?_
    simp [drunL, drunO, dwanted, dopS, own, plainOf, dop, dput, eval, ofVal, Then, Ex.then, Ex.inBlock, upd, dbin, Tag.isNN, nilTest, intCmp, dload, dpart, TyI.agg, dfieldAddr, dfield, dindexAddr, dindex, dlen, lenOk, dlookup, mapOf, keyFits, dmapUpdate, dcallee, dbuiltin, dstore, DV.cells, dslice, dboundOk, dappend, appTag, rowsOf, elemOk, growLimit, dbuildCells, dbuildCells.go, structOk, fieldsOk, dbuildRows, goInt, init, arg2, EncR.and, EncR.one, Enc.str, EncR.book, Enc.map, ty58, ty56, ty38, Enc.opd, Enc.agg, g3, setO']
    refine hK _ _ (Dwp.ret ?_) rfl
    have := EncR.opd.de o
    simp [Done, dresults, dres, frz, frz1, frz2, Ex.then, upd, dload, dpart, TyI.agg, ty38, Enc.opErr, Enc.tup, arg2, EncR.and, EncR.one, Enc.opd, Enc.agg, Enc.i64, Enc.int, setO', frzOpd, this]
theorem e22 : Go.FA.Good Tryz.prog (22, s22) := ⟨c22, Tryz.f22, _, Tryz.func22, rfl, by decide⟩

def findF25 (s : SigD) (k : ByteArray) : Option (OpD × Int) := match openF s [] with
  | some (some b, e) => if e = 0 then lookF b.funs k else none
  | some (none, e) => if e = 0 then none else some (noOp, e)
  | none => none
def s25 : Sp := sp (arg2 Enc.sigd Enc.str) Enc.opErr (fun x => findF25 x.1 x.2)
theorem c25 : CallSound Tryz.prog 25 s25 := by
  have tt : TabOk Tryz.prog T22 := .cons e44 (.cons e58 .nil)
  refine CallSound.of_sp (T := T22) Tryz.func25 rfl (Nat.le_of_ble_eq_true rfl) fun E x y hy => ?_
  obtain ⟨s, k⟩ := x
  have setO' := setO
  have setN' := setN
  have decNo' := decNo
  simp only [noOpD] at setO' setN' decNo'
  simp only [findF25] at hy
  cases hr : openF s [] with
  | none => rw [hr] at hy; cases hy
  | some r =>
  rw [hr] at hy
  have g := call44 T22 rfl s (.lit (.slice none 0 0)) [] r rfl hr
  have g2 : T22 58 = some s58 := rfl
  generalize T22 = T at *
  refine Dwp.step tt rfl fun K hK => ?_
  simp [drunL, drunO, dwanted, dopS, own, plainOf, dop, dput, eval, ofVal, Then, Ex.then, Ex.inBlock, upd, dbin, Tag.isNN, nilTest, intCmp, dload, dpart, TyI.agg, dfieldAddr, dfield, dindexAddr, dindex, dlen, lenOk, dlookup, mapOf, keyFits, dmapUpdate, dcallee, dbuiltin, dstore, DV.cells, setAt, dslice, dboundOk, dappend, appTag, rowsOf, elemOk, growLimit, dbuildCells, dbuildCells.go, structOk, fieldsOk, dbuildRows, goInt, init, arg2, EncR.and, EncR.one, Enc.sigd, Enc.agg, ty38]
  refine hK _ _ ?_ rfl; clear hK K
  refine Dwp.step tt rfl fun K hK => ?_
  obtain ⟨o, e⟩ := r
  cases o with
  | none =>
    simp only [Enc.opened, noBook] at g
    simp only [] at hy
    split at hy
    case isTrue => cases hy
    next he =>
    cases hy
    have he' : (e != 0) = true := by simp [he]
    simp [drunL, dwanted, dopS, own, dop, dput, eval, ofVal, Then, upd, dload, dpart, TyI.agg, ty26, ty58, dcallee, g, DV.cells, dstore, setNo]
    refine hK _ _ ?_ rfl; clear hK K
    refine Dwp.seq ?_
    refine Dwp.step tt rfl fun K hK => ?_
    simp [drunL, dwanted, dopS, own, dop, dput, eval, ofVal, Then, upd, dbin, intCmp, he']
    refine hK _ _ ?_ rfl; clear hK K
    refine Dwp.condT (by simp [eval, upd]) ?_
    refine Dwp.step tt rfl fun K hK => ?_
    simp [drunL, drunO, dwanted, dopS, own, plainOf, dop, dput, eval, ofVal, Then, Ex.then, Ex.inBlock, upd, dbin, Tag.isNN, nilTest, intCmp, dload, dpart, TyI.agg, dfieldAddr, dfield, dindexAddr, dindex, dlen, lenOk, dlookup, mapOf, keyFits, dmapUpdate, dcallee, dbuiltin, dstore, DV.cells, dslice, dboundOk, dappend, appTag, rowsOf, elemOk, growLimit, dbuildCells, dbuildCells.go, structOk, fieldsOk, dbuildRows, goInt, ty38, setN']
    refine hK _ _ (Dwp.ret ?_) rfl
    simp [Done, dresults, dres, frz, frz1, frz2, Ex.then, upd, dload, dpart, TyI.agg, ty38, Enc.opErr, Enc.tup, arg2, EncR.and, EncR.one, Enc.opd, Enc.agg, Enc.i64, Enc.int, setN', decNo']
  | some b =>
    simp only [Enc.opened, Enc.book, Enc.agg] at g
    simp only [] at hy
    split at hy
    case isFalse => cases hy
    next he =>
    subst he
    simp [drunL, dwanted, dopS, own, dop, dput, eval, ofVal, Then, upd, dload, dpart, TyI.agg, ty26, ty58, dcallee, g, DV.cells, dstore, setBook]
    refine hK _ _ ?_ rfl; clear hK K
    refine Dwp.seq ?_
    refine Dwp.step tt rfl fun K hK => ?_
    simp [drunL, dwanted, dopS, own, dop, dput, eval, ofVal, Then, upd, dbin, intCmp]
    refine hK _ _ ?_ rfl; clear hK K
    refine Dwp.condF (by simp [eval, upd]) (Dwp.skip ?_)
    obtain ⟨o, e⟩ := y
    have g3 : dcall T 58 [(Enc.map Enc.opd).enc b.funs, .lit (.string k)] = some (Enc.opErr.enc (o, e)) := dcall2 (A := Enc.map Enc.opd) (B := Enc.str) (C := Enc.opErr) g2 hy
    simp only [Enc.map, Enc.opErr, Enc.tup, Enc.opd, Enc.agg, arg2, EncR.and, EncR.one, Enc.i64, Enc.int] at g3
    refine Dwp.step tt rfl fun K hK => ?_
    simp [drunL, drunO, dwanted, dopS, own, plainOf, dop, dput, eval, ofVal, Then, Ex.then, Ex.inBlock, upd, dbin, Tag.isNN, nilTest, intCmp, dload, dpart, TyI.agg, dfieldAddr, dfield, dindexAddr, dindex, dlen, lenOk, dlookup, mapOf, keyFits, dmapUpdate, dcallee, dbuiltin, dstore, DV.cells, dslice, dboundOk, dappend, appTag, rowsOf, elemOk, growLimit, dbuildCells, dbuildCells.go, structOk, fieldsOk, dbuildRows, goInt, init, arg2, EncR.and, EncR.one, Enc.str, EncR.book, Enc.map, ty58, ty56, ty38, Enc.opd, Enc.agg, g3, setO']
    refine hK _ _ (Dwp.ret ?_) rfl
    have := EncR.opd.de o
    simp [Done, dresults, dres, frz, frz1, frz2, Ex.then, upd, dload, dpart, TyI.agg, ty38, Enc.opErr, Enc.tup, arg2, EncR.and, EncR.one, Enc.opd, Enc.agg, Enc.i64, Enc.int, setO', frzOpd, this]
theorem e25 : Go.FA.Good Tryz.prog (25, s25) := ⟨c25, Tryz.f25, _, Tryz.func25, rfl, by decide⟩
end Go.Proofs.Yt
namespace Go.Proofs.Yt
open Go Go.FA Go.Proofs
set_option linter.unusedVariables false
set_option linter.unusedSimpArgs false
set_option maxRecDepth 100000

/-- a variable that a closure shares, and nobody writes any more -/
def Enc.boxed {α : Type} (A : EncR α) : Enc α where
  enc x := .row (A.enc x) 0
  dec d := match d with | .row cells 0 => A.dec cells | _ => none
  le d x h := by
    split at h
    · intro C w v hv
      simp only [VRel] at hv ⊢
      obtain ⟨b, o, h1, h2⟩ := hv
      exact ⟨b, o, h1, CRel_le (A.le _ _ h) h2⟩
    · simp at h
  pure x := by simp [pureB, A.pure]
  de x := A.de x
/-- a closure over a book and a sort -/
def Enc.clo : Enc (Nat × Book × ByteArray) where
  enc p := .func (.func p.1) [] [.row (EncR.book.enc p.2.1) 0, .row [.lit (.string p.2.2)] 0]
  dec d := match d with
    | .func (.func f) [] [x, y] => match (Enc.boxed EncR.book).dec x, (Enc.boxed (EncR.one Enc.str)).dec y with
      | some b, some s => some (f, b, s)
      | _, _ => none
    | _ => none
  le d x h := by
    intro C w v hv
    split at h
    · split at h
      · next b s hb hs =>
        simp at h; subst h
        simp only [VRel] at hv ⊢
        obtain ⟨f', c', h1, h2, h3⟩ := hv
        exact ⟨f', c', h1, h2, LRel_le (.cons ((Enc.boxed EncR.book).le _ _ hb) (.cons ((Enc.boxed (EncR.one Enc.str)).le _ _ hs) .nil)) h3⟩
      · simp at h
    · simp at h
  pure p := by
    have h1 := (Enc.boxed EncR.book).pure p.2.1
    have h2 := (Enc.boxed (EncR.one Enc.str)).pure p.2.2
    simp only [Enc.boxed, EncR.one, Enc.str] at h1 h2
    simp [pureB, pureL, h1] at h2 ⊢
    simpa [pureB] using h1
  de p := by
    have h1 := (Enc.boxed EncR.book).de p.2.1
    have h2 := (Enc.boxed (EncR.one Enc.str)).de p.2.2
    simp only [Enc.boxed] at h1 h2
    simp only [EncR.one, Enc.str] at h2
    simp [Enc.boxed, EncR.one, Enc.str, h1]
def Book.clo (b : Book) (f : Nat) (x y : ByteArray) : Option Bool := if f = 65 then b.atMost y x else if f = 56 ∨ f = 62 then b.atMost x y else none
def sclo (f : Nat) : Sp := sp (arg3 Enc.str (Enc.boxed EncR.book) (Enc.boxed (EncR.one Enc.str))) Enc.bool (fun x => x.2.1.clo f x.2.2 x.1)
theorem cclo (f : Nat) (fn : Func) (c : Code) (hf : Tryz.prog.funcs[f]? = some fn) : True := trivial
theorem t50c : TabOk Tryz.prog (tabOf [(50, s50)]) := .cons e50 .nil
theorem c56 : CallSound Tryz.prog 56 (sclo 56) := by
  refine CallSound.of_sp (T := tabOf [(50, s50)]) Tryz.func56 rfl (Nat.le_of_ble_eq_true rfl) fun E x y hy => ?_
  obtain ⟨z, b, x⟩ := x
  have g : dcall (tabOf [(50, s50)]) 50 [Enc.book.enc b, Enc.str.enc x, Enc.str.enc z] = some (Enc.bool.enc y) := dcall3 (B := Enc.str) (C := Enc.str) (D := Enc.bool) rfl hy
  have tT := t50c
  simp only [Enc.book, Enc.agg, Enc.str, Enc.bool] at g
  generalize tabOf [(50, s50)] = T at *
  refine Dwp.step tT rfl fun K hK => ?_
  simp [drunL, drunO, dwanted, dopS, own, plainOf, dop, dput, eval, ofVal, Then, Ex.then, Ex.inBlock, upd, dbin, Tag.isNN, nilTest, intCmp, dload, dpart, TyI.agg, dfieldAddr, dfield, dindexAddr, dindex, dlen, lenOk, dlookup, mapOf, keyFits, dmapUpdate, dcallee, dcall, tabOf, dbuiltin, dstore, DV.cells, setAt, dslice, dboundOk, dappend, appTag, rowsOf, elemOk, growLimit, dbuildCells, dbuildCells.go, structOk, fieldsOk, dbuildRows, goInt]
  refine hK _ _ ?_ rfl; clear hK K
  refine Dwp.step tT rfl fun K hK => ?_
  simp [drunL, drunO, dwanted, dopS, own, plainOf, dop, dput, eval, ofVal, Then, Ex.then, Ex.inBlock, upd, dbin, Tag.isNN, nilTest, intCmp, dload, dpart, TyI.agg, dfieldAddr, dfield, dindexAddr, dindex, dlen, lenOk, dlookup, mapOf, keyFits, dmapUpdate, dcallee, dbuiltin, dstore, DV.cells, setAt, dslice, dboundOk, dappend, appTag, rowsOf, elemOk, growLimit, dbuildCells, dbuildCells.go, structOk, fieldsOk, dbuildRows, goInt, init, arg3, EncR.and, EncR.one, Enc.boxed, Enc.str, ty58, ty9, g]
  refine hK _ _ (Dwp.ret ?_) rfl
  simp [Done, dresults, dres, frz, frz1, frz2, Enc.bool, upd]
theorem c62 : CallSound Tryz.prog 62 (sclo 62) := by
  refine CallSound.of_sp (T := tabOf [(50, s50)]) Tryz.func62 rfl (Nat.le_of_ble_eq_true rfl) fun E x y hy => ?_
  obtain ⟨z, b, x⟩ := x
  have g : dcall (tabOf [(50, s50)]) 50 [Enc.book.enc b, Enc.str.enc x, Enc.str.enc z] = some (Enc.bool.enc y) := dcall3 (B := Enc.str) (C := Enc.str) (D := Enc.bool) rfl hy
  have tT := t50c
  simp only [Enc.book, Enc.agg, Enc.str, Enc.bool] at g
  generalize tabOf [(50, s50)] = T at *
  refine Dwp.step tT rfl fun K hK => ?_
  simp [drunL, drunO, dwanted, dopS, own, plainOf, dop, dput, eval, ofVal, Then, Ex.then, Ex.inBlock, upd, dbin, Tag.isNN, nilTest, intCmp, dload, dpart, TyI.agg, dfieldAddr, dfield, dindexAddr, dindex, dlen, lenOk, dlookup, mapOf, keyFits, dmapUpdate, dcallee, dcall, tabOf, dbuiltin, dstore, DV.cells, setAt, dslice, dboundOk, dappend, appTag, rowsOf, elemOk, growLimit, dbuildCells, dbuildCells.go, structOk, fieldsOk, dbuildRows, goInt]
  refine hK _ _ ?_ rfl; clear hK K
  refine Dwp.step tT rfl fun K hK => ?_
  simp [drunL, drunO, dwanted, dopS, own, plainOf, dop, dput, eval, ofVal, Then, Ex.then, Ex.inBlock, upd, dbin, Tag.isNN, nilTest, intCmp, dload, dpart, TyI.agg, dfieldAddr, dfield, dindexAddr, dindex, dlen, lenOk, dlookup, mapOf, keyFits, dmapUpdate, dcallee, dbuiltin, dstore, DV.cells, setAt, dslice, dboundOk, dappend, appTag, rowsOf, elemOk, growLimit, dbuildCells, dbuildCells.go, structOk, fieldsOk, dbuildRows, goInt, init, arg3, EncR.and, EncR.one, Enc.boxed, Enc.str, ty58, ty9, g]
  refine hK _ _ (Dwp.ret ?_) rfl
  simp [Done, dresults, dres, frz, frz1, frz2, Enc.bool, upd]
theorem c65 : CallSound Tryz.prog 65 (sclo 65) := by
  refine CallSound.of_sp (T := tabOf [(50, s50)]) Tryz.func65 rfl (Nat.le_of_ble_eq_true rfl) fun E x y hy => ?_
  obtain ⟨z, b, x⟩ := x
  have g : dcall (tabOf [(50, s50)]) 50 [Enc.book.enc b, Enc.str.enc z, Enc.str.enc x] = some (Enc.bool.enc y) := dcall3 (B := Enc.str) (C := Enc.str) (D := Enc.bool) rfl hy
  have tT := t50c
  simp only [Enc.book, Enc.agg, Enc.str, Enc.bool] at g
  generalize tabOf [(50, s50)] = T at *
  refine Dwp.step tT rfl fun K hK => ?_
  simp [drunL, drunO, dwanted, dopS, own, plainOf, dop, dput, eval, ofVal, Then, Ex.then, Ex.inBlock, upd, dbin, Tag.isNN, nilTest, intCmp, dload, dpart, TyI.agg, dfieldAddr, dfield, dindexAddr, dindex, dlen, lenOk, dlookup, mapOf, keyFits, dmapUpdate, dcallee, dcall, tabOf, dbuiltin, dstore, DV.cells, setAt, dslice, dboundOk, dappend, appTag, rowsOf, elemOk, growLimit, dbuildCells, dbuildCells.go, structOk, fieldsOk, dbuildRows, goInt]
  refine hK _ _ ?_ rfl; clear hK K
  refine Dwp.step tT rfl fun K hK => ?_
  simp [drunL, drunO, dwanted, dopS, own, plainOf, dop, dput, eval, ofVal, Then, Ex.then, Ex.inBlock, upd, dbin, Tag.isNN, nilTest, intCmp, dload, dpart, TyI.agg, dfieldAddr, dfield, dindexAddr, dindex, dlen, lenOk, dlookup, mapOf, keyFits, dmapUpdate, dcallee, dbuiltin, dstore, DV.cells, setAt, dslice, dboundOk, dappend, appTag, rowsOf, elemOk, growLimit, dbuildCells, dbuildCells.go, structOk, fieldsOk, dbuildRows, goInt, init, arg3, EncR.and, EncR.one, Enc.boxed, Enc.str, ty58, ty9, g]
  refine hK _ _ (Dwp.ret ?_) rfl
  simp [Done, dresults, dres, frz, frz1, frz2, Enc.bool, upd]
theorem e56 : Go.FA.Good Tryz.prog (56, sclo 56) := ⟨c56, Tryz.f56, _, Tryz.func56, rfl, by decide⟩
theorem e62 : Go.FA.Good Tryz.prog (62, sclo 62) := ⟨c62, Tryz.f62, _, Tryz.func62, rfl, by decide⟩
theorem e65 : Go.FA.Good Tryz.prog (65, sclo 65) := ⟨c65, Tryz.f65, _, Tryz.func65, rfl, by decide⟩
theorem callClo (T : Tab) (f : Nat) (hT : T f = some (sclo f)) (b : Book) (x y : ByteArray) (r : Bool) (h : b.clo f x y = some r) :
    dcall T f [.lit (.string y), .row (EncR.book.enc b) 0, .row [.lit (.string x)] 0] = some (.lit (.bool r)) :=
  dcall3 (A := Enc.str) (B := Enc.boxed EncR.book) (C := Enc.boxed (EncR.one Enc.str)) (D := Enc.bool) hT h
end Go.Proofs.Yt
namespace Go.Proofs.Yt
open Go Go.FA Go.Proofs
set_option linter.unusedVariables false
set_option linter.unusedSimpArgs false
set_option maxRecDepth 100000

def cloB (b : Book) (f : Nat) (x y : ByteArray) : Bool := (b.clo f x y).getD false
def s95 : Sp := sp (arg2 Enc.strs Enc.clo) Enc.i64 (fun x => if x.1.length ≤ lim ∧ x.2.1 = 56 ∧ (x.1.all fun y => (x.2.2.1.clo x.2.1 x.2.2.2 y).isSome) = true then some (idxF (cloB x.2.2.1 x.2.1 x.2.2.2) x.1 0) else none)
def inv95 (l : List ByteArray) (b : Book) (s : ByteArray) : Nat → (Nat → DV) → St → Prop := fun k a σ => ∃ i, i ≤ l.length ∧ k = l.length - i ∧ idxF (cloB b 56 s) l 0 = idxF (cloB b 56 s) (l.drop i) i ∧
  a 0 = .slice 1 .none (l.map fun s => [DV.lit (.string s)]) ∧ a 1 = .func (.func 56) [] [.row (EncR.book.enc b) 0, .row [.lit (.string s)] 0] ∧ a 7 = .lit (.int .i64 l.length) ∧ a 8 = .lit (.int .i64 i)
abbrev T95 : Tab := tabOf [(56, sclo 56)]
theorem c95 : CallSound Tryz.prog 95 s95 := by
  have tT : TabOk Tryz.prog T95 := .cons e56 .nil
  refine CallSound.of_sp (T := T95) Tryz.func95 rfl (Nat.le_of_ble_eq_true rfl) fun E x y hy => ?_
  obtain ⟨l, f, b, s⟩ := x
  by_cases hc : l.length ≤ lim ∧ f = 56 ∧ (l.all fun y => (b.clo f s y).isSome) = true
  case neg => simp only [] at hy; rw [if_neg hc] at hy; cases hy
  simp only [] at hy
  rw [if_pos hc] at hy
  cases hy
  obtain ⟨hlim, rfl, hall⟩ := hc
  unfold lim at hlim
  have hT : T95 56 = some (sclo 56) := rfl
  generalize T95 = T at *
  refine Dwp.step tT rfl fun K hK => ?_
  simp [drunL, drunO, dwanted, dopS, own, plainOf, dop, dput, eval, ofVal, Then, Ex.then, Ex.inBlock, upd, dbin, Tag.isNN, nilTest, intCmp, dload, dpart, TyI.agg, dfieldAddr, dfield, dindexAddr, dindex, dlen, lenOk, dlookup, mapOf, keyFits, dmapUpdate, dcallee, dcall, tabOf, dbuiltin, dstore, DV.cells, setAt, dslice, dboundOk, dappend, appTag, rowsOf, elemOk, growLimit, dbuildCells, dbuildCells.go, structOk, fieldsOk, dbuildRows, goInt]
  refine hK _ _ ?_ rfl; clear hK K
  refine Dwp.seq ?_
  refine Dwp.step tT rfl fun K hK => ?_
  simp [drunL, drunO, dwanted, dopS, own, plainOf, dop, dput, eval, ofVal, Then, Ex.then, Ex.inBlock, upd, dbin, Tag.isNN, nilTest, intCmp, dload, dpart, TyI.agg, dfieldAddr, dfield, dindexAddr, dindex, dlen, lenOk, dlookup, mapOf, keyFits, dmapUpdate, dcallee, dcall, tabOf, dbuiltin, dstore, DV.cells, setAt, dslice, dboundOk, dappend, appTag, rowsOf, elemOk, growLimit, dbuildCells, dbuildCells.go, structOk, fieldsOk, dbuildRows, goInt, init, arg2, EncR.and, EncR.one, Enc.strs, Enc.slice, ty22]
  refine hK _ _ ?_ rfl; clear hK K
  refine Dwp.block (Dwp.loop (inv95 l b s) l.length ⟨0, by simp, by simp, by simp, by simp [upd, init, Enc.strs, Enc.slice, EncR.one, Enc.str], by simp [upd, init, Enc.clo], by simp [upd], by simp [upd]⟩ ?_)
  rintro k a σ ⟨i, hi, rfl, hidx, h0, h1, h7, h8⟩
  refine Dwp.step tT rfl fun K hK => ?_
  simp [drunL, drunO, dwanted, dopS, own, plainOf, dop, dput, eval, ofVal, Then, Ex.then, Ex.inBlock, upd, dbin, Tag.isNN, nilTest, intCmp, dload, dpart, TyI.agg, dfieldAddr, dfield, dindexAddr, dindex, dlen, lenOk, dlookup, mapOf, keyFits, dmapUpdate, dcallee, dcall, tabOf, dbuiltin, dstore, DV.cells, setAt, dslice, dboundOk, dappend, appTag, rowsOf, elemOk, growLimit, dbuildCells, dbuildCells.go, structOk, fieldsOk, dbuildRows, goInt, h7, h8]
  refine hK _ _ ?_ rfl; clear hK K
  by_cases hlt : i < l.length
  · refine Dwp.seq (Dwp.condT (by simp [eval, upd, hlt]) (Dwp.skip ?_))
    refine Dwp.seq (Dwp.block ?_)
    refine Dwp.step tT rfl fun K hK => ?_
    simp [drunL, drunO, dwanted, dopS, own, plainOf, dop, dput, eval, ofVal, Then, Ex.then, Ex.inBlock, upd, dbin, Tag.isNN, nilTest, intCmp, dload, dpart, TyI.agg, dfieldAddr, dfield, dindexAddr, dindex, dlen, lenOk, dlookup, mapOf, keyFits, dmapUpdate, dcallee, dcall, tabOf, dbuiltin, dstore, DV.cells, setAt, dslice, dboundOk, dappend, appTag, rowsOf, elemOk, growLimit, dbuildCells, dbuildCells.go, structOk, fieldsOk, dbuildRows, goInt, h8]
    refine hK _ _ ?_ rfl; clear hK K
    refine Dwp.step tT rfl fun K hK => ?_
    have hsome := List.all_eq_true.1 hall l[i] (List.getElem_mem hlt)
    obtain ⟨r, hr⟩ := Option.isSome_iff_exists.1 hsome
    have g := callClo T 56 hT b s l[i] r hr
    simp [drunL, dwanted, dopS, own, dop, dput, eval, ofVal, Then, upd, h0, h1, ty22, ty9, dindexAddr, dload, dpart, TyI.agg, hlt, dcallee, g]
    refine hK _ _ ?_ rfl; clear hK K
    have hd := idxF_drop (cloB b 56 s) l i hlt
    have hp : cloB b 56 s l[i] = r := by simp [cloB, hr]
    cases r with
    | true =>
      rw [hp] at hd
      refine Dwp.condT (by simp [eval, upd]) ?_
      refine Dwp.step tT rfl fun K hK => ?_
      simp [drunL, drunO, dwanted, dopS, own, plainOf, dop, dput, eval, ofVal, Then, Ex.then, Ex.inBlock, upd, dbin, Tag.isNN, nilTest, intCmp, dload, dpart, TyI.agg, dfieldAddr, dfield, dindexAddr, dindex, dlen, lenOk, dlookup, mapOf, keyFits, dmapUpdate, dcallee, dcall, tabOf, dbuiltin, dstore, DV.cells, setAt, dslice, dboundOk, dappend, appTag, rowsOf, elemOk, growLimit, dbuildCells, dbuildCells.go, structOk, fieldsOk, dbuildRows, goInt]
      refine hK _ _ (Dwp.ret ?_) rfl
      have : idxF (cloB b 56 s) l 0 = i := by rw [hidx, hd]; rfl
      simp [Done, dresults, dres, frz, frz1, frz2, Enc.i64, Enc.int, Ex.then, Ex.inBlock, upd, this]
    | false =>
      rw [hp] at hd
      refine Dwp.condF (by simp [eval, upd]) (Dwp.skip ?_)
      refine Dwp.reg tT rfl fun K hK => ?_
      simp [drunL, drunO, dwanted, dopS, own, plainOf, dop, dput, eval, ofVal, Then, Ex.then, Ex.inBlock, upd, dbin, Tag.isNN, nilTest, intCmp, dload, dpart, TyI.agg, dfieldAddr, dfield, dindexAddr, dindex, dlen, lenOk, dlookup, mapOf, keyFits, dmapUpdate, dcallee, dcall, tabOf, dbuiltin, dstore, DV.cells, setAt, dslice, dboundOk, dappend, appTag, rowsOf, elemOk, growLimit, dbuildCells, dbuildCells.go, structOk, fieldsOk, dbuildRows, goInt, h8]
      refine hK _ _ ?_ rfl; clear hK K
      exact ⟨l.length - (i + 1), by omega, i + 1, by omega, rfl, by rw [hidx, hd]; rfl, by simp [upd, h0], by simp [upd, h1], by simp [upd, h7], by simp [upd, wrap_small (n := (i : Int) + 1) (by omega) (by omega)]⟩
  · refine Dwp.seq (Dwp.condF (by simp [eval, upd, hlt]) (Dwp.exit ?_))
    refine Dwp.step tT rfl fun K hK => ?_
    simp [drunL, drunO, dwanted, dopS, own, plainOf, dop, dput, eval, ofVal, Then, Ex.then, Ex.inBlock, upd, dbin, Tag.isNN, nilTest, intCmp, dload, dpart, TyI.agg, dfieldAddr, dfield, dindexAddr, dindex, dlen, lenOk, dlookup, mapOf, keyFits, dmapUpdate, dcallee, dcall, tabOf, dbuiltin, dstore, DV.cells, setAt, dslice, dboundOk, dappend, appTag, rowsOf, elemOk, growLimit, dbuildCells, dbuildCells.go, structOk, fieldsOk, dbuildRows, goInt]
    refine hK _ _ (Dwp.ret ?_) rfl
    have : idxF (cloB b 56 s) l 0 = -1 := by rw [hidx, List.drop_eq_nil_of_le (by omega)]; rfl
    simp [Done, dresults, dres, frz, frz1, frz2, Enc.i64, Enc.int, upd, this]
theorem e95 : Go.FA.Good Tryz.prog (95, s95) := ⟨c95, Tryz.f95, _, Tryz.func95, rfl, by decide⟩
def s55 : Sp := sp (arg2 Enc.strs Enc.clo) Enc.bool (fun x => if x.1.length ≤ lim ∧ x.2.1 = 56 ∧ (x.1.all fun y => (x.2.2.1.clo x.2.1 x.2.2.2 y).isSome) = true then some (x.1.any (cloB x.2.2.1 x.2.1 x.2.2.2)) else none)
theorem c55 : CallSound Tryz.prog 55 s55 := by
  have tT : TabOk Tryz.prog (tabOf [(95, s95)]) := .cons e95 .nil
  refine CallSound.of_sp (T := tabOf [(95, s95)]) Tryz.func55 rfl (Nat.le_of_ble_eq_true rfl) fun E x y hy => ?_
  obtain ⟨l, p⟩ := x
  by_cases hc : l.length ≤ lim ∧ p.1 = 56 ∧ (l.all fun y => (p.2.1.clo p.1 p.2.2 y).isSome) = true
  case neg => simp only [] at hy; rw [if_neg hc] at hy; cases hy
  simp only [] at hy
  rw [if_pos hc] at hy
  cases hy
  have g : dcall (tabOf [(95, s95)]) 95 [Enc.strs.enc l, Enc.clo.enc p] = some (Enc.i64.enc (idxF (cloB p.2.1 p.1 p.2.2) l 0)) := dcall2 (A := Enc.strs) (B := Enc.clo) (C := Enc.i64) rfl (if_pos hc)
  simp only [Enc.i64, Enc.int] at g
  generalize tabOf [(95, s95)] = T at *
  refine Dwp.step tT rfl fun K hK => ?_
  simp [drunL, drunO, dwanted, dopS, own, plainOf, dop, dput, eval, ofVal, Then, Ex.then, Ex.inBlock, upd, dbin, Tag.isNN, nilTest, intCmp, dload, dpart, TyI.agg, dfieldAddr, dfield, dindexAddr, dindex, dlen, lenOk, dlookup, mapOf, keyFits, dmapUpdate, dcallee, dcall, tabOf, dbuiltin, dstore, DV.cells, setAt, dslice, dboundOk, dappend, appTag, rowsOf, elemOk, growLimit, dbuildCells, dbuildCells.go, structOk, fieldsOk, dbuildRows, goInt]
  refine hK _ _ ?_ rfl; clear hK K
  refine Dwp.step tT rfl fun K hK => ?_
  have ha := idxF_any (cloB p.2.1 p.1 p.2.2) l 0
  simp [drunL, drunO, dwanted, dopS, own, plainOf, dop, dput, eval, ofVal, Then, Ex.then, Ex.inBlock, upd, dbin, Tag.isNN, nilTest, intCmp, dload, dpart, TyI.agg, dfieldAddr, dfield, dindexAddr, dindex, dlen, lenOk, dlookup, mapOf, keyFits, dmapUpdate, dcallee, dbuiltin, dstore, DV.cells, setAt, dslice, dboundOk, dappend, appTag, rowsOf, elemOk, growLimit, dbuildCells, dbuildCells.go, structOk, fieldsOk, dbuildRows, goInt, init, arg2, EncR.and, EncR.one, g]
  refine hK _ _ (Dwp.ret ?_) rfl
  simp [Done, dresults, dres, frz, frz1, frz2, Enc.bool, upd, ha]
theorem e55 : Go.FA.Good Tryz.prog (55, s55) := ⟨c55, Tryz.f55, _, Tryz.func55, rfl, by decide⟩
end Go.Proofs.Yt
namespace Go.Proofs.Yt
open Go Go.FA Go.Proofs
set_option linter.unusedVariables false
set_option linter.unusedSimpArgs false
set_option maxRecDepth 100000

theorem sortB_perm {l m : List ByteArray} (h : l.Perm m) : sortB l = sortB m := by
  unfold sortB
  congr 1
  have tr : ∀ (a b c : List UInt8), decide (a ≤ b) = true → decide (b ≤ c) = true → decide (a ≤ c) = true := fun a b c h1 h2 => by
    simp only [decide_eq_true_eq] at *; exact List.le_trans h1 h2
  have to : ∀ (a b : List UInt8), (decide (a ≤ b) || decide (b ≤ a)) = true := fun a b => by
    simp only [Bool.or_eq_true, decide_eq_true_eq]; exact List.le_total a b
  refine List.Perm.eq_of_pairwise (le := fun a b => decide (a ≤ b) = true) (fun a b _ _ h1 h2 => ?_) (List.pairwise_mergeSort tr to _) (List.pairwise_mergeSort tr to _) ?_
  · simp only [decide_eq_true_eq] at h1 h2; exact List.le_antisymm h1 h2
  · exact (List.mergeSort_perm _ _).trans ((h.map bl).trans (List.mergeSort_perm _ _).symm)

theorem range_get {α β : Type} (g : α → β) : ∀ (m : List α), (List.range m.length).filterMap (fun j => (m[j]?).map g) = m.map g := by
  intro m
  induction m with
  | nil => rfl
  | cons x m ih =>
    rw [List.length_cons, List.range_succ_eq_map, List.filterMap_cons]
    simp only [List.getElem?_cons_zero, Option.map_some, List.map_cons, List.cons.injEq, true_and]
    rw [List.filterMap_map]
    rw [← ih]
    congr 1

def thatF (k : Book) (f : Nat) (b : Book) (x : ByteArray) : Option (List ByteArray) :=
  if k.highs.length ≤ 1000 ∧ (f = 62 ∨ f = 65) ∧ (k.highs.all fun p => (b.clo f x p.1).isSome) = true then some (sortB ((k.highs.map (·.1)).filter (cloB b f x))) else none
def s61 : Sp := sp (arg2 Enc.book Enc.clo) Enc.strs (fun x => thatF x.1 x.2.1 x.2.2.1 x.2.2.2)
def picked (m : List (ByteArray × List ByteArray)) (q : ByteArray → Bool) (seen : List Nat) : List ByteArray := (seen.filterMap fun j => (m[j]?).map (·.1)).filter q
theorem picked_all {m : List (ByteArray × List ByteArray)} {q : ByteArray → Bool} {seen : List Nat} (hn : seen.Nodup) (hl : ∀ j ∈ seen, j < m.length) (ha : ∀ j, j < m.length → j ∈ seen) : (picked m q seen).Perm ((m.map (·.1)).filter q) := by
  unfold picked
  refine List.Perm.filter q ?_
  have hp : seen.Perm (List.range m.length) := (List.perm_ext_iff_of_nodup hn List.nodup_range).2 fun j => ⟨fun h => by simpa using hl j h, fun h => ha j (by simpa using h)⟩
  refine (hp.filterMap _).trans (List.Perm.of_eq ?_)
  exact range_get (·.1) m
theorem picked_len {m : List (ByteArray × List ByteArray)} {q : ByteArray → Bool} {seen : List Nat} : (picked m q seen).length ≤ seen.length :=
  Nat.le_trans (List.length_filter_le _ _) (List.length_filterMap_le _ _)
theorem picked_app {m : List (ByteArray × List ByteArray)} {q : ByteArray → Bool} {seen : List Nat} {j : Nat} {p : ByteArray × List ByteArray} (h : m[j]? = some p) : picked m q (seen ++ [j]) = picked m q seen ++ (if q p.1 then [p.1] else []) := by
  unfold picked
  rw [List.filterMap_append, List.filter_append]
  simp only [List.filterMap_cons, List.filterMap_nil, h, Option.map_some, List.filter_cons, List.filter_nil]
theorem seen_len {seen : List Nat} {n : Nat} (hn : seen.Nodup) (hl : ∀ j ∈ seen, j < n) : seen.length ≤ n := by
  have := List.Nodup.length_le_of_subset hn (l₂ := List.range n) (fun j h => by simpa using hl j h)
  simpa using this
def inv61 (k : Book) (f : Nat) (b : Book) (x : ByteArray) : Nat → (Nat → DV) → St → Prop := fun m a σ => ∃ seen, m = left k.highs.length seen ∧ seen.Nodup ∧ (∀ j ∈ seen, j < k.highs.length) ∧
  a 1 = .func (.func f) [] [.row (EncR.book.enc b) 0, .row [.lit (.string x)] 0] ∧ a 9 = .ptr 5 0 ∧ 5 < σ.n ∧ Acc σ 1 (rowsS (picked k.highs (cloB b f x) seen)) (a 5) ∧ (∀ t g r, a 5 = .slice 1 (.tok t g) r → t < σ.n) ∧
  σ.objs 5 = some (.mapIter (k.highs.map fun p => .string p.1) (k.highs.map fun p => Enc.strs.enc p.2) seen)
abbrev T61 : Tab := tabOf [(62, sclo 62), (65, sclo 65)]
theorem c61 : CallSound Tryz.prog 61 s61 := by
  have tT : TabOk Tryz.prog T61 := .cons e62 (.cons e65 .nil)
  refine CallSound.of_sp (T := T61) Tryz.func61 rfl (Nat.le_of_ble_eq_true rfl) fun E xx y hy => ?_
  obtain ⟨k, f, b, x⟩ := xx
  simp only [thatF] at hy
  split at hy
  case isFalse => cases hy
  next hc =>
  cases hy
  obtain ⟨hlim, hf, hall⟩ := hc
  have hT : T61 f = some (sclo f) := by rcases hf with rfl | rfl <;> rfl
  generalize T61 = T at *
  refine Dwp.step tT rfl fun K hK => ?_
  simp [drunL, drunO, dwanted, dopS, own, plainOf, dop, dput, eval, ofVal, Then, Ex.then, Ex.inBlock, upd, dbin, Tag.isNN, nilTest, intCmp, dload, dpart, TyI.agg, dfieldAddr, dfield, dindexAddr, dindex, dlen, lenOk, dlookup, mapOf, keyFits, dmapUpdate, dcallee, dcall, tabOf, dbuiltin, dstore, DV.cells, setAt, dslice, dboundOk, dappend, appTag, rowsOf, elemOk, growLimit, dbuildCells, dbuildCells.go, structOk, fieldsOk, dbuildRows, goInt, init, arg2, EncR.and, EncR.one, Enc.book, Enc.agg]
  refine hK _ _ ?_ rfl; clear hK K
  refine Dwp.step tT rfl fun K hK => ?_
  simp [drunL, drunO, dwanted, dopS, own, plainOf, dop, dput, eval, ofVal, Then, Ex.then, Ex.inBlock, upd, dbin, Tag.isNN, nilTest, intCmp, dload, dpart, TyI.agg, dfieldAddr, dfield, dindexAddr, dindex, dlen, lenOk, dlookup, mapOf, keyFits, dmapUpdate, dcallee, dcall, tabOf, dbuiltin, dstore, DV.cells, setAt, dslice, dboundOk, dappend, appTag, rowsOf, elemOk, growLimit, dbuildCells, dbuildCells.go, structOk, fieldsOk, dbuildRows, goInt]
  refine hK _ _ ?_ rfl; clear hK K
  refine Dwp.seq ?_
  refine Dwp.step tT rfl fun K hK => ?_
  simp [drunL, drunO, dwanted, dopS, own, plainOf, dop, dput, eval, ofVal, Then, Ex.then, Ex.inBlock, upd, dbin, Tag.isNN, nilTest, intCmp, dload, dpart, TyI.agg, dfieldAddr, dfield, dindexAddr, dindex, dlen, lenOk, dlookup, mapOf, keyFits, dmapUpdate, dcallee, dcall, tabOf, dbuiltin, dstore, DV.cells, setAt, dslice, dboundOk, dappend, appTag, rowsOf, elemOk, growLimit, dbuildCells, dbuildCells.go, structOk, fieldsOk, dbuildRows, goInt, ty58, ty55]
  refine hK _ _ ?_ rfl; clear hK K
  refine (Dwp.block (Dwp.loop (inv61 k f b x) (left k.highs.length []) ⟨[], rfl, by simp, by simp, by simp [upd, init, Enc.clo], by simp [upd, σ0], by simp [σ0], .inl ⟨by simp [picked, rowsS], by simp [upd]⟩, by simp [upd], by simp [upd, σ0]⟩ ?_))
  rintro m a σ ⟨seen, rfl, hnd, hlt, h1, h9, hn, hacc, htn, hobj⟩
  refine Dwp.seq (Dwp.next tT rfl rfl rfl rfl h9 hobj ?_ ?_)
  · intro hend K hK
    simp [drunL, drunO, dwanted, dopS, own, plainOf, dop, dput, eval, ofVal, Then, Ex.then, Ex.inBlock, upd, dbin, Tag.isNN, nilTest, intCmp, dload, dpart, TyI.agg, dfieldAddr, dfield, dindexAddr, dindex, dlen, lenOk, dlookup, mapOf, keyFits, dmapUpdate, dcallee, dcall, tabOf, dbuiltin, dstore, DV.cells, setAt, dslice, dboundOk, dappend, appTag, rowsOf, elemOk, growLimit, dbuildCells, dbuildCells.go, structOk, fieldsOk, dbuildRows, goInt]
    refine hK _ _ ?_ rfl; clear hK K
    refine Dwp.seq (Dwp.condF (by simp [eval, upd]) (Dwp.exit ?_))
    simp only [Ex.then, Ex.inBlock, if_true]
    have hperm := picked_all (q := cloB b f x) hnd hlt (fun j hj => hend j (by simpa using hj))
    have hsl := seen_len hnd hlt
    have hpl := picked_len (m := k.highs) (q := cloB b f x) (seen := seen)
    refine Dwp.seq (Dwp.sortS sorts98 ⟨Tryz.f98, _, Tryz.func98, rfl, by decide⟩ rfl rfl rfl rfl rfl rfl (by decide) (by decide) rfl (picked k.highs (cloB b f x) seen) ?_ (by omega) ?_)
    · rcases hacc with ⟨q1, q2⟩ | ⟨t, g, q1, _⟩
      · exact .inl ⟨by simpa [upd] using q2, by simpa [rowsS] using q1⟩
      · exact .inr ⟨t, g, by simpa [upd] using q1⟩
    simp only [Ex.then]
    refine Dwp.step tT rfl fun K hK => ?_
    simp [drunL, drunO, dwanted, dopS, own, plainOf, dop, dput, eval, ofVal, Then, Ex.then, Ex.inBlock, upd, dbin, Tag.isNN, nilTest, intCmp, dload, dpart, TyI.agg, dfieldAddr, dfield, dindexAddr, dindex, dlen, lenOk, dlookup, mapOf, keyFits, dmapUpdate, dcallee, dcall, tabOf, dbuiltin, dstore, DV.cells, setAt, dslice, dboundOk, dappend, appTag, rowsOf, elemOk, growLimit, dbuildCells, dbuildCells.go, structOk, fieldsOk, dbuildRows, goInt]
    refine hK _ _ (Dwp.ret ?_) rfl
    rw [sortB_perm hperm]
    have := decRows_enc (EncR.one Enc.str) (sortB (List.filter (cloB b f x) (List.map (·.1) k.highs)))
    simp only [EncR.one, Enc.str] at this
    simp [Done, dresults, dres, frz, frz1, frz2, Enc.strs, Enc.slice, EncR.one, Enc.str, upd, rowsS, this]
  · intro j kk v hns hk hx K hK
    obtain ⟨p, hp, rfl⟩ : ∃ p, k.highs[j]? = some p ∧ Value.string p.1 = kk := by
      rw [List.getElem?_map, Option.map_eq_some_iff] at hk; exact hk
    have hjl : j < k.highs.length := by
      rcases Nat.lt_or_ge j k.highs.length with q | q
      · exact q
      · rw [List.getElem?_eq_none q] at hp; cases hp
    obtain ⟨r, hr⟩ := Option.isSome_iff_exists.1 (List.all_eq_true.1 hall p (List.mem_of_getElem? hp))
    have g := callClo T f hT b x p.1 r hr
    have hq : cloB b f x p.1 = r := by simp [cloB, hr]
    have happ := picked_app (q := cloB b f x) (seen := seen) hp
    rw [hq] at happ
    have hnd' : (seen ++ [j]).Nodup := by rw [List.nodup_append]; exact ⟨hnd, by simp, fun a ha b hb e => by simp at hb; subst hb; subst e; exact hns ha⟩
    have hlt' : ∀ i ∈ seen ++ [j], i < k.highs.length := fun i hi => by
      rcases List.mem_append.1 hi with h | h
      · exact hlt i h
      · simp at h; subst h; exact hjl
    simp [drunL, drunO, dwanted, dopS, own, plainOf, dop, dput, eval, ofVal, Then, Ex.then, Ex.inBlock, upd, dbin, Tag.isNN, nilTest, intCmp, dload, dpart, TyI.agg, dfieldAddr, dfield, dindexAddr, dindex, dlen, lenOk, dlookup, mapOf, keyFits, dmapUpdate, dcallee, dcall, tabOf, dbuiltin, dstore, DV.cells, setAt, dslice, dboundOk, dappend, appTag, rowsOf, elemOk, growLimit, dbuildCells, dbuildCells.go, structOk, fieldsOk, dbuildRows, goInt]
    refine hK _ _ ?_ rfl; clear hK K
    refine Dwp.seq (Dwp.condT (by simp [eval, upd]) (Dwp.skip ?_))
    refine Dwp.block ?_
    refine Dwp.step tT rfl fun K hK => ?_
    simp [drunL, drunO, dwanted, dopS, own, plainOf, dop, dput, eval, ofVal, Then, Ex.then, Ex.inBlock, upd, dbin, Tag.isNN, nilTest, intCmp, dload, dpart, TyI.agg, dfieldAddr, dfield, dindexAddr, dindex, dlen, lenOk, dlookup, mapOf, keyFits, dmapUpdate, dcallee, dcall, tabOf, dbuiltin, dstore, DV.cells, setAt, dslice, dboundOk, dappend, appTag, rowsOf, elemOk, growLimit, dbuildCells, dbuildCells.go, structOk, fieldsOk, dbuildRows, goInt, h9, upd, dentry, hk, hx]
    refine hK _ _ ?_ rfl; clear hK K
    refine Dwp.step tT rfl fun K hK => ?_
    simp [drunL, dwanted, dopS, own, dop, dput, eval, ofVal, Then, upd, h1, dcallee, g]
    refine hK _ _ ?_ rfl; clear hK K
    cases r with
    | false =>
      refine Dwp.condF (by simp [eval, upd]) (Dwp.skip ?_)
      simp only [Bool.false_eq_true, if_false, List.append_nil] at happ
      refine ⟨_, left_lt hjl hns, seen ++ [j], rfl, hnd', hlt', by simp [upd, h1], by simp [upd, h9], by simp <;> omega, ?_, ?_, by simp [upd]⟩
      · rw [happ]; simpa [Acc, upd] using hacc
      · intro t g' r h; have := htn t g' r (by simpa [upd] using h); simp; omega
    | true =>
      refine Dwp.condT (by simp [eval, upd]) ?_
      simp only [if_true] at happ
      refine Dwp.reg tT rfl fun K hK => ?_
      rcases hacc with ⟨q1, q2⟩ | ⟨t, gg, q1, q3⟩
      · have q0 : picked k.highs (cloB b f x) seen = [] := by simpa [rowsS] using q1
        simp [drunL, drunO, dwanted, dopS, own, plainOf, dop, dput, eval, ofVal, Then, Ex.then, Ex.inBlock, upd, dbin, Tag.isNN, nilTest, intCmp, dload, dpart, TyI.agg, dfieldAddr, dfield, dindexAddr, dindex, dlen, lenOk, dlookup, mapOf, keyFits, dmapUpdate, dcallee, dcall, tabOf, dbuiltin, dstore, DV.cells, setAt, dslice, dboundOk, dappend, appTag, rowsOf, elemOk, growLimit, dbuildCells, dbuildCells.go, structOk, fieldsOk, dbuildRows, goInt, q2, ty22, ty9]
        refine hK _ _ ?_ rfl; clear hK K
        refine ⟨_, left_lt hjl hns, seen ++ [j], rfl, hnd', hlt', by simp [upd, h1], by simp [upd, h9], by simp <;> omega, ?_, ?_, by simp [upd]⟩
        · rw [happ, q0]; exact .inr ⟨_, 0, by simp [upd, rowsS]; rfl, by simp [upd]⟩
        · intro t g' r h
          simp [upd] at h
          simp; omega
      · have hl1 := seen_len hnd hlt
        have hl2 := picked_len (m := k.highs) (q := cloB b f x) (seen := seen)
        have hl3 : (rowsS (picked k.highs (cloB b f x) seen)).length + 1 ≤ 16777216 := by simp [rowsS]; omega
        simp [drunL, drunO, dwanted, dopS, own, plainOf, dop, dput, eval, ofVal, Then, Ex.then, Ex.inBlock, upd, dbin, Tag.isNN, nilTest, intCmp, dload, dpart, TyI.agg, dfieldAddr, dfield, dindexAddr, dindex, dlen, lenOk, dlookup, mapOf, keyFits, dmapUpdate, dcallee, dcall, tabOf, dbuiltin, dstore, DV.cells, setAt, dslice, dboundOk, dappend, appTag, rowsOf, elemOk, growLimit, dbuildCells, dbuildCells.go, structOk, fieldsOk, dbuildRows, goInt, q1, q3, ty22, ty9, hl3]
        refine hK _ _ ?_ rfl; clear hK K
        refine ⟨_, left_lt hjl hns, seen ++ [j], rfl, hnd', hlt', by simp [upd, h1], by simp [upd, h9], by simp <;> omega, ?_, ?_, by simp [upd]⟩
        · rw [happ]; exact .inr ⟨t, gg + 1, by simp [upd, rowsS], by simp [upd]⟩
        · intro t' g' r h
          simp [upd] at h
          have := htn t gg _ q1
          simp; omega
theorem e61 : Go.FA.Good Tryz.prog (61, s61) := ⟨c61, Tryz.f61, _, Tryz.func61, rfl, by decide⟩
end Go.Proofs.Yt
namespace Go.Proofs.Yt
open Go Go.FA Go.Proofs
set_option linter.unusedVariables false
set_option linter.unusedSimpArgs false
set_option maxRecDepth 100000

def Enc.strsErr : Enc (List ByteArray × Int) := Enc.tup (arg2 Enc.strs Enc.i64)
abbrev T27 : Tab := tabOf [(44, s44), (61, s61), (55, s55), (54, s54)]
theorem t27 : TabOk Tryz.prog T27 := .cons e44 (.cons e61 (.cons e55 (.cons e54 .nil)))

def thatErr27 (s : SigD) (x : ByteArray) : Option (List ByteArray × Int) := withBook (openF s [x]) [] fun b => thatF b 62 b x
def s27 : Sp := sp (arg2 Enc.sigd Enc.str) Enc.strsErr (fun x => withBook (openF x.1 [x.2]) [] fun b => thatF b 62 b x.2)
theorem c27 : CallSound Tryz.prog 27 s27 := by
  refine CallSound.of_sp (T := T27) Tryz.func27 rfl (Nat.le_of_ble_eq_true rfl) fun E xx y hy => ?_
  obtain ⟨s, x⟩ := xx
  simp only [withBook] at hy
  cases hr : openF s [x] with
  | none => rw [hr] at hy; cases hy
  | some r =>
  rw [hr] at hy
  have g := call44 T27 rfl s (.slice 1 .full [[.lit (.string x)]]) [x] r rfl hr
  have h61 : T27 61 = some s61 := rfl
  have h55 : T27 55 = some s55 := rfl
  have tT := t27
  generalize T27 = T at *
  refine Dwp.step tT rfl fun K hK => ?_
  simp [drunL, drunO, dwanted, dopS, own, plainOf, dop, dput, eval, ofVal, Then, Ex.then, Ex.inBlock, upd, dbin, Tag.isNN, nilTest, intCmp, dload, dpart, TyI.agg, dfieldAddr, dfield, dindexAddr, dindex, dlen, lenOk, dlookup, mapOf, keyFits, dmapUpdate, dcallee, dbuiltin, dstore, DV.cells, setAt, dslice, dboundOk, dappend, appTag, rowsOf, elemOk, growLimit, dbuildCells, dbuildCells.go, structOk, fieldsOk, dbuildRows, goInt, init, arg2, EncR.and, EncR.one, Enc.sigd, Enc.agg, Enc.str]
  refine hK _ _ ?_ rfl; clear hK K
  refine Dwp.step tT rfl fun K hK => ?_
  obtain ⟨o, e⟩ := r
  cases o with
  | none =>
    simp only [Enc.opened, noBook] at g
    simp only [] at hy
    split at hy
    case isTrue => cases hy
    next he =>
    cases hy
    have he' : (e != 0) = true := by simp [he]
    simp [drunL, dwanted, dopS, own, dop, dput, eval, ofVal, Then, upd, dload, dpart, TyI.agg, ty26, ty58, ty22, ty9, dbuildRows, growLimit, dcallee, g, DV.cells, dstore, setNo]
    refine hK _ _ ?_ rfl; clear hK K
    refine Dwp.seq ?_
    refine Dwp.step tT rfl fun K hK => ?_
    simp [drunL, dwanted, dopS, own, dop, dput, eval, ofVal, Then, upd, dbin, intCmp, he']
    refine hK _ _ ?_ rfl; clear hK K
    refine Dwp.condT (by simp [eval, upd]) ?_
    refine Dwp.step tT rfl fun K hK => ?_
    simp [drunL, drunO, dwanted, dopS, own, plainOf, dop, dput, eval, ofVal, Then, Ex.then, Ex.inBlock, upd, dbin, Tag.isNN, nilTest, intCmp, dload, dpart, TyI.agg, dfieldAddr, dfield, dindexAddr, dindex, dlen, lenOk, dlookup, mapOf, keyFits, dmapUpdate, dcallee, dcall, tabOf, dbuiltin, dstore, DV.cells, setAt, dslice, dboundOk, dappend, appTag, rowsOf, elemOk, growLimit, dbuildCells, dbuildCells.go, structOk, fieldsOk, dbuildRows, goInt]
    refine hK _ _ (Dwp.ret ?_) rfl
    simp [Done, dresults, dres, frz, frz1, frz2, Ex.then, upd, Enc.strsErr, Enc.tup, arg2, EncR.and, EncR.one, Enc.strs, Enc.slice, Enc.str, Enc.i64, Enc.int]
  | some b =>
    simp only [Enc.opened, Enc.book, Enc.agg] at g
    simp only [] at hy
    split at hy
    case isFalse => cases hy
    next he =>
    subst he
    obtain ⟨v, hv, rfl⟩ := Option.map_eq_some_iff.1 hy
    simp [drunL, dwanted, dopS, own, dop, dput, eval, ofVal, Then, upd, dload, dpart, TyI.agg, ty26, ty58, ty22, ty9, dbuildRows, growLimit, dcallee, g, DV.cells, dstore, setBook]
    refine hK _ _ ?_ rfl; clear hK K
    refine Dwp.seq ?_
    refine Dwp.step tT rfl fun K hK => ?_
    simp [drunL, dwanted, dopS, own, dop, dput, eval, ofVal, Then, upd, dbin, intCmp]
    refine hK _ _ ?_ rfl; clear hK K
    refine Dwp.condF (by simp [eval, upd]) (Dwp.skip ?_)
    refine Dwp.freeze 11 (o := .cells 58 (EncR.book.enc b)) (fun t => if t = 6 then .row (EncR.book.enc b) 0 else if t = 2 then .row (EncR.sigd.enc s) 0 else if t = 3 then .row [.lit (.string x)] 0 else .junk) (by simp [upd, σ0]) (fun t => ?_) ?_
    · by_cases h6 : t = 6
      · subst h6; simp [upd]; exact .box (t := 58) 0 (by simp [upd, σ0])
      by_cases h2 : t = 2
      · subst h2; simp [upd]; exact .keep _
      by_cases h3 : t = 3
      · subst h3; simp [upd]; exact .keep _
      simp [h6, h2, h3]; exact .junk _
    have g2 : dcall T 61 [Enc.book.enc b, Enc.clo.enc (62, b, x)] = some (Enc.strs.enc v) := dcall2 (A := Enc.book) (B := Enc.clo) (C := Enc.strs) h61 hv
    simp only [Enc.book, Enc.agg, Enc.clo, strsC] at g2
    refine Dwp.step tT rfl fun K hK => ?_
    simp [drunL, drunO, dwanted, dopS, own, plainOf, dop, dput, eval, ofVal, Then, Ex.then, Ex.inBlock, upd, dbin, Tag.isNN, nilTest, intCmp, dload, dpart, TyI.agg, dfieldAddr, dfield, dindexAddr, dindex, dlen, lenOk, dlookup, mapOf, keyFits, dmapUpdate, dcallee, dbuiltin, dstore, DV.cells, setAt, dslice, dboundOk, dappend, appTag, rowsOf, elemOk, growLimit, dbuildCells, dbuildCells.go, structOk, fieldsOk, dbuildRows, goInt, ty58, g2]
    refine hK _ _ (Dwp.ret ?_) rfl
    have := decRows_enc (EncR.one Enc.str) v
    simp only [EncR.one, Enc.str] at this
    simp [Done, dresults, dres, frz, frz1, frz2, Ex.then, upd, Enc.strsErr, Enc.tup, arg2, EncR.and, EncR.one, Enc.strs, Enc.slice, Enc.str, Enc.i64, Enc.int, this]
theorem e27 : Go.FA.Good Tryz.prog (27, s27) := ⟨c27, Tryz.f27, _, Tryz.func27, rfl, by decide⟩

def thatErr30 (s : SigD) (x : ByteArray) : Option (List ByteArray × Int) := withBook (openF s [x]) [] fun b => thatF b 65 b x
def s30 : Sp := sp (arg2 Enc.sigd Enc.str) Enc.strsErr (fun x => withBook (openF x.1 [x.2]) [] fun b => thatF b 65 b x.2)
theorem c30 : CallSound Tryz.prog 30 s30 := by
  refine CallSound.of_sp (T := T27) Tryz.func30 rfl (Nat.le_of_ble_eq_true rfl) fun E xx y hy => ?_
  obtain ⟨s, x⟩ := xx
  simp only [withBook] at hy
  cases hr : openF s [x] with
  | none => rw [hr] at hy; cases hy
  | some r =>
  rw [hr] at hy
  have g := call44 T27 rfl s (.slice 1 .full [[.lit (.string x)]]) [x] r rfl hr
  have h61 : T27 61 = some s61 := rfl
  have h55 : T27 55 = some s55 := rfl
  have tT := t27
  generalize T27 = T at *
  refine Dwp.step tT rfl fun K hK => ?_
  simp [drunL, drunO, dwanted, dopS, own, plainOf, dop, dput, eval, ofVal, Then, Ex.then, Ex.inBlock, upd, dbin, Tag.isNN, nilTest, intCmp, dload, dpart, TyI.agg, dfieldAddr, dfield, dindexAddr, dindex, dlen, lenOk, dlookup, mapOf, keyFits, dmapUpdate, dcallee, dbuiltin, dstore, DV.cells, setAt, dslice, dboundOk, dappend, appTag, rowsOf, elemOk, growLimit, dbuildCells, dbuildCells.go, structOk, fieldsOk, dbuildRows, goInt, init, arg2, EncR.and, EncR.one, Enc.sigd, Enc.agg, Enc.str]
  refine hK _ _ ?_ rfl; clear hK K
  refine Dwp.step tT rfl fun K hK => ?_
  obtain ⟨o, e⟩ := r
  cases o with
  | none =>
    simp only [Enc.opened, noBook] at g
    simp only [] at hy
    split at hy
    case isTrue => cases hy
    next he =>
    cases hy
    have he' : (e != 0) = true := by simp [he]
    simp [drunL, dwanted, dopS, own, dop, dput, eval, ofVal, Then, upd, dload, dpart, TyI.agg, ty26, ty58, ty22, ty9, dbuildRows, growLimit, dcallee, g, DV.cells, dstore, setNo]
    refine hK _ _ ?_ rfl; clear hK K
    refine Dwp.seq ?_
    refine Dwp.step tT rfl fun K hK => ?_
    simp [drunL, dwanted, dopS, own, dop, dput, eval, ofVal, Then, upd, dbin, intCmp, he']
    refine hK _ _ ?_ rfl; clear hK K
    refine Dwp.condT (by simp [eval, upd]) ?_
    refine Dwp.step tT rfl fun K hK => ?_
    simp [drunL, drunO, dwanted, dopS, own, plainOf, dop, dput, eval, ofVal, Then, Ex.then, Ex.inBlock, upd, dbin, Tag.isNN, nilTest, intCmp, dload, dpart, TyI.agg, dfieldAddr, dfield, dindexAddr, dindex, dlen, lenOk, dlookup, mapOf, keyFits, dmapUpdate, dcallee, dcall, tabOf, dbuiltin, dstore, DV.cells, setAt, dslice, dboundOk, dappend, appTag, rowsOf, elemOk, growLimit, dbuildCells, dbuildCells.go, structOk, fieldsOk, dbuildRows, goInt]
    refine hK _ _ (Dwp.ret ?_) rfl
    simp [Done, dresults, dres, frz, frz1, frz2, Ex.then, upd, Enc.strsErr, Enc.tup, arg2, EncR.and, EncR.one, Enc.strs, Enc.slice, Enc.str, Enc.i64, Enc.int]
  | some b =>
    simp only [Enc.opened, Enc.book, Enc.agg] at g
    simp only [] at hy
    split at hy
    case isFalse => cases hy
    next he =>
    subst he
    obtain ⟨v, hv, rfl⟩ := Option.map_eq_some_iff.1 hy
    simp [drunL, dwanted, dopS, own, dop, dput, eval, ofVal, Then, upd, dload, dpart, TyI.agg, ty26, ty58, ty22, ty9, dbuildRows, growLimit, dcallee, g, DV.cells, dstore, setBook]
    refine hK _ _ ?_ rfl; clear hK K
    refine Dwp.seq ?_
    refine Dwp.step tT rfl fun K hK => ?_
    simp [drunL, dwanted, dopS, own, dop, dput, eval, ofVal, Then, upd, dbin, intCmp]
    refine hK _ _ ?_ rfl; clear hK K
    refine Dwp.condF (by simp [eval, upd]) (Dwp.skip ?_)
    refine Dwp.freeze 11 (o := .cells 58 (EncR.book.enc b)) (fun t => if t = 6 then .row (EncR.book.enc b) 0 else if t = 2 then .row (EncR.sigd.enc s) 0 else if t = 3 then .row [.lit (.string x)] 0 else .junk) (by simp [upd, σ0]) (fun t => ?_) ?_
    · by_cases h6 : t = 6
      · subst h6; simp [upd]; exact .box (t := 58) 0 (by simp [upd, σ0])
      by_cases h2 : t = 2
      · subst h2; simp [upd]; exact .keep _
      by_cases h3 : t = 3
      · subst h3; simp [upd]; exact .keep _
      simp [h6, h2, h3]; exact .junk _
    have g2 : dcall T 61 [Enc.book.enc b, Enc.clo.enc (65, b, x)] = some (Enc.strs.enc v) := dcall2 (A := Enc.book) (B := Enc.clo) (C := Enc.strs) h61 hv
    simp only [Enc.book, Enc.agg, Enc.clo, strsC] at g2
    refine Dwp.step tT rfl fun K hK => ?_
    simp [drunL, drunO, dwanted, dopS, own, plainOf, dop, dput, eval, ofVal, Then, Ex.then, Ex.inBlock, upd, dbin, Tag.isNN, nilTest, intCmp, dload, dpart, TyI.agg, dfieldAddr, dfield, dindexAddr, dindex, dlen, lenOk, dlookup, mapOf, keyFits, dmapUpdate, dcallee, dbuiltin, dstore, DV.cells, setAt, dslice, dboundOk, dappend, appTag, rowsOf, elemOk, growLimit, dbuildCells, dbuildCells.go, structOk, fieldsOk, dbuildRows, goInt, ty58, g2]
    refine hK _ _ (Dwp.ret ?_) rfl
    have := decRows_enc (EncR.one Enc.str) v
    simp only [EncR.one, Enc.str] at this
    simp [Done, dresults, dres, frz, frz1, frz2, Ex.then, upd, Enc.strsErr, Enc.tup, arg2, EncR.and, EncR.one, Enc.strs, Enc.slice, Enc.str, Enc.i64, Enc.int, this]
theorem e30 : Go.FA.Good Tryz.prog (30, s30) := ⟨c30, Tryz.f30, _, Tryz.func30, rfl, by decide⟩

def valueB (s : SigD) (b : Book) (x : ByteArray) : Option Bool := if s.values.length ≤ lim ∧ (s.values.all fun y => (b.clo 56 x y).isSome) = true then some (s.values.any (cloB b 56 x)) else none
def s20 : Sp := sp (arg2 Enc.sigd Enc.str) Enc.boolErr (fun x => withBook (openF x.1 [x.2]) false fun b => valueB x.1 b x.2)
theorem c20 : CallSound Tryz.prog 20 s20 := by
  refine CallSound.of_sp (T := T27) Tryz.func20 rfl (Nat.le_of_ble_eq_true rfl) fun E xx y hy => ?_
  obtain ⟨s, x⟩ := xx
  simp only [withBook] at hy
  cases hr : openF s [x] with
  | none => rw [hr] at hy; cases hy
  | some r =>
  rw [hr] at hy
  have g := call44 T27 rfl s (.slice 1 .full [[.lit (.string x)]]) [x] r rfl hr
  have h61 : T27 61 = some s61 := rfl
  have h55 : T27 55 = some s55 := rfl
  have tT := t27
  generalize T27 = T at *
  refine Dwp.step tT rfl fun K hK => ?_
  simp [drunL, drunO, dwanted, dopS, own, plainOf, dop, dput, eval, ofVal, Then, Ex.then, Ex.inBlock, upd, dbin, Tag.isNN, nilTest, intCmp, dload, dpart, TyI.agg, dfieldAddr, dfield, dindexAddr, dindex, dlen, lenOk, dlookup, mapOf, keyFits, dmapUpdate, dcallee, dbuiltin, dstore, DV.cells, setAt, dslice, dboundOk, dappend, appTag, rowsOf, elemOk, growLimit, dbuildCells, dbuildCells.go, structOk, fieldsOk, dbuildRows, goInt, init, arg2, EncR.and, EncR.one, Enc.sigd, Enc.agg, Enc.str]
  refine hK _ _ ?_ rfl; clear hK K
  refine Dwp.step tT rfl fun K hK => ?_
  obtain ⟨o, e⟩ := r
  cases o with
  | none =>
    simp only [Enc.opened, noBook] at g
    simp only [] at hy
    split at hy
    case isTrue => cases hy
    next he =>
    cases hy
    have he' : (e != 0) = true := by simp [he]
    simp [drunL, dwanted, dopS, own, dop, dput, eval, ofVal, Then, upd, dload, dpart, TyI.agg, ty26, ty58, ty22, ty9, dbuildRows, growLimit, dcallee, g, DV.cells, dstore, setNo]
    refine hK _ _ ?_ rfl; clear hK K
    refine Dwp.seq ?_
    refine Dwp.step tT rfl fun K hK => ?_
    simp [drunL, dwanted, dopS, own, dop, dput, eval, ofVal, Then, upd, dbin, intCmp, he']
    refine hK _ _ ?_ rfl; clear hK K
    refine Dwp.condT (by simp [eval, upd]) ?_
    refine Dwp.step tT rfl fun K hK => ?_
    simp [drunL, drunO, dwanted, dopS, own, plainOf, dop, dput, eval, ofVal, Then, Ex.then, Ex.inBlock, upd, dbin, Tag.isNN, nilTest, intCmp, dload, dpart, TyI.agg, dfieldAddr, dfield, dindexAddr, dindex, dlen, lenOk, dlookup, mapOf, keyFits, dmapUpdate, dcallee, dcall, tabOf, dbuiltin, dstore, DV.cells, setAt, dslice, dboundOk, dappend, appTag, rowsOf, elemOk, growLimit, dbuildCells, dbuildCells.go, structOk, fieldsOk, dbuildRows, goInt]
    refine hK _ _ (Dwp.ret ?_) rfl
    simp [Done, dresults, dres, frz, frz1, frz2, Ex.then, upd, Enc.boolErr, Enc.tup, arg2, EncR.and, EncR.one, Enc.bool, Enc.i64, Enc.int]
  | some b =>
    simp only [Enc.opened, Enc.book, Enc.agg] at g
    simp only [] at hy
    split at hy
    case isFalse => cases hy
    next he =>
    subst he
    obtain ⟨v, hv, rfl⟩ := Option.map_eq_some_iff.1 hy
    simp [drunL, dwanted, dopS, own, dop, dput, eval, ofVal, Then, upd, dload, dpart, TyI.agg, ty26, ty58, ty22, ty9, dbuildRows, growLimit, dcallee, g, DV.cells, dstore, setBook]
    refine hK _ _ ?_ rfl; clear hK K
    refine Dwp.seq ?_
    refine Dwp.step tT rfl fun K hK => ?_
    simp [drunL, dwanted, dopS, own, dop, dput, eval, ofVal, Then, upd, dbin, intCmp]
    refine hK _ _ ?_ rfl; clear hK K
    refine Dwp.condF (by simp [eval, upd]) (Dwp.skip ?_)
    refine Dwp.freeze 11 (o := .cells 58 (EncR.book.enc b)) (fun t => if t = 6 then .row (EncR.book.enc b) 0 else if t = 2 then .row (EncR.sigd.enc s) 0 else if t = 3 then .row [.lit (.string x)] 0 else .junk) (by simp [upd, σ0]) (fun t => ?_) ?_
    · by_cases h6 : t = 6
      · subst h6; simp [upd]; exact .box (t := 58) 0 (by simp [upd, σ0])
      by_cases h2 : t = 2
      · subst h2; simp [upd]; exact .keep _
      by_cases h3 : t = 3
      · subst h3; simp [upd]; exact .keep _
      simp [h6, h2, h3]; exact .junk _
    simp only [valueB] at hv
    split at hv
    case isFalse => cases hv
    next hc =>
    cases hv
    have g2 : dcall T 55 [Enc.strs.enc s.values, Enc.clo.enc (56, b, x)] = some (Enc.bool.enc (s.values.any (cloB b 56 x))) := dcall2 (A := Enc.strs) (B := Enc.clo) (C := Enc.bool) h55 (if_pos ⟨hc.1, rfl, hc.2⟩)
    simp only [Enc.bool, Enc.clo, strsC] at g2
    refine Dwp.step tT rfl fun K hK => ?_
    simp [drunL, drunO, dwanted, dopS, own, plainOf, dop, dput, eval, ofVal, Then, Ex.then, Ex.inBlock, upd, dbin, Tag.isNN, nilTest, intCmp, dload, dpart, TyI.agg, dfieldAddr, dfield, dindexAddr, dindex, dlen, lenOk, dlookup, mapOf, keyFits, dmapUpdate, dcallee, dbuiltin, dstore, DV.cells, setAt, dslice, dboundOk, dappend, appTag, rowsOf, elemOk, growLimit, dbuildCells, dbuildCells.go, structOk, fieldsOk, dbuildRows, goInt, ty26, ty22, strsC, g2]
    refine hK _ _ (Dwp.ret ?_) rfl
    simp [Done, dresults, dres, frz, frz1, frz2, Ex.then, upd, Enc.boolErr, Enc.tup, arg2, EncR.and, EncR.one, Enc.bool, Enc.i64, Enc.int]
theorem e20 : Go.FA.Good Tryz.prog (20, s20) := ⟨c20, Tryz.f20, _, Tryz.func20, rfl, by decide⟩
end Go.Proofs.Yt
namespace Go.Proofs.Yt
open Go Go.FA Go.Proofs
set_option linter.unusedVariables false
set_option linter.unusedSimpArgs false
set_option maxRecDepth 100000

structure Ren where
  book : Book
  a : ByteArray
  b : ByteArray
def renL (r : Ren) : List DV := [.fmap (r.book.highs.map fun p => .string p.1) (r.book.highs.map fun p => Enc.strs.enc p.2), .fmap (r.book.ops.map fun p => .string p.1) (r.book.ops.map fun p => .agg (EncR.opd.enc p.2)), .fmap (r.book.funs.map fun p => .string p.1) (r.book.funs.map fun p => .agg (EncR.opd.enc p.2)), .lit (.string r.a), .lit (.string r.b)]
def EncR.ren : EncR Ren := (EncR.book.and ((EncR.one Enc.str).and (EncR.one Enc.str))).iso (fun r => (r.book, r.a, r.b)) (fun x => ⟨x.1, x.2.1, x.2.2⟩) (fun _ => rfl) (fun _ => rfl)
theorem renC (r : Ren) : EncR.ren.enc r = renL r := rfl
theorem bookC (b : Book) : EncR.book.enc b = [.fmap (b.highs.map fun p => .string p.1) (b.highs.map fun p => Enc.strs.enc p.2), .fmap (b.ops.map fun p => .string p.1) (b.ops.map fun p => .agg (EncR.opd.enc p.2)), .fmap (b.funs.map fun p => .string p.1) (b.funs.map fun p => .agg (EncR.opd.enc p.2))] := rfl
theorem renK : EncR.ren.k = 5 := rfl
@[simp] theorem ren3 (r : Ren) : (renL r)[3]? = some (.lit (.string r.a)) := rfl
@[simp] theorem ren4 (r : Ren) : (renL r)[4]? = some (.lit (.string r.b)) := rfl
@[simp] theorem renLen (r : Ren) : (renL r).length = 5 := rfl
@[simp] theorem renTake (r : Ren) : (renL r).take 5 = renL r := rfl
@[simp] theorem renTake3 (r : Ren) : (renL r).take 3 = EncR.book.enc r.book := rfl
def Enc.ren : Enc Ren := Enc.agg EncR.ren
def Enc.bel : Enc Bel := Enc.agg EncR.bel
def Enc.pie : Enc Pie := Enc.agg EncR.pie
def Ren.name (r : Ren) (s : ByteArray) : ByteArray := if s = r.a then r.b else if s = r.b then r.a else s
def Ren.sort (r : Ren) (s : ByteArray) : ByteArray := if r.book.decl s then r.name s else s
def Ren.below (r : Ren) (x : Bel) : Bel := ⟨r.sort x.low, r.sort x.high⟩
def Ren.piece (r : Ren) (x : Pie) : Pie := ⟨x.text, r.sort x.sort⟩
def s100 : Sp := sp (arg2 Enc.ren Enc.str) Enc.str (fun x => some (x.1.name x.2))
theorem c100 : CallSound Tryz.prog 100 s100 := by
  refine CallSound.of_sp (T := tabOf []) Tryz.func100 rfl (Nat.le_of_ble_eq_true rfl) fun E xx y hy => ?_
  obtain ⟨r, s⟩ := xx
  simp only [Option.some.injEq] at hy
  subst hy
  refine Dwp.step tab0 rfl fun K hK => ?_
  simp [drunL, drunO, dwanted, dopS, own, plainOf, dop, dput, eval, ofVal, Then, Ex.then, Ex.inBlock, upd, dbin, Tag.isNN, nilTest, intCmp, dload, dpart, TyI.agg, dfieldAddr, dfield, dindexAddr, dindex, dlen, lenOk, dlookup, mapOf, keyFits, dmapUpdate, dcallee, dcall, tabOf, dbuiltin, dstore, DV.cells, setAt, dslice, dboundOk, dappend, appTag, rowsOf, elemOk, growLimit, dbuildCells, dbuildCells.go, structOk, fieldsOk, dbuildRows, goInt, init, arg2, EncR.and, EncR.one, Enc.ren, Enc.agg, Enc.str, renC]
  refine hK _ _ ?_ rfl; clear hK K
  refine Dwp.seq ?_
  refine Dwp.step tab0 rfl fun K hK => ?_
  simp [drunL, drunO, dwanted, dopS, own, plainOf, dop, dput, eval, ofVal, Then, Ex.then, Ex.inBlock, upd, dbin, Tag.isNN, nilTest, intCmp, dload, dpart, TyI.agg, dfieldAddr, dfield, dindexAddr, dindex, dlen, lenOk, dlookup, mapOf, keyFits, dmapUpdate, dcallee, dcall, tabOf, dbuiltin, dstore, DV.cells, setAt, dslice, dboundOk, dappend, appTag, rowsOf, elemOk, growLimit, dbuildCells, dbuildCells.go, structOk, fieldsOk, dbuildRows, goInt]
  refine hK _ _ ?_ rfl; clear hK K
  refine Dwp.block ?_
  refine Dwp.step tab0 rfl fun K hK => ?_
  by_cases h1 : s = r.a
  · simp [drunL, drunO, dwanted, dopS, own, plainOf, dop, dput, eval, ofVal, Then, Ex.then, Ex.inBlock, upd, dbin, Tag.isNN, nilTest, intCmp, dload, dpart, TyI.agg, dfieldAddr, dfield, dindexAddr, dindex, dlen, lenOk, dlookup, mapOf, keyFits, dmapUpdate, dcallee, dcall, tabOf, dbuiltin, dstore, DV.cells, setAt, dslice, dboundOk, dappend, appTag, rowsOf, elemOk, growLimit, dbuildCells, dbuildCells.go, structOk, fieldsOk, dbuildRows, goInt, ty73, ty9, h1]
    refine hK _ _ ?_ rfl; clear hK K
    refine Dwp.condT (by simp [eval, upd]) ?_
    refine Dwp.step tab0 rfl fun K hK => ?_
    simp [drunL, drunO, dwanted, dopS, own, plainOf, dop, dput, eval, ofVal, Then, Ex.then, Ex.inBlock, upd, dbin, Tag.isNN, nilTest, intCmp, dload, dpart, TyI.agg, dfieldAddr, dfield, dindexAddr, dindex, dlen, lenOk, dlookup, mapOf, keyFits, dmapUpdate, dcallee, dcall, tabOf, dbuiltin, dstore, DV.cells, setAt, dslice, dboundOk, dappend, appTag, rowsOf, elemOk, growLimit, dbuildCells, dbuildCells.go, structOk, fieldsOk, dbuildRows, goInt, ty73, ty9]
    refine hK _ _ (Dwp.ret ?_) rfl
    simp [Done, dresults, dres, frz, frz1, frz2, Ex.then, Ex.inBlock, Enc.str, upd, Ren.name, h1]
  · simp [drunL, drunO, dwanted, dopS, own, plainOf, dop, dput, eval, ofVal, Then, Ex.then, Ex.inBlock, upd, dbin, Tag.isNN, nilTest, intCmp, dload, dpart, TyI.agg, dfieldAddr, dfield, dindexAddr, dindex, dlen, lenOk, dlookup, mapOf, keyFits, dmapUpdate, dcallee, dcall, tabOf, dbuiltin, dstore, DV.cells, setAt, dslice, dboundOk, dappend, appTag, rowsOf, elemOk, growLimit, dbuildCells, dbuildCells.go, structOk, fieldsOk, dbuildRows, goInt, ty73, ty9, h1]
    refine hK _ _ ?_ rfl; clear hK K
    refine Dwp.condF (by simp [eval, upd, h1]) ?_
    refine Dwp.step tab0 rfl fun K hK => ?_
    by_cases h2 : s = r.b
    · simp [drunL, drunO, dwanted, dopS, own, plainOf, dop, dput, eval, ofVal, Then, Ex.then, Ex.inBlock, upd, dbin, Tag.isNN, nilTest, intCmp, dload, dpart, TyI.agg, dfieldAddr, dfield, dindexAddr, dindex, dlen, lenOk, dlookup, mapOf, keyFits, dmapUpdate, dcallee, dcall, tabOf, dbuiltin, dstore, DV.cells, setAt, dslice, dboundOk, dappend, appTag, rowsOf, elemOk, growLimit, dbuildCells, dbuildCells.go, structOk, fieldsOk, dbuildRows, goInt, ty73, ty9, h2]
      refine hK _ _ ?_ rfl; clear hK K
      refine Dwp.condT (by simp [eval, upd]) ?_
      refine Dwp.step tab0 rfl fun K hK => ?_
      simp [drunL, drunO, dwanted, dopS, own, plainOf, dop, dput, eval, ofVal, Then, Ex.then, Ex.inBlock, upd, dbin, Tag.isNN, nilTest, intCmp, dload, dpart, TyI.agg, dfieldAddr, dfield, dindexAddr, dindex, dlen, lenOk, dlookup, mapOf, keyFits, dmapUpdate, dcallee, dcall, tabOf, dbuiltin, dstore, DV.cells, setAt, dslice, dboundOk, dappend, appTag, rowsOf, elemOk, growLimit, dbuildCells, dbuildCells.go, structOk, fieldsOk, dbuildRows, goInt, ty73, ty9]
      refine hK _ _ (Dwp.ret ?_) rfl
      have h3 : ¬ r.b = r.a := fun e => h1 (h2.trans e)
      simp [Done, dresults, dres, frz, frz1, frz2, Ex.then, Ex.inBlock, Enc.str, upd, Ren.name, h2, h3]
    · simp [drunL, drunO, dwanted, dopS, own, plainOf, dop, dput, eval, ofVal, Then, Ex.then, Ex.inBlock, upd, dbin, Tag.isNN, nilTest, intCmp, dload, dpart, TyI.agg, dfieldAddr, dfield, dindexAddr, dindex, dlen, lenOk, dlookup, mapOf, keyFits, dmapUpdate, dcallee, dcall, tabOf, dbuiltin, dstore, DV.cells, setAt, dslice, dboundOk, dappend, appTag, rowsOf, elemOk, growLimit, dbuildCells, dbuildCells.go, structOk, fieldsOk, dbuildRows, goInt, ty73, ty9, h2]
      refine hK _ _ ?_ rfl; clear hK K
      refine Dwp.condF (by simp [eval, upd, h2]) (Dwp.skip ?_)
      simp only [Ex.then, Ex.inBlock]
      refine Dwp.step tab0 rfl fun K hK => ?_
      simp [drunL, drunO, dwanted, dopS, own, plainOf, dop, dput, eval, ofVal, Then, Ex.then, Ex.inBlock, upd, dbin, Tag.isNN, nilTest, intCmp, dload, dpart, TyI.agg, dfieldAddr, dfield, dindexAddr, dindex, dlen, lenOk, dlookup, mapOf, keyFits, dmapUpdate, dcallee, dcall, tabOf, dbuiltin, dstore, DV.cells, setAt, dslice, dboundOk, dappend, appTag, rowsOf, elemOk, growLimit, dbuildCells, dbuildCells.go, structOk, fieldsOk, dbuildRows, goInt, init]
      refine hK _ _ (Dwp.ret ?_) rfl
      simp [Done, dresults, dres, frz, frz1, frz2, Enc.str, upd, Ren.name, h1, h2]
theorem e100 : Go.FA.Good Tryz.prog (100, s100) := ⟨c100, Tryz.f100, _, Tryz.func100, rfl, by decide⟩
def s67 : Sp := sp (arg2 Enc.ren Enc.str) Enc.str (fun x => some (x.1.sort x.2))
abbrev T67 : Tab := tabOf [(99, s99), (100, s100)]
theorem c67 : CallSound Tryz.prog 67 s67 := by
  have tT : TabOk Tryz.prog T67 := .cons e99 (.cons e100 .nil)
  refine CallSound.of_sp (T := T67) Tryz.func67 rfl (Nat.le_of_ble_eq_true rfl) fun E xx y hy => ?_
  obtain ⟨r, s⟩ := xx
  simp only [Option.some.injEq] at hy
  subst hy
  have g1 := call99 T67 rfl r.book s
  have g2 : dcall T67 100 [Enc.ren.enc r, Enc.str.enc s] = some (Enc.str.enc (r.name s)) := dcall2 (A := Enc.ren) (B := Enc.str) (C := Enc.str) rfl rfl
  simp only [Enc.ren, Enc.agg, Enc.str, renC] at g2
  generalize T67 = T at *
  refine Dwp.step tT rfl fun K hK => ?_
  simp [drunL, drunO, dwanted, dopS, own, plainOf, dop, dput, eval, ofVal, Then, Ex.then, Ex.inBlock, upd, dbin, Tag.isNN, nilTest, intCmp, dload, dpart, TyI.agg, dfieldAddr, dfield, dindexAddr, dindex, dlen, lenOk, dlookup, mapOf, keyFits, dmapUpdate, dcallee, dcall, tabOf, dbuiltin, dstore, DV.cells, setAt, dslice, dboundOk, dappend, appTag, rowsOf, elemOk, growLimit, dbuildCells, dbuildCells.go, structOk, fieldsOk, dbuildRows, goInt, init, arg2, EncR.and, EncR.one, Enc.ren, Enc.agg, Enc.str, renC]
  refine hK _ _ ?_ rfl; clear hK K
  refine Dwp.seq ?_
  refine Dwp.step tT rfl fun K hK => ?_
  simp [drunL, drunO, dwanted, dopS, own, plainOf, dop, dput, eval, ofVal, Then, Ex.then, Ex.inBlock, upd, dbin, Tag.isNN, nilTest, intCmp, dload, dpart, TyI.agg, dfieldAddr, dfield, dindexAddr, dindex, dlen, lenOk, dlookup, mapOf, keyFits, dmapUpdate, dcallee, dbuiltin, dstore, DV.cells, setAt, dslice, dboundOk, dappend, appTag, rowsOf, elemOk, growLimit, dbuildCells, dbuildCells.go, structOk, fieldsOk, dbuildRows, goInt, init, arg2, EncR.and, EncR.one, Enc.str, ty73, ty58, g1]
  refine hK _ _ ?_ rfl; clear hK K
  cases hd : r.book.decl s with
  | false =>
    refine Dwp.condT (by simp [eval, upd, hd]) ?_
    refine Dwp.step tT rfl fun K hK => ?_
    simp [drunL, drunO, dwanted, dopS, own, plainOf, dop, dput, eval, ofVal, Then, Ex.then, Ex.inBlock, upd, dbin, Tag.isNN, nilTest, intCmp, dload, dpart, TyI.agg, dfieldAddr, dfield, dindexAddr, dindex, dlen, lenOk, dlookup, mapOf, keyFits, dmapUpdate, dcallee, dcall, tabOf, dbuiltin, dstore, DV.cells, setAt, dslice, dboundOk, dappend, appTag, rowsOf, elemOk, growLimit, dbuildCells, dbuildCells.go, structOk, fieldsOk, dbuildRows, goInt, init, arg2, EncR.and, EncR.one, Enc.str]
    refine hK _ _ (Dwp.ret ?_) rfl
    simp [Done, dresults, dres, frz, frz1, frz2, Ex.then, Enc.str, upd, Ren.sort, hd]
  | true =>
    refine Dwp.condF (by simp [eval, upd, hd]) (Dwp.skip ?_)
    refine Dwp.step tT rfl fun K hK => ?_
    simp [drunL, drunO, dwanted, dopS, own, plainOf, dop, dput, eval, ofVal, Then, Ex.then, Ex.inBlock, upd, dbin, Tag.isNN, nilTest, intCmp, dload, dpart, TyI.agg, dfieldAddr, dfield, dindexAddr, dindex, dlen, lenOk, dlookup, mapOf, keyFits, dmapUpdate, dcallee, dbuiltin, dstore, DV.cells, setAt, dslice, dboundOk, dappend, appTag, rowsOf, elemOk, growLimit, dbuildCells, dbuildCells.go, structOk, fieldsOk, dbuildRows, goInt, init, arg2, EncR.and, EncR.one, Enc.str, ty73, g2]
    refine hK _ _ (Dwp.ret ?_) rfl
    simp [Done, dresults, dres, frz, frz1, frz2, Enc.str, upd, Ren.sort, hd]
theorem e67 : Go.FA.Good Tryz.prog (67, s67) := ⟨c67, Tryz.f67, _, Tryz.func67, rfl, by decide⟩
theorem call67 (T : Tab) (hT : T 67 = some s67) (r : Ren) (s : ByteArray) : dcall T 67 [.agg (renL r), .lit (.string s)] = some (.lit (.string (r.sort s))) :=
  dcall2 (A := Enc.ren) (B := Enc.str) (C := Enc.str) hT rfl
theorem t67 : TabOk Tryz.prog (tabOf [(67, s67)]) := .cons e67 .nil
def s69 : Sp := sp (arg2 Enc.ren Enc.bel) Enc.bel (fun x => some (x.1.below x.2))
theorem c69 : CallSound Tryz.prog 69 s69 := by
  refine CallSound.of_sp (T := tabOf [(67, s67)]) Tryz.func69 rfl (Nat.le_of_ble_eq_true rfl) fun E xx y hy => ?_
  obtain ⟨r, x⟩ := xx
  simp only [Option.some.injEq] at hy
  subst hy
  have g1 := call67 (tabOf [(67, s67)]) rfl r x.low
  have g2 := call67 (tabOf [(67, s67)]) rfl r x.high
  have tT := t67
  generalize tabOf [(67, s67)] = T at *
  refine Dwp.step tT rfl fun K hK => ?_
  simp [drunL, drunO, dwanted, dopS, own, plainOf, dop, dput, eval, ofVal, Then, Ex.then, Ex.inBlock, upd, dbin, Tag.isNN, nilTest, intCmp, dload, dpart, TyI.agg, dfieldAddr, dfield, dindexAddr, dindex, dlen, lenOk, dlookup, mapOf, keyFits, dmapUpdate, dcallee, dcall, tabOf, dbuiltin, dstore, DV.cells, setAt, dslice, dboundOk, dappend, appTag, rowsOf, elemOk, growLimit, dbuildCells, dbuildCells.go, structOk, fieldsOk, dbuildRows, goInt, init, arg2, EncR.and, EncR.one, Enc.ren, Enc.bel, Enc.agg, renC, EncR.bel, ty78]
  refine hK _ _ ?_ rfl; clear hK K
  refine Dwp.drawStep [.none, .none, .none, .none, .none, .none, .none, .none, .none, .wobj] mixed tT rfl (by decide) fun K hK => ?_
  simp [drunT, touch, touchP, drunL, drunO, dwanted, dopS, own, plainOf, dop, dput, eval, ofVal, Then, Ex.then, Ex.inBlock, upd, dbin, Tag.isNN, nilTest, intCmp, dload, dpart, TyI.agg, dfieldAddr, dfield, dindexAddr, dindex, dlen, lenOk, dlookup, mapOf, keyFits, dmapUpdate, dcallee, dbuiltin, dstore, DV.cells, dslice, dboundOk, dappend, appTag, rowsOf, elemOk, growLimit, dbuildCells, dbuildCells.go, structOk, fieldsOk, dbuildRows, goInt, ty73, ty78, ty9, g1, g2, set2]
  refine hK _ _ (Dwp.ret ?_) rfl
  simp [Done, dresults, dres, frz, frz1, frz2, upd, dload, dpart, TyI.agg, ty78, setAt, Enc.bel, Enc.agg, EncR.bel, Ren.below]
theorem e69 : Go.FA.Good Tryz.prog (69, s69) := ⟨c69, Tryz.f69, _, Tryz.func69, rfl, by decide⟩
def s103 : Sp := sp (arg2 Enc.ren Enc.pie) Enc.pie (fun x => some (x.1.piece x.2))
theorem c103 : CallSound Tryz.prog 103 s103 := by
  refine CallSound.of_sp (T := tabOf [(67, s67)]) Tryz.func103 rfl (Nat.le_of_ble_eq_true rfl) fun E xx y hy => ?_
  obtain ⟨r, x⟩ := xx
  simp only [Option.some.injEq] at hy
  subst hy
  have g2 := call67 (tabOf [(67, s67)]) rfl r x.sort
  have tT := t67
  generalize tabOf [(67, s67)] = T at *
  refine Dwp.step tT rfl fun K hK => ?_
  simp [drunL, drunO, dwanted, dopS, own, plainOf, dop, dput, eval, ofVal, Then, Ex.then, Ex.inBlock, upd, dbin, Tag.isNN, nilTest, intCmp, dload, dpart, TyI.agg, dfieldAddr, dfield, dindexAddr, dindex, dlen, lenOk, dlookup, mapOf, keyFits, dmapUpdate, dcallee, dcall, tabOf, dbuiltin, dstore, DV.cells, setAt, dslice, dboundOk, dappend, appTag, rowsOf, elemOk, growLimit, dbuildCells, dbuildCells.go, structOk, fieldsOk, dbuildRows, goInt, init, arg2, EncR.and, EncR.one, Enc.ren, Enc.pie, Enc.agg, renC, EncR.pie, ty69]
  refine hK _ _ ?_ rfl; clear hK K
  refine Dwp.drawStep [.none, .none, .none, .none, .none, .none, .none, .wobj] mixed tT rfl (by decide) fun K hK => ?_
  simp [drunT, touch, touchP, drunL, drunO, dwanted, dopS, own, plainOf, dop, dput, eval, ofVal, Then, Ex.then, Ex.inBlock, upd, dbin, Tag.isNN, nilTest, intCmp, dload, dpart, TyI.agg, dfieldAddr, dfield, dindexAddr, dindex, dlen, lenOk, dlookup, mapOf, keyFits, dmapUpdate, dcallee, dbuiltin, dstore, DV.cells, dslice, dboundOk, dappend, appTag, rowsOf, elemOk, growLimit, dbuildCells, dbuildCells.go, structOk, fieldsOk, dbuildRows, goInt, ty73, ty69, ty9, g2]
  refine hK _ _ (Dwp.ret ?_) rfl
  simp [Done, dresults, dres, frz, frz1, frz2, upd, dload, dpart, TyI.agg, ty69, setAt, Enc.pie, Enc.agg, EncR.pie, Ren.piece]
theorem e103 : Go.FA.Good Tryz.prog (103, s103) := ⟨c103, Tryz.f103, _, Tryz.func103, rfl, by decide⟩
end Go.Proofs.Yt
namespace Go.Proofs.Yt
open Go Go.FA Go.Proofs
set_option linter.unusedVariables false
set_option linter.unusedSimpArgs false
set_option maxRecDepth 100000

/-- a method bound to a renamer -/
def Enc.meth : Enc (Nat × Ren) where
  enc p := .func (.func p.1) [.agg (renL p.2)] []
  dec d := match d with
    | .func (.func f) [x] [] => match Enc.ren.dec x with
      | some r => some (f, r)
      | none => none
    | _ => none
  le d x h := by
    intro C w v hv
    split at h
    · split at h
      · next r hb =>
        simp at h; subst h
        simp only [VRel] at hv ⊢
        obtain ⟨f', c', h1, h2, h3⟩ := hv
        exact ⟨f', c', h1, LRel_le (.cons (Enc.ren.le _ _ hb) .nil) h2, h3⟩
      · simp at h
    · simp at h
  pure p := by
    have : pureB (.agg (renL p.2)) = true := Enc.ren.pure p.2
    show pureB (.func _ [.agg (renL p.2)] []) = true
    simp only [pureB, pureL] at this ⊢
    simp [this]
  de p := by
    have := Enc.ren.de p.2
    simp only [Enc.ren, Enc.agg, renC] at this ⊢
    simp [this]
theorem grow1 (n : Nat) (h : n ≤ 1048576) : n + 1 ≤ 16777216 := by omega

def s66 : Sp := sp (arg2 Enc.strs Enc.meth) Enc.strs (fun x => if x.1.length ≤ 1048576 ∧ x.2.1 = 67 then some (x.1.map x.2.2.sort) else none)
def row66 (l : List ByteArray) : List (List DV) := l.map (fun x => [DV.lit (.string (x))])
theorem row66_snoc (l) (x) : row66 (l ++ [x]) = row66 l ++ [[DV.lit (.string (x))]] := by simp [row66]
def inv66 (l : List ByteArray) (r : Ren) : Nat → (Nat → DV) → St → Prop := fun k a σ => ∃ i, i ≤ l.length ∧ k = l.length - i ∧
  a 8 = .slice 1 .none (row66 l) ∧ a 1 = .func (.func 67) [.agg (renL r)] [] ∧ a 9 = .lit (.int .i64 l.length) ∧ a 10 = .lit (.int .i64 i) ∧ Acc σ 1 (row66 ((l.take i).map r.sort)) (a 5)
abbrev T66 : Tab := tabOf [(67, s67)]
theorem c66 : CallSound Tryz.prog 66 s66 := by
  have tT : TabOk Tryz.prog T66 := .cons e67 .nil
  refine CallSound.of_sp (T := T66) Tryz.func66 rfl (Nat.le_of_ble_eq_true rfl) fun E xx y hy => ?_
  obtain ⟨l, f, r⟩ := xx
  by_cases hc : l.length ≤ 1048576 ∧ f = 67
  case neg => simp only [] at hy; rw [if_neg hc] at hy; cases hy
  simp only [] at hy
  rw [if_pos hc] at hy
  cases hy
  obtain ⟨hlim, rfl⟩ := hc
  have hT : T66 67 = some s67 := rfl
  generalize T66 = T at *
  have hrow : ∀ l, Enc.strs.enc l = .slice 1 .none (row66 l) := fun _ => rfl
  refine Dwp.step tT rfl fun K hK => ?_
  simp [drunL, drunO, dwanted, dopS, own, plainOf, dop, dput, eval, ofVal, Then, Ex.then, Ex.inBlock, upd, dbin, Tag.isNN, nilTest, intCmp, dload, dpart, TyI.agg, dfieldAddr, dfield, dindexAddr, dindex, dlen, lenOk, dlookup, mapOf, keyFits, dmapUpdate, dcallee, dcall, tabOf, dbuiltin, dstore, DV.cells, setAt, dslice, dboundOk, dappend, appTag, rowsOf, elemOk, growLimit, dbuildCells, dbuildCells.go, structOk, fieldsOk, dbuildRows, goInt]
  refine hK _ _ ?_ rfl; clear hK K
  refine Dwp.step tT rfl fun K hK => ?_
  simp [drunL, drunO, dwanted, dopS, own, plainOf, dop, dput, eval, ofVal, Then, Ex.then, Ex.inBlock, upd, dbin, Tag.isNN, nilTest, intCmp, dload, dpart, TyI.agg, dfieldAddr, dfield, dindexAddr, dindex, dlen, lenOk, dlookup, mapOf, keyFits, dmapUpdate, dcallee, dcall, tabOf, dbuiltin, dstore, DV.cells, setAt, dslice, dboundOk, dappend, appTag, rowsOf, elemOk, growLimit, dbuildCells, dbuildCells.go, structOk, fieldsOk, dbuildRows, goInt]
  refine hK _ _ ?_ rfl; clear hK K
  refine Dwp.seq ?_
  refine Dwp.step tT rfl fun K hK => ?_
  have hrl : (row66 l).length = l.length := by simp [row66]
  simp [drunL, drunO, dwanted, dopS, own, plainOf, dop, dput, eval, ofVal, Then, Ex.then, Ex.inBlock, upd, dbin, Tag.isNN, nilTest, intCmp, dload, dpart, TyI.agg, dfieldAddr, dfield, dindexAddr, dindex, dlen, lenOk, dlookup, mapOf, keyFits, dmapUpdate, dcallee, dcall, tabOf, dbuiltin, dstore, DV.cells, setAt, dslice, dboundOk, dappend, appTag, rowsOf, elemOk, growLimit, dbuildCells, dbuildCells.go, structOk, fieldsOk, dbuildRows, goInt, init, arg2, EncR.and, EncR.one, hrow, ty22, hrl]
  refine hK _ _ ?_ rfl; clear hK K
  refine Dwp.block (Dwp.loop (inv66 l r) l.length ⟨0, by simp, by simp, by simp [upd], by simp [upd, init, Enc.meth], by simp [upd], by simp [upd], .inl ⟨by simp [row66], by simp [upd]⟩⟩ ?_)
  rintro k a σ ⟨i, hi, rfl, h8, h1, h9, h10, hacc⟩
  refine Dwp.step tT rfl fun K hK => ?_
  simp [drunL, drunO, dwanted, dopS, own, plainOf, dop, dput, eval, ofVal, Then, Ex.then, Ex.inBlock, upd, dbin, Tag.isNN, nilTest, intCmp, dload, dpart, TyI.agg, dfieldAddr, dfield, dindexAddr, dindex, dlen, lenOk, dlookup, mapOf, keyFits, dmapUpdate, dcallee, dcall, tabOf, dbuiltin, dstore, DV.cells, setAt, dslice, dboundOk, dappend, appTag, rowsOf, elemOk, growLimit, dbuildCells, dbuildCells.go, structOk, fieldsOk, dbuildRows, goInt, h9, h10]
  refine hK _ _ ?_ rfl; clear hK K
  by_cases hlt : i < l.length
  · refine Dwp.seq (Dwp.condT (by simp [eval, upd, hlt]) (Dwp.skip ?_))
    refine Dwp.seq (Dwp.block ?_)
    have hri : (row66 l)[i]? = some ([DV.lit (.string (l[i]))]) := by simp [row66, hlt]
    have g : dcall T 67 [.agg (renL r), .lit (.string l[i])] = some (.lit (.string (r.sort l[i]))) := dcall2 (A := Enc.ren) (B := Enc.str) (C := Enc.str) hT rfl
    skip
    refine Dwp.step tT rfl fun K hK => ?_
    simp [drunL, drunO, dwanted, dopS, own, plainOf, dop, dput, eval, ofVal, Then, Ex.then, Ex.inBlock, upd, dbin, Tag.isNN, nilTest, intCmp, dload, dpart, TyI.agg, dfieldAddr, dfield, dindexAddr, dindex, dlen, lenOk, dlookup, mapOf, keyFits, dmapUpdate, dcallee, dbuiltin, dstore, DV.cells, dslice, dboundOk, dappend, appTag, rowsOf, elemOk, growLimit, dbuildCells, dbuildCells.go, structOk, fieldsOk, dbuildRows, goInt, h8, h10, ty22, ty9, hri]
    refine hK _ _ ?_ rfl; clear hK K
    refine Dwp.reg tT rfl fun K hK => ?_
    have htk : (l.take (i + 1)).map r.sort = (l.take i).map r.sort ++ [r.sort (l[i])] := by
      rw [List.take_succ_eq_append_getElem hlt, List.map_append]; rfl
    have hw : IntKind.i64.wrap ((i : Int) + 1) = (i : Int) + 1 := wrap_small (n := (i : Int) + 1) (by omega) (by omega)
    rcases hacc with ⟨q1, q2⟩ | ⟨t, gg, q1, q3⟩
    · simp [drunL, dwanted, dopS, own, dop, dput, eval, ofVal, Then, upd, dload, dpart, TyI.agg, dcallee, dbuildRows, growLimit, DV.cells, dbuiltin, dappend, rowsOf, appTag, elemOk, q2, h1, ty22, ty9, g]
      refine hK _ _ ?_ rfl; clear hK K
      refine Dwp.reg tT rfl fun K hK => ?_
      simp [drunL, drunO, dwanted, dopS, own, plainOf, dop, dput, eval, ofVal, Then, Ex.then, Ex.inBlock, upd, dbin, Tag.isNN, nilTest, intCmp, dload, dpart, TyI.agg, dfieldAddr, dfield, dindexAddr, dindex, dlen, lenOk, dlookup, mapOf, keyFits, dmapUpdate, dcallee, dcall, tabOf, dbuiltin, dstore, DV.cells, setAt, dslice, dboundOk, dappend, appTag, rowsOf, elemOk, growLimit, dbuildCells, dbuildCells.go, structOk, fieldsOk, dbuildRows, goInt, h10]
      refine hK _ _ ?_ rfl; clear hK K
      refine ⟨l.length - (i + 1), by omega, i + 1, by omega, rfl, by simp [upd, h8], by simp [upd, h1], by simp [upd, h9], by simp [upd, hw], ?_⟩
      rw [htk, row66_snoc, q1]; exact .inr ⟨_, 0, by simp [upd]; rfl, by simp [upd]⟩
    · have hl3 : (row66 (List.take i (List.map r.sort l))).length ≤ 16777215 := by simp [row66]; omega
      simp [drunL, dwanted, dopS, own, dop, dput, eval, ofVal, Then, upd, dload, dpart, TyI.agg, dcallee, dbuildRows, growLimit, DV.cells, dbuiltin, dappend, rowsOf, appTag, elemOk, q1, q3, h1, ty22, ty9, g, hl3]
      refine hK _ _ ?_ rfl; clear hK K
      refine Dwp.reg tT rfl fun K hK => ?_
      simp [drunL, drunO, dwanted, dopS, own, plainOf, dop, dput, eval, ofVal, Then, Ex.then, Ex.inBlock, upd, dbin, Tag.isNN, nilTest, intCmp, dload, dpart, TyI.agg, dfieldAddr, dfield, dindexAddr, dindex, dlen, lenOk, dlookup, mapOf, keyFits, dmapUpdate, dcallee, dcall, tabOf, dbuiltin, dstore, DV.cells, setAt, dslice, dboundOk, dappend, appTag, rowsOf, elemOk, growLimit, dbuildCells, dbuildCells.go, structOk, fieldsOk, dbuildRows, goInt, h10]
      refine hK _ _ ?_ rfl; clear hK K
      refine ⟨l.length - (i + 1), by omega, i + 1, by omega, rfl, by simp [upd, h8], by simp [upd, h1], by simp [upd, h9], by simp [upd, hw], ?_⟩
      rw [htk, row66_snoc]; exact .inr ⟨t, gg + 1, by simp [upd], by simp [upd]⟩
  · refine Dwp.seq (Dwp.condF (by simp [eval, upd, hlt]) (Dwp.exit ?_))
    simp only [Ex.then, Ex.inBlock, if_true]
    rw [List.take_of_length_le (by omega)] at hacc
    refine Dwp.step tT rfl fun K hK => ?_
    simp [drunL, drunO, dwanted, dopS, own, plainOf, dop, dput, eval, ofVal, Then, Ex.then, Ex.inBlock, upd, dbin, Tag.isNN, nilTest, intCmp, dload, dpart, TyI.agg, dfieldAddr, dfield, dindexAddr, dindex, dlen, lenOk, dlookup, mapOf, keyFits, dmapUpdate, dcallee, dcall, tabOf, dbuiltin, dstore, DV.cells, setAt, dslice, dboundOk, dappend, appTag, rowsOf, elemOk, growLimit, dbuildCells, dbuildCells.go, structOk, fieldsOk, dbuildRows, goInt]
    refine hK _ _ (Dwp.ret ?_) rfl
    have hd := hacc.dec (A := EncR.one Enc.str) (decRows_enc (EncR.one Enc.str) (l.map r.sort))
    rcases hacc with ⟨q1, q2⟩ | ⟨t, gg, q1, q3⟩
    · rw [q2] at hd; simp [Done, dresults, dres, frz, frz1, frz2, upd, q2]; exact hd
    · rw [q1] at hd; simp [Done, dresults, dres, frz, frz1, frz2, upd, q1]; exact hd
theorem e66 : Go.FA.Good Tryz.prog (66, s66) := ⟨c66, Tryz.f66, _, Tryz.func66, rfl, by decide⟩

def s68 : Sp := sp (arg2 Enc.bels Enc.meth) Enc.bels (fun x => if x.1.length ≤ 1048576 ∧ x.2.1 = 69 then some (x.1.map x.2.2.below) else none)
def row68 (l : List Bel) : List (List DV) := l.map (fun x => EncR.bel.enc (x))
theorem row68_snoc (l) (x) : row68 (l ++ [x]) = row68 l ++ [EncR.bel.enc (x)] := by simp [row68]
def inv68 (l : List Bel) (r : Ren) : Nat → (Nat → DV) → St → Prop := fun k a σ => ∃ i, i ≤ l.length ∧ k = l.length - i ∧
  a 8 = .slice 2 .none (row68 l) ∧ a 1 = .func (.func 69) [.agg (renL r)] [] ∧ a 9 = .lit (.int .i64 l.length) ∧ a 10 = .lit (.int .i64 i) ∧ Acc σ 2 (row68 ((l.take i).map r.below)) (a 5)
abbrev T68 : Tab := tabOf [(69, s69)]
theorem c68 : CallSound Tryz.prog 68 s68 := by
  have tT : TabOk Tryz.prog T68 := .cons e69 .nil
  refine CallSound.of_sp (T := T68) Tryz.func68 rfl (Nat.le_of_ble_eq_true rfl) fun E xx y hy => ?_
  obtain ⟨l, f, r⟩ := xx
  by_cases hc : l.length ≤ 1048576 ∧ f = 69
  case neg => simp only [] at hy; rw [if_neg hc] at hy; cases hy
  simp only [] at hy
  rw [if_pos hc] at hy
  cases hy
  obtain ⟨hlim, rfl⟩ := hc
  have hT : T68 69 = some s69 := rfl
  generalize T68 = T at *
  have hrow : ∀ l, Enc.bels.enc l = .slice 2 .none (row68 l) := fun _ => rfl
  refine Dwp.step tT rfl fun K hK => ?_
  simp [drunL, drunO, dwanted, dopS, own, plainOf, dop, dput, eval, ofVal, Then, Ex.then, Ex.inBlock, upd, dbin, Tag.isNN, nilTest, intCmp, dload, dpart, TyI.agg, dfieldAddr, dfield, dindexAddr, dindex, dlen, lenOk, dlookup, mapOf, keyFits, dmapUpdate, dcallee, dcall, tabOf, dbuiltin, dstore, DV.cells, setAt, dslice, dboundOk, dappend, appTag, rowsOf, elemOk, growLimit, dbuildCells, dbuildCells.go, structOk, fieldsOk, dbuildRows, goInt]
  refine hK _ _ ?_ rfl; clear hK K
  refine Dwp.step tT rfl fun K hK => ?_
  simp [drunL, drunO, dwanted, dopS, own, plainOf, dop, dput, eval, ofVal, Then, Ex.then, Ex.inBlock, upd, dbin, Tag.isNN, nilTest, intCmp, dload, dpart, TyI.agg, dfieldAddr, dfield, dindexAddr, dindex, dlen, lenOk, dlookup, mapOf, keyFits, dmapUpdate, dcallee, dcall, tabOf, dbuiltin, dstore, DV.cells, setAt, dslice, dboundOk, dappend, appTag, rowsOf, elemOk, growLimit, dbuildCells, dbuildCells.go, structOk, fieldsOk, dbuildRows, goInt]
  refine hK _ _ ?_ rfl; clear hK K
  refine Dwp.seq ?_
  refine Dwp.step tT rfl fun K hK => ?_
  have hrl : (row68 l).length = l.length := by simp [row68]
  simp [drunL, drunO, dwanted, dopS, own, plainOf, dop, dput, eval, ofVal, Then, Ex.then, Ex.inBlock, upd, dbin, Tag.isNN, nilTest, intCmp, dload, dpart, TyI.agg, dfieldAddr, dfield, dindexAddr, dindex, dlen, lenOk, dlookup, mapOf, keyFits, dmapUpdate, dcallee, dcall, tabOf, dbuiltin, dstore, DV.cells, setAt, dslice, dboundOk, dappend, appTag, rowsOf, elemOk, growLimit, dbuildCells, dbuildCells.go, structOk, fieldsOk, dbuildRows, goInt, init, arg2, EncR.and, EncR.one, hrow, ty23, hrl]
  refine hK _ _ ?_ rfl; clear hK K
  refine Dwp.block (Dwp.loop (inv68 l r) l.length ⟨0, by simp, by simp, by simp [upd], by simp [upd, init, Enc.meth], by simp [upd], by simp [upd], .inl ⟨by simp [row68], by simp [upd]⟩⟩ ?_)
  rintro k a σ ⟨i, hi, rfl, h8, h1, h9, h10, hacc⟩
  refine Dwp.step tT rfl fun K hK => ?_
  simp [drunL, drunO, dwanted, dopS, own, plainOf, dop, dput, eval, ofVal, Then, Ex.then, Ex.inBlock, upd, dbin, Tag.isNN, nilTest, intCmp, dload, dpart, TyI.agg, dfieldAddr, dfield, dindexAddr, dindex, dlen, lenOk, dlookup, mapOf, keyFits, dmapUpdate, dcallee, dcall, tabOf, dbuiltin, dstore, DV.cells, setAt, dslice, dboundOk, dappend, appTag, rowsOf, elemOk, growLimit, dbuildCells, dbuildCells.go, structOk, fieldsOk, dbuildRows, goInt, h9, h10]
  refine hK _ _ ?_ rfl; clear hK K
  by_cases hlt : i < l.length
  · refine Dwp.seq (Dwp.condT (by simp [eval, upd, hlt]) (Dwp.skip ?_))
    refine Dwp.seq (Dwp.block ?_)
    have hri : (row68 l)[i]? = some (EncR.bel.enc (l[i])) := by simp [row68, hlt]
    have g : dcall T 69 [.agg (renL r), .agg (EncR.bel.enc l[i])] = some (.agg (EncR.bel.enc (r.below (l[i])))) := dcall2 (A := Enc.ren) (B := Enc.bel) (C := Enc.bel) hT rfl
    simp only [EncR.bel] at g
    refine Dwp.step tT rfl fun K hK => ?_
    simp [drunL, drunO, dwanted, dopS, own, plainOf, dop, dput, eval, ofVal, Then, Ex.then, Ex.inBlock, upd, dbin, Tag.isNN, nilTest, intCmp, dload, dpart, TyI.agg, dfieldAddr, dfield, dindexAddr, dindex, dlen, lenOk, dlookup, mapOf, keyFits, dmapUpdate, dcallee, dbuiltin, dstore, DV.cells, dslice, dboundOk, dappend, appTag, rowsOf, elemOk, growLimit, dbuildCells, dbuildCells.go, structOk, fieldsOk, dbuildRows, goInt, h8, h10, ty23, ty78, hri, EncR.bel, set2]
    refine hK _ _ ?_ rfl; clear hK K
    refine Dwp.reg tT rfl fun K hK => ?_
    have htk : (l.take (i + 1)).map r.below = (l.take i).map r.below ++ [r.below (l[i])] := by
      rw [List.take_succ_eq_append_getElem hlt, List.map_append]; rfl
    have hw : IntKind.i64.wrap ((i : Int) + 1) = (i : Int) + 1 := wrap_small (n := (i : Int) + 1) (by omega) (by omega)
    rcases hacc with ⟨q1, q2⟩ | ⟨t, gg, q1, q3⟩
    · simp [drunL, dwanted, dopS, own, dop, dput, eval, ofVal, Then, upd, dload, dpart, TyI.agg, dcallee, dbuildRows, growLimit, DV.cells, dbuiltin, dappend, rowsOf, appTag, elemOk, q2, h1, ty23, ty78, g, EncR.bel, set2]
      refine hK _ _ ?_ rfl; clear hK K
      refine Dwp.reg tT rfl fun K hK => ?_
      simp [drunL, drunO, dwanted, dopS, own, plainOf, dop, dput, eval, ofVal, Then, Ex.then, Ex.inBlock, upd, dbin, Tag.isNN, nilTest, intCmp, dload, dpart, TyI.agg, dfieldAddr, dfield, dindexAddr, dindex, dlen, lenOk, dlookup, mapOf, keyFits, dmapUpdate, dcallee, dcall, tabOf, dbuiltin, dstore, DV.cells, setAt, dslice, dboundOk, dappend, appTag, rowsOf, elemOk, growLimit, dbuildCells, dbuildCells.go, structOk, fieldsOk, dbuildRows, goInt, h10]
      refine hK _ _ ?_ rfl; clear hK K
      refine ⟨l.length - (i + 1), by omega, i + 1, by omega, rfl, by simp [upd, h8], by simp [upd, h1], by simp [upd, h9], by simp [upd, hw], ?_⟩
      rw [htk, row68_snoc, q1]; exact .inr ⟨_, 0, by simp [upd, EncR.bel, set2]; rfl, by simp [upd]⟩
    · have hl3 : (row68 (List.take i (List.map r.below l))).length ≤ 16777215 := by simp [row68]; omega
      simp [drunL, dwanted, dopS, own, dop, dput, eval, ofVal, Then, upd, dload, dpart, TyI.agg, dcallee, dbuildRows, growLimit, DV.cells, dbuiltin, dappend, rowsOf, appTag, elemOk, q1, q3, h1, ty23, ty78, g, hl3, EncR.bel, set2]
      refine hK _ _ ?_ rfl; clear hK K
      refine Dwp.reg tT rfl fun K hK => ?_
      simp [drunL, drunO, dwanted, dopS, own, plainOf, dop, dput, eval, ofVal, Then, Ex.then, Ex.inBlock, upd, dbin, Tag.isNN, nilTest, intCmp, dload, dpart, TyI.agg, dfieldAddr, dfield, dindexAddr, dindex, dlen, lenOk, dlookup, mapOf, keyFits, dmapUpdate, dcallee, dcall, tabOf, dbuiltin, dstore, DV.cells, setAt, dslice, dboundOk, dappend, appTag, rowsOf, elemOk, growLimit, dbuildCells, dbuildCells.go, structOk, fieldsOk, dbuildRows, goInt, h10]
      refine hK _ _ ?_ rfl; clear hK K
      refine ⟨l.length - (i + 1), by omega, i + 1, by omega, rfl, by simp [upd, h8], by simp [upd, h1], by simp [upd, h9], by simp [upd, hw], ?_⟩
      rw [htk, row68_snoc]; exact .inr ⟨t, gg + 1, by simp [upd, EncR.bel, set2], by simp [upd]⟩
  · refine Dwp.seq (Dwp.condF (by simp [eval, upd, hlt]) (Dwp.exit ?_))
    simp only [Ex.then, Ex.inBlock, if_true]
    rw [List.take_of_length_le (by omega)] at hacc
    refine Dwp.step tT rfl fun K hK => ?_
    simp [drunL, drunO, dwanted, dopS, own, plainOf, dop, dput, eval, ofVal, Then, Ex.then, Ex.inBlock, upd, dbin, Tag.isNN, nilTest, intCmp, dload, dpart, TyI.agg, dfieldAddr, dfield, dindexAddr, dindex, dlen, lenOk, dlookup, mapOf, keyFits, dmapUpdate, dcallee, dcall, tabOf, dbuiltin, dstore, DV.cells, setAt, dslice, dboundOk, dappend, appTag, rowsOf, elemOk, growLimit, dbuildCells, dbuildCells.go, structOk, fieldsOk, dbuildRows, goInt]
    refine hK _ _ (Dwp.ret ?_) rfl
    have hd := hacc.dec (A := EncR.bel) (decRows_enc (EncR.bel) (l.map r.below))
    rcases hacc with ⟨q1, q2⟩ | ⟨t, gg, q1, q3⟩
    · rw [q2] at hd; simp [Done, dresults, dres, frz, frz1, frz2, upd, q2]; exact hd
    · rw [q1] at hd; simp [Done, dresults, dres, frz, frz1, frz2, upd, q1]; exact hd
theorem e68 : Go.FA.Good Tryz.prog (68, s68) := ⟨c68, Tryz.f68, _, Tryz.func68, rfl, by decide⟩

def s102 : Sp := sp (arg2 Enc.pies Enc.meth) Enc.pies (fun x => if x.1.length ≤ 1048576 ∧ x.2.1 = 103 then some (x.1.map x.2.2.piece) else none)
def row102 (l : List Pie) : List (List DV) := l.map (fun x => EncR.pie.enc (x))
theorem row102_snoc (l) (x) : row102 (l ++ [x]) = row102 l ++ [EncR.pie.enc (x)] := by simp [row102]
def inv102 (l : List Pie) (r : Ren) : Nat → (Nat → DV) → St → Prop := fun k a σ => ∃ i, i ≤ l.length ∧ k = l.length - i ∧
  a 8 = .slice 2 .none (row102 l) ∧ a 1 = .func (.func 103) [.agg (renL r)] [] ∧ a 9 = .lit (.int .i64 l.length) ∧ a 10 = .lit (.int .i64 i) ∧ Acc σ 2 (row102 ((l.take i).map r.piece)) (a 5)
abbrev T102 : Tab := tabOf [(103, s103)]
theorem c102 : CallSound Tryz.prog 102 s102 := by
  have tT : TabOk Tryz.prog T102 := .cons e103 .nil
  refine CallSound.of_sp (T := T102) Tryz.func102 rfl (Nat.le_of_ble_eq_true rfl) fun E xx y hy => ?_
  obtain ⟨l, f, r⟩ := xx
  by_cases hc : l.length ≤ 1048576 ∧ f = 103
  case neg => simp only [] at hy; rw [if_neg hc] at hy; cases hy
  simp only [] at hy
  rw [if_pos hc] at hy
  cases hy
  obtain ⟨hlim, rfl⟩ := hc
  have hT : T102 103 = some s103 := rfl
  generalize T102 = T at *
  have hrow : ∀ l, Enc.pies.enc l = .slice 2 .none (row102 l) := fun _ => rfl
  refine Dwp.step tT rfl fun K hK => ?_
  simp [drunL, drunO, dwanted, dopS, own, plainOf, dop, dput, eval, ofVal, Then, Ex.then, Ex.inBlock, upd, dbin, Tag.isNN, nilTest, intCmp, dload, dpart, TyI.agg, dfieldAddr, dfield, dindexAddr, dindex, dlen, lenOk, dlookup, mapOf, keyFits, dmapUpdate, dcallee, dcall, tabOf, dbuiltin, dstore, DV.cells, setAt, dslice, dboundOk, dappend, appTag, rowsOf, elemOk, growLimit, dbuildCells, dbuildCells.go, structOk, fieldsOk, dbuildRows, goInt]
  refine hK _ _ ?_ rfl; clear hK K
  refine Dwp.step tT rfl fun K hK => ?_
  simp [drunL, drunO, dwanted, dopS, own, plainOf, dop, dput, eval, ofVal, Then, Ex.then, Ex.inBlock, upd, dbin, Tag.isNN, nilTest, intCmp, dload, dpart, TyI.agg, dfieldAddr, dfield, dindexAddr, dindex, dlen, lenOk, dlookup, mapOf, keyFits, dmapUpdate, dcallee, dcall, tabOf, dbuiltin, dstore, DV.cells, setAt, dslice, dboundOk, dappend, appTag, rowsOf, elemOk, growLimit, dbuildCells, dbuildCells.go, structOk, fieldsOk, dbuildRows, goInt]
  refine hK _ _ ?_ rfl; clear hK K
  refine Dwp.seq ?_
  refine Dwp.step tT rfl fun K hK => ?_
  have hrl : (row102 l).length = l.length := by simp [row102]
  simp [drunL, drunO, dwanted, dopS, own, plainOf, dop, dput, eval, ofVal, Then, Ex.then, Ex.inBlock, upd, dbin, Tag.isNN, nilTest, intCmp, dload, dpart, TyI.agg, dfieldAddr, dfield, dindexAddr, dindex, dlen, lenOk, dlookup, mapOf, keyFits, dmapUpdate, dcallee, dcall, tabOf, dbuiltin, dstore, DV.cells, setAt, dslice, dboundOk, dappend, appTag, rowsOf, elemOk, growLimit, dbuildCells, dbuildCells.go, structOk, fieldsOk, dbuildRows, goInt, init, arg2, EncR.and, EncR.one, hrow, ty34, hrl]
  refine hK _ _ ?_ rfl; clear hK K
  refine Dwp.block (Dwp.loop (inv102 l r) l.length ⟨0, by simp, by simp, by simp [upd], by simp [upd, init, Enc.meth], by simp [upd], by simp [upd], .inl ⟨by simp [row102], by simp [upd]⟩⟩ ?_)
  rintro k a σ ⟨i, hi, rfl, h8, h1, h9, h10, hacc⟩
  refine Dwp.step tT rfl fun K hK => ?_
  simp [drunL, drunO, dwanted, dopS, own, plainOf, dop, dput, eval, ofVal, Then, Ex.then, Ex.inBlock, upd, dbin, Tag.isNN, nilTest, intCmp, dload, dpart, TyI.agg, dfieldAddr, dfield, dindexAddr, dindex, dlen, lenOk, dlookup, mapOf, keyFits, dmapUpdate, dcallee, dcall, tabOf, dbuiltin, dstore, DV.cells, setAt, dslice, dboundOk, dappend, appTag, rowsOf, elemOk, growLimit, dbuildCells, dbuildCells.go, structOk, fieldsOk, dbuildRows, goInt, h9, h10]
  refine hK _ _ ?_ rfl; clear hK K
  by_cases hlt : i < l.length
  · refine Dwp.seq (Dwp.condT (by simp [eval, upd, hlt]) (Dwp.skip ?_))
    refine Dwp.seq (Dwp.block ?_)
    have hri : (row102 l)[i]? = some (EncR.pie.enc (l[i])) := by simp [row102, hlt]
    have g : dcall T 103 [.agg (renL r), .agg (EncR.pie.enc l[i])] = some (.agg (EncR.pie.enc (r.piece (l[i])))) := dcall2 (A := Enc.ren) (B := Enc.pie) (C := Enc.pie) hT rfl
    simp only [EncR.pie] at g
    refine Dwp.step tT rfl fun K hK => ?_
    simp [drunL, drunO, dwanted, dopS, own, plainOf, dop, dput, eval, ofVal, Then, Ex.then, Ex.inBlock, upd, dbin, Tag.isNN, nilTest, intCmp, dload, dpart, TyI.agg, dfieldAddr, dfield, dindexAddr, dindex, dlen, lenOk, dlookup, mapOf, keyFits, dmapUpdate, dcallee, dbuiltin, dstore, DV.cells, dslice, dboundOk, dappend, appTag, rowsOf, elemOk, growLimit, dbuildCells, dbuildCells.go, structOk, fieldsOk, dbuildRows, goInt, h8, h10, ty34, ty69, hri, EncR.pie, set2]
    refine hK _ _ ?_ rfl; clear hK K
    refine Dwp.reg tT rfl fun K hK => ?_
    have htk : (l.take (i + 1)).map r.piece = (l.take i).map r.piece ++ [r.piece (l[i])] := by
      rw [List.take_succ_eq_append_getElem hlt, List.map_append]; rfl
    have hw : IntKind.i64.wrap ((i : Int) + 1) = (i : Int) + 1 := wrap_small (n := (i : Int) + 1) (by omega) (by omega)
    rcases hacc with ⟨q1, q2⟩ | ⟨t, gg, q1, q3⟩
    · simp [drunL, dwanted, dopS, own, dop, dput, eval, ofVal, Then, upd, dload, dpart, TyI.agg, dcallee, dbuildRows, growLimit, DV.cells, dbuiltin, dappend, rowsOf, appTag, elemOk, q2, h1, ty34, ty69, g, EncR.pie, set2]
      refine hK _ _ ?_ rfl; clear hK K
      refine Dwp.reg tT rfl fun K hK => ?_
      simp [drunL, drunO, dwanted, dopS, own, plainOf, dop, dput, eval, ofVal, Then, Ex.then, Ex.inBlock, upd, dbin, Tag.isNN, nilTest, intCmp, dload, dpart, TyI.agg, dfieldAddr, dfield, dindexAddr, dindex, dlen, lenOk, dlookup, mapOf, keyFits, dmapUpdate, dcallee, dcall, tabOf, dbuiltin, dstore, DV.cells, setAt, dslice, dboundOk, dappend, appTag, rowsOf, elemOk, growLimit, dbuildCells, dbuildCells.go, structOk, fieldsOk, dbuildRows, goInt, h10]
      refine hK _ _ ?_ rfl; clear hK K
      refine ⟨l.length - (i + 1), by omega, i + 1, by omega, rfl, by simp [upd, h8], by simp [upd, h1], by simp [upd, h9], by simp [upd, hw], ?_⟩
      rw [htk, row102_snoc, q1]; exact .inr ⟨_, 0, by simp [upd, EncR.pie, set2]; rfl, by simp [upd]⟩
    · have hl3 : (row102 (List.take i (List.map r.piece l))).length ≤ 16777215 := by simp [row102]; omega
      simp [drunL, dwanted, dopS, own, dop, dput, eval, ofVal, Then, upd, dload, dpart, TyI.agg, dcallee, dbuildRows, growLimit, DV.cells, dbuiltin, dappend, rowsOf, appTag, elemOk, q1, q3, h1, ty34, ty69, g, hl3, EncR.pie, set2]
      refine hK _ _ ?_ rfl; clear hK K
      refine Dwp.reg tT rfl fun K hK => ?_
      simp [drunL, drunO, dwanted, dopS, own, plainOf, dop, dput, eval, ofVal, Then, Ex.then, Ex.inBlock, upd, dbin, Tag.isNN, nilTest, intCmp, dload, dpart, TyI.agg, dfieldAddr, dfield, dindexAddr, dindex, dlen, lenOk, dlookup, mapOf, keyFits, dmapUpdate, dcallee, dcall, tabOf, dbuiltin, dstore, DV.cells, setAt, dslice, dboundOk, dappend, appTag, rowsOf, elemOk, growLimit, dbuildCells, dbuildCells.go, structOk, fieldsOk, dbuildRows, goInt, h10]
      refine hK _ _ ?_ rfl; clear hK K
      refine ⟨l.length - (i + 1), by omega, i + 1, by omega, rfl, by simp [upd, h8], by simp [upd, h1], by simp [upd, h9], by simp [upd, hw], ?_⟩
      rw [htk, row102_snoc]; exact .inr ⟨t, gg + 1, by simp [upd, EncR.pie, set2], by simp [upd]⟩
  · refine Dwp.seq (Dwp.condF (by simp [eval, upd, hlt]) (Dwp.exit ?_))
    simp only [Ex.then, Ex.inBlock, if_true]
    rw [List.take_of_length_le (by omega)] at hacc
    refine Dwp.step tT rfl fun K hK => ?_
    simp [drunL, drunO, dwanted, dopS, own, plainOf, dop, dput, eval, ofVal, Then, Ex.then, Ex.inBlock, upd, dbin, Tag.isNN, nilTest, intCmp, dload, dpart, TyI.agg, dfieldAddr, dfield, dindexAddr, dindex, dlen, lenOk, dlookup, mapOf, keyFits, dmapUpdate, dcallee, dcall, tabOf, dbuiltin, dstore, DV.cells, setAt, dslice, dboundOk, dappend, appTag, rowsOf, elemOk, growLimit, dbuildCells, dbuildCells.go, structOk, fieldsOk, dbuildRows, goInt]
    refine hK _ _ (Dwp.ret ?_) rfl
    have hd := hacc.dec (A := EncR.pie) (decRows_enc (EncR.pie) (l.map r.piece))
    rcases hacc with ⟨q1, q2⟩ | ⟨t, gg, q1, q3⟩
    · rw [q2] at hd; simp [Done, dresults, dres, frz, frz1, frz2, upd, q2]; exact hd
    · rw [q1] at hd; simp [Done, dresults, dres, frz, frz1, frz2, upd, q1]; exact hd
theorem e102 : Go.FA.Good Tryz.prog (102, s102) := ⟨c102, Tryz.f102, _, Tryz.func102, rfl, by decide⟩
end Go.Proofs.Yt
namespace Go.Proofs.Yt
open Go Go.FA Go.Proofs
set_option linter.unusedVariables false
set_option linter.unusedSimpArgs false
set_option maxRecDepth 100000

def opOk (r : Ren) (o : OpD) : Prop := o.fits ∧ o.name.size ≤ lim ∧ r.a.size ≤ lim ∧ r.b.size ≤ lim
instance (r : Ren) (o : OpD) : Decidable (opOk r o) := by unfold opOk; infer_instance
def Ren.opName (r : Ren) (s : ByteArray) : ByteArray := r.name (cutMark s).1 ++ s.extract (cutMark s).1.size s.size
def Ren.op (r : Ren) (o : OpD) : OpD := { o with name := r.opName o.name, args := o.args.map r.sort, sort := r.sort o.sort, pieces := o.pieces.map r.piece }
theorem cut_size (s : ByteArray) : (cutMark s).1.size ≤ s.size := by
  unfold cutMark
  split
  · simp [ByteArray.size_extract]; omega
  · exact Nat.le_refl _
theorem name_size (r : Ren) (s : ByteArray) (n : Nat) (ha : r.a.size ≤ n) (hb : r.b.size ≤ n) (hs : s.size ≤ n) : (r.name s).size ≤ n := by
  unfold Ren.name; split
  · exact hb
  · split
    · exact ha
    · exact hs
def s71 : Sp := sp (arg2 Enc.ren Enc.opd) Enc.opd (fun x => if opOk x.1 x.2 then some (x.1.op x.2) else none)
abbrev T71 : Tab := tabOf [(96, s96), (101, s126), (100, s100), (67, s67), (66, s66), (102, s102)]
theorem setF0 (o : OpD) (s : ByteArray) : setAt (EncR.opd.enc o) 0 [.lit (.string s)] = EncR.opd.enc { o with name := s } := rfl
theorem setF1 (o : OpD) (l : List ByteArray) : setAt (EncR.opd.enc o) 1 [.slice 1 .none (l.map fun s => [DV.lit (.string s)])] = EncR.opd.enc { o with args := l } := rfl
theorem setF2 (o : OpD) (s : ByteArray) : setAt (EncR.opd.enc o) 2 [.lit (.string s)] = EncR.opd.enc { o with sort := s } := rfl
theorem setF3 (o : OpD) (l : List Pie) : setAt (EncR.opd.enc o) 3 [.slice 2 .none (l.map EncR.pie.enc)] = EncR.opd.enc { o with pieces := l } := rfl
theorem c71 : CallSound Tryz.prog 71 s71 := by
  have tT : TabOk Tryz.prog T71 := .cons e96 (.cons e101 (.cons e100 (.cons e67 (.cons e66 (.cons e102 .nil)))))
  refine CallSound.of_sp (T := T71) Tryz.func71 rfl (Nat.le_of_ble_eq_true rfl) fun E xx y hy => ?_
  obtain ⟨r, o⟩ := xx
  by_cases hok : opOk r o
  case neg => simp only [] at hy; rw [if_neg hok] at hy; cases hy
  simp only [] at hy
  rw [if_pos hok] at hy
  cases hy
  obtain ⟨hfit, z1, z2, z3⟩ := hok
  have g1 : dcall T71 96 [.agg (EncR.opd.enc o)] = some (.agg (EncR.opd.enc o)) := dcall1 (A := Enc.opd) (B := Enc.opd) rfl (if_pos hfit)
  have g2 : dcall T71 101 [.lit (.string o.name), .lit (.string ⟨#[39]⟩)] = some (Enc.cut.enc (cutMark o.name)) := dcall2 (A := Enc.str) (B := Enc.str) (C := Enc.cut) rfl (if_pos ⟨rfl, z1⟩)
  have g3 : dcall T71 100 [.agg (renL r), .lit (.string (cutMark o.name).1)] = some (.lit (.string (r.name (cutMark o.name).1))) := dcall2 (A := Enc.ren) (B := Enc.str) (C := Enc.str) rfl rfl
  have g4 : dcall T71 66 [Enc.strs.enc o.args, .func (.func 67) [.agg (renL r)] []] = some (Enc.strs.enc (o.args.map r.sort)) := dcall2 (A := Enc.strs) (B := Enc.meth) (C := Enc.strs) (x := o.args) (y := (67, r)) rfl (if_pos ⟨hfit.1, rfl⟩)
  have g5 := call67 T71 rfl r o.sort
  have g6 : dcall T71 102 [Enc.pies.enc o.pieces, .func (.func 103) [.agg (renL r)] []] = some (Enc.pies.enc (o.pieces.map r.piece)) := dcall2 (A := Enc.pies) (B := Enc.meth) (C := Enc.pies) (x := o.pieces) (y := (103, r)) rfl (if_pos ⟨hfit.2.1, rfl⟩)
  simp only [Enc.cut, Enc.tup, arg3, EncR.and, EncR.one, Enc.str, Enc.bool, strsC, piesC] at g2 g4 g6
  have hy : r.op o = { o with name := r.opName o.name, args := o.args.map r.sort, sort := r.sort o.sort, pieces := o.pieces.map r.piece } := rfl
  unfold Ren.opName at hy
  rw [hy]
  have hcs := cut_size o.name
  have hns := name_size r (cutMark o.name).1 lim z2 z3 (Nat.le_trans hcs z1)
  have hes : (o.name.extract (cutMark o.name).1.size o.name.size).size ≤ lim := by rw [ByteArray.size_extract]; omega
  unfold lim at hns hes z1
  have hadd : (r.name (cutMark o.name).1).size + (o.name.extract (cutMark o.name).1.size o.name.size).size < 4611686018427387904 := by omega
  have hcs2 : ((cutMark o.name).1.size : Int) ≤ (o.name.size : Int) := by omega
  generalize o.args.map r.sort = args' at *
  generalize o.pieces.map r.piece = pieces' at *
  generalize r.name (cutMark o.name).1 = nm at *
  generalize cutMark o.name = cm at *
  obtain ⟨c1, c2, c3⟩ := cm
  simp only [] at *
  generalize he : o.name.extract c1.size o.name.size = ex at *
  have setO' := setO
  simp only [noOpD] at setO'
  generalize T71 = T at *
  refine Dwp.step tT rfl fun K hK => ?_
  simp [drunL, drunO, dwanted, dopS, own, plainOf, dop, dput, eval, ofVal, Then, Ex.then, Ex.inBlock, upd, dbin, Tag.isNN, nilTest, intCmp, dload, dpart, TyI.agg, dfieldAddr, dfield, dindexAddr, dindex, dlen, lenOk, dlookup, mapOf, keyFits, dmapUpdate, dcallee, dcall, tabOf, dbuiltin, dstore, DV.cells, setAt, dslice, dboundOk, dappend, appTag, rowsOf, elemOk, growLimit, dbuildCells, dbuildCells.go, structOk, fieldsOk, dbuildRows, goInt, init, arg2, EncR.and, EncR.one, Enc.ren, Enc.opd, Enc.agg, renC, ty38]
  refine hK _ _ ?_ rfl; clear hK K
  refine Dwp.step tT rfl fun K hK => ?_
  simp [drunL, drunO, dwanted, dopS, own, plainOf, dop, dput, eval, ofVal, Then, Ex.then, Ex.inBlock, upd, dbin, Tag.isNN, nilTest, intCmp, dload, dpart, TyI.agg, dfieldAddr, dfield, dindexAddr, dindex, dlen, lenOk, dlookup, mapOf, keyFits, dmapUpdate, dcallee, dbuiltin, dstore, DV.cells, dslice, dboundOk, dappend, appTag, rowsOf, elemOk, growLimit, dbuildCells, dbuildCells.go, structOk, fieldsOk, dbuildRows, goInt, ty38, g1, setO']
  refine hK _ _ ?_ rfl; clear hK K
  refine Dwp.step tT rfl fun K hK => ?_
  simp [drunL, drunO, dwanted, dopS, own, plainOf, dop, dput, eval, ofVal, Then, Ex.then, Ex.inBlock, upd, dbin, Tag.isNN, nilTest, intCmp, dload, dpart, TyI.agg, dfieldAddr, dfield, dindexAddr, dindex, dlen, lenOk, dlookup, mapOf, keyFits, dmapUpdate, dcallee, dbuiltin, dstore, DV.cells, dslice, dboundOk, dappend, appTag, rowsOf, elemOk, growLimit, dbuildCells, dbuildCells.go, structOk, fieldsOk, dbuildRows, goInt, ty38, ty9, g2]
  refine hK _ _ ?_ rfl; clear hK K
  refine Dwp.drawStep [.none, .none, .none, .none, .none, .none, .none, .none, .none, .none, .wobj] mixed tT rfl (by decide) fun K hK => ?_
  have hcs3 : c1.size ≤ o.name.size := by omega
  simp [drunT, touch, touchP, drunL, drunO, dwanted, dopS, own, plainOf, dop, dput, eval, ofVal, Then, Ex.then, Ex.inBlock, upd, dbin, Tag.isNN, nilTest, intCmp, dload, dpart, TyI.agg, dfieldAddr, dfield, dindexAddr, dindex, dlen, lenOk, dlookup, mapOf, keyFits, dmapUpdate, dcallee, dbuiltin, dstore, DV.cells, dslice, dboundOk, dappend, appTag, rowsOf, elemOk, growLimit, dbuildCells, dbuildCells.go, structOk, fieldsOk, dbuildRows, goInt, ty73, ty38, ty9, g3, hcs3, he, hadd, setF0]
  refine hK _ _ ?_ rfl; clear hK K
  refine Dwp.step tT rfl fun K hK => ?_
  simp [drunL, drunO, dwanted, dopS, own, plainOf, dop, dput, eval, ofVal, Then, Ex.then, Ex.inBlock, upd, dbin, Tag.isNN, nilTest, intCmp, dload, dpart, TyI.agg, dfieldAddr, dfield, dindexAddr, dindex, dlen, lenOk, dlookup, mapOf, keyFits, dmapUpdate, dcallee, dbuiltin, dstore, DV.cells, dslice, dboundOk, dappend, appTag, rowsOf, elemOk, growLimit, dbuildCells, dbuildCells.go, structOk, fieldsOk, dbuildRows, goInt, ty73, ty38, ty22, strsC, g4, setF1]
  refine hK _ _ ?_ rfl; clear hK K
  refine Dwp.step tT rfl fun K hK => ?_
  simp [drunL, drunO, dwanted, dopS, own, plainOf, dop, dput, eval, ofVal, Then, Ex.then, Ex.inBlock, upd, dbin, Tag.isNN, nilTest, intCmp, dload, dpart, TyI.agg, dfieldAddr, dfield, dindexAddr, dindex, dlen, lenOk, dlookup, mapOf, keyFits, dmapUpdate, dcallee, dbuiltin, dstore, DV.cells, dslice, dboundOk, dappend, appTag, rowsOf, elemOk, growLimit, dbuildCells, dbuildCells.go, structOk, fieldsOk, dbuildRows, goInt, ty73, ty38, ty9, g5, setF2]
  refine hK _ _ ?_ rfl; clear hK K
  refine Dwp.step tT rfl fun K hK => ?_
  simp [drunL, drunO, dwanted, dopS, own, plainOf, dop, dput, eval, ofVal, Then, Ex.then, Ex.inBlock, upd, dbin, Tag.isNN, nilTest, intCmp, dload, dpart, TyI.agg, dfieldAddr, dfield, dindexAddr, dindex, dlen, lenOk, dlookup, mapOf, keyFits, dmapUpdate, dcallee, dbuiltin, dstore, DV.cells, dslice, dboundOk, dappend, appTag, rowsOf, elemOk, growLimit, dbuildCells, dbuildCells.go, structOk, fieldsOk, dbuildRows, goInt, ty73, ty38, ty34, piesC, g6, setF3]
  refine hK _ _ ?_ rfl; clear hK K
  refine Dwp.step tT rfl fun K hK => ?_
  simp [drunL, drunO, dwanted, dopS, own, plainOf, dop, dput, eval, ofVal, Then, Ex.then, Ex.inBlock, upd, dbin, Tag.isNN, nilTest, intCmp, dload, dpart, TyI.agg, dfieldAddr, dfield, dindexAddr, dindex, dlen, lenOk, dlookup, mapOf, keyFits, dmapUpdate, dcallee, dbuiltin, dstore, DV.cells, dslice, dboundOk, dappend, appTag, rowsOf, elemOk, growLimit, dbuildCells, dbuildCells.go, structOk, fieldsOk, dbuildRows, goInt, ty38, setO']
  refine hK _ _ (Dwp.ret ?_) rfl
  have := EncR.opd.de { o with name := nm ++ ex, args := args', sort := r.sort o.sort, pieces := pieces' }
  simp [Done, dresults, dres, frz, frz1, frz2, upd, dload, dpart, TyI.agg, ty38, setO', Enc.opd, Enc.agg, frzOpd, this]
theorem e71 : Go.FA.Good Tryz.prog (71, s71) := ⟨c71, Tryz.f71, _, Tryz.func71, rfl, by decide⟩
end Go.Proofs.Yt
namespace Go.Proofs.Yt
open Go Go.FA Go.Proofs
set_option linter.unusedVariables false
set_option linter.unusedSimpArgs false
set_option maxRecDepth 100000

def s70 : Sp := sp (arg2 Enc.ops Enc.meth) Enc.ops (fun x => if x.1.length ≤ 1048576 ∧ x.2.1 = 71 ∧ (∀ o ∈ x.1, opOk x.2.2 o) then some (x.1.map x.2.2.op) else none)
def row70 (l : List OpD) : List (List DV) := l.map (fun x => EncR.opd.enc (x))
theorem row70_snoc (l) (x) : row70 (l ++ [x]) = row70 l ++ [EncR.opd.enc (x)] := by simp [row70]
def inv70 (l : List OpD) (r : Ren) : Nat → (Nat → DV) → St → Prop := fun k a σ => ∃ i, i ≤ l.length ∧ k = l.length - i ∧
  a 8 = .slice 7 .none (row70 l) ∧ a 1 = .func (.func 71) [.agg (renL r)] [] ∧ a 9 = .lit (.int .i64 l.length) ∧ a 10 = .lit (.int .i64 i) ∧ Acc σ 7 (row70 ((l.take i).map r.op)) (a 5)
abbrev T70 : Tab := tabOf [(71, s71)]
theorem c70 : CallSound Tryz.prog 70 s70 := by
  have tT : TabOk Tryz.prog T70 := .cons e71 .nil
  refine CallSound.of_sp (T := T70) Tryz.func70 rfl (Nat.le_of_ble_eq_true rfl) fun E xx y hy => ?_
  obtain ⟨l, f, r⟩ := xx
  by_cases hc : l.length ≤ 1048576 ∧ f = 71 ∧ (∀ o ∈ l, opOk r o)
  case neg => simp only [] at hy; rw [if_neg hc] at hy; cases hy
  simp only [] at hy
  rw [if_pos hc] at hy
  cases hy
  obtain ⟨hlim, rfl, hall⟩ := hc
  have hT : T70 71 = some s71 := rfl
  generalize T70 = T at *
  have hrow : ∀ l, Enc.ops.enc l = .slice 7 .none (row70 l) := fun _ => rfl
  refine Dwp.step tT rfl fun K hK => ?_
  simp [drunL, drunO, dwanted, dopS, own, plainOf, dop, dput, eval, ofVal, Then, Ex.then, Ex.inBlock, upd, dbin, Tag.isNN, nilTest, intCmp, dload, dpart, TyI.agg, dfieldAddr, dfield, dindexAddr, dindex, dlen, lenOk, dlookup, mapOf, keyFits, dmapUpdate, dcallee, dcall, tabOf, dbuiltin, dstore, DV.cells, setAt, dslice, dboundOk, dappend, appTag, rowsOf, elemOk, growLimit, dbuildCells, dbuildCells.go, structOk, fieldsOk, dbuildRows, goInt]
  refine hK _ _ ?_ rfl; clear hK K
  refine Dwp.step tT rfl fun K hK => ?_
  simp [drunL, drunO, dwanted, dopS, own, plainOf, dop, dput, eval, ofVal, Then, Ex.then, Ex.inBlock, upd, dbin, Tag.isNN, nilTest, intCmp, dload, dpart, TyI.agg, dfieldAddr, dfield, dindexAddr, dindex, dlen, lenOk, dlookup, mapOf, keyFits, dmapUpdate, dcallee, dcall, tabOf, dbuiltin, dstore, DV.cells, setAt, dslice, dboundOk, dappend, appTag, rowsOf, elemOk, growLimit, dbuildCells, dbuildCells.go, structOk, fieldsOk, dbuildRows, goInt]
  refine hK _ _ ?_ rfl; clear hK K
  refine Dwp.seq ?_
  refine Dwp.step tT rfl fun K hK => ?_
  have hrl : (row70 l).length = l.length := by simp [row70]
  simp [drunL, drunO, dwanted, dopS, own, plainOf, dop, dput, eval, ofVal, Then, Ex.then, Ex.inBlock, upd, dbin, Tag.isNN, nilTest, intCmp, dload, dpart, TyI.agg, dfieldAddr, dfield, dindexAddr, dindex, dlen, lenOk, dlookup, mapOf, keyFits, dmapUpdate, dcallee, dcall, tabOf, dbuiltin, dstore, DV.cells, setAt, dslice, dboundOk, dappend, appTag, rowsOf, elemOk, growLimit, dbuildCells, dbuildCells.go, structOk, fieldsOk, dbuildRows, goInt, init, arg2, EncR.and, EncR.one, hrow, ty24, hrl]
  refine hK _ _ ?_ rfl; clear hK K
  refine Dwp.block (Dwp.loop (inv70 l r) l.length ⟨0, by simp, by simp, by simp [upd], by simp [upd, init, Enc.meth], by simp [upd], by simp [upd], .inl ⟨by simp [row70], by simp [upd]⟩⟩ ?_)
  rintro k a σ ⟨i, hi, rfl, h8, h1, h9, h10, hacc⟩
  refine Dwp.step tT rfl fun K hK => ?_
  simp [drunL, drunO, dwanted, dopS, own, plainOf, dop, dput, eval, ofVal, Then, Ex.then, Ex.inBlock, upd, dbin, Tag.isNN, nilTest, intCmp, dload, dpart, TyI.agg, dfieldAddr, dfield, dindexAddr, dindex, dlen, lenOk, dlookup, mapOf, keyFits, dmapUpdate, dcallee, dcall, tabOf, dbuiltin, dstore, DV.cells, setAt, dslice, dboundOk, dappend, appTag, rowsOf, elemOk, growLimit, dbuildCells, dbuildCells.go, structOk, fieldsOk, dbuildRows, goInt, h9, h10]
  refine hK _ _ ?_ rfl; clear hK K
  by_cases hlt : i < l.length
  · refine Dwp.seq (Dwp.condT (by simp [eval, upd, hlt]) (Dwp.skip ?_))
    refine Dwp.seq (Dwp.block ?_)
    have hri : (row70 l)[i]? = some (EncR.opd.enc (l[i])) := by simp [row70, hlt]
    have g : dcall T 71 [.agg (renL r), .agg (EncR.opd.enc l[i])] = some (.agg (EncR.opd.enc (r.op (l[i])))) := dcall2 (A := Enc.ren) (B := Enc.opd) (C := Enc.opd) hT (if_pos (hall _ (List.getElem_mem hlt)))
    skip
    refine Dwp.step tT rfl fun K hK => ?_
    simp [drunL, drunO, dwanted, dopS, own, plainOf, dop, dput, eval, ofVal, Then, Ex.then, Ex.inBlock, upd, dbin, Tag.isNN, nilTest, intCmp, dload, dpart, TyI.agg, dfieldAddr, dfield, dindexAddr, dindex, dlen, lenOk, dlookup, mapOf, keyFits, dmapUpdate, dcallee, dbuiltin, dstore, DV.cells, dslice, dboundOk, dappend, appTag, rowsOf, elemOk, growLimit, dbuildCells, dbuildCells.go, structOk, fieldsOk, dbuildRows, goInt, h8, h10, ty24, ty38, hri, setOpd]
    refine hK _ _ ?_ rfl; clear hK K
    refine Dwp.reg tT rfl fun K hK => ?_
    have htk : (l.take (i + 1)).map r.op = (l.take i).map r.op ++ [r.op (l[i])] := by
      rw [List.take_succ_eq_append_getElem hlt, List.map_append]; rfl
    have hw : IntKind.i64.wrap ((i : Int) + 1) = (i : Int) + 1 := wrap_small (n := (i : Int) + 1) (by omega) (by omega)
    rcases hacc with ⟨q1, q2⟩ | ⟨t, gg, q1, q3⟩
    · simp [drunL, dwanted, dopS, own, dop, dput, eval, ofVal, Then, upd, dload, dpart, TyI.agg, dcallee, dbuildRows, growLimit, DV.cells, dbuiltin, dappend, rowsOf, appTag, elemOk, q2, h1, ty24, ty38, g, setOpd]
      refine hK _ _ ?_ rfl; clear hK K
      refine Dwp.reg tT rfl fun K hK => ?_
      simp [drunL, drunO, dwanted, dopS, own, plainOf, dop, dput, eval, ofVal, Then, Ex.then, Ex.inBlock, upd, dbin, Tag.isNN, nilTest, intCmp, dload, dpart, TyI.agg, dfieldAddr, dfield, dindexAddr, dindex, dlen, lenOk, dlookup, mapOf, keyFits, dmapUpdate, dcallee, dcall, tabOf, dbuiltin, dstore, DV.cells, setAt, dslice, dboundOk, dappend, appTag, rowsOf, elemOk, growLimit, dbuildCells, dbuildCells.go, structOk, fieldsOk, dbuildRows, goInt, h10]
      refine hK _ _ ?_ rfl; clear hK K
      refine ⟨l.length - (i + 1), by omega, i + 1, by omega, rfl, by simp [upd, h8], by simp [upd, h1], by simp [upd, h9], by simp [upd, hw], ?_⟩
      rw [htk, row70_snoc, q1]; exact .inr ⟨_, 0, by simp [upd, setOpd]; rfl, by simp [upd]⟩
    · have hl3 : (row70 (List.take i (List.map r.op l))).length ≤ 16777215 := by simp [row70]; omega
      simp [drunL, dwanted, dopS, own, dop, dput, eval, ofVal, Then, upd, dload, dpart, TyI.agg, dcallee, dbuildRows, growLimit, DV.cells, dbuiltin, dappend, rowsOf, appTag, elemOk, q1, q3, h1, ty24, ty38, g, hl3, setOpd]
      refine hK _ _ ?_ rfl; clear hK K
      refine Dwp.reg tT rfl fun K hK => ?_
      simp [drunL, drunO, dwanted, dopS, own, plainOf, dop, dput, eval, ofVal, Then, Ex.then, Ex.inBlock, upd, dbin, Tag.isNN, nilTest, intCmp, dload, dpart, TyI.agg, dfieldAddr, dfield, dindexAddr, dindex, dlen, lenOk, dlookup, mapOf, keyFits, dmapUpdate, dcallee, dcall, tabOf, dbuiltin, dstore, DV.cells, setAt, dslice, dboundOk, dappend, appTag, rowsOf, elemOk, growLimit, dbuildCells, dbuildCells.go, structOk, fieldsOk, dbuildRows, goInt, h10]
      refine hK _ _ ?_ rfl; clear hK K
      refine ⟨l.length - (i + 1), by omega, i + 1, by omega, rfl, by simp [upd, h8], by simp [upd, h1], by simp [upd, h9], by simp [upd, hw], ?_⟩
      rw [htk, row70_snoc]; exact .inr ⟨t, gg + 1, by simp [upd, setOpd], by simp [upd]⟩
  · refine Dwp.seq (Dwp.condF (by simp [eval, upd, hlt]) (Dwp.exit ?_))
    simp only [Ex.then, Ex.inBlock, if_true]
    rw [List.take_of_length_le (by omega)] at hacc
    refine Dwp.step tT rfl fun K hK => ?_
    simp [drunL, drunO, dwanted, dopS, own, plainOf, dop, dput, eval, ofVal, Then, Ex.then, Ex.inBlock, upd, dbin, Tag.isNN, nilTest, intCmp, dload, dpart, TyI.agg, dfieldAddr, dfield, dindexAddr, dindex, dlen, lenOk, dlookup, mapOf, keyFits, dmapUpdate, dcallee, dcall, tabOf, dbuiltin, dstore, DV.cells, setAt, dslice, dboundOk, dappend, appTag, rowsOf, elemOk, growLimit, dbuildCells, dbuildCells.go, structOk, fieldsOk, dbuildRows, goInt]
    refine hK _ _ (Dwp.ret ?_) rfl
    have hd := hacc.dec (A := EncR.opd) (decRows_enc (EncR.opd) (l.map r.op))
    rcases hacc with ⟨q1, q2⟩ | ⟨t, gg, q1, q3⟩
    · rw [q2] at hd; simp [Done, dresults, dres, frz, frz1, frz2, upd, q2]; exact hd
    · rw [q1] at hd; simp [Done, dresults, dres, frz, frz1, frz2, upd, q1]; exact hd
theorem e70 : Go.FA.Good Tryz.prog (70, s70) := ⟨c70, Tryz.f70, _, Tryz.func70, rfl, by decide⟩
end Go.Proofs.Yt
namespace Go.Proofs.Yt
open Go Go.FA Go.Proofs
set_option linter.unusedVariables false
set_option linter.unusedSimpArgs false
set_option maxRecDepth 100000

def sigOk (r : Ren) (s : SigD) : Prop := s.sorts.length ≤ 1048576 ∧ s.below.length ≤ 1048576 ∧ s.ops.length ≤ 1048576 ∧ s.funs.length ≤ 1048576 ∧ s.values.length ≤ 1048576 ∧ (∀ o ∈ s.ops, opOk r o) ∧ (∀ o ∈ s.funs, opOk r o)
instance (r : Ren) (s : SigD) : Decidable (sigOk r s) := by unfold sigOk; infer_instance
def Ren.sig (r : Ren) (s : SigD) : SigD := ⟨s.sorts.map r.sort, s.below.map r.below, s.ops.map r.op, s.funs.map r.op, s.values.map r.sort⟩
def noSig : SigD := ⟨[], [], [], [], []⟩
def validF (s : SigD) : Option Bool := (openF s []).map fun r => decide (r.2 = 0)
def renameF (s : SigD) (a b : ByteArray) : Option (SigD × Int) := match openF s [] with
  | some (some k, e) => if e = 0 then (if (isName a && isName b) = true then (if sigOk ⟨k, a, b⟩ s then (match validF (Ren.sig ⟨k, a, b⟩ s) with
    | some true => some (Ren.sig ⟨k, a, b⟩ s, 0)
    | some false => some (noSig, 14)
    | none => none) else none) else some (noSig, 2)) else none
  | some (none, e) => if e = 0 then none else some (noSig, e)
  | none => none
def Enc.sigErr : Enc (SigD × Int) := Enc.tup (arg2 Enc.sigd Enc.i64)
def s32 : Sp := sp (arg3 Enc.sigd Enc.str Enc.str) Enc.sigErr (fun x => renameF x.1 x.2.1 x.2.2)
theorem belsC (l : List Bel) : Enc.bels.enc l = .slice 2 .none (l.map EncR.bel.enc) := rfl
theorem opsC (l : List OpD) : Enc.ops.enc l = .slice 7 .none (l.map EncR.opd.enc) := rfl
theorem sigC (s : SigD) : EncR.sigd.enc s = [Enc.strs.enc s.sorts, Enc.bels.enc s.below, Enc.ops.enc s.ops, Enc.ops.enc s.funs, Enc.strs.enc s.values] := rfl
def zsig : List DV := [.lit (.slice none 0 0), .lit (.slice none 0 0), .lit (.slice none 0 0), .lit (.slice none 0 0), .lit (.slice none 0 0)]
theorem decZ : EncR.sigd.dec zsig = some noSig := rfl
theorem setZ : setAt zsig 0 zsig = zsig := rfl
theorem set5 (a b c d e : DV) : setAt zsig 0 [a, b, c, d, e] = [a, b, c, d, e] := rfl
abbrev T32 : Tab := tabOf [(44, s44), (38, s38), (66, s66), (68, s68), (70, s70), (12, s12)]
theorem c32 : CallSound Tryz.prog 32 s32 := by
  have tT : TabOk Tryz.prog T32 := .cons e44 (.cons e38 (.cons e66 (.cons e68 (.cons e70 (.cons e12 .nil)))))
  refine CallSound.of_sp (T := T32) Tryz.func32 rfl (Nat.le_of_ble_eq_true rfl) fun E xx y hy => ?_
  obtain ⟨s, x, z⟩ := xx
  simp only [renameF] at hy
  cases hr : openF s [] with
  | none => rw [hr] at hy; cases hy
  | some r =>
  rw [hr] at hy
  have g := call44 T32 rfl s (.lit (.slice none 0 0)) [] r rfl hr
  have g1 : dcall T32 38 [.lit (.string x)] = some (.lit (.bool (isName x))) := dcall1 (A := Enc.str) (B := Enc.bool) rfl rfl
  have g2 : dcall T32 38 [.lit (.string z)] = some (.lit (.bool (isName z))) := dcall1 (A := Enc.str) (B := Enc.bool) rfl rfl
  have h66 : T32 66 = some s66 := rfl
  have h68 : T32 68 = some s68 := rfl
  have h70 : T32 70 = some s70 := rfl
  have h12 : T32 12 = some s12 := rfl
  have setZ' := setZ
  have decZ' := decZ
  have set5' := set5
  simp only [zsig] at setZ' decZ' set5'
  generalize T32 = T at *
  refine Dwp.step tT rfl fun K hK => ?_
  simp [drunL, drunO, dwanted, dopS, own, plainOf, dop, dput, eval, ofVal, Then, Ex.then, Ex.inBlock, upd, dbin, Tag.isNN, nilTest, intCmp, dload, dpart, TyI.agg, dfieldAddr, dfield, dindexAddr, dindex, dlen, lenOk, dlookup, mapOf, keyFits, dmapUpdate, dcallee, dbuiltin, dstore, DV.cells, setAt, dslice, dboundOk, dappend, appTag, rowsOf, elemOk, growLimit, dbuildCells, dbuildCells.go, structOk, fieldsOk, dbuildRows, goInt, init, arg3, EncR.and, EncR.one, Enc.sigd, Enc.agg, ty26]
  refine hK _ _ ?_ rfl; clear hK K
  refine Dwp.step tT rfl fun K hK => ?_
  obtain ⟨o, e⟩ := r
  cases o with
  | none =>
    simp only [Enc.opened, noBook] at g
    simp only [] at hy
    split at hy
    case isTrue => cases hy
    next he =>
    cases hy
    have he' : (e != 0) = true := by simp [he]
    simp [drunL, dwanted, dopS, own, dop, dput, eval, ofVal, Then, upd, dload, dpart, TyI.agg, ty26, ty58, dcallee, g, DV.cells, dstore, setNo]
    refine hK _ _ ?_ rfl; clear hK K
    refine Dwp.seq ?_
    refine Dwp.step tT rfl fun K hK => ?_
    simp [drunL, dwanted, dopS, own, dop, dput, eval, ofVal, Then, upd, dbin, intCmp, he']
    refine hK _ _ ?_ rfl; clear hK K
    refine Dwp.condT (by simp [eval, upd]) ?_
    refine Dwp.step tT rfl fun K hK => ?_
    simp [drunL, drunO, dwanted, dopS, own, plainOf, dop, dput, eval, ofVal, Then, Ex.then, Ex.inBlock, upd, dbin, Tag.isNN, nilTest, intCmp, dload, dpart, TyI.agg, dfieldAddr, dfield, dindexAddr, dindex, dlen, lenOk, dlookup, mapOf, keyFits, dmapUpdate, dcallee, dbuiltin, dstore, DV.cells, dslice, dboundOk, dappend, appTag, rowsOf, elemOk, growLimit, dbuildCells, dbuildCells.go, structOk, fieldsOk, dbuildRows, goInt, ty26, ty22, ty23, ty24, setZ']
    refine hK _ _ (Dwp.ret ?_) rfl
    simp [Done, dresults, dres, frz, frz1, frz2, Ex.then, upd, dload, dpart, TyI.agg, ty26, Enc.sigErr, Enc.tup, arg2, EncR.and, EncR.one, Enc.sigd, Enc.agg, Enc.i64, Enc.int, setZ', decZ']
  | some b =>
  simp only [Enc.opened, Enc.book, Enc.agg] at g
  simp only [] at hy
  split at hy
  case isFalse => cases hy
  next he =>
  subst he
  simp [drunL, dwanted, dopS, own, dop, dput, eval, ofVal, Then, upd, dload, dpart, TyI.agg, ty26, ty58, dcallee, g, DV.cells, dstore, setBook]
  refine hK _ _ ?_ rfl; clear hK K
  refine Dwp.seq ?_
  refine Dwp.step tT rfl fun K hK => ?_
  simp [drunL, dwanted, dopS, own, dop, dput, eval, ofVal, Then, upd, dbin, intCmp]
  refine hK _ _ ?_ rfl; clear hK K
  refine Dwp.condF (by simp [eval, upd]) (Dwp.skip ?_)
  refine Dwp.seq ?_
  refine Dwp.step tT rfl fun K hK => ?_
  cases k1 : isName x with
  | false =>
    rw [k1] at hy g1
    simp only [Bool.false_and, Bool.false_eq_true, if_false] at hy
    cases hy
    simp [drunL, drunO, dwanted, dopS, own, plainOf, dop, dput, eval, ofVal, Then, Ex.then, Ex.inBlock, upd, dbin, Tag.isNN, nilTest, intCmp, dload, dpart, TyI.agg, dfieldAddr, dfield, dindexAddr, dindex, dlen, lenOk, dlookup, mapOf, keyFits, dmapUpdate, dcallee, dbuiltin, dstore, DV.cells, setAt, dslice, dboundOk, dappend, appTag, rowsOf, elemOk, growLimit, dbuildCells, dbuildCells.go, structOk, fieldsOk, dbuildRows, goInt, init, arg3, EncR.and, EncR.one, Enc.str, g1, k1]
    refine hK _ _ ?_ rfl; clear hK K
    refine Dwp.condT (by simp [eval, upd]) ?_
    refine Dwp.step tT rfl fun K hK => ?_
    simp [drunL, drunO, dwanted, dopS, own, plainOf, dop, dput, eval, ofVal, Then, Ex.then, Ex.inBlock, upd, dbin, Tag.isNN, nilTest, intCmp, dload, dpart, TyI.agg, dfieldAddr, dfield, dindexAddr, dindex, dlen, lenOk, dlookup, mapOf, keyFits, dmapUpdate, dcallee, dbuiltin, dstore, DV.cells, dslice, dboundOk, dappend, appTag, rowsOf, elemOk, growLimit, dbuildCells, dbuildCells.go, structOk, fieldsOk, dbuildRows, goInt, ty26, ty22, ty23, ty24, setZ']
    refine hK _ _ (Dwp.ret ?_) rfl
    simp [Done, dresults, dres, frz, frz1, frz2, Ex.then, upd, σ0, dload, dpart, TyI.agg, ty26, Enc.sigErr, Enc.tup, arg2, EncR.and, EncR.one, Enc.sigd, Enc.agg, Enc.i64, Enc.int, setZ', decZ']
  | true =>
  rw [k1] at hy g1
  cases k2 : isName z with
  | false =>
    rw [k2] at hy g2
    simp only [Bool.and_false, Bool.false_eq_true, if_false] at hy
    cases hy
    simp [drunL, drunO, dwanted, dopS, own, plainOf, dop, dput, eval, ofVal, Then, Ex.then, Ex.inBlock, upd, dbin, Tag.isNN, nilTest, intCmp, dload, dpart, TyI.agg, dfieldAddr, dfield, dindexAddr, dindex, dlen, lenOk, dlookup, mapOf, keyFits, dmapUpdate, dcallee, dbuiltin, dstore, DV.cells, setAt, dslice, dboundOk, dappend, appTag, rowsOf, elemOk, growLimit, dbuildCells, dbuildCells.go, structOk, fieldsOk, dbuildRows, goInt, init, arg3, EncR.and, EncR.one, Enc.str, g1, g2, k1, k2]
    refine hK _ _ ?_ rfl; clear hK K
    refine Dwp.condT (by simp [eval, upd]) ?_
    refine Dwp.step tT rfl fun K hK => ?_
    simp [drunL, drunO, dwanted, dopS, own, plainOf, dop, dput, eval, ofVal, Then, Ex.then, Ex.inBlock, upd, dbin, Tag.isNN, nilTest, intCmp, dload, dpart, TyI.agg, dfieldAddr, dfield, dindexAddr, dindex, dlen, lenOk, dlookup, mapOf, keyFits, dmapUpdate, dcallee, dbuiltin, dstore, DV.cells, dslice, dboundOk, dappend, appTag, rowsOf, elemOk, growLimit, dbuildCells, dbuildCells.go, structOk, fieldsOk, dbuildRows, goInt, ty26, ty22, ty23, ty24, setZ']
    refine hK _ _ (Dwp.ret ?_) rfl
    simp [Done, dresults, dres, frz, frz1, frz2, Ex.then, upd, σ0, dload, dpart, TyI.agg, ty26, Enc.sigErr, Enc.tup, arg2, EncR.and, EncR.one, Enc.sigd, Enc.agg, Enc.i64, Enc.int, setZ', decZ']
  | true =>
  rw [k2] at hy g2
  simp only [Bool.and_self, if_true] at hy
  split at hy
  case isFalse => cases hy
  next hso =>
  obtain ⟨q1, q2, q3, q4, q5, q6, q7⟩ := hso
  simp [drunL, drunO, dwanted, dopS, own, plainOf, dop, dput, eval, ofVal, Then, Ex.then, Ex.inBlock, upd, dbin, Tag.isNN, nilTest, intCmp, dload, dpart, TyI.agg, dfieldAddr, dfield, dindexAddr, dindex, dlen, lenOk, dlookup, mapOf, keyFits, dmapUpdate, dcallee, dbuiltin, dstore, DV.cells, setAt, dslice, dboundOk, dappend, appTag, rowsOf, elemOk, growLimit, dbuildCells, dbuildCells.go, structOk, fieldsOk, dbuildRows, goInt, init, arg3, EncR.and, EncR.one, Enc.str, g1, g2, k1, k2]
  refine hK _ _ ?_ rfl; clear hK K
  refine Dwp.condF (by simp [eval, upd]) (Dwp.skip ?_)
  refine Dwp.step tT rfl fun K hK => ?_
  simp [drunL, drunO, dwanted, dopS, own, plainOf, dop, dput, eval, ofVal, Then, Ex.then, Ex.inBlock, upd, dbin, Tag.isNN, nilTest, intCmp, dload, dpart, TyI.agg, dfieldAddr, dfield, dindexAddr, dindex, dlen, lenOk, dlookup, mapOf, keyFits, dmapUpdate, dcallee, dbuiltin, dstore, DV.cells, setAt, dslice, dboundOk, dappend, appTag, rowsOf, elemOk, growLimit, dbuildCells, dbuildCells.go, structOk, fieldsOk, dbuildRows, goInt, init, arg3, EncR.and, EncR.one, Enc.str, ty58, ty73, ty9, bookC]
  refine hK _ _ ?_ rfl; clear hK K
  refine Dwp.freeze 25 (o := .cells 73 (renL ⟨b, x, z⟩)) (fun t => if t = 10 then .row (renL ⟨b, x, z⟩) 0 else if t = 3 then .row (EncR.sigd.enc s) 0 else if t = 6 then .ptr 1 0 else .junk) (by simp [upd, σ0, renL]) (fun t => ?_) ?_
  · by_cases h10 : t = 10
    · subst h10; simp [upd, σ0]; exact .box (t := 73) 0 (by simp [upd, σ0, renL])
    by_cases h3 : t = 3
    · subst h3; simp [upd, init, arg3, EncR.and, EncR.one, Enc.sigd, Enc.agg]; exact .keep _
    by_cases h6 : t = 6
    · subst h6; simp [upd, σ0]; exact .keep _
    simp [h10, h3, h6]; exact .junk _
  have m1 : dcall T 66 [Enc.strs.enc s.sorts, .func (.func 67) [.agg (renL ⟨b, x, z⟩)] []] = some (Enc.strs.enc (s.sorts.map (Ren.sort ⟨b, x, z⟩))) := dcall2 (A := Enc.strs) (B := Enc.meth) (C := Enc.strs) (x := s.sorts) (y := (67, ⟨b, x, z⟩)) h66 (if_pos ⟨q1, rfl⟩)
  have m2 : dcall T 68 [Enc.bels.enc s.below, .func (.func 69) [.agg (renL ⟨b, x, z⟩)] []] = some (Enc.bels.enc (s.below.map (Ren.below ⟨b, x, z⟩))) := dcall2 (A := Enc.bels) (B := Enc.meth) (C := Enc.bels) (x := s.below) (y := (69, ⟨b, x, z⟩)) h68 (if_pos ⟨q2, rfl⟩)
  have m3 : dcall T 70 [Enc.ops.enc s.ops, .func (.func 71) [.agg (renL ⟨b, x, z⟩)] []] = some (Enc.ops.enc (s.ops.map (Ren.op ⟨b, x, z⟩))) := dcall2 (A := Enc.ops) (B := Enc.meth) (C := Enc.ops) (x := s.ops) (y := (71, ⟨b, x, z⟩)) h70 (if_pos ⟨q3, rfl, q6⟩)
  have m4 : dcall T 70 [Enc.ops.enc s.funs, .func (.func 71) [.agg (renL ⟨b, x, z⟩)] []] = some (Enc.ops.enc (s.funs.map (Ren.op ⟨b, x, z⟩))) := dcall2 (A := Enc.ops) (B := Enc.meth) (C := Enc.ops) (x := s.funs) (y := (71, ⟨b, x, z⟩)) h70 (if_pos ⟨q4, rfl, q7⟩)
  have m5 : dcall T 66 [Enc.strs.enc s.values, .func (.func 67) [.agg (renL ⟨b, x, z⟩)] []] = some (Enc.strs.enc (s.values.map (Ren.sort ⟨b, x, z⟩))) := dcall2 (A := Enc.strs) (B := Enc.meth) (C := Enc.strs) (x := s.values) (y := (67, ⟨b, x, z⟩)) h66 (if_pos ⟨q5, rfl⟩)
  have hsig : Ren.sig ⟨b, x, z⟩ s = ⟨s.sorts.map (Ren.sort ⟨b, x, z⟩), s.below.map (Ren.below ⟨b, x, z⟩), s.ops.map (Ren.op ⟨b, x, z⟩), s.funs.map (Ren.op ⟨b, x, z⟩), s.values.map (Ren.sort ⟨b, x, z⟩)⟩ := rfl
  rw [hsig] at hy
  simp only [strsC, belsC, opsC] at m1 m2 m3 m4 m5
  generalize s.sorts.map (Ren.sort ⟨b, x, z⟩) = n1 at *
  generalize s.below.map (Ren.below ⟨b, x, z⟩) = n2 at *
  generalize s.ops.map (Ren.op ⟨b, x, z⟩) = n3 at *
  generalize s.funs.map (Ren.op ⟨b, x, z⟩) = n4 at *
  generalize s.values.map (Ren.sort ⟨b, x, z⟩) = n5 at *
  refine Dwp.drawStep [.none, .none, .none, .none, .none, .none, .none, .none, .none, .none, .none, .none, .none, .none, .none, .none, .none, .none, .none, .none, .none, .none, .none, .none, .none, .none, .newobj, .wobj] mixed tT rfl (by decide) fun K hK => ?_
  simp [drunT, touch, touchP, drunL, drunO, dwanted, dopS, own, plainOf, dop, dput, eval, ofVal, Then, Ex.then, Ex.inBlock, upd, dbin, Tag.isNN, nilTest, intCmp, dload, dpart, TyI.agg, dfieldAddr, dfield, dindexAddr, dindex, dlen, lenOk, dlookup, mapOf, keyFits, dmapUpdate, dcallee, dbuiltin, dstore, DV.cells, setAt, dslice, dboundOk, dappend, appTag, rowsOf, elemOk, growLimit, dbuildCells, dbuildCells.go, structOk, fieldsOk, dbuildRows, goInt, ty26, ty73, ty22, ty23, ty24, strsC, belsC, opsC, m1, m2, m3, m4, m5]
  refine hK _ _ ?_ rfl; clear hK K
  cases hv : validF ⟨n1, n2, n3, n4, n5⟩ with
  | none => rw [hv] at hy; cases hy
  | some v =>
  rw [hv] at hy
  have m6 : dcall T 12 [Enc.sigd.enc ⟨n1, n2, n3, n4, n5⟩] = some (Enc.bool.enc v) := dcall1 (A := Enc.sigd) (B := Enc.bool) h12 hv
  simp only [Enc.sigd, Enc.agg, Enc.bool, sigC, strsC, belsC, opsC] at m6
  refine Dwp.seq ?_
  refine Dwp.step tT rfl fun K hK => ?_
  simp [drunL, drunO, dwanted, dopS, own, plainOf, dop, dput, eval, ofVal, Then, Ex.then, Ex.inBlock, upd, dbin, Tag.isNN, nilTest, intCmp, dload, dpart, TyI.agg, dfieldAddr, dfield, dindexAddr, dindex, dlen, lenOk, dlookup, mapOf, keyFits, dmapUpdate, dcallee, dbuiltin, dstore, DV.cells, setAt, dslice, dboundOk, dappend, appTag, rowsOf, elemOk, growLimit, dbuildCells, dbuildCells.go, structOk, fieldsOk, dbuildRows, goInt, ty26, m6]
  refine hK _ _ ?_ rfl; clear hK K
  have hde := EncR.sigd.de ⟨n1, n2, n3, n4, n5⟩
  simp only [sigC, strsC, belsC, opsC] at hde
  cases v with
  | false =>
    cases hy
    refine Dwp.condT (by simp [eval, upd]) ?_
    refine Dwp.step tT rfl fun K hK => ?_
    simp [drunL, drunO, dwanted, dopS, own, plainOf, dop, dput, eval, ofVal, Then, Ex.then, Ex.inBlock, upd, dbin, Tag.isNN, nilTest, intCmp, dload, dpart, TyI.agg, dfieldAddr, dfield, dindexAddr, dindex, dlen, lenOk, dlookup, mapOf, keyFits, dmapUpdate, dcallee, dbuiltin, dstore, DV.cells, dslice, dboundOk, dappend, appTag, rowsOf, elemOk, growLimit, dbuildCells, dbuildCells.go, structOk, fieldsOk, dbuildRows, goInt, ty26, ty22, ty23, ty24, setZ', σ0]
    refine hK _ _ (Dwp.ret ?_) rfl
    simp [Done, dresults, dres, frz, frz1, frz2, Ex.then, upd, σ0, dload, dpart, TyI.agg, ty26, Enc.sigErr, Enc.tup, arg2, EncR.and, EncR.one, Enc.sigd, Enc.agg, Enc.i64, Enc.int, setZ', decZ']
  | true =>
    cases hy
    refine Dwp.condF (by simp [eval, upd]) (Dwp.skip ?_)
    refine Dwp.step tT rfl fun K hK => ?_
    simp [drunL, drunO, dwanted, dopS, own, plainOf, dop, dput, eval, ofVal, Then, Ex.then, Ex.inBlock, upd, dbin, Tag.isNN, nilTest, intCmp, dload, dpart, TyI.agg, dfieldAddr, dfield, dindexAddr, dindex, dlen, lenOk, dlookup, mapOf, keyFits, dmapUpdate, dcallee, dbuiltin, dstore, DV.cells, dslice, dboundOk, dappend, appTag, rowsOf, elemOk, growLimit, dbuildCells, dbuildCells.go, structOk, fieldsOk, dbuildRows, goInt, ty26, σ0, set5']
    refine hK _ _ (Dwp.ret ?_) rfl
    simp [Done, dresults, dres, frz, frz1, frz2, Ex.then, upd, σ0, dload, dpart, TyI.agg, ty26, Enc.sigErr, Enc.tup, arg2, EncR.and, EncR.one, Enc.sigd, Enc.agg, Enc.i64, Enc.int, set5', hde]
theorem e32 : Go.FA.Good Tryz.prog (32, s32) := ⟨c32, Tryz.f32, _, Tryz.func32, rfl, by decide⟩
end Go.Proofs.Yt
namespace Go.Proofs.Yt
open Go Go.FA Go.Proofs
set_option linter.unusedVariables false
set_option linter.unusedSimpArgs false
set_option maxRecDepth 100000

def expS : ByteArray := ⟨#[69, 120, 112]⟩
def pgmS : ByteArray := ⟨#[80, 103, 109]⟩
def intS : ByteArray := ⟨#[73, 110, 116]⟩
def plusS : ByteArray := ⟨#[112, 108, 117, 115]⟩
def sums : SigD := ⟨[expS, pgmS], [⟨intS, expS⟩, ⟨expS, pgmS⟩], [⟨plusS, [expS, expS], expS, [⟨⟨#[]⟩, expS⟩, ⟨⟨#[43]⟩, ⟨#[]⟩⟩, ⟨⟨#[]⟩, expS⟩], 5, 1, [1, 2]⟩], [], [intS]⟩
def s43 : Sp := sp EncR.unit Enc.sigd (fun _ => some sums)
theorem c43 : CallSound Tryz.prog 43 s43 := by
  refine CallSound.of_sp (T := tabOf []) Tryz.func43 rfl (Nat.le_of_ble_eq_true rfl) fun E xx y hy => ?_
  simp only [Option.some.injEq] at hy
  subst hy
  refine Dwp.step tab0 rfl fun K hK => ?_
  simp [drunL, drunO, dwanted, dopS, own, plainOf, dop, dput, eval, ofVal, Then, Ex.then, Ex.inBlock, upd, dbin, Tag.isNN, nilTest, intCmp, dload, dpart, TyI.agg, dfieldAddr, dfield, dindexAddr, dindex, dlen, lenOk, dlookup, mapOf, keyFits, dmapUpdate, dcallee, dcall, tabOf, dbuiltin, dstore, DV.cells, setAt, dslice, dboundOk, dappend, appTag, rowsOf, elemOk, growLimit, dbuildCells, dbuildCells.go, structOk, fieldsOk, dbuildRows, goInt, ty26]
  refine hK _ _ ?_ rfl; clear hK K
  refine Dwp.step tab0 rfl fun K hK => ?_
  simp [drunL, drunO, dwanted, dopS, own, plainOf, dop, dput, eval, ofVal, Then, Ex.then, Ex.inBlock, upd, dbin, Tag.isNN, nilTest, intCmp, dload, dpart, TyI.agg, dfieldAddr, dfield, dindexAddr, dindex, dlen, lenOk, dlookup, mapOf, keyFits, dmapUpdate, dcallee, dcall, tabOf, dbuiltin, dstore, DV.cells, setAt, dslice, dboundOk, dappend, appTag, rowsOf, elemOk, growLimit, dbuildCells, dbuildCells.go, structOk, fieldsOk, dbuildRows, goInt, ty26, ty22, ty9, ty38, ty34, ty69, ty36, ty3, ty35]
  refine hK _ _ ?_ rfl; clear hK K
  refine Dwp.step tab0 rfl fun K hK => ?_
  simp [drunL, drunO, dwanted, dopS, own, plainOf, dop, dput, eval, ofVal, Then, Ex.then, Ex.inBlock, upd, dbin, Tag.isNN, nilTest, intCmp, dload, dpart, TyI.agg, dfieldAddr, dfield, dindexAddr, dindex, dlen, lenOk, dlookup, mapOf, keyFits, dmapUpdate, dcallee, dcall, tabOf, dbuiltin, dstore, DV.cells, setAt, dslice, dboundOk, dappend, appTag, rowsOf, elemOk, growLimit, dbuildCells, dbuildCells.go, structOk, fieldsOk, dbuildRows, goInt, ty26, ty22, ty9, ty38, ty34, ty69, ty36, ty3, ty78, ty23, ty24]
  refine hK _ _ (Dwp.ret ?_) rfl
  simp [Done, dresults, dres, frz, frz1, frz2, upd, σ0, dload, dpart, TyI.agg, ty26]
  rfl
theorem e43 : Go.FA.Good Tryz.prog (43, s43) := ⟨c43, Tryz.f43, _, Tryz.func43, rfl, by decide⟩
end Go.Proofs.Yt
namespace Go.Proofs.Yt
open Go Go.FA Go.Proofs
set_option linter.unusedVariables false
set_option linter.unusedSimpArgs false
set_option maxRecDepth 100000

def OpD.wt (o : OpD) : Nat := o.args.length + o.pieces.length + o.strict.length
def weight : List OpD → Nat
  | [] => 0
  | o :: l => o.wt + weight l
theorem weight_append (l m : List OpD) : weight (l ++ m) = weight l + weight m := by
  induction l with
  | nil => simp [weight]
  | cons o l ih => simp only [List.cons_append, weight, ih]; omega
theorem weight_take (l : List OpD) (i : Nat) : weight (l.take i) ≤ weight l := by
  conv => rhs; rw [← List.take_append_drop i l, weight_append]
  omega
theorem weight_snoc {l : List OpD} {i : Nat} (h : i < l.length) : weight (l.take (i + 1)) = weight (l.take i) + l[i].wt := by
  rw [List.take_succ_eq_append_getElem h, weight_append]; simp [weight]
def few (s : SigD) : Bool := decide (s.sorts.length ≤ 60) && decide (s.below.length ≤ 250) && decide (s.ops.length + s.funs.length ≤ 250) && decide (s.values.length ≤ 100) && decide (weight (s.ops ++ s.funs) ≤ 3000)
def lens (s : SigD) : Prop := s.sorts.length ≤ lim ∧ s.below.length ≤ lim ∧ s.ops.length ≤ lim ∧ s.funs.length ≤ lim ∧ s.values.length ≤ lim ∧ ∀ o ∈ s.ops ++ s.funs, o.args.length ≤ lim ∧ o.pieces.length ≤ lim ∧ o.strict.length ≤ lim
instance (s : SigD) : Decidable (lens s) := by unfold lens; infer_instance
def s10 : Sp := sp (arg1 Enc.sigd) Enc.bool (fun s => if lens s then some (few s) else none)
def inv10 (l : List OpD) : Nat → (Nat → DV) → St → Prop := fun k a σ => ∃ i tag, i ≤ l.length ∧ k = l.length - i ∧ weight (l.take i) ≤ 3000 ∧
  a 3 = .lit (.int .i64 (weight (l.take i))) ∧ a 38 = .slice 7 tag (l.map EncR.opd.enc) ∧ a 39 = .lit (.int .i64 l.length) ∧ a 40 = .lit (.int .i64 i)
theorem c10 : CallSound Tryz.prog 10 s10 := by
  refine CallSound.of_sp (T := tabOf []) Tryz.func10 rfl (Nat.le_of_ble_eq_true rfl) fun E s y hy => ?_
  by_cases hl : lens s
  case neg => rw [if_neg hl] at hy; cases hy
  rw [if_pos hl] at hy
  cases hy
  obtain ⟨z1, z2, z3, z4, z5, z6⟩ := hl
  unfold lim at *
  have tT : TabOk Tryz.prog (tabOf []) := tab0
  have hw : IntKind.i64.wrap ((s.ops.length : Int) + (s.funs.length : Int)) = (s.ops.length : Int) + (s.funs.length : Int) := wrap_small (n := (s.ops.length : Int) + (s.funs.length : Int)) (by omega) (by omega)
  refine Dwp.step tT rfl fun K hK => ?_
  simp [drunL, drunO, dwanted, dopS, own, plainOf, dop, dput, eval, ofVal, Then, Ex.then, Ex.inBlock, upd, dbin, Tag.isNN, nilTest, intCmp, dload, dpart, TyI.agg, dfieldAddr, dfield, dindexAddr, dindex, dlen, lenOk, dlookup, mapOf, keyFits, dmapUpdate, dcallee, dcall, tabOf, dbuiltin, dstore, DV.cells, setAt, dslice, dboundOk, dappend, appTag, rowsOf, elemOk, growLimit, dbuildCells, dbuildCells.go, structOk, fieldsOk, dbuildRows, goInt, init, arg1, EncR.one, Enc.sigd, Enc.agg]
  refine hK _ _ ?_ rfl; clear hK K
  refine Dwp.seq ?_
  refine Dwp.step tT rfl fun K hK => ?_
  generalize tabOf [] = T at *
  by_cases b1 : s.sorts.length ≤ 60
  case neg =>
    have b1' : decide ((60 : Int) < (s.sorts.length : Int)) = true := by simp; omega
    have b1'' : (60 : Int) < (s.sorts.length : Int) := by omega
    have hf : few s = false := by simp [few, b1]
    simp [drunL, drunO, dwanted, dopS, own, plainOf, dop, dput, eval, ofVal, Then, Ex.then, Ex.inBlock, upd, dbin, Tag.isNN, nilTest, intCmp, dload, dpart, TyI.agg, dfieldAddr, dfield, dindexAddr, dindex, dlen, lenOk, dlookup, mapOf, keyFits, dmapUpdate, dcallee, dbuiltin, dstore, DV.cells, setAt, dslice, dboundOk, dappend, appTag, rowsOf, elemOk, growLimit, dbuildCells, dbuildCells.go, structOk, fieldsOk, dbuildRows, goInt, ty26, ty22, ty23, ty24, strsC, belsC, opsC, b1'']
    refine hK _ _ ?_ rfl; clear hK K
    refine Dwp.condT (by simp [eval, upd]) ?_
    refine Dwp.step tT rfl fun K hK => ?_
    simp [drunL, drunO, dwanted, dopS, own, plainOf, dop, dput, eval, ofVal, Then, Ex.then, Ex.inBlock, upd, dbin, Tag.isNN, nilTest, intCmp, dload, dpart, TyI.agg, dfieldAddr, dfield, dindexAddr, dindex, dlen, lenOk, dlookup, mapOf, keyFits, dmapUpdate, dcallee, dcall, tabOf, dbuiltin, dstore, DV.cells, setAt, dslice, dboundOk, dappend, appTag, rowsOf, elemOk, growLimit, dbuildCells, dbuildCells.go, structOk, fieldsOk, dbuildRows, goInt]
    refine hK _ _ (Dwp.ret ?_) rfl
    simp [Done, dresults, dres, frz, frz1, frz2, Ex.then, upd, Enc.bool, hf]
  have c1 : ¬ (60 : Int) < (s.sorts.length : Int) := by omega
  by_cases b2 : s.below.length ≤ 250
  case neg =>
    have b2'' : (250 : Int) < (s.below.length : Int) := by omega
    have hf : few s = false := by simp [few, b2]
    simp [drunL, drunO, dwanted, dopS, own, plainOf, dop, dput, eval, ofVal, Then, Ex.then, Ex.inBlock, upd, dbin, Tag.isNN, nilTest, intCmp, dload, dpart, TyI.agg, dfieldAddr, dfield, dindexAddr, dindex, dlen, lenOk, dlookup, mapOf, keyFits, dmapUpdate, dcallee, dbuiltin, dstore, DV.cells, setAt, dslice, dboundOk, dappend, appTag, rowsOf, elemOk, growLimit, dbuildCells, dbuildCells.go, structOk, fieldsOk, dbuildRows, goInt, ty26, ty22, ty23, ty24, strsC, belsC, opsC, c1, b2'']
    refine hK _ _ ?_ rfl; clear hK K
    refine Dwp.condT (by simp [eval, upd]) ?_
    refine Dwp.step tT rfl fun K hK => ?_
    simp [drunL, drunO, dwanted, dopS, own, plainOf, dop, dput, eval, ofVal, Then, Ex.then, Ex.inBlock, upd, dbin, Tag.isNN, nilTest, intCmp, dload, dpart, TyI.agg, dfieldAddr, dfield, dindexAddr, dindex, dlen, lenOk, dlookup, mapOf, keyFits, dmapUpdate, dcallee, dcall, tabOf, dbuiltin, dstore, DV.cells, setAt, dslice, dboundOk, dappend, appTag, rowsOf, elemOk, growLimit, dbuildCells, dbuildCells.go, structOk, fieldsOk, dbuildRows, goInt]
    refine hK _ _ (Dwp.ret ?_) rfl
    simp [Done, dresults, dres, frz, frz1, frz2, Ex.then, upd, Enc.bool, hf]
  have c2 : ¬ (250 : Int) < (s.below.length : Int) := by omega
  by_cases b3 : s.ops.length + s.funs.length ≤ 250
  case neg =>
    have b3'' : (250 : Int) < (s.ops.length : Int) + (s.funs.length : Int) := by omega
    have hf : few s = false := by simp [few, b3]
    simp [drunL, drunO, dwanted, dopS, own, plainOf, dop, dput, eval, ofVal, Then, Ex.then, Ex.inBlock, upd, dbin, Tag.isNN, nilTest, intCmp, dload, dpart, TyI.agg, dfieldAddr, dfield, dindexAddr, dindex, dlen, lenOk, dlookup, mapOf, keyFits, dmapUpdate, dcallee, dbuiltin, dstore, DV.cells, setAt, dslice, dboundOk, dappend, appTag, rowsOf, elemOk, growLimit, dbuildCells, dbuildCells.go, structOk, fieldsOk, dbuildRows, goInt, ty26, ty22, ty23, ty24, strsC, belsC, opsC, c1, c2, hw, b3'']
    refine hK _ _ ?_ rfl; clear hK K
    refine Dwp.condT (by simp [eval, upd]) ?_
    refine Dwp.step tT rfl fun K hK => ?_
    simp [drunL, drunO, dwanted, dopS, own, plainOf, dop, dput, eval, ofVal, Then, Ex.then, Ex.inBlock, upd, dbin, Tag.isNN, nilTest, intCmp, dload, dpart, TyI.agg, dfieldAddr, dfield, dindexAddr, dindex, dlen, lenOk, dlookup, mapOf, keyFits, dmapUpdate, dcallee, dcall, tabOf, dbuiltin, dstore, DV.cells, setAt, dslice, dboundOk, dappend, appTag, rowsOf, elemOk, growLimit, dbuildCells, dbuildCells.go, structOk, fieldsOk, dbuildRows, goInt]
    refine hK _ _ (Dwp.ret ?_) rfl
    simp [Done, dresults, dres, frz, frz1, frz2, Ex.then, upd, Enc.bool, hf]
  have c3 : ¬ (250 : Int) < (s.ops.length : Int) + (s.funs.length : Int) := by omega
  by_cases b4 : s.values.length ≤ 100
  case neg =>
    have b4'' : (100 : Int) < (s.values.length : Int) := by omega
    have hf : few s = false := by simp [few, b4]
    simp [drunL, drunO, dwanted, dopS, own, plainOf, dop, dput, eval, ofVal, Then, Ex.then, Ex.inBlock, upd, dbin, Tag.isNN, nilTest, intCmp, dload, dpart, TyI.agg, dfieldAddr, dfield, dindexAddr, dindex, dlen, lenOk, dlookup, mapOf, keyFits, dmapUpdate, dcallee, dbuiltin, dstore, DV.cells, setAt, dslice, dboundOk, dappend, appTag, rowsOf, elemOk, growLimit, dbuildCells, dbuildCells.go, structOk, fieldsOk, dbuildRows, goInt, ty26, ty22, ty23, ty24, strsC, belsC, opsC, c1, c2, hw, c3, b4'']
    refine hK _ _ ?_ rfl; clear hK K
    refine Dwp.condT (by simp [eval, upd]) ?_
    refine Dwp.step tT rfl fun K hK => ?_
    simp [drunL, drunO, dwanted, dopS, own, plainOf, dop, dput, eval, ofVal, Then, Ex.then, Ex.inBlock, upd, dbin, Tag.isNN, nilTest, intCmp, dload, dpart, TyI.agg, dfieldAddr, dfield, dindexAddr, dindex, dlen, lenOk, dlookup, mapOf, keyFits, dmapUpdate, dcallee, dcall, tabOf, dbuiltin, dstore, DV.cells, setAt, dslice, dboundOk, dappend, appTag, rowsOf, elemOk, growLimit, dbuildCells, dbuildCells.go, structOk, fieldsOk, dbuildRows, goInt]
    refine hK _ _ (Dwp.ret ?_) rfl
    simp [Done, dresults, dres, frz, frz1, frz2, Ex.then, upd, Enc.bool, hf]
  have c4 : ¬ (100 : Int) < (s.values.length : Int) := by omega
  simp [drunL, drunO, dwanted, dopS, own, plainOf, dop, dput, eval, ofVal, Then, Ex.then, Ex.inBlock, upd, dbin, Tag.isNN, nilTest, intCmp, dload, dpart, TyI.agg, dfieldAddr, dfield, dindexAddr, dindex, dlen, lenOk, dlookup, mapOf, keyFits, dmapUpdate, dcallee, dbuiltin, dstore, DV.cells, setAt, dslice, dboundOk, dappend, appTag, rowsOf, elemOk, growLimit, dbuildCells, dbuildCells.go, structOk, fieldsOk, dbuildRows, goInt, ty26, ty22, ty23, ty24, strsC, belsC, opsC, c1, c2, hw, c3, c4]
  refine hK _ _ ?_ rfl; clear hK K
  refine Dwp.condF (by simp [eval, upd]) (Dwp.skip ?_)
  refine Dwp.step tT rfl fun K hK => ?_
  simp [drunL, drunO, dwanted, dopS, own, plainOf, dop, dput, eval, ofVal, Then, Ex.then, Ex.inBlock, upd, dbin, Tag.isNN, nilTest, intCmp, dload, dpart, TyI.agg, dfieldAddr, dfield, dindexAddr, dindex, dlen, lenOk, dlookup, mapOf, keyFits, dmapUpdate, dcallee, dcall, tabOf, dbuiltin, dstore, DV.cells, setAt, dslice, dboundOk, dappend, appTag, rowsOf, elemOk, growLimit, dbuildCells, dbuildCells.go, structOk, fieldsOk, dbuildRows, goInt]
  refine hK _ _ ?_ rfl; clear hK K
  obtain ⟨l, hle⟩ : ∃ l, l = s.ops ++ s.funs := ⟨_, rfl⟩
  have hll : l.length = s.ops.length + s.funs.length := by rw [hle]; simp
  have hfew : few s = decide (weight l ≤ 3000) := by simp [few, b1, b2, b3, b4, hle]
  have z7 : s.ops.length ≤ 16777216 := by omega
  have z8 : s.ops.length + s.funs.length ≤ 16777216 := by omega
  refine Dwp.seq ?_
  refine Dwp.drawStep [.none, .none, .none, .tok, .none, .none, .tok, .none, .none] mixed tT rfl (by decide) fun K hK => ?_
  simp [drunT, touch, touchP, drunL, drunO, dwanted, dopS, own, plainOf, dop, dput, eval, ofVal, Then, Ex.then, Ex.inBlock, upd, dbin, Tag.isNN, nilTest, intCmp, dload, dpart, TyI.agg, dfieldAddr, dfield, dindexAddr, dindex, dlen, lenOk, dlookup, mapOf, keyFits, dmapUpdate, dcallee, dbuiltin, dstore, DV.cells, setAt, dslice, dboundOk, dappend, appTag, rowsOf, elemOk, growLimit, dbuildCells, dbuildCells.go, structOk, fieldsOk, dbuildRows, goInt, ty26, ty24, ty38, opsC, z7, z8]
  refine hK _ _ ?_ rfl; clear hK K
  have hmap : s.ops.map EncR.opd.enc ++ s.funs.map EncR.opd.enc = l.map EncR.opd.enc := by rw [hle, List.map_append]
  rw [hmap]
  rw [← hle] at z6
  rw [hfew]
  have hll2 : l.length ≤ 250 := by omega
  have hlc : ((s.ops.length : Int) + (s.funs.length : Int)) = (l.length : Int) := by omega
  clear hmap hle hfew b1 b2 b3 b4 c1 c2 c3 c4 hw z1 z2 z3 z4 z5 z7 z8
  refine Dwp.block (Dwp.loop (inv10 l) l.length ⟨0, _, by simp, by simp, by simp [weight], by simp [upd, weight], by simp [upd]; rfl, by simp [upd, hlc], by simp [upd]⟩ ?_)
  rintro k a σ ⟨i, tag, hi, rfl, hwt, h3, h38, h39, h40⟩
  refine Dwp.step tT rfl fun K hK => ?_
  simp [drunL, drunO, dwanted, dopS, own, plainOf, dop, dput, eval, ofVal, Then, Ex.then, Ex.inBlock, upd, dbin, Tag.isNN, nilTest, intCmp, dload, dpart, TyI.agg, dfieldAddr, dfield, dindexAddr, dindex, dlen, lenOk, dlookup, mapOf, keyFits, dmapUpdate, dcallee, dcall, tabOf, dbuiltin, dstore, DV.cells, setAt, dslice, dboundOk, dappend, appTag, rowsOf, elemOk, growLimit, dbuildCells, dbuildCells.go, structOk, fieldsOk, dbuildRows, goInt, h39, h40]
  refine hK _ _ ?_ rfl; clear hK K
  by_cases hlt : i < l.length
  · refine Dwp.seq (Dwp.condT (by simp [eval, upd, hlt]) (Dwp.skip ?_))
    refine Dwp.seq (Dwp.block ?_)
    refine Dwp.step tT rfl fun K hK => ?_
    have setO' := setO
    simp only [noOpD] at setO'
    simp [drunL, drunO, dwanted, dopS, own, plainOf, dop, dput, eval, ofVal, Then, Ex.then, Ex.inBlock, upd, dbin, Tag.isNN, nilTest, intCmp, dload, dpart, TyI.agg, dfieldAddr, dfield, dindexAddr, dindex, dlen, lenOk, dlookup, mapOf, keyFits, dmapUpdate, dcallee, dbuiltin, dstore, DV.cells, dslice, dboundOk, dappend, appTag, rowsOf, elemOk, growLimit, dbuildCells, dbuildCells.go, structOk, fieldsOk, dbuildRows, goInt, h38, h40, ty24, ty38, hlt, setO']
    refine hK _ _ ?_ rfl; clear hK K
    obtain ⟨y1, y2, y3⟩ := z6 l[i] (List.getElem_mem hlt)
    have hsn := weight_snoc hlt
    unfold OpD.wt at hsn
    have w1 : IntKind.i64.wrap ((l[i].args.length : Int) + (l[i].pieces.length : Int)) = (l[i].args.length : Int) + (l[i].pieces.length : Int) := wrap_small (n := (l[i].args.length : Int) + (l[i].pieces.length : Int)) (by omega) (by omega)
    have w2 : IntKind.i64.wrap ((l[i].args.length : Int) + (l[i].pieces.length : Int) + (l[i].strict.length : Int)) = (l[i].args.length : Int) + (l[i].pieces.length : Int) + (l[i].strict.length : Int) := wrap_small (n := (l[i].args.length : Int) + (l[i].pieces.length : Int) + (l[i].strict.length : Int)) (by omega) (by omega)
    have w3 : IntKind.i64.wrap ((weight (l.take i) : Int) + ((l[i].args.length : Int) + (l[i].pieces.length : Int) + (l[i].strict.length : Int))) = (weight (l.take (i + 1)) : Int) := by
      rw [wrap_small (n := (weight (l.take i) : Int) + ((l[i].args.length : Int) + (l[i].pieces.length : Int) + (l[i].strict.length : Int))) (by omega) (by omega), hsn]; omega
    refine Dwp.step tT rfl fun K hK => ?_
    simp [drunL, drunO, dwanted, dopS, own, plainOf, dop, dput, eval, ofVal, Then, Ex.then, Ex.inBlock, upd, dbin, Tag.isNN, nilTest, intCmp, dload, dpart, TyI.agg, dfieldAddr, dfield, dindexAddr, dindex, dlen, lenOk, dlookup, mapOf, keyFits, dmapUpdate, dcallee, dcall, tabOf, dbuiltin, dstore, DV.cells, setAt, dslice, dboundOk, dappend, appTag, rowsOf, elemOk, growLimit, dbuildCells, dbuildCells.go, structOk, fieldsOk, dbuildRows, goInt, h3, ty38, ty22, ty34, ty36, ty3, strsC, piesC, intsC, w1, w2, w3]
    refine hK _ _ ?_ rfl; clear hK K
    refine Dwp.step tT rfl fun K hK => ?_
    simp [drunL, drunO, dwanted, dopS, own, plainOf, dop, dput, eval, ofVal, Then, Ex.then, Ex.inBlock, upd, dbin, Tag.isNN, nilTest, intCmp, dload, dpart, TyI.agg, dfieldAddr, dfield, dindexAddr, dindex, dlen, lenOk, dlookup, mapOf, keyFits, dmapUpdate, dcallee, dcall, tabOf, dbuiltin, dstore, DV.cells, setAt, dslice, dboundOk, dappend, appTag, rowsOf, elemOk, growLimit, dbuildCells, dbuildCells.go, structOk, fieldsOk, dbuildRows, goInt]
    refine hK _ _ ?_ rfl; clear hK K
    by_cases hbig : weight (l.take (i + 1)) ≤ 3000
    · refine Dwp.condF (by simp [eval, upd]; omega) (Dwp.skip ?_)
      refine Dwp.reg tT rfl fun K hK => ?_
      simp [drunL, drunO, dwanted, dopS, own, plainOf, dop, dput, eval, ofVal, Then, Ex.then, Ex.inBlock, upd, dbin, Tag.isNN, nilTest, intCmp, dload, dpart, TyI.agg, dfieldAddr, dfield, dindexAddr, dindex, dlen, lenOk, dlookup, mapOf, keyFits, dmapUpdate, dcallee, dcall, tabOf, dbuiltin, dstore, DV.cells, setAt, dslice, dboundOk, dappend, appTag, rowsOf, elemOk, growLimit, dbuildCells, dbuildCells.go, structOk, fieldsOk, dbuildRows, goInt, h40]
      refine hK _ _ ?_ rfl; clear hK K
      exact ⟨l.length - (i + 1), by omega, i + 1, tag, by omega, rfl, hbig, by simp [upd], by simp [upd, h38], by simp [upd, h39], by simp [upd, wrap_small (n := (i : Int) + 1) (by omega) (by omega)]⟩
    · refine Dwp.condT (by simp [eval, upd]; omega) ?_
      refine Dwp.step tT rfl fun K hK => ?_
      simp [drunL, drunO, dwanted, dopS, own, plainOf, dop, dput, eval, ofVal, Then, Ex.then, Ex.inBlock, upd, dbin, Tag.isNN, nilTest, intCmp, dload, dpart, TyI.agg, dfieldAddr, dfield, dindexAddr, dindex, dlen, lenOk, dlookup, mapOf, keyFits, dmapUpdate, dcallee, dcall, tabOf, dbuiltin, dstore, DV.cells, setAt, dslice, dboundOk, dappend, appTag, rowsOf, elemOk, growLimit, dbuildCells, dbuildCells.go, structOk, fieldsOk, dbuildRows, goInt]
      refine hK _ _ (Dwp.ret ?_) rfl
      have : ¬ weight l ≤ 3000 := by have := weight_take l (i + 1); omega
      simp [Done, dresults, dres, frz, frz1, frz2, Ex.then, Ex.inBlock, upd, Enc.bool, this]
  · refine Dwp.seq (Dwp.condF (by simp [eval, upd, hlt]) (Dwp.exit ?_))
    simp only [Ex.then, Ex.inBlock, if_true]
    rw [List.take_of_length_le (by omega)] at hwt
    refine Dwp.step tT rfl fun K hK => ?_
    simp [drunL, drunO, dwanted, dopS, own, plainOf, dop, dput, eval, ofVal, Then, Ex.then, Ex.inBlock, upd, dbin, Tag.isNN, nilTest, intCmp, dload, dpart, TyI.agg, dfieldAddr, dfield, dindexAddr, dindex, dlen, lenOk, dlookup, mapOf, keyFits, dmapUpdate, dcallee, dcall, tabOf, dbuiltin, dstore, DV.cells, setAt, dslice, dboundOk, dappend, appTag, rowsOf, elemOk, growLimit, dbuildCells, dbuildCells.go, structOk, fieldsOk, dbuildRows, goInt]
    refine hK _ _ (Dwp.ret ?_) rfl
    simp [Done, dresults, dres, frz, frz1, frz2, upd, Enc.bool, hwt]
theorem e10 : Go.FA.Good Tryz.prog (10, s10) := ⟨c10, Tryz.f10, _, Tryz.func10, rfl, by decide⟩
end Go.Proofs.Yt
namespace Go.Proofs.Yt
open Go Go.FA Go.Proofs
set_option linter.unusedVariables false
set_option linter.unusedSimpArgs false
set_option maxRecDepth 100000

theorem sortB_eq {l m : List ByteArray} (h : l.Perm m) (hs : (m.map bl).Pairwise fun a b => decide (a ≤ b) = true) : sortB l = m := by
  have h1 := sortB_perm h
  rw [h1]
  unfold sortB
  have tr : ∀ (a b c : List UInt8), decide (a ≤ b) = true → decide (b ≤ c) = true → decide (a ≤ c) = true := fun a b c h1 h2 => by
    simp only [decide_eq_true_eq] at *; exact List.le_trans h1 h2
  have to : ∀ (a b : List UInt8), (decide (a ≤ b) || decide (b ≤ a)) = true := fun a b => by
    simp only [Bool.or_eq_true, decide_eq_true_eq]; exact List.le_total a b
  have : ((m.map bl).mergeSort fun x y => decide (x ≤ y)) = m.map bl := by
    refine List.Perm.eq_of_pairwise (le := fun a b => decide (a ≤ b) = true) (fun a b _ _ h1 h2 => ?_) (List.pairwise_mergeSort tr to _) hs (List.mergeSort_perm _ _)
    simp only [decide_eq_true_eq] at h1 h2; exact List.le_antisymm h1 h2
  rw [this, List.map_map]
  exact (List.map_congr_left fun s _ => lb_bl s).trans (List.map_id _)

def fooS : ByteArray := ⟨#[70, 111, 111]⟩
def nopeS : ByteArray := ⟨#[78, 111, 112, 101]⟩
def anyT : ByteArray := ⟨#[65, 110, 121]⟩
def sums2 : SigD := ⟨[fooS, pgmS], [⟨intS, fooS⟩, ⟨fooS, pgmS⟩], [⟨plusS, [fooS, fooS], fooS, [⟨⟨#[]⟩, fooS⟩, ⟨⟨#[43]⟩, ⟨#[]⟩⟩, ⟨⟨#[]⟩, fooS⟩], 5, 1, [1, 2]⟩], [], [intS]⟩
def plusO : OpD := ⟨plusS, [expS, expS], expS, [⟨⟨#[]⟩, expS⟩, ⟨⟨#[43]⟩, ⟨#[]⟩⟩, ⟨⟨#[]⟩, expS⟩], 5, 1, [1, 2]⟩
def meetF (s : SigD) (lo hi : ByteArray) : Option (Bool × Int) := withBook (openF s [lo, hi]) false fun b => b.meet lo hi
def valueF (s : SigD) (x : ByteArray) : Option (Bool × Int) := withBook (openF s [x]) false fun b => valueB s b x
theorem aw1 : atMostF sums intS expS = some (true, 0) := by kernel_rfl
theorem aw2 : atMostF sums expS intS = some (false, 0) := by kernel_rfl
theorem aw3 : atMostF sums intS nopeS = some (false, 13) := by kernel_rfl
theorem aw4 : validF sums = some true := by kernel_rfl
theorem aw5 : (findF22 sums plusS) = some (plusO, 0) := by kernel_rfl
theorem aw6 : findF25 sums plusS = some (noOp, 4) := by kernel_rfl
theorem aw7 : valueF sums expS = some (false, 0) := by kernel_rfl
theorem aw8 : meetF sums pgmS intS = some (true, 0) := by kernel_rfl
theorem aw9 : renameF sums expS fooS = some (sums2, 0) := by kernel_rfl
def thatL (k : Book) (f : Nat) (b : Book) (x : ByteArray) : Option (List ByteArray) :=
  if k.highs.length ≤ 1000 ∧ (f = 62 ∨ f = 65) ∧ (k.highs.all fun p => (b.clo f x p.1).isSome) = true then some ((k.highs.map (·.1)).filter (cloB b f x)) else none
theorem thatF_eq (k : Book) (f : Nat) (b : Book) (x : ByteArray) : thatF k f b x = (thatL k f b x).map sortB := by
  unfold thatF thatL; split <;> rfl
theorem withBook_map {β γ : Type} (r : Option (Option Book × Int)) (no : β) (f : Book → Option β) (g : β → γ) : withBook r (g no) (fun b => (f b).map g) = (withBook r no f).map fun x => (g x.1, x.2) := by
  unfold withBook
  split
  · split
    · next b e h => simp only [Option.map_map]; rfl
    · rfl
  · split <;> rfl
  · rfl
theorem that_eq (s : SigD) (names : List ByteArray) (f : Nat) (x : ByteArray) : withBook (openF s names) [] (fun b => thatF b f b x) = (withBook (openF s names) [] fun b => thatL b f b x).map fun r => (sortB r.1, r.2) := by
  have h0 : sortB [] = [] := by simp [sortB]
  have := withBook_map (openF s names) [] (fun b => thatL b f b x) sortB
  rw [h0] at this
  rw [← this]
  congr 1; funext b; exact thatF_eq b f b x
theorem aw10 : thatErr27 sums intS = some ([anyT, expS, intS, pgmS], 0) := by
  have h1 : (withBook (openF sums [intS]) [] fun b => thatL b 62 b intS) = some ([anyT, intS, expS, pgmS], 0) := by kernel_rfl
  unfold thatErr27
  rw [that_eq, h1]
  have : sortB [anyT, intS, expS, pgmS] = [anyT, expS, intS, pgmS] := sortB_eq (.cons _ (.swap _ _ _)) (by decide)
  simp [this]
theorem aw11 : thatErr30 sums expS = some ([expS, intS], 0) := by
  have h1 : (withBook (openF sums [expS]) [] fun b => thatL b 65 b expS) = some ([intS, expS], 0) := by kernel_rfl
  unfold thatErr30
  rw [that_eq, h1]
  have : sortB [intS, expS] = [expS, intS] := sortB_eq (.swap _ _ _) (by decide)
  simp [this]
end Go.Proofs.Yt
