/- Contracts of functions of the program, by a machine over abstract values; part 8. No condition beyond those of each theorem. -/
import Derived.Test.YtfpejlbfdpeofaaGreatDoorSm6
import Derived.Shelf.Strings.Search1
import Derived.Shelf.Spec.SlicesGrow
namespace Go.Proofs.Yt
open Go Go.FA Go.Proofs
set_option linter.unusedVariables false
set_option linter.unusedSimpArgs false
set_option maxRecDepth 100000

def pieArgs : List Pie → Option (List ByteArray)
  | [] => some []
  | p :: r => if p.sort = ⟨#[]⟩ then (if isPiece p.text then pieArgs r else none) else if p.text = ⟨#[]⟩ then (pieArgs r).map (p.sort :: ·) else none
def okPieces (o : OpD) : Bool :=
  if o.pieces.length = 0 then true else if 20 < o.pieces.length then false else decide (pieArgs o.pieces = some o.args)
theorem call354 (T : Tab) (hT : T 354 = some s354) (s : ByteArray) : dcall T 354 [.lit (.string s)] = some (.lit (.bool (isPiece s))) := by
  simp [dcall, hT, s354, sp, arg1, EncR.one, Enc.str, Enc.bool]
theorem call355 (T : Tab) (hT : T 355 = some s355) (d e : DV) (l m : List ByteArray) (hd : Enc.strs.dec d = some l) (he : Enc.strs.dec e = some m) (hl : l.length ≤ lim) (hm : m.length ≤ lim) :
    dcall T 355 [d, e] = some (.lit (.bool (decide (l = m)))) := by
  simp [dcall, hT, s355, sp, arg2, EncR.and, EncR.one, hd, he, hl, hm, Enc.bool]

def s346 : Sp := sp (arg1 Enc.opd) Enc.bool (fun o => if o.args.length ≤ lim then some (okPieces o) else none)
def inv346 (o : OpD) : Nat → (Nat → DV) → St → Prop := fun k a σ => ∃ (i : Nat) (acc : List ByteArray), i ≤ o.pieces.length ∧ k = o.pieces.length - i ∧ pieArgs o.pieces = (pieArgs (o.pieces.drop i)).map (acc ++ ·) ∧ acc.length ≤ i ∧
  a 1 = .row (EncR.opd.enc o) 0 ∧ a 15 = .slice 2 .none (o.pieces.map EncR.pie.enc) ∧ a 16 = .lit (.int .i64 o.pieces.length) ∧ a 17 = .lit (.int .i64 i) ∧ Acc σ 1 (acc.map fun s => [DV.lit (.string s)]) (a 3)
theorem t134 : TabOk Tryz.prog (tabOf [(354, s354), (355, s355)]) := .cons e354 (.cons e355 .nil)
theorem c346 : CallSound Tryz.prog 346 s346 := by
  refine CallSound.of_sp (T := tabOf [(354, s354), (355, s355)]) Tryz.func346 rfl (Nat.le_of_ble_eq_true rfl) fun E o y hy => ?_
  by_cases hlim : o.args.length ≤ lim <;> simp [hlim] at hy
  subst hy
  refine Dwp.step t134 rfl fun K hK => ?_
  simp [drunL, drunO, dwanted, dopS, own, plainOf, dop, dput, eval, ofVal, Then, Ex.then, Ex.inBlock, upd, dbin, Tag.isNN, nilTest, intCmp, dload, dpart, TyI.agg, dfieldAddr, dfield, dindexAddr, dindex, dlen, lenOk, dlookup, mapOf, assocM, keyFits, dmapUpdate, dcallee, dcall, tabOf, dbuiltin, dstore, DV.cells, setAt, dslice, dboundOk, dappend, appTag, rowsOf, elemOk, growLimit, dbuildCells, dbuildCells.go, structOk, fieldsOk, dbuildRows, goInt, init, arg1, arg2, arg3, EncR.one, EncR.and, Enc.bool, Enc.int, Enc.str, Enc.strs, Enc.slice, Enc.agg, Enc.tup, Enc.err, Enc.fn, Enc.opd]
  refine hK _ _ ?_ rfl; clear hK K
  refine Dwp.seq ?_
  refine Dwp.step t134 rfl fun K hK => ?_
  simp [drunL, drunO, dwanted, dopS, own, plainOf, dop, dput, eval, ofVal, Then, Ex.then, Ex.inBlock, upd, dbin, Tag.isNN, nilTest, intCmp, dload, dpart, TyI.agg, dfieldAddr, dfield, dindexAddr, dindex, dlen, lenOk, dlookup, mapOf, assocM, keyFits, dmapUpdate, dcallee, dcall, tabOf, dbuiltin, dstore, DV.cells, setAt, dslice, dboundOk, dappend, appTag, rowsOf, elemOk, growLimit, dbuildCells, dbuildCells.go, structOk, fieldsOk, dbuildRows, goInt, ty83, ty80, EncR.opd, Enc.pies, Enc.slice]
  refine hK _ _ ?_ rfl; clear hK K
  by_cases h0 : o.pieces.length = 0
  · have h0' : o.pieces = [] := List.length_eq_zero_iff.1 h0
    refine Dwp.condT (by simp [eval, upd, h0']) ?_
    refine Dwp.step t134 rfl fun K hK => ?_
    simp [drunL, drunO, dwanted, dopS, own, plainOf, dop, dput, eval, ofVal, Then, Ex.then, Ex.inBlock, upd, dbin, Tag.isNN, nilTest, intCmp, dload, dpart, TyI.agg, dfieldAddr, dfield, dindexAddr, dindex, dlen, lenOk, dlookup, mapOf, assocM, keyFits, dmapUpdate, dcallee, dcall, tabOf, dbuiltin, dstore, DV.cells, setAt, dslice, dboundOk, dappend, appTag, rowsOf, elemOk, growLimit, dbuildCells, dbuildCells.go, structOk, fieldsOk, dbuildRows, goInt]
    refine hK _ _ (Dwp.ret ?_) rfl
    simp [Done, dresults, dres, frz, frz1, frz2, init, arg1, arg2, arg3, EncR.one, EncR.and, Enc.bool, Enc.int, Enc.str, Enc.strs, Enc.slice, Enc.agg, Enc.tup, Enc.err, Enc.fn, Ex.then, upd, okPieces, h0']
  refine Dwp.condF (by have h0' : o.pieces ≠ [] := fun e => h0 (by simp [e]); simp [eval, upd, h0']) (Dwp.skip ?_)
  refine Dwp.seq ?_
  refine Dwp.step t134 rfl fun K hK => ?_
  simp [drunL, drunO, dwanted, dopS, own, plainOf, dop, dput, eval, ofVal, Then, Ex.then, Ex.inBlock, upd, dbin, Tag.isNN, nilTest, intCmp, dload, dpart, TyI.agg, dfieldAddr, dfield, dindexAddr, dindex, dlen, lenOk, dlookup, mapOf, assocM, keyFits, dmapUpdate, dcallee, dcall, tabOf, dbuiltin, dstore, DV.cells, setAt, dslice, dboundOk, dappend, appTag, rowsOf, elemOk, growLimit, dbuildCells, dbuildCells.go, structOk, fieldsOk, dbuildRows, goInt, ty83, ty80, EncR.opd, Enc.pies, Enc.slice]
  refine hK _ _ ?_ rfl; clear hK K
  by_cases h20 : 20 < o.pieces.length
  · have h20' : (20 : Int) < o.pieces.length := by omega
    refine Dwp.condT (by simp [eval, upd, h20']) ?_
    refine Dwp.step t134 rfl fun K hK => ?_
    simp [drunL, drunO, dwanted, dopS, own, plainOf, dop, dput, eval, ofVal, Then, Ex.then, Ex.inBlock, upd, dbin, Tag.isNN, nilTest, intCmp, dload, dpart, TyI.agg, dfieldAddr, dfield, dindexAddr, dindex, dlen, lenOk, dlookup, mapOf, assocM, keyFits, dmapUpdate, dcallee, dcall, tabOf, dbuiltin, dstore, DV.cells, setAt, dslice, dboundOk, dappend, appTag, rowsOf, elemOk, growLimit, dbuildCells, dbuildCells.go, structOk, fieldsOk, dbuildRows, goInt]
    refine hK _ _ (Dwp.ret ?_) rfl
    simp [Done, dresults, dres, frz, frz1, frz2, init, arg1, arg2, arg3, EncR.one, EncR.and, Enc.bool, Enc.int, Enc.str, Enc.strs, Enc.slice, Enc.agg, Enc.tup, Enc.err, Enc.fn, Ex.then, upd, okPieces, h0, h20]
  have h20' : ¬ (20 : Int) < o.pieces.length := by omega
  refine Dwp.condF (by simp [eval, upd, h20']) (Dwp.skip ?_)
  refine Dwp.step t134 rfl fun K hK => ?_
  simp [drunL, drunO, dwanted, dopS, own, plainOf, dop, dput, eval, ofVal, Then, Ex.then, Ex.inBlock, upd, dbin, Tag.isNN, nilTest, intCmp, dload, dpart, TyI.agg, dfieldAddr, dfield, dindexAddr, dindex, dlen, lenOk, dlookup, mapOf, assocM, keyFits, dmapUpdate, dcallee, dcall, tabOf, dbuiltin, dstore, DV.cells, setAt, dslice, dboundOk, dappend, appTag, rowsOf, elemOk, growLimit, dbuildCells, dbuildCells.go, structOk, fieldsOk, dbuildRows, goInt]
  refine hK _ _ ?_ rfl; clear hK K
  refine Dwp.seq ?_
  refine Dwp.step t134 rfl fun K hK => ?_
  simp [drunL, drunO, dwanted, dopS, own, plainOf, dop, dput, eval, ofVal, Then, Ex.then, Ex.inBlock, upd, dbin, Tag.isNN, nilTest, intCmp, dload, dpart, TyI.agg, dfieldAddr, dfield, dindexAddr, dindex, dlen, lenOk, dlookup, mapOf, assocM, keyFits, dmapUpdate, dcallee, dcall, tabOf, dbuiltin, dstore, DV.cells, setAt, dslice, dboundOk, dappend, appTag, rowsOf, elemOk, growLimit, dbuildCells, dbuildCells.go, structOk, fieldsOk, dbuildRows, goInt, ty83, ty80, EncR.opd, Enc.pies, Enc.slice]
  refine hK _ _ ?_ rfl; clear hK K
  refine Dwp.block (Dwp.loop (inv346 o) o.pieces.length ⟨0, [], by simp, by simp, by simp, by simp, by simp [upd, EncR.opd, Enc.pies, Enc.slice], by simp [upd], by simp [upd], by simp [upd], .inl ⟨rfl, by simp [upd]⟩⟩ ?_)
  rintro k a σ ⟨i, acc, hi, rfl, hpa, hacc, h1, h15, h16, h17, h3⟩
  refine Dwp.step t134 rfl fun K hK => ?_
  simp [drunL, drunO, dwanted, dopS, own, plainOf, dop, dput, eval, ofVal, Then, Ex.then, Ex.inBlock, upd, dbin, Tag.isNN, nilTest, intCmp, dload, dpart, TyI.agg, dfieldAddr, dfield, dindexAddr, dindex, dlen, lenOk, dlookup, mapOf, assocM, keyFits, dmapUpdate, dcallee, dcall, tabOf, dbuiltin, dstore, DV.cells, setAt, dslice, dboundOk, dappend, appTag, rowsOf, elemOk, growLimit, dbuildCells, dbuildCells.go, structOk, fieldsOk, dbuildRows, goInt, h16, h17]
  refine hK _ _ ?_ rfl; clear hK K
  by_cases hlt : i < o.pieces.length
  · rw [List.drop_eq_getElem_cons hlt, pieArgs] at hpa
    refine Dwp.seq (Dwp.condT (by simp [eval, upd, hlt]) (Dwp.skip ?_))
    refine Dwp.seq (Dwp.block ?_)
    refine Dwp.step t134 rfl fun K hK => ?_
    simp [drunL, drunO, dwanted, dopS, own, plainOf, dop, dput, eval, ofVal, Then, Ex.then, Ex.inBlock, upd, dbin, Tag.isNN, nilTest, intCmp, dload, dpart, TyI.agg, dfieldAddr, dfield, dindexAddr, dindex, dlen, lenOk, dlookup, mapOf, assocM, keyFits, dmapUpdate, dcallee, dcall, tabOf, dbuiltin, dstore, DV.cells, setAt, dslice, dboundOk, dappend, appTag, rowsOf, elemOk, growLimit, dbuildCells, dbuildCells.go, structOk, fieldsOk, dbuildRows, goInt, h15, h17, ty80, ty235, hlt, EncR.pie]
    refine hK _ _ ?_ rfl; clear hK K
    refine Dwp.block ?_
    refine Dwp.step t134 rfl fun K hK => ?_
    simp [drunL, drunO, dwanted, dopS, own, plainOf, dop, dput, eval, ofVal, Then, Ex.then, Ex.inBlock, upd, dbin, Tag.isNN, nilTest, intCmp, dload, dpart, TyI.agg, dfieldAddr, dfield, dindexAddr, dindex, dlen, lenOk, dlookup, mapOf, assocM, keyFits, dmapUpdate, dcallee, dcall, tabOf, dbuiltin, dstore, DV.cells, setAt, dslice, dboundOk, dappend, appTag, rowsOf, elemOk, growLimit, dbuildCells, dbuildCells.go, structOk, fieldsOk, dbuildRows, goInt, ty235, ty9]
    refine hK _ _ ?_ rfl; clear hK K
    by_cases hs : o.pieces[i].sort = ⟨#[]⟩
    · refine Dwp.condT (by simp [eval, upd, hs]) ?_
      refine Dwp.step t134 rfl fun K hK => ?_
      have g := call354 (tabOf [(354, s354), (355, s355)]) rfl o.pieces[i].text
      simp [dcall, tabOf] at g
      simp [drunL, drunO, dwanted, dopS, own, plainOf, dop, dput, eval, ofVal, Then, Ex.then, Ex.inBlock, upd, dbin, Tag.isNN, nilTest, intCmp, dload, dpart, TyI.agg, dfieldAddr, dfield, dindexAddr, dindex, dlen, lenOk, dlookup, mapOf, assocM, keyFits, dmapUpdate, dcallee, dcall, tabOf, dbuiltin, dstore, DV.cells, setAt, dslice, dboundOk, dappend, appTag, rowsOf, elemOk, growLimit, dbuildCells, dbuildCells.go, structOk, fieldsOk, dbuildRows, goInt, ty235, ty9, g]
      refine hK _ _ ?_ rfl; clear hK K
      by_cases hp : isPiece o.pieces[i].text = true
      · refine Dwp.condF (by simp [eval, upd, hp]) (Dwp.skip ?_)
        simp [hs, hp] at hpa
        refine Dwp.reg t134 rfl fun K hK => ?_
        simp [drunL, drunO, dwanted, dopS, own, plainOf, dop, dput, eval, ofVal, Then, Ex.then, Ex.inBlock, upd, dbin, Tag.isNN, nilTest, intCmp, dload, dpart, TyI.agg, dfieldAddr, dfield, dindexAddr, dindex, dlen, lenOk, dlookup, mapOf, assocM, keyFits, dmapUpdate, dcallee, dcall, tabOf, dbuiltin, dstore, DV.cells, setAt, dslice, dboundOk, dappend, appTag, rowsOf, elemOk, growLimit, dbuildCells, dbuildCells.go, structOk, fieldsOk, dbuildRows, goInt, h17]
        refine hK _ _ ?_ rfl; clear hK K
        exact ⟨o.pieces.length - (i + 1), by omega, i + 1, acc, by omega, rfl, hpa, by omega, by simp [upd, h1], by simp [upd, h15], by simp [upd, h16], by simp [upd, wrap_small (n := (i : Int) + 1) (by omega) (by omega)], by simp only [upd]; exact h3.toks rfl⟩
      · refine Dwp.condT (by simp [eval, upd, hp]) ?_
        simp [hs, hp] at hpa
        refine Dwp.step t134 rfl fun K hK => ?_
        simp [drunL, drunO, dwanted, dopS, own, plainOf, dop, dput, eval, ofVal, Then, Ex.then, Ex.inBlock, upd, dbin, Tag.isNN, nilTest, intCmp, dload, dpart, TyI.agg, dfieldAddr, dfield, dindexAddr, dindex, dlen, lenOk, dlookup, mapOf, assocM, keyFits, dmapUpdate, dcallee, dcall, tabOf, dbuiltin, dstore, DV.cells, setAt, dslice, dboundOk, dappend, appTag, rowsOf, elemOk, growLimit, dbuildCells, dbuildCells.go, structOk, fieldsOk, dbuildRows, goInt]
        refine hK _ _ (Dwp.ret ?_) rfl
        simp [Done, dresults, dres, frz, frz1, frz2, init, arg1, arg2, arg3, EncR.one, EncR.and, Enc.bool, Enc.int, Enc.str, Enc.strs, Enc.slice, Enc.agg, Enc.tup, Enc.err, Enc.fn, Ex.then, Ex.inBlock, upd, okPieces, h0, h20, hpa]
    · refine Dwp.condF (by simp [eval, upd, hs]) ?_
      refine Dwp.step t134 rfl fun K hK => ?_
      simp [drunL, drunO, dwanted, dopS, own, plainOf, dop, dput, eval, ofVal, Then, Ex.then, Ex.inBlock, upd, dbin, Tag.isNN, nilTest, intCmp, dload, dpart, TyI.agg, dfieldAddr, dfield, dindexAddr, dindex, dlen, lenOk, dlookup, mapOf, assocM, keyFits, dmapUpdate, dcallee, dcall, tabOf, dbuiltin, dstore, DV.cells, setAt, dslice, dboundOk, dappend, appTag, rowsOf, elemOk, growLimit, dbuildCells, dbuildCells.go, structOk, fieldsOk, dbuildRows, goInt, ty235, ty9]
      refine hK _ _ ?_ rfl; clear hK K
      by_cases ht : o.pieces[i].text = ⟨#[]⟩
      · refine Dwp.condT (by simp [eval, upd, ht]) ?_
        simp only [hs, ht, if_false, if_true] at hpa
        refine Dwp.reg t134 rfl fun K hK => ?_
        have hpa' : pieArgs o.pieces = (pieArgs (o.pieces.drop (i + 1))).map ((acc ++ [o.pieces[i].sort]) ++ ·) := by
          rw [hpa]; cases pieArgs (o.pieces.drop (i + 1)) <;> simp
        have hsmall : acc.length + 1 ≤ 16777216 := by omega
        rcases h3 with ⟨hr, h3⟩ | ⟨tk, g, h3, hg⟩
        · simp at hr; subst hr
          simp [drunL, drunO, dwanted, dopS, own, plainOf, dop, dput, eval, ofVal, Then, Ex.then, Ex.inBlock, upd, dbin, Tag.isNN, nilTest, intCmp, dload, dpart, TyI.agg, dfieldAddr, dfield, dindexAddr, dindex, dlen, lenOk, dlookup, mapOf, assocM, keyFits, dmapUpdate, dcallee, dcall, tabOf, dbuiltin, dstore, DV.cells, setAt, dslice, dboundOk, dappend, appTag, rowsOf, elemOk, growLimit, dbuildCells, dbuildCells.go, structOk, fieldsOk, dbuildRows, goInt, h3, ty235, ty9, ty22]
          refine hK _ _ ?_ rfl; clear hK K
          refine Dwp.reg t134 rfl fun K hK => ?_
          simp [drunL, drunO, dwanted, dopS, own, plainOf, dop, dput, eval, ofVal, Then, Ex.then, Ex.inBlock, upd, dbin, Tag.isNN, nilTest, intCmp, dload, dpart, TyI.agg, dfieldAddr, dfield, dindexAddr, dindex, dlen, lenOk, dlookup, mapOf, assocM, keyFits, dmapUpdate, dcallee, dcall, tabOf, dbuiltin, dstore, DV.cells, setAt, dslice, dboundOk, dappend, appTag, rowsOf, elemOk, growLimit, dbuildCells, dbuildCells.go, structOk, fieldsOk, dbuildRows, goInt, h17]
          refine hK _ _ ?_ rfl; clear hK K
          exact ⟨o.pieces.length - (i + 1), by omega, i + 1, _, by omega, rfl, hpa', by simp <;> omega, by simp [upd, h1], by simp [upd, h15], by simp [upd, h16], by simp [upd, wrap_small (n := (i : Int) + 1) (by omega) (by omega)], .inr ⟨_, _, by simp [upd]; exact ⟨rfl, rfl⟩, by simp [upd]⟩⟩
        · simp [drunL, drunO, dwanted, dopS, own, plainOf, dop, dput, eval, ofVal, Then, Ex.then, Ex.inBlock, upd, dbin, Tag.isNN, nilTest, intCmp, dload, dpart, TyI.agg, dfieldAddr, dfield, dindexAddr, dindex, dlen, lenOk, dlookup, mapOf, assocM, keyFits, dmapUpdate, dcallee, dcall, tabOf, dbuiltin, dstore, DV.cells, setAt, dslice, dboundOk, dappend, appTag, rowsOf, elemOk, growLimit, dbuildCells, dbuildCells.go, structOk, fieldsOk, dbuildRows, goInt, h3, hg, ty235, ty9, ty22, hsmall]
          refine hK _ _ ?_ rfl; clear hK K
          refine Dwp.reg t134 rfl fun K hK => ?_
          simp [drunL, drunO, dwanted, dopS, own, plainOf, dop, dput, eval, ofVal, Then, Ex.then, Ex.inBlock, upd, dbin, Tag.isNN, nilTest, intCmp, dload, dpart, TyI.agg, dfieldAddr, dfield, dindexAddr, dindex, dlen, lenOk, dlookup, mapOf, assocM, keyFits, dmapUpdate, dcallee, dcall, tabOf, dbuiltin, dstore, DV.cells, setAt, dslice, dboundOk, dappend, appTag, rowsOf, elemOk, growLimit, dbuildCells, dbuildCells.go, structOk, fieldsOk, dbuildRows, goInt, h17]
          refine hK _ _ ?_ rfl; clear hK K
          exact ⟨o.pieces.length - (i + 1), by omega, i + 1, _, by omega, rfl, hpa', by simp <;> omega, by simp [upd, h1], by simp [upd, h15], by simp [upd, h16], by simp [upd, wrap_small (n := (i : Int) + 1) (by omega) (by omega)], .inr ⟨_, _, by simp [upd]; exact ⟨rfl, rfl⟩, by simp [upd]⟩⟩
      · refine Dwp.condF (by simp [eval, upd, ht]) ?_
        simp [hs, ht] at hpa
        refine Dwp.step t134 rfl fun K hK => ?_
        simp [drunL, drunO, dwanted, dopS, own, plainOf, dop, dput, eval, ofVal, Then, Ex.then, Ex.inBlock, upd, dbin, Tag.isNN, nilTest, intCmp, dload, dpart, TyI.agg, dfieldAddr, dfield, dindexAddr, dindex, dlen, lenOk, dlookup, mapOf, assocM, keyFits, dmapUpdate, dcallee, dcall, tabOf, dbuiltin, dstore, DV.cells, setAt, dslice, dboundOk, dappend, appTag, rowsOf, elemOk, growLimit, dbuildCells, dbuildCells.go, structOk, fieldsOk, dbuildRows, goInt]
        refine hK _ _ (Dwp.ret ?_) rfl
        simp [Done, dresults, dres, frz, frz1, frz2, init, arg1, arg2, arg3, EncR.one, EncR.and, Enc.bool, Enc.int, Enc.str, Enc.strs, Enc.slice, Enc.agg, Enc.tup, Enc.err, Enc.fn, Ex.then, Ex.inBlock, upd, okPieces, h0, h20, hpa]
  · refine Dwp.seq (Dwp.condF (by simp [eval, upd, hlt]) (Dwp.exit ?_))
    rw [List.drop_eq_nil_of_le (by omega)] at hpa
    simp [pieArgs] at hpa
    refine Dwp.step t134 rfl fun K hK => ?_
    have g := call355 (tabOf [(354, s354), (355, s355)]) rfl (a 3) (Enc.strs.enc o.args) acc o.args (h3.dec (A := EncR.one Enc.str) (strs_dec acc)) (Enc.strs.de _) (by unfold lim; omega) hlim
    simp [dcall, tabOf, Enc.strs, Enc.slice] at g
    simp [drunL, drunO, dwanted, dopS, own, plainOf, dop, dput, eval, ofVal, Then, Ex.then, Ex.inBlock, upd, dbin, Tag.isNN, nilTest, intCmp, dload, dpart, TyI.agg, dfieldAddr, dfield, dindexAddr, dindex, dlen, lenOk, dlookup, mapOf, assocM, keyFits, dmapUpdate, dcallee, dcall, tabOf, dbuiltin, dstore, DV.cells, setAt, dslice, dboundOk, dappend, appTag, rowsOf, elemOk, growLimit, dbuildCells, dbuildCells.go, structOk, fieldsOk, dbuildRows, goInt, h1, ty83, ty22, EncR.opd, Enc.strs, Enc.slice, g]
    refine hK _ _ (Dwp.ret ?_) rfl
    simp [Done, dresults, dres, frz, frz1, frz2, init, arg1, arg2, arg3, EncR.one, EncR.and, Enc.bool, Enc.int, Enc.str, Enc.strs, Enc.slice, Enc.agg, Enc.tup, Enc.err, Enc.fn, upd, okPieces, h0, h20, hpa]
theorem e346 : Go.FA.Good Tryz.prog (346, s346) := ⟨c346, Tryz.f346, _, Tryz.func346, rfl, by decide⟩
end Go.Proofs.Yt
namespace Go.Proofs.Yt
open Go Go.FA Go.Proofs
set_option linter.unusedVariables false
set_option linter.unusedSimpArgs false
set_option maxRecDepth 100000

def bins : List ByteArray := [⟨#[97, 100, 100]⟩, ⟨#[115, 117, 98]⟩, ⟨#[109, 117, 108]⟩, ⟨#[100, 105, 118]⟩, ⟨#[109, 111, 100]⟩, ⟨#[110, 101, 103]⟩, ⟨#[108, 116]⟩, ⟨#[108, 101]⟩, ⟨#[103, 116]⟩, ⟨#[103, 101]⟩, ⟨#[101, 113]⟩, ⟨#[110, 101]⟩, ⟨#[97, 110, 100]⟩, ⟨#[111, 114]⟩, ⟨#[110, 111, 116]⟩, ⟨#[112, 105, 99, 107]⟩, ⟨#[99, 97, 116]⟩, ⟨#[108, 101, 110, 103, 116, 104]⟩, ⟨#[116, 101, 120, 116]⟩, ⟨#[106, 111, 105, 110]⟩, ⟨#[103, 101, 116]⟩, ⟨#[112, 117, 116]⟩, ⟨#[104, 97, 115]⟩, ⟨#[100, 101, 108]⟩, ⟨#[107, 101, 121, 115]⟩, ⟨#[115, 105, 122, 101]⟩, ⟨#[105, 115]⟩, ⟨#[105, 115, 118, 97, 108, 117, 101]⟩]
def builtIn (s : ByteArray) : Bool := decide (s ∈ bins)
def s120 : Sp := sp (arg1 Enc.str) Enc.bool (fun s => some (builtIn s))
theorem c120 : CallSound Tryz.prog 120 s120 := by
  refine CallSound.of_sp (T := tabOf []) Tryz.func120 rfl (Nat.le_of_ble_eq_true rfl) fun E s y hy => ?_
  simp at hy; subst hy
  refine Dwp.step tab0 rfl fun K hK => ?_
  simp [drunL, drunO, dwanted, dopS, own, plainOf, dop, dput, eval, ofVal, Then, Ex.then, Ex.inBlock, upd, dbin, Tag.isNN, nilTest, intCmp, dload, dpart, TyI.agg, dfieldAddr, dfield, dindexAddr, dindex, dlen, lenOk, dlookup, mapOf, assocM, keyFits, dmapUpdate, dcallee, dcall, tabOf, dbuiltin, dstore, DV.cells, setAt, dslice, dboundOk, dappend, appTag, rowsOf, elemOk, growLimit, dbuildCells, dbuildCells.go, structOk, fieldsOk, dbuildRows, goInt, init, arg1, arg2, arg3, EncR.one, EncR.and, Enc.bool, Enc.int, Enc.str, Enc.strs, Enc.slice, Enc.agg, Enc.tup, Enc.err, Enc.fn]
  refine hK _ _ ?_ rfl; clear hK K
  refine Dwp.seq ?_
  refine Dwp.step tab0 rfl fun K hK => ?_
  simp [drunL, drunO, dwanted, dopS, own, plainOf, dop, dput, eval, ofVal, Then, Ex.then, Ex.inBlock, upd, dbin, Tag.isNN, nilTest, intCmp, dload, dpart, TyI.agg, dfieldAddr, dfield, dindexAddr, dindex, dlen, lenOk, dlookup, mapOf, assocM, keyFits, dmapUpdate, dcallee, dcall, tabOf, dbuiltin, dstore, DV.cells, setAt, dslice, dboundOk, dappend, appTag, rowsOf, elemOk, growLimit, dbuildCells, dbuildCells.go, structOk, fieldsOk, dbuildRows, goInt]
  refine hK _ _ ?_ rfl; clear hK K
  refine Dwp.block ?_
  refine Dwp.seq (Dwp.mono (Q := fun e a _ => e = .normal ∧ a 4 = .lit (.bool (builtIn s))) ?_ ?_)
  rotate_left
  · rintro _ a σ ⟨rfl, h4⟩
    simp only [Ex.then]
    cases hb : builtIn s with
    | true =>
      rw [hb] at h4
      refine Dwp.condT h4 ?_
      refine Dwp.step tab0 rfl fun K hK => ?_
      simp [drunL, drunO, dwanted, dopS, own, plainOf, dop, dput, eval, ofVal, Then, Ex.then, Ex.inBlock, upd, dbin, Tag.isNN, nilTest, intCmp, dload, dpart, TyI.agg, dfieldAddr, dfield, dindexAddr, dindex, dlen, lenOk, dlookup, mapOf, assocM, keyFits, dmapUpdate, dcallee, dcall, tabOf, dbuiltin, dstore, DV.cells, setAt, dslice, dboundOk, dappend, appTag, rowsOf, elemOk, growLimit, dbuildCells, dbuildCells.go, structOk, fieldsOk, dbuildRows, goInt]
      refine hK _ _ (Dwp.ret ?_) rfl
      simp [Done, dresults, dres, frz, frz1, frz2, init, arg1, arg2, arg3, EncR.one, EncR.and, Enc.bool, Enc.int, Enc.str, Enc.strs, Enc.slice, Enc.agg, Enc.tup, Enc.err, Enc.fn, Ex.then, Ex.inBlock, upd]
    | false =>
      rw [hb] at h4
      refine Dwp.condF h4 (Dwp.skip ?_)
      simp only [Ex.inBlock, Ex.then]
      refine Dwp.step tab0 rfl fun K hK => ?_
      simp [drunL, drunO, dwanted, dopS, own, plainOf, dop, dput, eval, ofVal, Then, Ex.then, Ex.inBlock, upd, dbin, Tag.isNN, nilTest, intCmp, dload, dpart, TyI.agg, dfieldAddr, dfield, dindexAddr, dindex, dlen, lenOk, dlookup, mapOf, assocM, keyFits, dmapUpdate, dcallee, dcall, tabOf, dbuiltin, dstore, DV.cells, setAt, dslice, dboundOk, dappend, appTag, rowsOf, elemOk, growLimit, dbuildCells, dbuildCells.go, structOk, fieldsOk, dbuildRows, goInt]
      refine hK _ _ (Dwp.ret ?_) rfl
      simp [Done, dresults, dres, frz, frz1, frz2, init, arg1, arg2, arg3, EncR.one, EncR.and, Enc.bool, Enc.int, Enc.str, Enc.strs, Enc.slice, Enc.agg, Enc.tup, Enc.err, Enc.fn, Ex.then, Ex.inBlock, upd]
  refine Dwp.mono (Q := fun e a _ => e = .normal ∧ a 4 = .lit (.bool (builtIn s))) ?_ (fun _ _ _ h => h)
  have h3 : (upd (upd (init [DV.lit (.string s)]) 2 (.lit (.bool false))) 3 (.lit (.string s))) 3 = .lit (.string s) := rfl
  refine Dwp.step tab0 rfl fun K hK => ?_
  simp [drunL, drunO, dwanted, dopS, own, plainOf, dop, dput, eval, ofVal, Then, Ex.then, Ex.inBlock, upd, dbin, Tag.isNN, nilTest, intCmp, dload, dpart, TyI.agg, dfieldAddr, dfield, dindexAddr, dindex, dlen, lenOk, dlookup, mapOf, assocM, keyFits, dmapUpdate, dcallee, dcall, tabOf, dbuiltin, dstore, DV.cells, setAt, dslice, dboundOk, dappend, appTag, rowsOf, elemOk, growLimit, dbuildCells, dbuildCells.go, structOk, fieldsOk, dbuildRows, goInt]
  refine hK _ _ ?_ rfl; clear hK K
  by_cases h0 : s = ⟨#[97, 100, 100]⟩
  · exact Dwp.condT (by simp [eval, upd, h0]) (Dwp.skip ⟨rfl, by simp [upd, h0]; rfl⟩)
  refine Dwp.condF (by simp [eval, upd, h0]) ?_
  refine Dwp.step tab0 rfl fun K hK => ?_
  simp [drunL, drunO, dwanted, dopS, own, plainOf, dop, dput, eval, ofVal, Then, Ex.then, Ex.inBlock, upd, dbin, Tag.isNN, nilTest, intCmp, dload, dpart, TyI.agg, dfieldAddr, dfield, dindexAddr, dindex, dlen, lenOk, dlookup, mapOf, assocM, keyFits, dmapUpdate, dcallee, dcall, tabOf, dbuiltin, dstore, DV.cells, setAt, dslice, dboundOk, dappend, appTag, rowsOf, elemOk, growLimit, dbuildCells, dbuildCells.go, structOk, fieldsOk, dbuildRows, goInt]
  refine hK _ _ ?_ rfl; clear hK K
  by_cases h1 : s = ⟨#[115, 117, 98]⟩
  · exact Dwp.condT (by simp [eval, upd, h1]) (Dwp.skip ⟨rfl, by simp [upd, h1]; rfl⟩)
  refine Dwp.condF (by simp [eval, upd, h1]) ?_
  refine Dwp.step tab0 rfl fun K hK => ?_
  simp [drunL, drunO, dwanted, dopS, own, plainOf, dop, dput, eval, ofVal, Then, Ex.then, Ex.inBlock, upd, dbin, Tag.isNN, nilTest, intCmp, dload, dpart, TyI.agg, dfieldAddr, dfield, dindexAddr, dindex, dlen, lenOk, dlookup, mapOf, assocM, keyFits, dmapUpdate, dcallee, dcall, tabOf, dbuiltin, dstore, DV.cells, setAt, dslice, dboundOk, dappend, appTag, rowsOf, elemOk, growLimit, dbuildCells, dbuildCells.go, structOk, fieldsOk, dbuildRows, goInt]
  refine hK _ _ ?_ rfl; clear hK K
  by_cases h2 : s = ⟨#[109, 117, 108]⟩
  · exact Dwp.condT (by simp [eval, upd, h2]) (Dwp.skip ⟨rfl, by simp [upd, h2]; rfl⟩)
  refine Dwp.condF (by simp [eval, upd, h2]) ?_
  refine Dwp.step tab0 rfl fun K hK => ?_
  simp [drunL, drunO, dwanted, dopS, own, plainOf, dop, dput, eval, ofVal, Then, Ex.then, Ex.inBlock, upd, dbin, Tag.isNN, nilTest, intCmp, dload, dpart, TyI.agg, dfieldAddr, dfield, dindexAddr, dindex, dlen, lenOk, dlookup, mapOf, assocM, keyFits, dmapUpdate, dcallee, dcall, tabOf, dbuiltin, dstore, DV.cells, setAt, dslice, dboundOk, dappend, appTag, rowsOf, elemOk, growLimit, dbuildCells, dbuildCells.go, structOk, fieldsOk, dbuildRows, goInt]
  refine hK _ _ ?_ rfl; clear hK K
  by_cases h3 : s = ⟨#[100, 105, 118]⟩
  · exact Dwp.condT (by simp [eval, upd, h3]) (Dwp.skip ⟨rfl, by simp [upd, h3]; rfl⟩)
  refine Dwp.condF (by simp [eval, upd, h3]) ?_
  refine Dwp.step tab0 rfl fun K hK => ?_
  simp [drunL, drunO, dwanted, dopS, own, plainOf, dop, dput, eval, ofVal, Then, Ex.then, Ex.inBlock, upd, dbin, Tag.isNN, nilTest, intCmp, dload, dpart, TyI.agg, dfieldAddr, dfield, dindexAddr, dindex, dlen, lenOk, dlookup, mapOf, assocM, keyFits, dmapUpdate, dcallee, dcall, tabOf, dbuiltin, dstore, DV.cells, setAt, dslice, dboundOk, dappend, appTag, rowsOf, elemOk, growLimit, dbuildCells, dbuildCells.go, structOk, fieldsOk, dbuildRows, goInt]
  refine hK _ _ ?_ rfl; clear hK K
  by_cases h4 : s = ⟨#[109, 111, 100]⟩
  · exact Dwp.condT (by simp [eval, upd, h4]) (Dwp.skip ⟨rfl, by simp [upd, h4]; rfl⟩)
  refine Dwp.condF (by simp [eval, upd, h4]) ?_
  refine Dwp.step tab0 rfl fun K hK => ?_
  simp [drunL, drunO, dwanted, dopS, own, plainOf, dop, dput, eval, ofVal, Then, Ex.then, Ex.inBlock, upd, dbin, Tag.isNN, nilTest, intCmp, dload, dpart, TyI.agg, dfieldAddr, dfield, dindexAddr, dindex, dlen, lenOk, dlookup, mapOf, assocM, keyFits, dmapUpdate, dcallee, dcall, tabOf, dbuiltin, dstore, DV.cells, setAt, dslice, dboundOk, dappend, appTag, rowsOf, elemOk, growLimit, dbuildCells, dbuildCells.go, structOk, fieldsOk, dbuildRows, goInt]
  refine hK _ _ ?_ rfl; clear hK K
  by_cases h5 : s = ⟨#[110, 101, 103]⟩
  · exact Dwp.condT (by simp [eval, upd, h5]) (Dwp.skip ⟨rfl, by simp [upd, h5]; rfl⟩)
  refine Dwp.condF (by simp [eval, upd, h5]) ?_
  refine Dwp.step tab0 rfl fun K hK => ?_
  simp [drunL, drunO, dwanted, dopS, own, plainOf, dop, dput, eval, ofVal, Then, Ex.then, Ex.inBlock, upd, dbin, Tag.isNN, nilTest, intCmp, dload, dpart, TyI.agg, dfieldAddr, dfield, dindexAddr, dindex, dlen, lenOk, dlookup, mapOf, assocM, keyFits, dmapUpdate, dcallee, dcall, tabOf, dbuiltin, dstore, DV.cells, setAt, dslice, dboundOk, dappend, appTag, rowsOf, elemOk, growLimit, dbuildCells, dbuildCells.go, structOk, fieldsOk, dbuildRows, goInt]
  refine hK _ _ ?_ rfl; clear hK K
  by_cases h6 : s = ⟨#[108, 116]⟩
  · exact Dwp.condT (by simp [eval, upd, h6]) (Dwp.skip ⟨rfl, by simp [upd, h6]; rfl⟩)
  refine Dwp.condF (by simp [eval, upd, h6]) ?_
  refine Dwp.step tab0 rfl fun K hK => ?_
  simp [drunL, drunO, dwanted, dopS, own, plainOf, dop, dput, eval, ofVal, Then, Ex.then, Ex.inBlock, upd, dbin, Tag.isNN, nilTest, intCmp, dload, dpart, TyI.agg, dfieldAddr, dfield, dindexAddr, dindex, dlen, lenOk, dlookup, mapOf, assocM, keyFits, dmapUpdate, dcallee, dcall, tabOf, dbuiltin, dstore, DV.cells, setAt, dslice, dboundOk, dappend, appTag, rowsOf, elemOk, growLimit, dbuildCells, dbuildCells.go, structOk, fieldsOk, dbuildRows, goInt]
  refine hK _ _ ?_ rfl; clear hK K
  by_cases h7 : s = ⟨#[108, 101]⟩
  · exact Dwp.condT (by simp [eval, upd, h7]) (Dwp.skip ⟨rfl, by simp [upd, h7]; rfl⟩)
  refine Dwp.condF (by simp [eval, upd, h7]) ?_
  refine Dwp.step tab0 rfl fun K hK => ?_
  simp [drunL, drunO, dwanted, dopS, own, plainOf, dop, dput, eval, ofVal, Then, Ex.then, Ex.inBlock, upd, dbin, Tag.isNN, nilTest, intCmp, dload, dpart, TyI.agg, dfieldAddr, dfield, dindexAddr, dindex, dlen, lenOk, dlookup, mapOf, assocM, keyFits, dmapUpdate, dcallee, dcall, tabOf, dbuiltin, dstore, DV.cells, setAt, dslice, dboundOk, dappend, appTag, rowsOf, elemOk, growLimit, dbuildCells, dbuildCells.go, structOk, fieldsOk, dbuildRows, goInt]
  refine hK _ _ ?_ rfl; clear hK K
  by_cases h8 : s = ⟨#[103, 116]⟩
  · exact Dwp.condT (by simp [eval, upd, h8]) (Dwp.skip ⟨rfl, by simp [upd, h8]; rfl⟩)
  refine Dwp.condF (by simp [eval, upd, h8]) ?_
  refine Dwp.step tab0 rfl fun K hK => ?_
  simp [drunL, drunO, dwanted, dopS, own, plainOf, dop, dput, eval, ofVal, Then, Ex.then, Ex.inBlock, upd, dbin, Tag.isNN, nilTest, intCmp, dload, dpart, TyI.agg, dfieldAddr, dfield, dindexAddr, dindex, dlen, lenOk, dlookup, mapOf, assocM, keyFits, dmapUpdate, dcallee, dcall, tabOf, dbuiltin, dstore, DV.cells, setAt, dslice, dboundOk, dappend, appTag, rowsOf, elemOk, growLimit, dbuildCells, dbuildCells.go, structOk, fieldsOk, dbuildRows, goInt]
  refine hK _ _ ?_ rfl; clear hK K
  by_cases h9 : s = ⟨#[103, 101]⟩
  · exact Dwp.condT (by simp [eval, upd, h9]) (Dwp.skip ⟨rfl, by simp [upd, h9]; rfl⟩)
  refine Dwp.condF (by simp [eval, upd, h9]) ?_
  refine Dwp.step tab0 rfl fun K hK => ?_
  simp [drunL, drunO, dwanted, dopS, own, plainOf, dop, dput, eval, ofVal, Then, Ex.then, Ex.inBlock, upd, dbin, Tag.isNN, nilTest, intCmp, dload, dpart, TyI.agg, dfieldAddr, dfield, dindexAddr, dindex, dlen, lenOk, dlookup, mapOf, assocM, keyFits, dmapUpdate, dcallee, dcall, tabOf, dbuiltin, dstore, DV.cells, setAt, dslice, dboundOk, dappend, appTag, rowsOf, elemOk, growLimit, dbuildCells, dbuildCells.go, structOk, fieldsOk, dbuildRows, goInt]
  refine hK _ _ ?_ rfl; clear hK K
  by_cases h10 : s = ⟨#[101, 113]⟩
  · exact Dwp.condT (by simp [eval, upd, h10]) (Dwp.skip ⟨rfl, by simp [upd, h10]; rfl⟩)
  refine Dwp.condF (by simp [eval, upd, h10]) ?_
  refine Dwp.step tab0 rfl fun K hK => ?_
  simp [drunL, drunO, dwanted, dopS, own, plainOf, dop, dput, eval, ofVal, Then, Ex.then, Ex.inBlock, upd, dbin, Tag.isNN, nilTest, intCmp, dload, dpart, TyI.agg, dfieldAddr, dfield, dindexAddr, dindex, dlen, lenOk, dlookup, mapOf, assocM, keyFits, dmapUpdate, dcallee, dcall, tabOf, dbuiltin, dstore, DV.cells, setAt, dslice, dboundOk, dappend, appTag, rowsOf, elemOk, growLimit, dbuildCells, dbuildCells.go, structOk, fieldsOk, dbuildRows, goInt]
  refine hK _ _ ?_ rfl; clear hK K
  by_cases h11 : s = ⟨#[110, 101]⟩
  · exact Dwp.condT (by simp [eval, upd, h11]) (Dwp.skip ⟨rfl, by simp [upd, h11]; rfl⟩)
  refine Dwp.condF (by simp [eval, upd, h11]) ?_
  refine Dwp.step tab0 rfl fun K hK => ?_
  simp [drunL, drunO, dwanted, dopS, own, plainOf, dop, dput, eval, ofVal, Then, Ex.then, Ex.inBlock, upd, dbin, Tag.isNN, nilTest, intCmp, dload, dpart, TyI.agg, dfieldAddr, dfield, dindexAddr, dindex, dlen, lenOk, dlookup, mapOf, assocM, keyFits, dmapUpdate, dcallee, dcall, tabOf, dbuiltin, dstore, DV.cells, setAt, dslice, dboundOk, dappend, appTag, rowsOf, elemOk, growLimit, dbuildCells, dbuildCells.go, structOk, fieldsOk, dbuildRows, goInt]
  refine hK _ _ ?_ rfl; clear hK K
  by_cases h12 : s = ⟨#[97, 110, 100]⟩
  · exact Dwp.condT (by simp [eval, upd, h12]) (Dwp.skip ⟨rfl, by simp [upd, h12]; rfl⟩)
  refine Dwp.condF (by simp [eval, upd, h12]) ?_
  refine Dwp.step tab0 rfl fun K hK => ?_
  simp [drunL, drunO, dwanted, dopS, own, plainOf, dop, dput, eval, ofVal, Then, Ex.then, Ex.inBlock, upd, dbin, Tag.isNN, nilTest, intCmp, dload, dpart, TyI.agg, dfieldAddr, dfield, dindexAddr, dindex, dlen, lenOk, dlookup, mapOf, assocM, keyFits, dmapUpdate, dcallee, dcall, tabOf, dbuiltin, dstore, DV.cells, setAt, dslice, dboundOk, dappend, appTag, rowsOf, elemOk, growLimit, dbuildCells, dbuildCells.go, structOk, fieldsOk, dbuildRows, goInt]
  refine hK _ _ ?_ rfl; clear hK K
  by_cases h13 : s = ⟨#[111, 114]⟩
  · exact Dwp.condT (by simp [eval, upd, h13]) (Dwp.skip ⟨rfl, by simp [upd, h13]; rfl⟩)
  refine Dwp.condF (by simp [eval, upd, h13]) ?_
  refine Dwp.step tab0 rfl fun K hK => ?_
  simp [drunL, drunO, dwanted, dopS, own, plainOf, dop, dput, eval, ofVal, Then, Ex.then, Ex.inBlock, upd, dbin, Tag.isNN, nilTest, intCmp, dload, dpart, TyI.agg, dfieldAddr, dfield, dindexAddr, dindex, dlen, lenOk, dlookup, mapOf, assocM, keyFits, dmapUpdate, dcallee, dcall, tabOf, dbuiltin, dstore, DV.cells, setAt, dslice, dboundOk, dappend, appTag, rowsOf, elemOk, growLimit, dbuildCells, dbuildCells.go, structOk, fieldsOk, dbuildRows, goInt]
  refine hK _ _ ?_ rfl; clear hK K
  by_cases h14 : s = ⟨#[110, 111, 116]⟩
  · exact Dwp.condT (by simp [eval, upd, h14]) (Dwp.skip ⟨rfl, by simp [upd, h14]; rfl⟩)
  refine Dwp.condF (by simp [eval, upd, h14]) ?_
  refine Dwp.step tab0 rfl fun K hK => ?_
  simp [drunL, drunO, dwanted, dopS, own, plainOf, dop, dput, eval, ofVal, Then, Ex.then, Ex.inBlock, upd, dbin, Tag.isNN, nilTest, intCmp, dload, dpart, TyI.agg, dfieldAddr, dfield, dindexAddr, dindex, dlen, lenOk, dlookup, mapOf, assocM, keyFits, dmapUpdate, dcallee, dcall, tabOf, dbuiltin, dstore, DV.cells, setAt, dslice, dboundOk, dappend, appTag, rowsOf, elemOk, growLimit, dbuildCells, dbuildCells.go, structOk, fieldsOk, dbuildRows, goInt]
  refine hK _ _ ?_ rfl; clear hK K
  by_cases h15 : s = ⟨#[112, 105, 99, 107]⟩
  · exact Dwp.condT (by simp [eval, upd, h15]) (Dwp.skip ⟨rfl, by simp [upd, h15]; rfl⟩)
  refine Dwp.condF (by simp [eval, upd, h15]) ?_
  refine Dwp.step tab0 rfl fun K hK => ?_
  simp [drunL, drunO, dwanted, dopS, own, plainOf, dop, dput, eval, ofVal, Then, Ex.then, Ex.inBlock, upd, dbin, Tag.isNN, nilTest, intCmp, dload, dpart, TyI.agg, dfieldAddr, dfield, dindexAddr, dindex, dlen, lenOk, dlookup, mapOf, assocM, keyFits, dmapUpdate, dcallee, dcall, tabOf, dbuiltin, dstore, DV.cells, setAt, dslice, dboundOk, dappend, appTag, rowsOf, elemOk, growLimit, dbuildCells, dbuildCells.go, structOk, fieldsOk, dbuildRows, goInt]
  refine hK _ _ ?_ rfl; clear hK K
  by_cases h16 : s = ⟨#[99, 97, 116]⟩
  · exact Dwp.condT (by simp [eval, upd, h16]) (Dwp.skip ⟨rfl, by simp [upd, h16]; rfl⟩)
  refine Dwp.condF (by simp [eval, upd, h16]) ?_
  refine Dwp.step tab0 rfl fun K hK => ?_
  simp [drunL, drunO, dwanted, dopS, own, plainOf, dop, dput, eval, ofVal, Then, Ex.then, Ex.inBlock, upd, dbin, Tag.isNN, nilTest, intCmp, dload, dpart, TyI.agg, dfieldAddr, dfield, dindexAddr, dindex, dlen, lenOk, dlookup, mapOf, assocM, keyFits, dmapUpdate, dcallee, dcall, tabOf, dbuiltin, dstore, DV.cells, setAt, dslice, dboundOk, dappend, appTag, rowsOf, elemOk, growLimit, dbuildCells, dbuildCells.go, structOk, fieldsOk, dbuildRows, goInt]
  refine hK _ _ ?_ rfl; clear hK K
  by_cases h17 : s = ⟨#[108, 101, 110, 103, 116, 104]⟩
  · exact Dwp.condT (by simp [eval, upd, h17]) (Dwp.skip ⟨rfl, by simp [upd, h17]; rfl⟩)
  refine Dwp.condF (by simp [eval, upd, h17]) ?_
  refine Dwp.step tab0 rfl fun K hK => ?_
  simp [drunL, drunO, dwanted, dopS, own, plainOf, dop, dput, eval, ofVal, Then, Ex.then, Ex.inBlock, upd, dbin, Tag.isNN, nilTest, intCmp, dload, dpart, TyI.agg, dfieldAddr, dfield, dindexAddr, dindex, dlen, lenOk, dlookup, mapOf, assocM, keyFits, dmapUpdate, dcallee, dcall, tabOf, dbuiltin, dstore, DV.cells, setAt, dslice, dboundOk, dappend, appTag, rowsOf, elemOk, growLimit, dbuildCells, dbuildCells.go, structOk, fieldsOk, dbuildRows, goInt]
  refine hK _ _ ?_ rfl; clear hK K
  by_cases h18 : s = ⟨#[116, 101, 120, 116]⟩
  · exact Dwp.condT (by simp [eval, upd, h18]) (Dwp.skip ⟨rfl, by simp [upd, h18]; rfl⟩)
  refine Dwp.condF (by simp [eval, upd, h18]) ?_
  refine Dwp.step tab0 rfl fun K hK => ?_
  simp [drunL, drunO, dwanted, dopS, own, plainOf, dop, dput, eval, ofVal, Then, Ex.then, Ex.inBlock, upd, dbin, Tag.isNN, nilTest, intCmp, dload, dpart, TyI.agg, dfieldAddr, dfield, dindexAddr, dindex, dlen, lenOk, dlookup, mapOf, assocM, keyFits, dmapUpdate, dcallee, dcall, tabOf, dbuiltin, dstore, DV.cells, setAt, dslice, dboundOk, dappend, appTag, rowsOf, elemOk, growLimit, dbuildCells, dbuildCells.go, structOk, fieldsOk, dbuildRows, goInt]
  refine hK _ _ ?_ rfl; clear hK K
  by_cases h19 : s = ⟨#[106, 111, 105, 110]⟩
  · exact Dwp.condT (by simp [eval, upd, h19]) (Dwp.skip ⟨rfl, by simp [upd, h19]; rfl⟩)
  refine Dwp.condF (by simp [eval, upd, h19]) ?_
  refine Dwp.step tab0 rfl fun K hK => ?_
  simp [drunL, drunO, dwanted, dopS, own, plainOf, dop, dput, eval, ofVal, Then, Ex.then, Ex.inBlock, upd, dbin, Tag.isNN, nilTest, intCmp, dload, dpart, TyI.agg, dfieldAddr, dfield, dindexAddr, dindex, dlen, lenOk, dlookup, mapOf, assocM, keyFits, dmapUpdate, dcallee, dcall, tabOf, dbuiltin, dstore, DV.cells, setAt, dslice, dboundOk, dappend, appTag, rowsOf, elemOk, growLimit, dbuildCells, dbuildCells.go, structOk, fieldsOk, dbuildRows, goInt]
  refine hK _ _ ?_ rfl; clear hK K
  by_cases h20 : s = ⟨#[103, 101, 116]⟩
  · exact Dwp.condT (by simp [eval, upd, h20]) (Dwp.skip ⟨rfl, by simp [upd, h20]; rfl⟩)
  refine Dwp.condF (by simp [eval, upd, h20]) ?_
  refine Dwp.step tab0 rfl fun K hK => ?_
  simp [drunL, drunO, dwanted, dopS, own, plainOf, dop, dput, eval, ofVal, Then, Ex.then, Ex.inBlock, upd, dbin, Tag.isNN, nilTest, intCmp, dload, dpart, TyI.agg, dfieldAddr, dfield, dindexAddr, dindex, dlen, lenOk, dlookup, mapOf, assocM, keyFits, dmapUpdate, dcallee, dcall, tabOf, dbuiltin, dstore, DV.cells, setAt, dslice, dboundOk, dappend, appTag, rowsOf, elemOk, growLimit, dbuildCells, dbuildCells.go, structOk, fieldsOk, dbuildRows, goInt]
  refine hK _ _ ?_ rfl; clear hK K
  by_cases h21 : s = ⟨#[112, 117, 116]⟩
  · exact Dwp.condT (by simp [eval, upd, h21]) (Dwp.skip ⟨rfl, by simp [upd, h21]; rfl⟩)
  refine Dwp.condF (by simp [eval, upd, h21]) ?_
  refine Dwp.step tab0 rfl fun K hK => ?_
  simp [drunL, drunO, dwanted, dopS, own, plainOf, dop, dput, eval, ofVal, Then, Ex.then, Ex.inBlock, upd, dbin, Tag.isNN, nilTest, intCmp, dload, dpart, TyI.agg, dfieldAddr, dfield, dindexAddr, dindex, dlen, lenOk, dlookup, mapOf, assocM, keyFits, dmapUpdate, dcallee, dcall, tabOf, dbuiltin, dstore, DV.cells, setAt, dslice, dboundOk, dappend, appTag, rowsOf, elemOk, growLimit, dbuildCells, dbuildCells.go, structOk, fieldsOk, dbuildRows, goInt]
  refine hK _ _ ?_ rfl; clear hK K
  by_cases h22 : s = ⟨#[104, 97, 115]⟩
  · exact Dwp.condT (by simp [eval, upd, h22]) (Dwp.skip ⟨rfl, by simp [upd, h22]; rfl⟩)
  refine Dwp.condF (by simp [eval, upd, h22]) ?_
  refine Dwp.step tab0 rfl fun K hK => ?_
  simp [drunL, drunO, dwanted, dopS, own, plainOf, dop, dput, eval, ofVal, Then, Ex.then, Ex.inBlock, upd, dbin, Tag.isNN, nilTest, intCmp, dload, dpart, TyI.agg, dfieldAddr, dfield, dindexAddr, dindex, dlen, lenOk, dlookup, mapOf, assocM, keyFits, dmapUpdate, dcallee, dcall, tabOf, dbuiltin, dstore, DV.cells, setAt, dslice, dboundOk, dappend, appTag, rowsOf, elemOk, growLimit, dbuildCells, dbuildCells.go, structOk, fieldsOk, dbuildRows, goInt]
  refine hK _ _ ?_ rfl; clear hK K
  by_cases h23 : s = ⟨#[100, 101, 108]⟩
  · exact Dwp.condT (by simp [eval, upd, h23]) (Dwp.skip ⟨rfl, by simp [upd, h23]; rfl⟩)
  refine Dwp.condF (by simp [eval, upd, h23]) ?_
  refine Dwp.step tab0 rfl fun K hK => ?_
  simp [drunL, drunO, dwanted, dopS, own, plainOf, dop, dput, eval, ofVal, Then, Ex.then, Ex.inBlock, upd, dbin, Tag.isNN, nilTest, intCmp, dload, dpart, TyI.agg, dfieldAddr, dfield, dindexAddr, dindex, dlen, lenOk, dlookup, mapOf, assocM, keyFits, dmapUpdate, dcallee, dcall, tabOf, dbuiltin, dstore, DV.cells, setAt, dslice, dboundOk, dappend, appTag, rowsOf, elemOk, growLimit, dbuildCells, dbuildCells.go, structOk, fieldsOk, dbuildRows, goInt]
  refine hK _ _ ?_ rfl; clear hK K
  by_cases h24 : s = ⟨#[107, 101, 121, 115]⟩
  · exact Dwp.condT (by simp [eval, upd, h24]) (Dwp.skip ⟨rfl, by simp [upd, h24]; rfl⟩)
  refine Dwp.condF (by simp [eval, upd, h24]) ?_
  refine Dwp.step tab0 rfl fun K hK => ?_
  simp [drunL, drunO, dwanted, dopS, own, plainOf, dop, dput, eval, ofVal, Then, Ex.then, Ex.inBlock, upd, dbin, Tag.isNN, nilTest, intCmp, dload, dpart, TyI.agg, dfieldAddr, dfield, dindexAddr, dindex, dlen, lenOk, dlookup, mapOf, assocM, keyFits, dmapUpdate, dcallee, dcall, tabOf, dbuiltin, dstore, DV.cells, setAt, dslice, dboundOk, dappend, appTag, rowsOf, elemOk, growLimit, dbuildCells, dbuildCells.go, structOk, fieldsOk, dbuildRows, goInt]
  refine hK _ _ ?_ rfl; clear hK K
  by_cases h25 : s = ⟨#[115, 105, 122, 101]⟩
  · exact Dwp.condT (by simp [eval, upd, h25]) (Dwp.skip ⟨rfl, by simp [upd, h25]; rfl⟩)
  refine Dwp.condF (by simp [eval, upd, h25]) ?_
  refine Dwp.step tab0 rfl fun K hK => ?_
  simp [drunL, drunO, dwanted, dopS, own, plainOf, dop, dput, eval, ofVal, Then, Ex.then, Ex.inBlock, upd, dbin, Tag.isNN, nilTest, intCmp, dload, dpart, TyI.agg, dfieldAddr, dfield, dindexAddr, dindex, dlen, lenOk, dlookup, mapOf, assocM, keyFits, dmapUpdate, dcallee, dcall, tabOf, dbuiltin, dstore, DV.cells, setAt, dslice, dboundOk, dappend, appTag, rowsOf, elemOk, growLimit, dbuildCells, dbuildCells.go, structOk, fieldsOk, dbuildRows, goInt]
  refine hK _ _ ?_ rfl; clear hK K
  by_cases h26 : s = ⟨#[105, 115]⟩
  · exact Dwp.condT (by simp [eval, upd, h26]) (Dwp.skip ⟨rfl, by simp [upd, h26]; rfl⟩)
  refine Dwp.condF (by simp [eval, upd, h26]) ?_
  refine Dwp.reg tab0 rfl fun K hK => ?_
  simp [drunL, drunO, dwanted, dopS, own, plainOf, dop, dput, eval, ofVal, Then, Ex.then, Ex.inBlock, upd, dbin, Tag.isNN, nilTest, intCmp, dload, dpart, TyI.agg, dfieldAddr, dfield, dindexAddr, dindex, dlen, lenOk, dlookup, mapOf, assocM, keyFits, dmapUpdate, dcallee, dcall, tabOf, dbuiltin, dstore, DV.cells, setAt, dslice, dboundOk, dappend, appTag, rowsOf, elemOk, growLimit, dbuildCells, dbuildCells.go, structOk, fieldsOk, dbuildRows, goInt]
  refine hK _ _ ?_ rfl; clear hK K
  exact ⟨rfl, by simp [upd, builtIn, bins, h0, h1, h2, h3, h4, h5, h6, h7, h8, h9, h10, h11, h12, h13, h14, h15, h16, h17, h18, h19, h20, h21, h22, h23, h24, h25, h26]⟩
theorem e120 : Go.FA.Good Tryz.prog (120, s120) := ⟨c120, Tryz.f120, _, Tryz.func120, rfl, by decide⟩
end Go.Proofs.Yt
namespace Go.Proofs.Yt
open Go Go.FA Go.Proofs
set_option linter.unusedVariables false
set_option linter.unusedSimpArgs false
set_option maxRecDepth 100000

def ren217 : Go.Shelf.Ren := ⟨fun n => if n = 217 then 296 else if n = 266 then 320 else n, fun n => n, fun n => n⟩
theorem lays217 : Lays.n217 Tryz.prog ren217 where
  mixed := mixed
  f217 := by kernel_rfl
  f266 := by kernel_rfl
  t3 := by kernel_rfl
  a3 := Tryz.isAgg3
  z3 := Tryz.sizeOf3
  v3 := Tryz.zeroValue3
  t5 := by kernel_rfl
  a5 := Tryz.isAgg5
  z5 := Tryz.sizeOf5
  v5 := Tryz.zeroValue5
  t9 := by kernel_rfl
  a9 := Tryz.isAgg9
  z9 := Tryz.sizeOf9
  v9 := Tryz.zeroValue9

def s296 : Sp := sp (arg2 Enc.str (Enc.int .u8)) Enc.i64 (fun x => some (Lib.indexByte x.1.data.toList x.2.toNat.toUInt8))
theorem c296 : CallSound Tryz.prog 296 s296 := by
  intro args r hr
  simp only [s296, sp, Option.bind_eq_some_iff, Option.map_eq_some_iff] at hr
  obtain ⟨⟨s, c⟩, hx, y, hy, rfl⟩ := hr
  refine .inl ⟨Enc.i64.pure y, fun C w cargs hpc hpm hl1 => ?_⟩
  have hl := LRel_le ((arg2 Enc.str (Enc.int .u8)).le _ _ hx) hl1
  simp at hy; subst hy
  have hc : cargs = [.string s, .int .u8 c] := by
    simp only [arg2, EncR.and, EncR.one, Enc.str, Enc.int] at hl
    match cargs, hl with
    | [a, b], hl =>
      simp [LRel, VRel] at hl
      rw [hl.1, hl.2]
  subst hc
  refine (Any.stringslite_IndexByte lays217 s c w).mono ?_
  rintro e w' ⟨rfl, rfl⟩
  exact ⟨_, rfl, Go.RowKit.Below.refl _ _, by simp [VRel, Enc.i64, Enc.int]⟩
theorem e296 : Go.FA.Good Tryz.prog (296, s296) := ⟨c296, Tryz.f296, _, Tryz.func296, rfl, by decide⟩

/-- where the mark of a frame stands -/
def mark (s : ByteArray) : Int := Lib.indexByte s.data.toList 39
theorem mark_cases : ∀ l : List UInt8, Lib.indexByte l 39 = -1 ∨ ∃ i : Nat, i < l.length ∧ Lib.indexByte l 39 = i
  | [] => .inl rfl
  | b :: l => by
    simp only [Lib.indexByte]
    by_cases h : b = 39
    · exact .inr ⟨0, by simp, by simp [h]⟩
    · rcases mark_cases l with e | ⟨i, h1, e⟩
      · left; simp [h, e]
      · right
        refine ⟨i + 1, by simp; omega, ?_⟩
        have : ¬ (i : Int) = -1 := by omega
        simp [h, e, this]
def s359 : Sp := sp (arg2 Enc.str Enc.str) Enc.i64 (fun x => if x.2 = ⟨#[39]⟩ then some (mark x.1) else none)
theorem t149 : TabOk Tryz.prog (tabOf [(296, s296)]) := .cons e296 .nil
theorem c359 : CallSound Tryz.prog 359 s359 := by
  refine CallSound.of_sp (T := tabOf [(296, s296)]) Tryz.func359 rfl (Nat.le_of_ble_eq_true rfl) fun E x y hy => ?_
  obtain ⟨s, m⟩ := x
  by_cases hm : m = ⟨#[39]⟩ <;> simp [hm] at hy
  subst hy; subst hm
  have h1 : (ByteArray.mk #[39]).size = 1 := rfl
  have h2 : (ByteArray.mk #[39])[0]? = some 39 := rfl
  refine Dwp.step t149 rfl fun K hK => ?_
  simp [drunL, drunO, dwanted, dopS, own, plainOf, dop, dput, eval, ofVal, Then, Ex.then, Ex.inBlock, upd, dbin, Tag.isNN, nilTest, intCmp, dload, dpart, TyI.agg, dfieldAddr, dfield, dindexAddr, dindex, dlen, lenOk, dlookup, mapOf, assocM, keyFits, dmapUpdate, dcallee, dcall, tabOf, dbuiltin, dstore, DV.cells, setAt, dslice, dboundOk, dappend, appTag, rowsOf, elemOk, growLimit, dbuildCells, dbuildCells.go, structOk, fieldsOk, dbuildRows, goInt, init, arg1, arg2, arg3, EncR.one, EncR.and, Enc.bool, Enc.int, Enc.str, Enc.strs, Enc.slice, Enc.agg, Enc.tup, Enc.err, Enc.fn]
  refine hK _ _ ?_ rfl; clear hK K
  refine Dwp.step t149 rfl fun K hK => ?_
  simp [drunL, drunO, dwanted, dopS, own, plainOf, dop, dput, eval, ofVal, Then, Ex.then, Ex.inBlock, upd, dbin, Tag.isNN, nilTest, intCmp, dload, dpart, TyI.agg, dfieldAddr, dfield, dindexAddr, dindex, dlen, lenOk, dlookup, mapOf, assocM, keyFits, dmapUpdate, dcallee, dcall, tabOf, dbuiltin, dstore, DV.cells, setAt, dslice, dboundOk, dappend, appTag, rowsOf, elemOk, growLimit, dbuildCells, dbuildCells.go, structOk, fieldsOk, dbuildRows, goInt, init, arg1, arg2, arg3, EncR.one, EncR.and, Enc.bool, Enc.int, Enc.str, Enc.strs, Enc.slice, Enc.agg, Enc.tup, Enc.err, Enc.fn, ty9, h1]
  refine hK _ _ ?_ rfl; clear hK K
  refine Dwp.seq ?_
  refine Dwp.block ?_
  refine Dwp.step t149 rfl fun K hK => ?_
  by_cases hs : (ByteArray.mk #[39]) = s
  · subst hs
    simp [drunL, drunO, dwanted, dopS, own, plainOf, dop, dput, eval, ofVal, Then, Ex.then, Ex.inBlock, upd, dbin, Tag.isNN, nilTest, intCmp, dload, dpart, TyI.agg, dfieldAddr, dfield, dindexAddr, dindex, dlen, lenOk, dlookup, mapOf, assocM, keyFits, dmapUpdate, dcallee, dcall, tabOf, dbuiltin, dstore, DV.cells, setAt, dslice, dboundOk, dappend, appTag, rowsOf, elemOk, growLimit, dbuildCells, dbuildCells.go, structOk, fieldsOk, dbuildRows, goInt, init, arg1, arg2, arg3, EncR.one, EncR.and, Enc.bool, Enc.int, Enc.str, Enc.strs, Enc.slice, Enc.agg, Enc.tup, Enc.err, Enc.fn, ty9, h1]
    refine hK _ _ ?_ rfl; clear hK K
    refine Dwp.condT (by simp [eval, upd]) ?_
    refine Dwp.step t149 rfl fun K hK => ?_
    simp [drunL, drunO, dwanted, dopS, own, plainOf, dop, dput, eval, ofVal, Then, Ex.then, Ex.inBlock, upd, dbin, Tag.isNN, nilTest, intCmp, dload, dpart, TyI.agg, dfieldAddr, dfield, dindexAddr, dindex, dlen, lenOk, dlookup, mapOf, assocM, keyFits, dmapUpdate, dcallee, dcall, tabOf, dbuiltin, dstore, DV.cells, setAt, dslice, dboundOk, dappend, appTag, rowsOf, elemOk, growLimit, dbuildCells, dbuildCells.go, structOk, fieldsOk, dbuildRows, goInt]
    refine hK _ _ (Dwp.ret ?_) rfl
    simp [Done, dresults, dres, frz, frz1, frz2, init, arg1, arg2, arg3, EncR.one, EncR.and, Enc.bool, Enc.int, Enc.str, Enc.strs, Enc.slice, Enc.agg, Enc.tup, Enc.err, Enc.fn, Ex.then, Ex.inBlock, upd, mark, Enc.i64, Lib.indexByte]
  simp [drunL, drunO, dwanted, dopS, own, plainOf, dop, dput, eval, ofVal, Then, Ex.then, Ex.inBlock, upd, dbin, Tag.isNN, nilTest, intCmp, dload, dpart, TyI.agg, dfieldAddr, dfield, dindexAddr, dindex, dlen, lenOk, dlookup, mapOf, assocM, keyFits, dmapUpdate, dcallee, dcall, tabOf, dbuiltin, dstore, DV.cells, setAt, dslice, dboundOk, dappend, appTag, rowsOf, elemOk, growLimit, dbuildCells, dbuildCells.go, structOk, fieldsOk, dbuildRows, goInt, init, arg1, arg2, arg3, EncR.one, EncR.and, Enc.bool, Enc.int, Enc.str, Enc.strs, Enc.slice, Enc.agg, Enc.tup, Enc.err, Enc.fn, ty9, h1, hs]
  refine hK _ _ ?_ rfl; clear hK K
  refine Dwp.condF (by simp [eval, upd]) ?_
  refine Dwp.step t149 rfl fun K hK => ?_
  simp [drunL, drunO, dwanted, dopS, own, plainOf, dop, dput, eval, ofVal, Then, Ex.then, Ex.inBlock, upd, dbin, Tag.isNN, nilTest, intCmp, dload, dpart, TyI.agg, dfieldAddr, dfield, dindexAddr, dindex, dlen, lenOk, dlookup, mapOf, assocM, keyFits, dmapUpdate, dcallee, dcall, tabOf, dbuiltin, dstore, DV.cells, setAt, dslice, dboundOk, dappend, appTag, rowsOf, elemOk, growLimit, dbuildCells, dbuildCells.go, structOk, fieldsOk, dbuildRows, goInt, init, arg1, arg2, arg3, EncR.one, EncR.and, Enc.bool, Enc.int, Enc.str, Enc.strs, Enc.slice, Enc.agg, Enc.tup, Enc.err, Enc.fn, ty9, h1]
  refine hK _ _ ?_ rfl; clear hK K
  refine Dwp.condT (by simp [eval, upd]) ?_
  refine Dwp.step t149 rfl fun K hK => ?_
  simp [drunL, drunO, dwanted, dopS, own, plainOf, dop, dput, eval, ofVal, Then, Ex.then, Ex.inBlock, upd, dbin, Tag.isNN, nilTest, intCmp, dload, dpart, TyI.agg, dfieldAddr, dfield, dindexAddr, dindex, dlen, lenOk, dlookup, mapOf, assocM, keyFits, dmapUpdate, dcallee, dcall, tabOf, dbuiltin, dstore, DV.cells, setAt, dslice, dboundOk, dappend, appTag, rowsOf, elemOk, growLimit, dbuildCells, dbuildCells.go, structOk, fieldsOk, dbuildRows, goInt, init, arg1, arg2, arg3, EncR.one, EncR.and, Enc.bool, Enc.int, Enc.str, Enc.strs, Enc.slice, Enc.agg, Enc.tup, Enc.err, Enc.fn, ty9, h1, h2, s296, sp, Enc.i64]
  refine hK _ _ (Dwp.ret ?_) rfl
  simp [Done, dresults, dres, frz, frz1, frz2, init, arg1, arg2, arg3, EncR.one, EncR.and, Enc.bool, Enc.int, Enc.str, Enc.strs, Enc.slice, Enc.agg, Enc.tup, Enc.err, Enc.fn, Ex.then, Ex.inBlock, upd, mark, Enc.i64]
  rfl
theorem e359 : Go.FA.Good Tryz.prog (359, s359) := ⟨c359, Tryz.f359, _, Tryz.func359, rfl, by decide⟩

/-- strings.Cut at the mark -/
def cutMark (s : ByteArray) : ByteArray × ByteArray × Bool :=
  if 0 ≤ mark s then (s.extract 0 (mark s).toNat, s.extract ((mark s).toNat + 1) s.size, true) else (s, ⟨#[]⟩, false)
def Enc.cut : Enc (ByteArray × ByteArray × Bool) := Enc.tup (arg3 Enc.str Enc.str Enc.bool)
def s357 : Sp := sp (arg2 Enc.str Enc.str) Enc.cut (fun x => if x.2 = ⟨#[39]⟩ ∧ x.1.size ≤ lim then some (cutMark x.1) else none)
theorem t126 : TabOk Tryz.prog (tabOf [(359, s359)]) := .cons e359 .nil
theorem c357 : CallSound Tryz.prog 357 s357 := by
  refine CallSound.of_sp (T := tabOf [(359, s359)]) Tryz.func357 rfl (Nat.le_of_ble_eq_true rfl) fun E x y hy => ?_
  obtain ⟨s, m⟩ := x
  by_cases hm : m = ⟨#[39]⟩ ∧ s.size ≤ lim <;> simp [hm] at hy
  obtain ⟨hm, hs⟩ := hm
  unfold lim at hs
  subst hy; subst hm
  have h1 : (ByteArray.mk #[39]).size = 1 := rfl
  refine Dwp.step t126 rfl fun K hK => ?_
  simp [drunL, drunO, dwanted, dopS, own, plainOf, dop, dput, eval, ofVal, Then, Ex.then, Ex.inBlock, upd, dbin, Tag.isNN, nilTest, intCmp, dload, dpart, TyI.agg, dfieldAddr, dfield, dindexAddr, dindex, dlen, lenOk, dlookup, mapOf, assocM, keyFits, dmapUpdate, dcallee, dcall, tabOf, dbuiltin, dstore, DV.cells, setAt, dslice, dboundOk, dappend, appTag, rowsOf, elemOk, growLimit, dbuildCells, dbuildCells.go, structOk, fieldsOk, dbuildRows, goInt, init, arg1, arg2, arg3, EncR.one, EncR.and, Enc.bool, Enc.int, Enc.str, Enc.strs, Enc.slice, Enc.agg, Enc.tup, Enc.err, Enc.fn]
  refine hK _ _ ?_ rfl; clear hK K
  refine Dwp.seq ?_
  refine Dwp.step t126 rfl fun K hK => ?_
  simp [drunL, drunO, dwanted, dopS, own, plainOf, dop, dput, eval, ofVal, Then, Ex.then, Ex.inBlock, upd, dbin, Tag.isNN, nilTest, intCmp, dload, dpart, TyI.agg, dfieldAddr, dfield, dindexAddr, dindex, dlen, lenOk, dlookup, mapOf, assocM, keyFits, dmapUpdate, dcallee, dcall, tabOf, dbuiltin, dstore, DV.cells, setAt, dslice, dboundOk, dappend, appTag, rowsOf, elemOk, growLimit, dbuildCells, dbuildCells.go, structOk, fieldsOk, dbuildRows, goInt, init, arg1, arg2, arg3, EncR.one, EncR.and, Enc.bool, Enc.int, Enc.str, Enc.strs, Enc.slice, Enc.agg, Enc.tup, Enc.err, Enc.fn, s359, sp, Enc.i64]
  refine hK _ _ ?_ rfl; clear hK K
  refine Dwp.step t126 rfl fun K hK => ?_
  simp [drunL, drunO, dwanted, dopS, own, plainOf, dop, dput, eval, ofVal, Then, Ex.then, Ex.inBlock, upd, dbin, Tag.isNN, nilTest, intCmp, dload, dpart, TyI.agg, dfieldAddr, dfield, dindexAddr, dindex, dlen, lenOk, dlookup, mapOf, assocM, keyFits, dmapUpdate, dcallee, dcall, tabOf, dbuiltin, dstore, DV.cells, setAt, dslice, dboundOk, dappend, appTag, rowsOf, elemOk, growLimit, dbuildCells, dbuildCells.go, structOk, fieldsOk, dbuildRows, goInt]
  refine hK _ _ ?_ rfl; clear hK K
  rcases mark_cases s.data.toList with hk | ⟨i, hi, hk⟩
  · have hk' : mark s = -1 := hk
    refine Dwp.condF (by simp [eval, upd, hk']) (Dwp.skip ?_)
    refine Dwp.step t126 rfl fun K hK => ?_
    simp [drunL, drunO, dwanted, dopS, own, plainOf, dop, dput, eval, ofVal, Then, Ex.then, Ex.inBlock, upd, dbin, Tag.isNN, nilTest, intCmp, dload, dpart, TyI.agg, dfieldAddr, dfield, dindexAddr, dindex, dlen, lenOk, dlookup, mapOf, assocM, keyFits, dmapUpdate, dcallee, dcall, tabOf, dbuiltin, dstore, DV.cells, setAt, dslice, dboundOk, dappend, appTag, rowsOf, elemOk, growLimit, dbuildCells, dbuildCells.go, structOk, fieldsOk, dbuildRows, goInt, init, arg1, arg2, arg3, EncR.one, EncR.and, Enc.bool, Enc.int, Enc.str, Enc.strs, Enc.slice, Enc.agg, Enc.tup, Enc.err, Enc.fn]
    refine hK _ _ (Dwp.ret ?_) rfl
    simp [Done, dresults, dres, frz, frz1, frz2, init, arg1, arg2, arg3, EncR.one, EncR.and, Enc.bool, Enc.int, Enc.str, Enc.strs, Enc.slice, Enc.agg, Enc.tup, Enc.err, Enc.fn, Ex.then, upd, cutMark, hk', Enc.cut]
  · have hk' : mark s = i := hk
    have hi' : i < s.size := by simpa using hi
    refine Dwp.condT (by simp [eval, upd, hk']) ?_
    refine Dwp.drawStep [] mixed t126 rfl (by decide) fun K hK => ?_
    have hle : i ≤ s.size := by omega
    have hle' : (i : Int) + 1 ≤ s.size := by omega
    have hpos : (0 : Int) ≤ (i : Int) + 1 := by omega
    have htn : ((i : Int) + 1).toNat = i + 1 := by omega
    simp [drunT, touch, touchP, drunL, drunO, dwanted, dopS, own, plainOf, dop, dput, eval, ofVal, Then, Ex.then, Ex.inBlock, upd, dbin, Tag.isNN, nilTest, intCmp, dload, dpart, TyI.agg, dfieldAddr, dfield, dindexAddr, dindex, dlen, lenOk, dlookup, mapOf, assocM, keyFits, dmapUpdate, dcallee, dcall, tabOf, dbuiltin, dstore, DV.cells, setAt, dslice, dboundOk, dappend, appTag, rowsOf, elemOk, growLimit, dbuildCells, dbuildCells.go, structOk, fieldsOk, dbuildRows, goInt, init, arg1, arg2, arg3, EncR.one, EncR.and, Enc.bool, Enc.int, Enc.str, Enc.strs, Enc.slice, Enc.agg, Enc.tup, Enc.err, Enc.fn, hk', h1, ty9, hle, hle', hpos, htn, wrap_small (n := (i : Int) + 1) (by omega) (by omega)]
    refine hK _ _ (Dwp.ret ?_) rfl
    simp [Done, dresults, dres, frz, frz1, frz2, init, arg1, arg2, arg3, EncR.one, EncR.and, Enc.bool, Enc.int, Enc.str, Enc.strs, Enc.slice, Enc.agg, Enc.tup, Enc.err, Enc.fn, Ex.then, upd, cutMark, hk', Enc.cut]
theorem e357 : Go.FA.Good Tryz.prog (357, s357) := ⟨c357, Tryz.f357, _, Tryz.func357, rfl, by decide⟩
theorem t101 : TabOk Tryz.prog (tabOf [(357, s357)]) := .cons e357 .nil
theorem c353 : CallSound Tryz.prog 353 s357 := by
  refine CallSound.of_sp (T := tabOf [(357, s357)]) Tryz.func353 rfl (Nat.le_of_ble_eq_true rfl) fun E x y hy => ?_
  obtain ⟨s, m⟩ := x
  by_cases hm : m = ⟨#[39]⟩ ∧ s.size ≤ lim <;> simp [hm] at hy
  obtain ⟨hm, hs⟩ := hm
  subst hy; subst hm
  refine Dwp.step t101 rfl fun K hK => ?_
  simp [drunL, drunO, dwanted, dopS, own, plainOf, dop, dput, eval, ofVal, Then, Ex.then, Ex.inBlock, upd, dbin, Tag.isNN, nilTest, intCmp, dload, dpart, TyI.agg, dfieldAddr, dfield, dindexAddr, dindex, dlen, lenOk, dlookup, mapOf, assocM, keyFits, dmapUpdate, dcallee, dcall, tabOf, dbuiltin, dstore, DV.cells, setAt, dslice, dboundOk, dappend, appTag, rowsOf, elemOk, growLimit, dbuildCells, dbuildCells.go, structOk, fieldsOk, dbuildRows, goInt, init, arg1, arg2, arg3, EncR.one, EncR.and, Enc.bool, Enc.int, Enc.str, Enc.strs, Enc.slice, Enc.agg, Enc.tup, Enc.err, Enc.fn]
  refine hK _ _ ?_ rfl; clear hK K
  refine Dwp.step t101 rfl fun K hK => ?_
  simp [drunL, drunO, dwanted, dopS, own, plainOf, dop, dput, eval, ofVal, Then, Ex.then, Ex.inBlock, upd, dbin, Tag.isNN, nilTest, intCmp, dload, dpart, TyI.agg, dfieldAddr, dfield, dindexAddr, dindex, dlen, lenOk, dlookup, mapOf, assocM, keyFits, dmapUpdate, dcallee, dcall, tabOf, dbuiltin, dstore, DV.cells, setAt, dslice, dboundOk, dappend, appTag, rowsOf, elemOk, growLimit, dbuildCells, dbuildCells.go, structOk, fieldsOk, dbuildRows, goInt, init, arg1, arg2, arg3, EncR.one, EncR.and, Enc.bool, Enc.int, Enc.str, Enc.strs, Enc.slice, Enc.agg, Enc.tup, Enc.err, Enc.fn, s357, sp, Enc.cut, hs]
  refine hK _ _ (Dwp.ret ?_) rfl
  simp [Done, dresults, dres, frz, frz1, frz2, init, arg1, arg2, arg3, EncR.one, EncR.and, Enc.bool, Enc.int, Enc.str, Enc.strs, Enc.slice, Enc.agg, Enc.tup, Enc.err, Enc.fn, Ex.then, upd, Enc.cut]
theorem e353 : Go.FA.Good Tryz.prog (353, s357) := ⟨c353, Tryz.f353, _, Tryz.func353, rfl, by decide⟩
end Go.Proofs.Yt
namespace Go.Proofs.Yt
open Go Go.FA Go.Proofs
set_option linter.unusedVariables false
set_option linter.unusedSimpArgs false
set_option maxRecDepth 100000

def digit (d : ByteArray) : Bool := match d.data.toList with | [c] => decide (49 ≤ (c.toNat : Int)) && decide ((c.toNat : Int) ≤ 56) | _ => false
def okOp (s : ByteArray) : Bool := isName (cutMark s).1 && (!(cutMark s).2.2 || digit (cutMark s).2.1)
theorem size_one {d : ByteArray} (h : d.size = 1) : ∃ c, d = ⟨#[c]⟩ := by
  obtain ⟨⟨l⟩⟩ := d
  match l, h with
  | [c], _ => exact ⟨c, rfl⟩
theorem digit_ne {d : ByteArray} (h : d.size ≠ 1) : digit d = false := by
  obtain ⟨⟨l⟩⟩ := d
  match l, h with
  | [], _ => rfl
  | [c], h => exact absurd rfl h
  | _ :: _ :: _, _ => rfl
theorem callCut (T : Tab) (hT : T 353 = some s357) (s : ByteArray) (hs : s.size ≤ lim) : dcall T 353 [.lit (.string s), .lit (.string ⟨#[39]⟩)] = some (.tuple [.lit (.string (cutMark s).1), .lit (.string (cutMark s).2.1), .lit (.bool (cutMark s).2.2)]) := by
  simp [dcall, hT, s357, sp, arg2, arg3, EncR.and, EncR.one, Enc.str, Enc.bool, hs, Enc.cut, Enc.tup]
def s344 : Sp := sp (arg1 Enc.str) Enc.bool (fun s => if s.size ≤ lim then some (okOp s) else none)
theorem t132 : TabOk Tryz.prog (tabOf [(353, s357), (105, s105)]) := .cons e353 (.cons e105 .nil)
theorem c344 : CallSound Tryz.prog 344 s344 := by
  refine CallSound.of_sp (T := tabOf [(353, s357), (105, s105)]) Tryz.func344 rfl (Nat.le_of_ble_eq_true rfl) fun E s y hy => ?_
  by_cases hlim : s.size ≤ lim <;> simp [hlim] at hy
  subst hy
  refine Dwp.step t132 rfl fun K hK => ?_
  simp [drunL, drunO, dwanted, dopS, own, plainOf, dop, dput, eval, ofVal, Then, Ex.then, Ex.inBlock, upd, dbin, Tag.isNN, nilTest, intCmp, dload, dpart, TyI.agg, dfieldAddr, dfield, dindexAddr, dindex, dlen, lenOk, dlookup, mapOf, assocM, keyFits, dmapUpdate, dcallee, dcall, tabOf, dbuiltin, dstore, DV.cells, setAt, dslice, dboundOk, dappend, appTag, rowsOf, elemOk, growLimit, dbuildCells, dbuildCells.go, structOk, fieldsOk, dbuildRows, goInt, init, arg1, arg2, arg3, EncR.one, EncR.and, Enc.bool, Enc.int, Enc.str, Enc.strs, Enc.slice, Enc.agg, Enc.tup, Enc.err, Enc.fn]
  refine hK _ _ ?_ rfl; clear hK K
  have g1 := callCut (tabOf [(353, s357), (105, s105)]) rfl s hlim
  have g2 := call105 (tabOf [(353, s357), (105, s105)]) rfl (cutMark s).1
  generalize hcut : cutMark s = q at g1 g2
  obtain ⟨n, d, f⟩ := q
  refine Dwp.step t132 rfl fun K hK => ?_
  simp only [dcall, tabOf] at g1 g2
  simp at g1 g2
  simp [drunL, drunO, dwanted, dopS, own, plainOf, dop, dput, eval, ofVal, Then, Ex.then, Ex.inBlock, upd, dbin, Tag.isNN, nilTest, intCmp, dload, dpart, TyI.agg, dfieldAddr, dfield, dindexAddr, dindex, dlen, lenOk, dlookup, mapOf, assocM, keyFits, dmapUpdate, dcallee, dcall, tabOf, dbuiltin, dstore, DV.cells, setAt, dslice, dboundOk, dappend, appTag, rowsOf, elemOk, growLimit, dbuildCells, dbuildCells.go, structOk, fieldsOk, dbuildRows, goInt, init, arg1, arg2, arg3, EncR.one, EncR.and, Enc.bool, Enc.int, Enc.str, Enc.strs, Enc.slice, Enc.agg, Enc.tup, Enc.err, Enc.fn, g1]
  refine hK _ _ ?_ rfl; clear hK K
  refine Dwp.step t132 rfl fun K hK => ?_
  have hok : okOp s = (isName n && (!f || digit d)) := by simp [okOp, hcut]
  cases h1 : isName n with
  | false =>
    simp [drunL, drunO, dwanted, dopS, own, plainOf, dop, dput, eval, ofVal, Then, Ex.then, Ex.inBlock, upd, dbin, Tag.isNN, nilTest, intCmp, dload, dpart, TyI.agg, dfieldAddr, dfield, dindexAddr, dindex, dlen, lenOk, dlookup, mapOf, assocM, keyFits, dmapUpdate, dcallee, dcall, tabOf, dbuiltin, dstore, DV.cells, setAt, dslice, dboundOk, dappend, appTag, rowsOf, elemOk, growLimit, dbuildCells, dbuildCells.go, structOk, fieldsOk, dbuildRows, goInt, g2, h1]
    refine hK _ _ (Dwp.ret ?_) rfl
    simp [Done, dresults, dres, frz, frz1, frz2, init, arg1, arg2, arg3, EncR.one, EncR.and, Enc.bool, Enc.int, Enc.str, Enc.strs, Enc.slice, Enc.agg, Enc.tup, Enc.err, Enc.fn, Ex.then, upd, hok, h1]
  | true =>
    cases f with
    | false =>
      simp [drunL, drunO, dwanted, dopS, own, plainOf, dop, dput, eval, ofVal, Then, Ex.then, Ex.inBlock, upd, dbin, Tag.isNN, nilTest, intCmp, dload, dpart, TyI.agg, dfieldAddr, dfield, dindexAddr, dindex, dlen, lenOk, dlookup, mapOf, assocM, keyFits, dmapUpdate, dcallee, dcall, tabOf, dbuiltin, dstore, DV.cells, setAt, dslice, dboundOk, dappend, appTag, rowsOf, elemOk, growLimit, dbuildCells, dbuildCells.go, structOk, fieldsOk, dbuildRows, goInt, g2, h1]
      refine hK _ _ (Dwp.ret ?_) rfl
      simp [Done, dresults, dres, frz, frz1, frz2, init, arg1, arg2, arg3, EncR.one, EncR.and, Enc.bool, Enc.int, Enc.str, Enc.strs, Enc.slice, Enc.agg, Enc.tup, Enc.err, Enc.fn, Ex.then, upd, hok, h1]
    | true =>
      by_cases hd : d.size = 1
      · obtain ⟨c, rfl⟩ := size_one hd
        have e1 : (ByteArray.mk #[c]).size = 1 := rfl
        have e2 : (ByteArray.mk #[c])[0]? = some c := rfl
        have e3 : (ByteArray.mk #[c])[0]'(by rw [e1]; omega) = c := rfl
        have hdg : digit ⟨#[c]⟩ = (decide (49 ≤ (c.toNat : Int)) && decide ((c.toNat : Int) ≤ 56)) := rfl
        by_cases h49 : 49 ≤ (c.toNat : Int)
        · simp [drunL, drunO, dwanted, dopS, own, plainOf, dop, dput, eval, ofVal, Then, Ex.then, Ex.inBlock, upd, dbin, Tag.isNN, nilTest, intCmp, dload, dpart, TyI.agg, dfieldAddr, dfield, dindexAddr, dindex, dlen, lenOk, dlookup, mapOf, assocM, keyFits, dmapUpdate, dcallee, dcall, tabOf, dbuiltin, dstore, DV.cells, setAt, dslice, dboundOk, dappend, appTag, rowsOf, elemOk, growLimit, dbuildCells, dbuildCells.go, structOk, fieldsOk, dbuildRows, goInt, g2, h1, ty9, e1, e2, e3, h49]
          refine hK _ _ (Dwp.ret ?_) rfl
          simp [Done, dresults, dres, frz, frz1, frz2, init, arg1, arg2, arg3, EncR.one, EncR.and, Enc.bool, Enc.int, Enc.str, Enc.strs, Enc.slice, Enc.agg, Enc.tup, Enc.err, Enc.fn, Ex.then, upd, hok, h1, hdg, h49]
        · simp [drunL, drunO, dwanted, dopS, own, plainOf, dop, dput, eval, ofVal, Then, Ex.then, Ex.inBlock, upd, dbin, Tag.isNN, nilTest, intCmp, dload, dpart, TyI.agg, dfieldAddr, dfield, dindexAddr, dindex, dlen, lenOk, dlookup, mapOf, assocM, keyFits, dmapUpdate, dcallee, dcall, tabOf, dbuiltin, dstore, DV.cells, setAt, dslice, dboundOk, dappend, appTag, rowsOf, elemOk, growLimit, dbuildCells, dbuildCells.go, structOk, fieldsOk, dbuildRows, goInt, g2, h1, ty9, e1, e2, e3, h49]
          refine hK _ _ (Dwp.ret ?_) rfl
          simp [Done, dresults, dres, frz, frz1, frz2, init, arg1, arg2, arg3, EncR.one, EncR.and, Enc.bool, Enc.int, Enc.str, Enc.strs, Enc.slice, Enc.agg, Enc.tup, Enc.err, Enc.fn, Ex.then, upd, hok, h1, hdg, h49]
      · have hd' : ((d.size : Int) == 1) = false := by simp; omega
        simp [drunL, drunO, dwanted, dopS, own, plainOf, dop, dput, eval, ofVal, Then, Ex.then, Ex.inBlock, upd, dbin, Tag.isNN, nilTest, intCmp, dload, dpart, TyI.agg, dfieldAddr, dfield, dindexAddr, dindex, dlen, lenOk, dlookup, mapOf, assocM, keyFits, dmapUpdate, dcallee, dcall, tabOf, dbuiltin, dstore, DV.cells, setAt, dslice, dboundOk, dappend, appTag, rowsOf, elemOk, growLimit, dbuildCells, dbuildCells.go, structOk, fieldsOk, dbuildRows, goInt, g2, h1, ty9, hd']
        refine hK _ _ (Dwp.ret ?_) rfl
        simp [Done, dresults, dres, frz, frz1, frz2, init, arg1, arg2, arg3, EncR.one, EncR.and, Enc.bool, Enc.int, Enc.str, Enc.strs, Enc.slice, Enc.agg, Enc.tup, Enc.err, Enc.fn, Ex.then, upd, hok, h1, digit_ne hd]
theorem e344 : Go.FA.Good Tryz.prog (344, s344) := ⟨c344, Tryz.f344, _, Tryz.func344, rfl, by decide⟩

@[simp] theorem opd0 (o : OpD) : (EncR.opd.enc o)[0]? = some (.lit (.string o.name)) := rfl
@[simp] theorem opd1 (o : OpD) : (EncR.opd.enc o)[1]? = some (Enc.strs.enc o.args) := rfl
@[simp] theorem opd2 (o : OpD) : (EncR.opd.enc o)[2]? = some (.lit (.string o.sort)) := rfl
@[simp] theorem opd3 (o : OpD) : (EncR.opd.enc o)[3]? = some (Enc.pies.enc o.pieces) := rfl
@[simp] theorem opd4 (o : OpD) : (EncR.opd.enc o)[4]? = some (.lit (.int .i64 o.prec)) := rfl
@[simp] theorem opd5 (o : OpD) : (EncR.opd.enc o)[5]? = some (.lit (.int .i64 o.assoc)) := rfl
@[simp] theorem opd6 (o : OpD) : (EncR.opd.enc o)[6]? = some (Enc.ints.enc o.strict) := rfl
@[simp] theorem opdLen (o : OpD) : (EncR.opd.enc o).length = 7 := rfl
@[simp] theorem opdTake (o : OpD) : (EncR.opd.enc o).take 7 = EncR.opd.enc o := rfl
@[simp] theorem bookLen (b : Book) : (EncR.book.enc b).length = 3 := rfl
@[simp] theorem bookTake (b : Book) : (EncR.book.enc b).take 3 = EncR.book.enc b := rfl

theorem call344 (T : Tab) (hT : T 344 = some s344) (s : ByteArray) (hs : s.size ≤ lim) : dcall T 344 [.lit (.string s)] = some (.lit (.bool (okOp s))) := by
  simp [dcall, hT, s344, sp, arg1, EncR.one, Enc.str, Enc.bool, hs]
theorem call120 (T : Tab) (hT : T 120 = some s120) (s : ByteArray) : dcall T 120 [.lit (.string s)] = some (.lit (.bool (builtIn s))) := by
  simp [dcall, hT, s120, sp, arg1, EncR.one, Enc.str, Enc.bool]
theorem call339 (T : Tab) (hT : T 339 = some s339) (b : Book) (s : ByteArray) : dcall T 339 [.agg (EncR.book.enc b), .lit (.string s)] = some (.lit (.bool (b.decl s))) := by
  simp [dcall, hT, s339, sp, arg2, EncR.and, EncR.one, Enc.book, Enc.agg, EncR.book.de, Enc.str, Enc.bool]
def okArgs (b : Book) (o : OpD) : Bool := decide (o.args.length ≤ 8) && o.args.all b.has
theorem call345 (T : Tab) (hT : T 345 = some s345) (b : Book) (o : OpD) : dcall T 345 [.agg (EncR.book.enc b), .agg (EncR.opd.enc o)] = some (.lit (.bool (okArgs b o))) := by
  simp [dcall, hT, s345, sp, arg2, EncR.and, EncR.one, Enc.book, Enc.opd, Enc.agg, EncR.book.de, EncR.opd.de, Enc.bool, okArgs]
theorem call346 (T : Tab) (hT : T 346 = some s346) (o : OpD) (h : o.args.length ≤ lim) : dcall T 346 [.agg (EncR.opd.enc o)] = some (.lit (.bool (okPieces o))) := by
  simp [dcall, hT, s346, sp, arg1, EncR.one, Enc.opd, Enc.agg, EncR.opd.de, Enc.bool, h]
theorem call347 (T : Tab) (hT : T 347 = some s347) (o : OpD) : dcall T 347 [.agg (EncR.opd.enc o)] = some (.lit (.bool (okBinding o))) := by
  simp [dcall, hT, s347, sp, arg1, EncR.one, Enc.opd, Enc.agg, EncR.opd.de, Enc.bool]
def okStrict (o : OpD) : Bool := o.strict.all (fun n => decide (1 ≤ n) && decide (n ≤ o.args.length)) && decide o.strict.Nodup
theorem call348 (T : Tab) (hT : T 348 = some s348) (o : OpD) (h : o.args.length ≤ lim) (h' : o.strict.length ≤ lim) : dcall T 348 [.agg (EncR.opd.enc o)] = some (.lit (.bool (okStrict o))) := by
  simp [dcall, hT, s348, sp, arg1, EncR.one, Enc.opd, Enc.agg, EncR.opd.de, Enc.bool, h, h', okStrict]

/-- a declaration that is not too large to be looked at -/
def OpD.small (o : OpD) : Prop := o.name.size ≤ lim ∧ o.args.length ≤ lim ∧ o.pieces.length ≤ lim ∧ o.strict.length ≤ lim
instance (o : OpD) : Decidable o.small := by unfold OpD.small; infer_instance
def badOp (b : Book) (o : OpD) : Bool := !okOp o.name || builtIn o.name || !okArgs b o || !b.decl o.sort || !okPieces o || !okBinding o || !okStrict o
def s330 : Sp := sp (arg2 Enc.book Enc.opd) Enc.bool (fun x => if x.2.small then some (badOp x.1 x.2) else none)
abbrev T116 : Tab := tabOf [(344, s344), (120, s120), (345, s345), (339, s339), (346, s346), (347, s347), (348, s348)]
theorem t116 : TabOk Tryz.prog T116 := .cons e344 (.cons e120 (.cons e345 (.cons e339 (.cons e346 (.cons e347 (.cons e348 .nil))))))
theorem c330 : CallSound Tryz.prog 330 s330 := by
  refine CallSound.of_sp (T := T116) Tryz.func330 rfl (Nat.le_of_ble_eq_true rfl) fun E x y hy => ?_
  obtain ⟨b, o⟩ := x
  by_cases hs : o.small <;> simp [hs] at hy
  subst hy
  obtain ⟨hn, ha, hp, hst⟩ := hs
  have g1 := call344 T116 rfl o.name hn
  have g2 := call120 T116 rfl o.name
  have g3 := call345 T116 rfl b o
  have g4 := call339 T116 rfl b o.sort
  have g5 := call346 T116 rfl o ha
  have g6 := call347 T116 rfl o
  have g7 := call348 T116 rfl o ha hst
  refine Dwp.step t116 rfl fun K hK => ?_
  simp [drunL, drunO, dwanted, dopS, own, plainOf, dop, dput, eval, ofVal, Then, Ex.then, Ex.inBlock, upd, dbin, Tag.isNN, nilTest, intCmp, dload, dpart, TyI.agg, dfieldAddr, dfield, dindexAddr, dindex, dlen, lenOk, dlookup, mapOf, assocM, keyFits, dmapUpdate, dcallee, dcall, tabOf, dbuiltin, dstore, DV.cells, setAt, dslice, dboundOk, dappend, appTag, rowsOf, elemOk, growLimit, dbuildCells, dbuildCells.go, structOk, fieldsOk, dbuildRows, goInt, init, arg1, arg2, arg3, EncR.one, EncR.and, Enc.bool, Enc.int, Enc.str, Enc.strs, Enc.slice, Enc.agg, Enc.tup, Enc.err, Enc.fn, Enc.opd, Enc.book]
  refine hK _ _ ?_ rfl; clear hK K
  refine Dwp.step t116 rfl fun K hK => ?_
  generalize hT : T116 = T at *
  cases k1 : okOp o.name with
  | false =>
    simp [drunL, dwanted, dopS, own, plainOf, dop, dput, eval, ofVal, Then, upd, dfieldAddr, dload, dpart, TyI.agg, ty83, ty229, ty9, dcallee, g1, k1]
    refine hK _ _ (Dwp.ret ?_) rfl
    simp [Done, dresults, dres, frz, frz1, frz2, init, arg1, arg2, arg3, EncR.one, EncR.and, Enc.bool, Enc.int, Enc.str, Enc.strs, Enc.slice, Enc.agg, Enc.tup, Enc.err, Enc.fn, Ex.then, upd, badOp, k1]
  | true =>
  cases k2 : builtIn o.name with
  | true =>
    simp [drunL, dwanted, dopS, own, plainOf, dop, dput, eval, ofVal, Then, upd, dfieldAddr, dload, dpart, TyI.agg, ty83, ty229, ty9, dcallee, g1, k1, g2, k2]
    refine hK _ _ (Dwp.ret ?_) rfl
    simp [Done, dresults, dres, frz, frz1, frz2, init, arg1, arg2, arg3, EncR.one, EncR.and, Enc.bool, Enc.int, Enc.str, Enc.strs, Enc.slice, Enc.agg, Enc.tup, Enc.err, Enc.fn, Ex.then, upd, badOp, k1, k2]
  | false =>
  cases k3 : okArgs b o with
  | false =>
    simp [drunL, dwanted, dopS, own, plainOf, dop, dput, eval, ofVal, Then, upd, dfieldAddr, dload, dpart, TyI.agg, ty83, ty229, ty9, dcallee, g1, k1, g2, k2, g3, k3]
    refine hK _ _ (Dwp.ret ?_) rfl
    simp [Done, dresults, dres, frz, frz1, frz2, init, arg1, arg2, arg3, EncR.one, EncR.and, Enc.bool, Enc.int, Enc.str, Enc.strs, Enc.slice, Enc.agg, Enc.tup, Enc.err, Enc.fn, Ex.then, upd, badOp, k1, k2, k3]
  | true =>
  cases k4 : b.decl o.sort with
  | false =>
    simp [drunL, dwanted, dopS, own, plainOf, dop, dput, eval, ofVal, Then, upd, dfieldAddr, dload, dpart, TyI.agg, ty83, ty229, ty9, dcallee, g1, k1, g2, k2, g3, k3, g4, k4]
    refine hK _ _ (Dwp.ret ?_) rfl
    simp [Done, dresults, dres, frz, frz1, frz2, init, arg1, arg2, arg3, EncR.one, EncR.and, Enc.bool, Enc.int, Enc.str, Enc.strs, Enc.slice, Enc.agg, Enc.tup, Enc.err, Enc.fn, Ex.then, upd, badOp, k1, k2, k3, k4]
  | true =>
  cases k5 : okPieces o with
  | false =>
    simp [drunL, dwanted, dopS, own, plainOf, dop, dput, eval, ofVal, Then, upd, dfieldAddr, dload, dpart, TyI.agg, ty83, ty229, ty9, dcallee, g1, k1, g2, k2, g3, k3, g4, k4, g5, k5]
    refine hK _ _ (Dwp.ret ?_) rfl
    simp [Done, dresults, dres, frz, frz1, frz2, init, arg1, arg2, arg3, EncR.one, EncR.and, Enc.bool, Enc.int, Enc.str, Enc.strs, Enc.slice, Enc.agg, Enc.tup, Enc.err, Enc.fn, Ex.then, upd, badOp, k1, k2, k3, k4, k5]
  | true =>
  cases k6 : okBinding o with
  | false =>
    simp [drunL, dwanted, dopS, own, plainOf, dop, dput, eval, ofVal, Then, upd, dfieldAddr, dload, dpart, TyI.agg, ty83, ty229, ty9, dcallee, g1, k1, g2, k2, g3, k3, g4, k4, g5, k5, g6, k6]
    refine hK _ _ (Dwp.ret ?_) rfl
    simp [Done, dresults, dres, frz, frz1, frz2, init, arg1, arg2, arg3, EncR.one, EncR.and, Enc.bool, Enc.int, Enc.str, Enc.strs, Enc.slice, Enc.agg, Enc.tup, Enc.err, Enc.fn, Ex.then, upd, badOp, k1, k2, k3, k4, k5, k6]
  | true =>
    simp [drunL, dwanted, dopS, own, plainOf, dop, dput, eval, ofVal, Then, upd, dfieldAddr, dload, dpart, TyI.agg, ty83, ty229, ty9, dcallee, g1, k1, g2, k2, g3, k3, g4, k4, g5, k5, g6, k6, g7]
    refine hK _ _ (Dwp.ret ?_) rfl
    simp [Done, dresults, dres, frz, frz1, frz2, init, arg1, arg2, arg3, EncR.one, EncR.and, Enc.bool, Enc.int, Enc.str, Enc.strs, Enc.slice, Enc.agg, Enc.tup, Enc.err, Enc.fn, Ex.then, upd, badOp, k1, k2, k3, k4, k5, k6]
theorem e330 : Go.FA.Good Tryz.prog (330, s330) := ⟨c330, Tryz.f330, _, Tryz.func330, rfl, by decide⟩
end Go.Proofs.Yt
namespace Go.Proofs.Yt
open Go Go.FA Go.Proofs
set_option linter.unusedVariables false
set_option linter.unusedSimpArgs false
set_option maxRecDepth 100000

def Enc.nil : Enc Unit where
  enc _ := .lit (.slice none 0 0)
  dec d := match d with | .lit (.slice none 0 0) => some () | _ => none
  le d x h := by split at h <;> simp_all [DLe.refl]
  pure _ := rfl
  de _ := rfl

/-- slices.Grow of the nil slice -/
def growSp {α : Type} (B : EncR α) : Sp := spOwn (arg2 Enc.nil (Enc.int .i64)) B (fun x => if 0 ≤ x.2 ∧ x.2 ≤ 1073741824 then some [] else none)
theorem grow_sound {α : Type} {P : Program} {ρ : Go.Shelf.Ren} (L : Lays8.n4 P ρ) (B : EncR α) {i : TypeInfo} {z : Value} (hi : P.info? (ρ.t 25) = some i) (hz : i.zero = some z) (hs : 0 < i.size) (hk : i.size = B.k)
    (hzs : z.cells.size = i.size) (hb : i.bytes ≤ 65536) : CallSound P (ρ.f 4) (growSp B) := by
  intro args r hr
  simp only [growSp, spOwn, Option.bind_eq_some_iff, Option.map_eq_some_iff] at hr
  obtain ⟨⟨u, n⟩, hx, l, hy, rfl⟩ := hr
  by_cases hn : 0 ≤ n ∧ n ≤ 1073741824 <;> simp [hn] at hy
  subst hy
  refine .inr ⟨_, _, rfl, rfl, fun C w cargs hpc hpm hl1 => ?_⟩
  have hl := LRel_le ((arg2 Enc.nil (Enc.int .i64)).le _ _ hx) hl1
  have hc : cargs = [.slice none 0 0, .int .i64 n] := by
    simp only [arg2, EncR.and, EncR.one, Enc.nil, Enc.int] at hl
    match cargs, hl with
    | [a, b], hl =>
      simp [LRel, VRel] at hl
      rw [hl.1, hl.2]
  subst hc
  obtain ⟨m, rfl⟩ : ∃ m : Nat, n = m := ⟨n.toNat, by omega⟩
  by_cases h0 : m = 0
  · subst h0
    refine (Any8.slices_Grow_room L none 0 0 0 w (Nat.le_refl _) (by omega) (by omega) (by omega)).mono ?_
    rintro e w' ⟨rfl, rfl⟩
    exact ⟨_, rfl, Go.RowKit.Below.refl _ _, ⟨0, 0, 0, 0⟩, rfl, fun q => by simp at q, by simp only [VRel]; exact .inr ⟨none, rfl, rfl, _, rfl, Nat.le_refl _⟩⟩
  · have hbb : (0 + m) * i.bytes ≤ 140737488355328 := by
      have : (0 + m) * i.bytes ≤ 1073741824 * 65536 := Nat.mul_le_mul (by omega) hb
      omega
    refine (Any8.slices_Grow_grow L i z hi hz hs none 0 0 m [] w (Nat.le_refl _) (by omega) hbb (by omega) (by simp) (fun _ => rfl) (by simp)).mono ?_
    rintro e w' ⟨rfl, rfl⟩
    have hG := grownCap_ge w (0 + m) 0 (ρ.t 25)
    generalize grownCap w (0 + m) 0 (ρ.t 25) = G at *
    have hsz : (([] : List Value).toArray ++ Builtin.zeroCells z.cells (0 + m - 0) ++ Builtin.zeroCells z.cells (G - (0 + m))).size = G * i.size := by
      simp only [Array.size_append, size_zeroCells, hzs, List.size_toArray, List.length_nil]
      have : G = m + (G - m) := by omega
      rw [show G * i.size = m * i.size + (G - m) * i.size by rw [← Nat.add_mul, ← this]]
      simp
    refine ⟨_, rfl, (Go.RowKit.Below.refl _ _).drew.alloc (Nat.le_refl _) _, ⟨0, w.heap.size, 0, G * i.size⟩, rfl, fun _ => ⟨Nat.le_refl _, _, ρ.t 25, ?_, Nat.le_of_eq hsz.symm⟩, ?_⟩
    · exact heap_alloc_new w.drew _
    · simp only [VRel]
      exact .inl ⟨w.heap.size, 0, G, rfl, Nat.zero_le _, by simp [RRel], ⟨_, rfl, Nat.le_refl _, fun _ => .inr ⟨rfl, by simp, by simp [hk]⟩⟩, Nat.le_refl _, _, _, heap_alloc_new w.drew _⟩

def renG (f s e : Nat) : Go.Shelf.Ren := ⟨fun n => if n = 4 then f else n, fun n => if n = 22 then s else if n = 25 then e else n, fun n => n⟩
theorem lays127 : Lays8.n4 Tryz.prog (renG 338 22 9) where
  mixed := mixed
  f4 := ⟨"slices.Grow[[]string,string]", by decide, by kernel_rfl⟩
  t0 := by kernel_rfl
  a0 := Tryz.isAgg0
  z0 := Tryz.sizeOf0
  v0 := Tryz.zeroValue0
  t3 := by kernel_rfl
  a3 := Tryz.isAgg3
  z3 := Tryz.sizeOf3
  v3 := Tryz.zeroValue3
  t4 := by kernel_rfl
  a4 := Tryz.isAgg4
  z4 := Tryz.sizeOf4
  v4 := Tryz.zeroValue4
  t9 := by kernel_rfl
  a9 := Tryz.isAgg9
  z9 := Tryz.sizeOf9
  v9 := Tryz.zeroValue9
  t20 := by kernel_rfl
  a20 := Tryz.isAgg20
  z20 := Tryz.sizeOf20
  v20 := Tryz.zeroValue20
  t22 := by kernel_rfl
  a22 := Tryz.isAgg22
  z22 := Tryz.sizeOf22
  v22 := Tryz.zeroValue22
theorem lays150 : Lays8.n4 Tryz.prog (renG 352 24 83) where
  mixed := mixed
  f4 := ⟨"slices.Grow[[]voussoir/api.Op,voussoir/api.Op]", by decide, by kernel_rfl⟩
  t0 := by kernel_rfl
  a0 := Tryz.isAgg0
  z0 := Tryz.sizeOf0
  v0 := Tryz.zeroValue0
  t3 := by kernel_rfl
  a3 := Tryz.isAgg3
  z3 := Tryz.sizeOf3
  v3 := Tryz.zeroValue3
  t4 := by kernel_rfl
  a4 := Tryz.isAgg4
  z4 := Tryz.sizeOf4
  v4 := Tryz.zeroValue4
  t9 := by kernel_rfl
  a9 := Tryz.isAgg9
  z9 := Tryz.sizeOf9
  v9 := Tryz.zeroValue9
  t20 := by kernel_rfl
  a20 := Tryz.isAgg20
  z20 := Tryz.sizeOf20
  v20 := Tryz.zeroValue20
  t22 := by kernel_rfl
  a22 := Tryz.isAgg24
  z22 := Tryz.sizeOf24
  v22 := Tryz.zeroValue24

def s338 : Sp := growSp (EncR.one Enc.str)
theorem c338 : CallSound Tryz.prog 338 s338 := grow_sound lays127 (EncR.one Enc.str) (i := Tryz.t9) (z := .string ⟨#[]⟩) (by kernel_rfl) (by kernel_rfl) (by decide) rfl (by decide) (by decide)
theorem e338 : Go.FA.Good Tryz.prog (338, s338) := ⟨c338, Tryz.f338, _, Tryz.func338, rfl, by decide⟩
def s352 : Sp := growSp EncR.opd
theorem c352 : CallSound Tryz.prog 352 s352 := grow_sound lays150 EncR.opd (i := Tryz.t83) (z := Tryz.t83.zero.get!) (by kernel_rfl) (by kernel_rfl) (by decide) rfl (by kernel_rfl) (by decide)
theorem e352 : Go.FA.Good Tryz.prog (352, s352) := ⟨c352, Tryz.f352, _, Tryz.func352, rfl, by decide⟩
end Go.Proofs.Yt
namespace Go.Proofs.Yt
open Go Go.FA Go.Proofs
set_option linter.unusedVariables false
set_option linter.unusedSimpArgs false
set_option maxRecDepth 100000

def s120o : Sp := spOwn (arg1 Enc.strs) (EncR.one Enc.str) (fun l => if l.length ≤ 1048576 then some l else none)
theorem c120o : CallSound Tryz.prog 349 s120o := by
  refine CallSound.of_own (T := tabOf []) Tryz.func349 rfl (Nat.le_of_ble_eq_true rfl) fun E l y hy => ?_
  by_cases hlim : l.length ≤ 1048576 <;> simp [hlim] at hy
  subst hy
  have hd := strs_dec l
  simp only [EncR.one, Enc.str] at hd
  have go : ∀ (a : Nat → DV) (tag : Tag), tag = .none ∧ l ≠ [] ∨ tag = .nn → a 0 = .slice 1 tag (l.map fun s => [DV.lit (.string s)]) → ∀ c, Tryz.f349.body = some c → Dwp Tryz.prog (tabOf []) E Tryz.f349.ntmps c (DoneOwn Tryz.prog Tryz.f349.results (EncR.one Enc.str) l) a σ0 := by
    intro a tag htag h0 c hc
    cases hc
    refine Dwp.step tab0 rfl fun K hK => ?_
    simp [drunL, drunO, dwanted, dopS, own, plainOf, dop, dput, eval, ofVal, Then, Ex.then, Ex.inBlock, upd, dbin, Tag.isNN, nilTest, intCmp, dload, dpart, TyI.agg, dfieldAddr, dfield, dindexAddr, dindex, dlen, lenOk, dlookup, mapOf, assocM, keyFits, dmapUpdate, dcallee, dcall, tabOf, dbuiltin, dstore, DV.cells, setAt, dslice, dboundOk, dappend, appTag, rowsOf, elemOk, growLimit, dbuildCells, dbuildCells.go, structOk, fieldsOk, dbuildRows, goInt]
    refine hK _ _ ?_ rfl; clear hK K
    refine Dwp.seq ?_
    refine Dwp.step tab0 rfl fun K hK => ?_
    have hnn : tag.isNN = true ∨ ¬l = [] := by
      rcases htag with ⟨rfl, hne⟩ | rfl
      · exact .inr hne
      · exact .inl rfl
    simp [drunL, drunO, dwanted, dopS, own, plainOf, dop, dput, eval, ofVal, Then, Ex.then, Ex.inBlock, upd, dbin, Tag.isNN, nilTest, intCmp, dload, dpart, TyI.agg, dfieldAddr, dfield, dindexAddr, dindex, dlen, lenOk, dlookup, mapOf, assocM, keyFits, dmapUpdate, dcallee, dcall, tabOf, dbuiltin, dstore, DV.cells, setAt, dslice, dboundOk, dappend, appTag, rowsOf, elemOk, growLimit, dbuildCells, dbuildCells.go, structOk, fieldsOk, dbuildRows, goInt, h0, ty22]
    simp only [Tag.isNN] at hnn
    rw [if_pos hnn]
    simp [drunL, drunO, dwanted, dopS, own, plainOf, dop, dput, eval, ofVal, Then, Ex.then, Ex.inBlock, upd, dbin, Tag.isNN, nilTest, intCmp, dload, dpart, TyI.agg, dfieldAddr, dfield, dindexAddr, dindex, dlen, lenOk, dlookup, mapOf, assocM, keyFits, dmapUpdate, dcallee, dcall, tabOf, dbuiltin, dstore, DV.cells, setAt, dslice, dboundOk, dappend, appTag, rowsOf, elemOk, growLimit, dbuildCells, dbuildCells.go, structOk, fieldsOk, dbuildRows, goInt]
    refine hK _ _ ?_ rfl; clear hK K
    refine Dwp.condF (by simp [eval, upd]) (Dwp.skip ?_)
    refine Dwp.step tab0 rfl fun K hK => ?_
    have hle : l.length ≤ 16777216 := by omega
    simp [drunL, drunO, dwanted, dopS, own, plainOf, dop, dput, eval, ofVal, Then, Ex.then, Ex.inBlock, upd, dbin, Tag.isNN, nilTest, intCmp, dload, dpart, TyI.agg, dfieldAddr, dfield, dindexAddr, dindex, dlen, lenOk, dlookup, mapOf, assocM, keyFits, dmapUpdate, dcallee, dcall, tabOf, dbuiltin, dstore, DV.cells, setAt, dslice, dboundOk, dappend, appTag, rowsOf, elemOk, growLimit, dbuildCells, dbuildCells.go, structOk, fieldsOk, dbuildRows, goInt, h0, ty22, ty9, hle]
    refine hK _ _ (Dwp.ret ?_) rfl
    exact ⟨.inr rfl, _, rfl, .inr ⟨_, _, _, rfl, by simp [upd], by rw [decRows0_eq]; exact strs_dec l⟩⟩
  cases l with
  | nil =>
    refine Dwp.nilCase 0 1 (by simp [init, arg1, arg2, arg3, EncR.one, EncR.and, Enc.bool, Enc.int, Enc.str, Enc.strs, Enc.slice, Enc.agg, Enc.tup, Enc.err, Enc.fn]) ?_ (go _ .nn (.inr rfl) (by simp [upd]) _ rfl)
    refine Dwp.step tab0 rfl fun K hK => ?_
    simp [drunL, drunO, dwanted, dopS, own, plainOf, dop, dput, eval, ofVal, Then, Ex.then, Ex.inBlock, upd, dbin, Tag.isNN, nilTest, intCmp, dload, dpart, TyI.agg, dfieldAddr, dfield, dindexAddr, dindex, dlen, lenOk, dlookup, mapOf, assocM, keyFits, dmapUpdate, dcallee, dcall, tabOf, dbuiltin, dstore, DV.cells, setAt, dslice, dboundOk, dappend, appTag, rowsOf, elemOk, growLimit, dbuildCells, dbuildCells.go, structOk, fieldsOk, dbuildRows, goInt]
    refine hK _ _ ?_ rfl; clear hK K
    refine Dwp.seq ?_
    refine Dwp.step tab0 rfl fun K hK => ?_
    simp [drunL, drunO, dwanted, dopS, own, plainOf, dop, dput, eval, ofVal, Then, Ex.then, Ex.inBlock, upd, dbin, Tag.isNN, nilTest, intCmp, dload, dpart, TyI.agg, dfieldAddr, dfield, dindexAddr, dindex, dlen, lenOk, dlookup, mapOf, assocM, keyFits, dmapUpdate, dcallee, dcall, tabOf, dbuiltin, dstore, DV.cells, setAt, dslice, dboundOk, dappend, appTag, rowsOf, elemOk, growLimit, dbuildCells, dbuildCells.go, structOk, fieldsOk, dbuildRows, goInt, ty22]
    refine hK _ _ ?_ rfl; clear hK K
    refine Dwp.condT (by simp [eval, upd]) ?_
    refine Dwp.step tab0 rfl fun K hK => ?_
    simp [drunL, drunO, dwanted, dopS, own, plainOf, dop, dput, eval, ofVal, Then, Ex.then, Ex.inBlock, upd, dbin, Tag.isNN, nilTest, intCmp, dload, dpart, TyI.agg, dfieldAddr, dfield, dindexAddr, dindex, dlen, lenOk, dlookup, mapOf, assocM, keyFits, dmapUpdate, dcallee, dcall, tabOf, dbuiltin, dstore, DV.cells, setAt, dslice, dboundOk, dappend, appTag, rowsOf, elemOk, growLimit, dbuildCells, dbuildCells.go, structOk, fieldsOk, dbuildRows, goInt]
    refine hK _ _ (Dwp.ret ?_) rfl
    exact ⟨.inr rfl, _, rfl, .inl ⟨rfl, rfl⟩⟩
  | cons x r => exact go _ .none (.inl ⟨rfl, by simp⟩) (by simp [init, arg1, arg2, arg3, EncR.one, EncR.and, Enc.bool, Enc.int, Enc.str, Enc.strs, Enc.slice, Enc.agg, Enc.tup, Enc.err, Enc.fn]) _ rfl
theorem e120o : Go.FA.Good Tryz.prog (349, s120o) := ⟨c120o, Tryz.f349, _, Tryz.func349, rfl, by decide⟩

end Go.Proofs.Yt
namespace Go.Proofs.Yt
open Go Go.FA Go.Proofs
set_option linter.unusedVariables false
set_option linter.unusedSimpArgs false
set_option maxRecDepth 100000

theorem call338 (T : Tab) (hT : T 338 = some s338) (n : Int) (h0 : 0 ≤ n) (h1 : n ≤ 1073741824) : dcall T 338 [.lit (.slice none 0 0), .lit (.int .i64 n)] = some (.slice 1 (.tok 0 0) []) := by
  simp [dcall, hT, s338, growSp, spOwn, arg2, EncR.and, EncR.one, Enc.nil, Enc.int, h0, h1]
theorem call352 (T : Tab) (hT : T 352 = some s352) (n : Int) (h0 : 0 ≤ n) (h1 : n ≤ 1073741824) : dcall T 352 [.lit (.slice none 0 0), .lit (.int .i64 n)] = some (.slice 7 (.tok 0 0) []) := by
  simp [dcall, hT, s352, growSp, spOwn, arg2, EncR.and, EncR.one, Enc.nil, Enc.int, h0, h1]
/-- lists one behind another -/
def cat {α : Type} (l : List (List α)) : List α := List.flatten l
theorem cat_take {α : Type} {l : List (List α)} {i : Nat} (h : i < l.length) : cat (l.take (i + 1)) = cat (l.take i) ++ l[i] := by
  unfold cat; rw [List.take_succ_eq_append_getElem h, List.flatten_append]; simp
theorem cat_le {α : Type} {l : List (List α)} {i : Nat} : (cat (l.take i)).length ≤ (cat l).length := by
  have h : List.flatten l = List.flatten (l.take i) ++ List.flatten (l.drop i) := by rw [← List.flatten_append, List.take_append_drop]
  unfold cat; rw [h, List.length_append]; omega
@[simp] theorem cat_nil {α : Type} : cat ([] : List (List α)) = [] := rfl

def Enc.lists {α : Type} (B : Enc α) : Enc (List α) := Enc.slice (EncR.one B)
def s323 : Sp := sp (arg1 (Enc.lists Enc.strs)) Enc.strs (fun l => if l.length ≤ 1048576 ∧ (cat l).length ≤ 1048576 then some (cat l) else none)
def inv109a (l : List (List ByteArray)) : Nat → (Nat → DV) → St → Prop := fun k a σ => ∃ i, i ≤ l.length ∧ k = l.length - i ∧ a 0 = .slice 1 .none (l.map fun s => [Enc.strs.enc s]) ∧ a 3 = .lit (.int .i64 (cat (l.take i)).length) ∧
  a 9 = .slice 1 .none (l.map fun s => [Enc.strs.enc s]) ∧ a 10 = .lit (.int .i64 l.length) ∧ a 11 = .lit (.int .i64 i)
def inv109b (l : List (List ByteArray)) : Nat → (Nat → DV) → St → Prop := fun k a σ => ∃ (i tk g : Nat), i ≤ l.length ∧ k = l.length - i ∧
  a 6 = .slice 1 (.tok tk g) ((cat (l.take i)).map fun s => [DV.lit (.string s)]) ∧ σ.toks tk = some g ∧
  a 25 = .slice 1 .none (l.map fun s => [Enc.strs.enc s]) ∧ a 26 = .lit (.int .i64 l.length) ∧ a 27 = .lit (.int .i64 i)
theorem t109 : TabOk Tryz.prog (tabOf [(338, s338)]) := .cons e338 .nil
theorem c323 : CallSound Tryz.prog 323 s323 := by
  refine CallSound.of_sp (T := tabOf [(338, s338)]) Tryz.func323 rfl (Nat.le_of_ble_eq_true rfl) fun E l y hy => ?_
  by_cases hlim : l.length ≤ 1048576 ∧ (cat l).length ≤ 1048576 <;> simp only [hlim, and_self, if_true, if_false, reduceCtorEq, Option.some.injEq] at hy
  subst hy
  obtain ⟨hl1, hl2⟩ := hlim
  refine Dwp.step t109 rfl fun K hK => ?_
  simp [drunL, drunO, dwanted, dopS, own, plainOf, dop, dput, eval, ofVal, Then, Ex.then, Ex.inBlock, upd, dbin, Tag.isNN, nilTest, intCmp, dload, dpart, TyI.agg, dfieldAddr, dfield, dindexAddr, dindex, dlen, lenOk, dlookup, mapOf, assocM, keyFits, dmapUpdate, dcallee, dcall, tabOf, dbuiltin, dstore, DV.cells, setAt, dslice, dboundOk, dappend, appTag, rowsOf, elemOk, growLimit, dbuildCells, dbuildCells.go, structOk, fieldsOk, dbuildRows, goInt]
  refine hK _ _ ?_ rfl; clear hK K
  refine Dwp.step t109 rfl fun K hK => ?_
  simp [drunL, drunO, dwanted, dopS, own, plainOf, dop, dput, eval, ofVal, Then, Ex.then, Ex.inBlock, upd, dbin, Tag.isNN, nilTest, intCmp, dload, dpart, TyI.agg, dfieldAddr, dfield, dindexAddr, dindex, dlen, lenOk, dlookup, mapOf, assocM, keyFits, dmapUpdate, dcallee, dcall, tabOf, dbuiltin, dstore, DV.cells, setAt, dslice, dboundOk, dappend, appTag, rowsOf, elemOk, growLimit, dbuildCells, dbuildCells.go, structOk, fieldsOk, dbuildRows, goInt]
  refine hK _ _ ?_ rfl; clear hK K
  refine Dwp.seq ?_
  refine Dwp.step t109 rfl fun K hK => ?_
  simp [drunL, drunO, dwanted, dopS, own, plainOf, dop, dput, eval, ofVal, Then, Ex.then, Ex.inBlock, upd, dbin, Tag.isNN, nilTest, intCmp, dload, dpart, TyI.agg, dfieldAddr, dfield, dindexAddr, dindex, dlen, lenOk, dlookup, mapOf, assocM, keyFits, dmapUpdate, dcallee, dcall, tabOf, dbuiltin, dstore, DV.cells, setAt, dslice, dboundOk, dappend, appTag, rowsOf, elemOk, growLimit, dbuildCells, dbuildCells.go, structOk, fieldsOk, dbuildRows, goInt, init, arg1, EncR.one, Enc.lists, Enc.slice, ty272]
  refine hK _ _ ?_ rfl; clear hK K
  refine Dwp.block (Dwp.loop (inv109a l) l.length ⟨0, by simp, by simp, by simp [upd, init, Enc.strs, Enc.slice, EncR.one], by simp [upd], by simp [upd, init, Enc.strs, Enc.slice, EncR.one], by simp [upd], by simp [upd]⟩ ?_)
  rintro k a σ ⟨i, hi, rfl, h0, h3, h9, h10, h11⟩
  refine Dwp.step t109 rfl fun K hK => ?_
  simp [drunL, drunO, dwanted, dopS, own, plainOf, dop, dput, eval, ofVal, Then, Ex.then, Ex.inBlock, upd, dbin, Tag.isNN, nilTest, intCmp, dload, dpart, TyI.agg, dfieldAddr, dfield, dindexAddr, dindex, dlen, lenOk, dlookup, mapOf, assocM, keyFits, dmapUpdate, dcallee, dcall, tabOf, dbuiltin, dstore, DV.cells, setAt, dslice, dboundOk, dappend, appTag, rowsOf, elemOk, growLimit, dbuildCells, dbuildCells.go, structOk, fieldsOk, dbuildRows, goInt, h10, h11]
  refine hK _ _ ?_ rfl; clear hK K
  by_cases hlt : i < l.length
  · refine Dwp.seq (Dwp.condT (by simp [eval, upd, hlt]) (Dwp.skip ?_))
    refine Dwp.seq (Dwp.block ?_)
    refine Dwp.step t109 rfl fun K hK => ?_
    simp [drunL, drunO, dwanted, dopS, own, plainOf, dop, dput, eval, ofVal, Then, Ex.then, Ex.inBlock, upd, dbin, Tag.isNN, nilTest, intCmp, dload, dpart, TyI.agg, dfieldAddr, dfield, dindexAddr, dindex, dlen, lenOk, dlookup, mapOf, assocM, keyFits, dmapUpdate, dcallee, dcall, tabOf, dbuiltin, dstore, DV.cells, setAt, dslice, dboundOk, dappend, appTag, rowsOf, elemOk, growLimit, dbuildCells, dbuildCells.go, structOk, fieldsOk, dbuildRows, goInt, h9, h11, ty272, ty22, hlt]
    refine hK _ _ ?_ rfl; clear hK K
    refine Dwp.step t109 rfl fun K hK => ?_
    have hft := cat_take hlt
    have hfl := cat_le (l := l) (i := i + 1)
    have hsum : (cat (l.take (i + 1))).length = (cat (l.take i)).length + l[i].length := by rw [hft]; simp
    have hw : IntKind.wrap .i64 (((cat (l.take i)).length : Int) + l[i].length) = ((cat (l.take (i + 1))).length : Int) := by rw [wrap_small (n := ((cat (l.take i)).length : Int) + l[i].length) (by omega) (by omega)]; omega
    simp [drunL, drunO, dwanted, dopS, own, plainOf, dop, dput, eval, ofVal, Then, Ex.then, Ex.inBlock, upd, dbin, Tag.isNN, nilTest, intCmp, dload, dpart, TyI.agg, dfieldAddr, dfield, dindexAddr, dindex, dlen, lenOk, dlookup, mapOf, assocM, keyFits, dmapUpdate, dcallee, dcall, tabOf, dbuiltin, dstore, DV.cells, setAt, dslice, dboundOk, dappend, appTag, rowsOf, elemOk, growLimit, dbuildCells, dbuildCells.go, structOk, fieldsOk, dbuildRows, goInt, h3, ty22, Enc.strs, Enc.slice, EncR.one, hw]
    refine hK _ _ ?_ rfl; clear hK K
    refine Dwp.step t109 rfl fun K hK => ?_
    have hnn : ¬ (((cat (l.take (i + 1))).length : Int) < 0) := by omega
    simp [drunL, drunO, dwanted, dopS, own, plainOf, dop, dput, eval, ofVal, Then, Ex.then, Ex.inBlock, upd, dbin, Tag.isNN, nilTest, intCmp, dload, dpart, TyI.agg, dfieldAddr, dfield, dindexAddr, dindex, dlen, lenOk, dlookup, mapOf, assocM, keyFits, dmapUpdate, dcallee, dcall, tabOf, dbuiltin, dstore, DV.cells, setAt, dslice, dboundOk, dappend, appTag, rowsOf, elemOk, growLimit, dbuildCells, dbuildCells.go, structOk, fieldsOk, dbuildRows, goInt, hnn]
    refine hK _ _ ?_ rfl; clear hK K
    refine Dwp.condF (by simp [eval, upd]) (Dwp.skip ?_)
    refine Dwp.reg t109 rfl fun K hK => ?_
    simp [drunL, drunO, dwanted, dopS, own, plainOf, dop, dput, eval, ofVal, Then, Ex.then, Ex.inBlock, upd, dbin, Tag.isNN, nilTest, intCmp, dload, dpart, TyI.agg, dfieldAddr, dfield, dindexAddr, dindex, dlen, lenOk, dlookup, mapOf, assocM, keyFits, dmapUpdate, dcallee, dcall, tabOf, dbuiltin, dstore, DV.cells, setAt, dslice, dboundOk, dappend, appTag, rowsOf, elemOk, growLimit, dbuildCells, dbuildCells.go, structOk, fieldsOk, dbuildRows, goInt, h11]
    refine hK _ _ ?_ rfl; clear hK K
    refine ⟨l.length - (i + 1), by omega, i + 1, by omega, rfl, by simp [upd, h0], by simp [upd], by simp [upd, h9], by simp [upd, h10], by simp [upd, wrap_small (n := (i : Int) + 1) (by omega) (by omega)]⟩
  · refine Dwp.seq (Dwp.condF (by simp [eval, upd, hlt]) (Dwp.exit ?_))
    rw [List.take_of_length_le (by omega)] at h3
    refine Dwp.step t109 rfl fun K hK => ?_
    have g := call338 (tabOf [(338, s338)]) rfl ((cat l).length : Int) (by omega) (by omega)
    simp [dcall, tabOf] at g
    simp [drunL, drunO, dwanted, dopS, own, plainOf, dop, dput, eval, ofVal, Then, Ex.then, Ex.inBlock, upd, dbin, Tag.isNN, nilTest, intCmp, dload, dpart, TyI.agg, dfieldAddr, dfield, dindexAddr, dindex, dlen, lenOk, dlookup, mapOf, assocM, keyFits, dmapUpdate, dcallee, dcall, tabOf, dbuiltin, dstore, DV.cells, setAt, dslice, dboundOk, dappend, appTag, rowsOf, elemOk, growLimit, dbuildCells, dbuildCells.go, structOk, fieldsOk, dbuildRows, goInt, h3, g]
    refine hK _ _ ?_ rfl; clear hK K
    refine Dwp.seq ?_
    refine Dwp.step t109 rfl fun K hK => ?_
    simp [drunL, drunO, dwanted, dopS, own, plainOf, dop, dput, eval, ofVal, Then, Ex.then, Ex.inBlock, upd, dbin, Tag.isNN, nilTest, intCmp, dload, dpart, TyI.agg, dfieldAddr, dfield, dindexAddr, dindex, dlen, lenOk, dlookup, mapOf, assocM, keyFits, dmapUpdate, dcallee, dcall, tabOf, dbuiltin, dstore, DV.cells, setAt, dslice, dboundOk, dappend, appTag, rowsOf, elemOk, growLimit, dbuildCells, dbuildCells.go, structOk, fieldsOk, dbuildRows, goInt, h0, ty272]
    refine hK _ _ ?_ rfl; clear hK K
    refine Dwp.block (Dwp.loop (inv109b l) l.length ⟨0, _, 0, by simp, by simp, by simp [upd]; rfl, by simp [upd], by simp [upd, h0], by simp [upd], by simp [upd]⟩ ?_)
    rintro k a σ ⟨i, tk, g, hi, rfl, h6, htk, h25, h26, h27⟩
    refine Dwp.step t109 rfl fun K hK => ?_
    simp [drunL, drunO, dwanted, dopS, own, plainOf, dop, dput, eval, ofVal, Then, Ex.then, Ex.inBlock, upd, dbin, Tag.isNN, nilTest, intCmp, dload, dpart, TyI.agg, dfieldAddr, dfield, dindexAddr, dindex, dlen, lenOk, dlookup, mapOf, assocM, keyFits, dmapUpdate, dcallee, dcall, tabOf, dbuiltin, dstore, DV.cells, setAt, dslice, dboundOk, dappend, appTag, rowsOf, elemOk, growLimit, dbuildCells, dbuildCells.go, structOk, fieldsOk, dbuildRows, goInt, h26, h27]
    refine hK _ _ ?_ rfl; clear hK K
    by_cases hlt : i < l.length
    · refine Dwp.seq (Dwp.condT (by simp [eval, upd, hlt]) (Dwp.skip ?_))
      refine Dwp.seq (Dwp.block ?_)
      refine Dwp.step t109 rfl fun K hK => ?_
      simp [drunL, drunO, dwanted, dopS, own, plainOf, dop, dput, eval, ofVal, Then, Ex.then, Ex.inBlock, upd, dbin, Tag.isNN, nilTest, intCmp, dload, dpart, TyI.agg, dfieldAddr, dfield, dindexAddr, dindex, dlen, lenOk, dlookup, mapOf, assocM, keyFits, dmapUpdate, dcallee, dcall, tabOf, dbuiltin, dstore, DV.cells, setAt, dslice, dboundOk, dappend, appTag, rowsOf, elemOk, growLimit, dbuildCells, dbuildCells.go, structOk, fieldsOk, dbuildRows, goInt, h25, h27, ty272, ty22, hlt]
      refine hK _ _ ?_ rfl; clear hK K
      refine Dwp.reg t109 rfl fun K hK => ?_
      have hft := cat_take hlt
      have hfl := cat_le (l := l) (i := i + 1)
      have hsum : (cat (l.take i)).length + l[i].length ≤ 16777216 := by rw [hft] at hfl; simp only [List.length_append] at hfl; omega
      simp [drunL, drunO, dwanted, dopS, own, plainOf, dop, dput, eval, ofVal, Then, Ex.then, Ex.inBlock, upd, dbin, Tag.isNN, nilTest, intCmp, dload, dpart, TyI.agg, dfieldAddr, dfield, dindexAddr, dindex, dlen, lenOk, dlookup, mapOf, assocM, keyFits, dmapUpdate, dcallee, dcall, tabOf, dbuiltin, dstore, DV.cells, setAt, dslice, dboundOk, dappend, appTag, rowsOf, elemOk, growLimit, dbuildCells, dbuildCells.go, structOk, fieldsOk, dbuildRows, goInt, h6, htk, ty22, ty9, Enc.strs, Enc.slice, EncR.one, Enc.str, hsum]
      refine hK _ _ ?_ rfl; clear hK K
      refine Dwp.reg t109 rfl fun K hK => ?_
      simp [drunL, drunO, dwanted, dopS, own, plainOf, dop, dput, eval, ofVal, Then, Ex.then, Ex.inBlock, upd, dbin, Tag.isNN, nilTest, intCmp, dload, dpart, TyI.agg, dfieldAddr, dfield, dindexAddr, dindex, dlen, lenOk, dlookup, mapOf, assocM, keyFits, dmapUpdate, dcallee, dcall, tabOf, dbuiltin, dstore, DV.cells, setAt, dslice, dboundOk, dappend, appTag, rowsOf, elemOk, growLimit, dbuildCells, dbuildCells.go, structOk, fieldsOk, dbuildRows, goInt, h27]
      refine hK _ _ ?_ rfl; clear hK K
      refine ⟨l.length - (i + 1), by omega, i + 1, _, _, by omega, rfl, by rw [hft]; simp [upd]; exact ⟨rfl, rfl⟩, by simp [upd], by simp [upd, h25], by simp [upd, h26], by simp [upd, wrap_small (n := (i : Int) + 1) (by omega) (by omega)]⟩
    · refine Dwp.seq (Dwp.condF (by simp [eval, upd, hlt]) (Dwp.exit ?_))
      rw [List.take_of_length_le (by omega)] at h6
      refine Dwp.step t109 rfl fun K hK => ?_
      simp [drunL, drunO, dwanted, dopS, own, plainOf, dop, dput, eval, ofVal, Then, Ex.then, Ex.inBlock, upd, dbin, Tag.isNN, nilTest, intCmp, dload, dpart, TyI.agg, dfieldAddr, dfield, dindexAddr, dindex, dlen, lenOk, dlookup, mapOf, assocM, keyFits, dmapUpdate, dcallee, dcall, tabOf, dbuiltin, dstore, DV.cells, setAt, dslice, dboundOk, dappend, appTag, rowsOf, elemOk, growLimit, dbuildCells, dbuildCells.go, structOk, fieldsOk, dbuildRows, goInt, h6]
      refine hK _ _ (Dwp.ret ?_) rfl
      have hd := strs_dec (cat l)
      simp [Done, dresults, dres, frz, frz1, frz2, upd, Enc.strs, Enc.slice, EncR.one, Enc.str] at hd ⊢
      exact hd
theorem e323 : Go.FA.Good Tryz.prog (323, s323) := ⟨c323, Tryz.f323, _, Tryz.func323, rfl, by decide⟩
end Go.Proofs.Yt
namespace Go.Proofs.Yt
open Go Go.FA Go.Proofs
set_option linter.unusedVariables false
set_option linter.unusedSimpArgs false
set_option maxRecDepth 100000

def s342 : Sp := sp (arg1 (Enc.lists Enc.ops)) Enc.ops (fun l => if l.length ≤ 1048576 ∧ (cat l).length ≤ 1048576 then some (cat l) else none)
def inv130a (l : List (List OpD)) : Nat → (Nat → DV) → St → Prop := fun k a σ => ∃ i, i ≤ l.length ∧ k = l.length - i ∧ a 0 = .slice 1 .none (l.map fun s => [Enc.ops.enc s]) ∧ a 3 = .lit (.int .i64 (cat (l.take i)).length) ∧
  a 9 = .slice 1 .none (l.map fun s => [Enc.ops.enc s]) ∧ a 10 = .lit (.int .i64 l.length) ∧ a 11 = .lit (.int .i64 i)
def inv130b (l : List (List OpD)) : Nat → (Nat → DV) → St → Prop := fun k a σ => ∃ (i tk g : Nat), i ≤ l.length ∧ k = l.length - i ∧
  a 6 = .slice 7 (.tok tk g) ((cat (l.take i)).map EncR.opd.enc) ∧ σ.toks tk = some g ∧
  a 25 = .slice 1 .none (l.map fun s => [Enc.ops.enc s]) ∧ a 26 = .lit (.int .i64 l.length) ∧ a 27 = .lit (.int .i64 i)
theorem t130 : TabOk Tryz.prog (tabOf [(352, s352)]) := .cons e352 .nil
theorem c342 : CallSound Tryz.prog 342 s342 := by
  refine CallSound.of_sp (T := tabOf [(352, s352)]) Tryz.func342 rfl (Nat.le_of_ble_eq_true rfl) fun E l y hy => ?_
  by_cases hlim : l.length ≤ 1048576 ∧ (cat l).length ≤ 1048576 <;> simp only [hlim, and_self, if_true, if_false, reduceCtorEq, Option.some.injEq] at hy
  subst hy
  obtain ⟨hl1, hl2⟩ := hlim
  refine Dwp.step t130 rfl fun K hK => ?_
  simp [drunL, drunO, dwanted, dopS, own, plainOf, dop, dput, eval, ofVal, Then, Ex.then, Ex.inBlock, upd, dbin, Tag.isNN, nilTest, intCmp, dload, dpart, TyI.agg, dfieldAddr, dfield, dindexAddr, dindex, dlen, lenOk, dlookup, mapOf, assocM, keyFits, dmapUpdate, dcallee, dcall, tabOf, dbuiltin, dstore, DV.cells, setAt, dslice, dboundOk, dappend, appTag, rowsOf, elemOk, growLimit, dbuildCells, dbuildCells.go, structOk, fieldsOk, dbuildRows, goInt]
  refine hK _ _ ?_ rfl; clear hK K
  refine Dwp.step t130 rfl fun K hK => ?_
  simp [drunL, drunO, dwanted, dopS, own, plainOf, dop, dput, eval, ofVal, Then, Ex.then, Ex.inBlock, upd, dbin, Tag.isNN, nilTest, intCmp, dload, dpart, TyI.agg, dfieldAddr, dfield, dindexAddr, dindex, dlen, lenOk, dlookup, mapOf, assocM, keyFits, dmapUpdate, dcallee, dcall, tabOf, dbuiltin, dstore, DV.cells, setAt, dslice, dboundOk, dappend, appTag, rowsOf, elemOk, growLimit, dbuildCells, dbuildCells.go, structOk, fieldsOk, dbuildRows, goInt]
  refine hK _ _ ?_ rfl; clear hK K
  refine Dwp.seq ?_
  refine Dwp.step t130 rfl fun K hK => ?_
  simp [drunL, drunO, dwanted, dopS, own, plainOf, dop, dput, eval, ofVal, Then, Ex.then, Ex.inBlock, upd, dbin, Tag.isNN, nilTest, intCmp, dload, dpart, TyI.agg, dfieldAddr, dfield, dindexAddr, dindex, dlen, lenOk, dlookup, mapOf, assocM, keyFits, dmapUpdate, dcallee, dcall, tabOf, dbuiltin, dstore, DV.cells, setAt, dslice, dboundOk, dappend, appTag, rowsOf, elemOk, growLimit, dbuildCells, dbuildCells.go, structOk, fieldsOk, dbuildRows, goInt, init, arg1, EncR.one, Enc.lists, Enc.slice, ty277]
  refine hK _ _ ?_ rfl; clear hK K
  refine Dwp.block (Dwp.loop (inv130a l) l.length ⟨0, by simp, by simp, by simp [upd, init, Enc.ops, Enc.slice, EncR.one], by simp [upd], by simp [upd, init, Enc.ops, Enc.slice, EncR.one], by simp [upd], by simp [upd]⟩ ?_)
  rintro k a σ ⟨i, hi, rfl, h0, h3, h9, h10, h11⟩
  refine Dwp.step t130 rfl fun K hK => ?_
  simp [drunL, drunO, dwanted, dopS, own, plainOf, dop, dput, eval, ofVal, Then, Ex.then, Ex.inBlock, upd, dbin, Tag.isNN, nilTest, intCmp, dload, dpart, TyI.agg, dfieldAddr, dfield, dindexAddr, dindex, dlen, lenOk, dlookup, mapOf, assocM, keyFits, dmapUpdate, dcallee, dcall, tabOf, dbuiltin, dstore, DV.cells, setAt, dslice, dboundOk, dappend, appTag, rowsOf, elemOk, growLimit, dbuildCells, dbuildCells.go, structOk, fieldsOk, dbuildRows, goInt, h10, h11]
  refine hK _ _ ?_ rfl; clear hK K
  by_cases hlt : i < l.length
  · refine Dwp.seq (Dwp.condT (by simp [eval, upd, hlt]) (Dwp.skip ?_))
    refine Dwp.seq (Dwp.block ?_)
    refine Dwp.step t130 rfl fun K hK => ?_
    simp [drunL, drunO, dwanted, dopS, own, plainOf, dop, dput, eval, ofVal, Then, Ex.then, Ex.inBlock, upd, dbin, Tag.isNN, nilTest, intCmp, dload, dpart, TyI.agg, dfieldAddr, dfield, dindexAddr, dindex, dlen, lenOk, dlookup, mapOf, assocM, keyFits, dmapUpdate, dcallee, dcall, tabOf, dbuiltin, dstore, DV.cells, setAt, dslice, dboundOk, dappend, appTag, rowsOf, elemOk, growLimit, dbuildCells, dbuildCells.go, structOk, fieldsOk, dbuildRows, goInt, h9, h11, ty277, ty24, hlt]
    refine hK _ _ ?_ rfl; clear hK K
    refine Dwp.step t130 rfl fun K hK => ?_
    have hft := cat_take hlt
    have hfl := cat_le (l := l) (i := i + 1)
    have hsum : (cat (l.take (i + 1))).length = (cat (l.take i)).length + l[i].length := by rw [hft]; simp
    have hw : IntKind.wrap .i64 (((cat (l.take i)).length : Int) + l[i].length) = ((cat (l.take (i + 1))).length : Int) := by rw [wrap_small (n := ((cat (l.take i)).length : Int) + l[i].length) (by omega) (by omega)]; omega
    simp [drunL, drunO, dwanted, dopS, own, plainOf, dop, dput, eval, ofVal, Then, Ex.then, Ex.inBlock, upd, dbin, Tag.isNN, nilTest, intCmp, dload, dpart, TyI.agg, dfieldAddr, dfield, dindexAddr, dindex, dlen, lenOk, dlookup, mapOf, assocM, keyFits, dmapUpdate, dcallee, dcall, tabOf, dbuiltin, dstore, DV.cells, setAt, dslice, dboundOk, dappend, appTag, rowsOf, elemOk, growLimit, dbuildCells, dbuildCells.go, structOk, fieldsOk, dbuildRows, goInt, h3, ty24, Enc.ops, Enc.slice, EncR.one, hw]
    refine hK _ _ ?_ rfl; clear hK K
    refine Dwp.step t130 rfl fun K hK => ?_
    have hnn : ¬ (((cat (l.take (i + 1))).length : Int) < 0) := by omega
    simp [drunL, drunO, dwanted, dopS, own, plainOf, dop, dput, eval, ofVal, Then, Ex.then, Ex.inBlock, upd, dbin, Tag.isNN, nilTest, intCmp, dload, dpart, TyI.agg, dfieldAddr, dfield, dindexAddr, dindex, dlen, lenOk, dlookup, mapOf, assocM, keyFits, dmapUpdate, dcallee, dcall, tabOf, dbuiltin, dstore, DV.cells, setAt, dslice, dboundOk, dappend, appTag, rowsOf, elemOk, growLimit, dbuildCells, dbuildCells.go, structOk, fieldsOk, dbuildRows, goInt, hnn]
    refine hK _ _ ?_ rfl; clear hK K
    refine Dwp.condF (by simp [eval, upd]) (Dwp.skip ?_)
    refine Dwp.reg t130 rfl fun K hK => ?_
    simp [drunL, drunO, dwanted, dopS, own, plainOf, dop, dput, eval, ofVal, Then, Ex.then, Ex.inBlock, upd, dbin, Tag.isNN, nilTest, intCmp, dload, dpart, TyI.agg, dfieldAddr, dfield, dindexAddr, dindex, dlen, lenOk, dlookup, mapOf, assocM, keyFits, dmapUpdate, dcallee, dcall, tabOf, dbuiltin, dstore, DV.cells, setAt, dslice, dboundOk, dappend, appTag, rowsOf, elemOk, growLimit, dbuildCells, dbuildCells.go, structOk, fieldsOk, dbuildRows, goInt, h11]
    refine hK _ _ ?_ rfl; clear hK K
    refine ⟨l.length - (i + 1), by omega, i + 1, by omega, rfl, by simp [upd, h0], by simp [upd], by simp [upd, h9], by simp [upd, h10], by simp [upd, wrap_small (n := (i : Int) + 1) (by omega) (by omega)]⟩
  · refine Dwp.seq (Dwp.condF (by simp [eval, upd, hlt]) (Dwp.exit ?_))
    rw [List.take_of_length_le (by omega)] at h3
    refine Dwp.step t130 rfl fun K hK => ?_
    have g := call352 (tabOf [(352, s352)]) rfl ((cat l).length : Int) (by omega) (by omega)
    simp [dcall, tabOf] at g
    simp [drunL, drunO, dwanted, dopS, own, plainOf, dop, dput, eval, ofVal, Then, Ex.then, Ex.inBlock, upd, dbin, Tag.isNN, nilTest, intCmp, dload, dpart, TyI.agg, dfieldAddr, dfield, dindexAddr, dindex, dlen, lenOk, dlookup, mapOf, assocM, keyFits, dmapUpdate, dcallee, dcall, tabOf, dbuiltin, dstore, DV.cells, setAt, dslice, dboundOk, dappend, appTag, rowsOf, elemOk, growLimit, dbuildCells, dbuildCells.go, structOk, fieldsOk, dbuildRows, goInt, h3, g]
    refine hK _ _ ?_ rfl; clear hK K
    refine Dwp.seq ?_
    refine Dwp.step t130 rfl fun K hK => ?_
    simp [drunL, drunO, dwanted, dopS, own, plainOf, dop, dput, eval, ofVal, Then, Ex.then, Ex.inBlock, upd, dbin, Tag.isNN, nilTest, intCmp, dload, dpart, TyI.agg, dfieldAddr, dfield, dindexAddr, dindex, dlen, lenOk, dlookup, mapOf, assocM, keyFits, dmapUpdate, dcallee, dcall, tabOf, dbuiltin, dstore, DV.cells, setAt, dslice, dboundOk, dappend, appTag, rowsOf, elemOk, growLimit, dbuildCells, dbuildCells.go, structOk, fieldsOk, dbuildRows, goInt, h0, ty277]
    refine hK _ _ ?_ rfl; clear hK K
    refine Dwp.block (Dwp.loop (inv130b l) l.length ⟨0, _, 0, by simp, by simp, by simp [upd]; rfl, by simp [upd], by simp [upd, h0], by simp [upd], by simp [upd]⟩ ?_)
    rintro k a σ ⟨i, tk, g, hi, rfl, h6, htk, h25, h26, h27⟩
    refine Dwp.step t130 rfl fun K hK => ?_
    simp [drunL, drunO, dwanted, dopS, own, plainOf, dop, dput, eval, ofVal, Then, Ex.then, Ex.inBlock, upd, dbin, Tag.isNN, nilTest, intCmp, dload, dpart, TyI.agg, dfieldAddr, dfield, dindexAddr, dindex, dlen, lenOk, dlookup, mapOf, assocM, keyFits, dmapUpdate, dcallee, dcall, tabOf, dbuiltin, dstore, DV.cells, setAt, dslice, dboundOk, dappend, appTag, rowsOf, elemOk, growLimit, dbuildCells, dbuildCells.go, structOk, fieldsOk, dbuildRows, goInt, h26, h27]
    refine hK _ _ ?_ rfl; clear hK K
    by_cases hlt : i < l.length
    · refine Dwp.seq (Dwp.condT (by simp [eval, upd, hlt]) (Dwp.skip ?_))
      refine Dwp.seq (Dwp.block ?_)
      refine Dwp.step t130 rfl fun K hK => ?_
      simp [drunL, drunO, dwanted, dopS, own, plainOf, dop, dput, eval, ofVal, Then, Ex.then, Ex.inBlock, upd, dbin, Tag.isNN, nilTest, intCmp, dload, dpart, TyI.agg, dfieldAddr, dfield, dindexAddr, dindex, dlen, lenOk, dlookup, mapOf, assocM, keyFits, dmapUpdate, dcallee, dcall, tabOf, dbuiltin, dstore, DV.cells, setAt, dslice, dboundOk, dappend, appTag, rowsOf, elemOk, growLimit, dbuildCells, dbuildCells.go, structOk, fieldsOk, dbuildRows, goInt, h25, h27, ty277, ty24, hlt]
      refine hK _ _ ?_ rfl; clear hK K
      refine Dwp.reg t130 rfl fun K hK => ?_
      have hft := cat_take hlt
      have hfl := cat_le (l := l) (i := i + 1)
      have hsum : (cat (l.take i)).length + l[i].length ≤ 16777216 := by rw [hft] at hfl; simp only [List.length_append] at hfl; omega
      simp [drunL, drunO, dwanted, dopS, own, plainOf, dop, dput, eval, ofVal, Then, Ex.then, Ex.inBlock, upd, dbin, Tag.isNN, nilTest, intCmp, dload, dpart, TyI.agg, dfieldAddr, dfield, dindexAddr, dindex, dlen, lenOk, dlookup, mapOf, assocM, keyFits, dmapUpdate, dcallee, dcall, tabOf, dbuiltin, dstore, DV.cells, setAt, dslice, dboundOk, dappend, appTag, rowsOf, elemOk, growLimit, dbuildCells, dbuildCells.go, structOk, fieldsOk, dbuildRows, goInt, h6, htk, ty24, ty83, Enc.ops, Enc.slice, hsum]
      refine hK _ _ ?_ rfl; clear hK K
      refine Dwp.reg t130 rfl fun K hK => ?_
      simp [drunL, drunO, dwanted, dopS, own, plainOf, dop, dput, eval, ofVal, Then, Ex.then, Ex.inBlock, upd, dbin, Tag.isNN, nilTest, intCmp, dload, dpart, TyI.agg, dfieldAddr, dfield, dindexAddr, dindex, dlen, lenOk, dlookup, mapOf, assocM, keyFits, dmapUpdate, dcallee, dcall, tabOf, dbuiltin, dstore, DV.cells, setAt, dslice, dboundOk, dappend, appTag, rowsOf, elemOk, growLimit, dbuildCells, dbuildCells.go, structOk, fieldsOk, dbuildRows, goInt, h27]
      refine hK _ _ ?_ rfl; clear hK K
      refine ⟨l.length - (i + 1), by omega, i + 1, _, _, by omega, rfl, by rw [hft]; simp [upd]; exact ⟨rfl, rfl⟩, by simp [upd], by simp [upd, h25], by simp [upd, h26], by simp [upd, wrap_small (n := (i : Int) + 1) (by omega) (by omega)]⟩
    · refine Dwp.seq (Dwp.condF (by simp [eval, upd, hlt]) (Dwp.exit ?_))
      rw [List.take_of_length_le (by omega)] at h6
      refine Dwp.step t130 rfl fun K hK => ?_
      simp [drunL, drunO, dwanted, dopS, own, plainOf, dop, dput, eval, ofVal, Then, Ex.then, Ex.inBlock, upd, dbin, Tag.isNN, nilTest, intCmp, dload, dpart, TyI.agg, dfieldAddr, dfield, dindexAddr, dindex, dlen, lenOk, dlookup, mapOf, assocM, keyFits, dmapUpdate, dcallee, dcall, tabOf, dbuiltin, dstore, DV.cells, setAt, dslice, dboundOk, dappend, appTag, rowsOf, elemOk, growLimit, dbuildCells, dbuildCells.go, structOk, fieldsOk, dbuildRows, goInt, h6]
      refine hK _ _ (Dwp.ret ?_) rfl
      have hd := decRows_enc EncR.opd (cat l)
      simp [Done, dresults, dres, frz, frz1, frz2, upd, Enc.ops, Enc.slice] at hd ⊢
      exact hd
theorem e342 : Go.FA.Good Tryz.prog (342, s342) := ⟨c342, Tryz.f342, _, Tryz.func342, rfl, by decide⟩
end Go.Proofs.Yt
namespace Go.Proofs.Yt
open Go Go.FA Go.Proofs
set_option linter.unusedVariables false
set_option linter.unusedSimpArgs false
set_option maxRecDepth 100000

@[simp] theorem sig0 (s : SigD) : (EncR.sigd.enc s)[0]? = some (Enc.strs.enc s.sorts) := rfl
@[simp] theorem sig1 (s : SigD) : (EncR.sigd.enc s)[1]? = some (Enc.bels.enc s.below) := rfl
@[simp] theorem sig2 (s : SigD) : (EncR.sigd.enc s)[2]? = some (Enc.ops.enc s.ops) := rfl
@[simp] theorem sig3 (s : SigD) : (EncR.sigd.enc s)[3]? = some (Enc.ops.enc s.funs) := rfl
@[simp] theorem sig4 (s : SigD) : (EncR.sigd.enc s)[4]? = some (Enc.strs.enc s.values) := rfl
@[simp] theorem sigLen (s : SigD) : (EncR.sigd.enc s).length = 5 := rfl
@[simp] theorem sigTake (s : SigD) : (EncR.sigd.enc s).take 5 = EncR.sigd.enc s := rfl

theorem call323 (T : Tab) (hT : T 323 = some s323) (l m : List ByteArray) (h : l.length + m.length ≤ 1048576) : dcall T 323 [.slice 1 .full [[Enc.strs.enc l], [Enc.strs.enc m]]] = some (Enc.strs.enc (l ++ m)) := by
  have h1 : (Enc.lists Enc.strs).dec (.slice 1 .full [[Enc.strs.enc l], [Enc.strs.enc m]]) = some [l, m] := by simp [Enc.lists, Enc.slice, EncR.one, decRows, Enc.strs.de]
  have h2 : (cat [l, m]).length ≤ 1048576 := by simpa [cat] using h
  simp only [dcall, hT, s323, sp, arg1, EncR.one, h1, Option.bind_some]
  rw [if_pos ⟨by simp, h2⟩]
  simp [cat]
theorem call327 (T : Tab) (hT : T 327 = some s327) (l : List ByteArray) (h : l.length ≤ lim) : dcall T 327 [Enc.strs.enc l] = some (.lit (.bool (decide l.Nodup))) := by
  simp [dcall, hT, s327, sp, arg1, EncR.one, Enc.strs.de, h, Enc.bool]
def okSorts (l : List ByteArray) : Bool := l.all isName && decide (given ++ l).Nodup
def s325 : Sp := sp (arg1 Enc.strs) Enc.bool (fun l => if l.length ≤ 1000000 then some (okSorts l) else none)
def inv325 (l : List ByteArray) : Nat → (Nat → DV) → St → Prop := fun k a σ => ∃ i, i ≤ l.length ∧ k = l.length - i ∧ (l.take i).all isName = true ∧ a 0 = Enc.strs.enc l ∧
  a 5 = .slice 1 .none (l.map fun s => [DV.lit (.string s)]) ∧ a 6 = .lit (.int .i64 l.length) ∧ a 7 = .lit (.int .i64 i)
abbrev T111 : Tab := tabOf [(105, s105), (324, s324), (323, s323), (327, s327)]
theorem t111 : TabOk Tryz.prog T111 := .cons e105 (.cons e324 (.cons e323 (.cons e327 .nil)))
theorem c325 : CallSound Tryz.prog 325 s325 := by
  refine CallSound.of_sp (T := T111) Tryz.func325 rfl (Nat.le_of_ble_eq_true rfl) fun E l y hy => ?_
  by_cases hlim : l.length ≤ 1000000 <;> simp [hlim] at hy
  subst hy
  refine Dwp.step t111 rfl fun K hK => ?_
  simp [drunL, drunO, dwanted, dopS, own, plainOf, dop, dput, eval, ofVal, Then, Ex.then, Ex.inBlock, upd, dbin, Tag.isNN, nilTest, intCmp, dload, dpart, TyI.agg, dfieldAddr, dfield, dindexAddr, dindex, dlen, lenOk, dlookup, mapOf, assocM, keyFits, dmapUpdate, dcallee, dcall, tabOf, dbuiltin, dstore, DV.cells, setAt, dslice, dboundOk, dappend, appTag, rowsOf, elemOk, growLimit, dbuildCells, dbuildCells.go, structOk, fieldsOk, dbuildRows, goInt]
  refine hK _ _ ?_ rfl; clear hK K
  refine Dwp.seq ?_
  refine Dwp.step t111 rfl fun K hK => ?_
  simp [drunL, drunO, dwanted, dopS, own, plainOf, dop, dput, eval, ofVal, Then, Ex.then, Ex.inBlock, upd, dbin, Tag.isNN, nilTest, intCmp, dload, dpart, TyI.agg, dfieldAddr, dfield, dindexAddr, dindex, dlen, lenOk, dlookup, mapOf, assocM, keyFits, dmapUpdate, dcallee, dcall, tabOf, dbuiltin, dstore, DV.cells, setAt, dslice, dboundOk, dappend, appTag, rowsOf, elemOk, growLimit, dbuildCells, dbuildCells.go, structOk, fieldsOk, dbuildRows, goInt, init, arg1, arg2, arg3, EncR.one, EncR.and, Enc.bool, Enc.int, Enc.str, Enc.strs, Enc.slice, Enc.agg, Enc.tup, Enc.err, Enc.fn, ty22]
  refine hK _ _ ?_ rfl; clear hK K
  refine Dwp.block (Dwp.loop (inv325 l) l.length ⟨0, by simp, by simp, by simp, by simp [upd, init, arg1, arg2, arg3, EncR.one, EncR.and, Enc.bool, Enc.int, Enc.str, Enc.strs, Enc.slice, Enc.agg, Enc.tup, Enc.err, Enc.fn], by simp [upd, init, arg1, arg2, arg3, EncR.one, EncR.and, Enc.bool, Enc.int, Enc.str, Enc.strs, Enc.slice, Enc.agg, Enc.tup, Enc.err, Enc.fn], by simp [upd], by simp [upd]⟩ ?_)
  rintro k a σ ⟨i, hi, rfl, hall, h0, h5, h6, h7⟩
  refine Dwp.step t111 rfl fun K hK => ?_
  simp [drunL, drunO, dwanted, dopS, own, plainOf, dop, dput, eval, ofVal, Then, Ex.then, Ex.inBlock, upd, dbin, Tag.isNN, nilTest, intCmp, dload, dpart, TyI.agg, dfieldAddr, dfield, dindexAddr, dindex, dlen, lenOk, dlookup, mapOf, assocM, keyFits, dmapUpdate, dcallee, dcall, tabOf, dbuiltin, dstore, DV.cells, setAt, dslice, dboundOk, dappend, appTag, rowsOf, elemOk, growLimit, dbuildCells, dbuildCells.go, structOk, fieldsOk, dbuildRows, goInt, h6, h7]
  refine hK _ _ ?_ rfl; clear hK K
  by_cases hlt : i < l.length
  · refine Dwp.seq (Dwp.condT (by simp [eval, upd, hlt]) (Dwp.skip ?_))
    refine Dwp.seq (Dwp.block ?_)
    refine Dwp.step t111 rfl fun K hK => ?_
    simp [drunL, drunO, dwanted, dopS, own, plainOf, dop, dput, eval, ofVal, Then, Ex.then, Ex.inBlock, upd, dbin, Tag.isNN, nilTest, intCmp, dload, dpart, TyI.agg, dfieldAddr, dfield, dindexAddr, dindex, dlen, lenOk, dlookup, mapOf, assocM, keyFits, dmapUpdate, dcallee, dcall, tabOf, dbuiltin, dstore, DV.cells, setAt, dslice, dboundOk, dappend, appTag, rowsOf, elemOk, growLimit, dbuildCells, dbuildCells.go, structOk, fieldsOk, dbuildRows, goInt, h5, h7, ty22, ty9, hlt]
    refine hK _ _ ?_ rfl; clear hK K
    refine Dwp.step t111 rfl fun K hK => ?_
    have g := call105 T111 rfl l[i]
    simp [dcall, tabOf] at g
    cases hp : isName l[i] with
    | true =>
      simp [drunL, drunO, dwanted, dopS, own, plainOf, dop, dput, eval, ofVal, Then, Ex.then, Ex.inBlock, upd, dbin, Tag.isNN, nilTest, intCmp, dload, dpart, TyI.agg, dfieldAddr, dfield, dindexAddr, dindex, dlen, lenOk, dlookup, mapOf, assocM, keyFits, dmapUpdate, dcallee, dcall, tabOf, dbuiltin, dstore, DV.cells, setAt, dslice, dboundOk, dappend, appTag, rowsOf, elemOk, growLimit, dbuildCells, dbuildCells.go, structOk, fieldsOk, dbuildRows, goInt, g, hp]
      refine hK _ _ ?_ rfl; clear hK K
      refine Dwp.condF (by simp [eval, upd]) (Dwp.skip ?_)
      refine Dwp.reg t111 rfl fun K hK => ?_
      simp [drunL, drunO, dwanted, dopS, own, plainOf, dop, dput, eval, ofVal, Then, Ex.then, Ex.inBlock, upd, dbin, Tag.isNN, nilTest, intCmp, dload, dpart, TyI.agg, dfieldAddr, dfield, dindexAddr, dindex, dlen, lenOk, dlookup, mapOf, assocM, keyFits, dmapUpdate, dcallee, dcall, tabOf, dbuiltin, dstore, DV.cells, setAt, dslice, dboundOk, dappend, appTag, rowsOf, elemOk, growLimit, dbuildCells, dbuildCells.go, structOk, fieldsOk, dbuildRows, goInt, h7]
      refine hK _ _ ?_ rfl; clear hK K
      exact ⟨l.length - (i + 1), by omega, i + 1, by omega, rfl, all_take hlt hall hp, by simp [upd, h0], by simp [upd, h5], by simp [upd, h6], by simp [upd, wrap_small (n := (i : Int) + 1) (by omega) (by omega)]⟩
    | false =>
      simp [drunL, drunO, dwanted, dopS, own, plainOf, dop, dput, eval, ofVal, Then, Ex.then, Ex.inBlock, upd, dbin, Tag.isNN, nilTest, intCmp, dload, dpart, TyI.agg, dfieldAddr, dfield, dindexAddr, dindex, dlen, lenOk, dlookup, mapOf, assocM, keyFits, dmapUpdate, dcallee, dcall, tabOf, dbuiltin, dstore, DV.cells, setAt, dslice, dboundOk, dappend, appTag, rowsOf, elemOk, growLimit, dbuildCells, dbuildCells.go, structOk, fieldsOk, dbuildRows, goInt, g, hp]
      refine hK _ _ ?_ rfl; clear hK K
      refine Dwp.condT (by simp [eval, upd]) ?_
      refine Dwp.step t111 rfl fun K hK => ?_
      simp [drunL, drunO, dwanted, dopS, own, plainOf, dop, dput, eval, ofVal, Then, Ex.then, Ex.inBlock, upd, dbin, Tag.isNN, nilTest, intCmp, dload, dpart, TyI.agg, dfieldAddr, dfield, dindexAddr, dindex, dlen, lenOk, dlookup, mapOf, assocM, keyFits, dmapUpdate, dcallee, dcall, tabOf, dbuiltin, dstore, DV.cells, setAt, dslice, dboundOk, dappend, appTag, rowsOf, elemOk, growLimit, dbuildCells, dbuildCells.go, structOk, fieldsOk, dbuildRows, goInt]
      refine hK _ _ (Dwp.ret ?_) rfl
      have := all_false hlt hp
      simp [Done, dresults, dres, frz, frz1, frz2, init, arg1, arg2, arg3, EncR.one, EncR.and, Enc.bool, Enc.int, Enc.str, Enc.strs, Enc.slice, Enc.agg, Enc.tup, Enc.err, Enc.fn, Ex.then, Ex.inBlock, upd, okSorts, this]
  · refine Dwp.seq (Dwp.condF (by simp [eval, upd, hlt]) (Dwp.exit ?_))
    rw [List.take_of_length_le (by omega)] at hall
    have hgl : given.length = 7 := rfl
    have g1 := call324 T111 rfl
    have g2 := call323 T111 rfl given l (by omega)
    have g3 := call327 T111 rfl (given ++ l) (by rw [List.length_append]; unfold lim; omega)
    generalize hG : Enc.strs.enc given = G at *
    generalize hL : Enc.strs.enc l = L at *
    have hGc : G.cells = some [G] := by subst hG; rfl
    have hLc : L.cells = some [L] := by subst hL; rfl
    have hGo : ∀ id σ, own id σ G = (G, σ) := by subst hG; intro id σ; rfl
    generalize hM : Enc.strs.enc (given ++ l) = M at *
    have hMo : ∀ id σ, own id σ M = (M, σ) := by subst hM; intro id σ; rfl
    refine Dwp.step t111 rfl fun K hK => ?_
    simp [drunL, dwanted, dopS, dop, dput, eval, ofVal, Then, upd, dcallee, dbuildRows, growLimit, ty272, ty22, h0, g1, g2, g3, hGc, hLc, hGo, hMo]
    simp [own]
    refine hK _ _ (Dwp.ret ?_) rfl
    simp [Done, dresults, dres, frz, frz1, frz2, Enc.bool, upd, okSorts, hall]
theorem e325 : Go.FA.Good Tryz.prog (325, s325) := ⟨c325, Tryz.f325, _, Tryz.func325, rfl, by decide⟩
end Go.Proofs.Yt
namespace Go.Proofs.Yt
open Go Go.FA Go.Proofs
set_option linter.unusedVariables false
set_option linter.unusedSimpArgs false
set_option maxRecDepth 100000

theorem call342 (T : Tab) (hT : T 342 = some s342) (l m : List OpD) (h : l.length + m.length ≤ 1048576) : dcall T 342 [.slice 1 .full [[Enc.ops.enc l], [Enc.ops.enc m]]] = some (Enc.ops.enc (l ++ m)) := by
  have h1 : (Enc.lists Enc.ops).dec (.slice 1 .full [[Enc.ops.enc l], [Enc.ops.enc m]]) = some [l, m] := by simp [Enc.lists, Enc.slice, EncR.one, decRows, Enc.ops.de]
  have h2 : (cat [l, m]).length ≤ 1048576 := by simpa [cat] using h
  simp only [dcall, hT, s342, sp, arg1, EncR.one, h1, Option.bind_some]
  rw [if_pos ⟨by simp, h2⟩]
  simp [cat]
def opNames (s : SigD) : List ByteArray := (s.ops ++ s.funs).map (·.name)
def s328 : Sp := sp (arg1 Enc.sigd) Enc.strs (fun s => if s.ops.length + s.funs.length ≤ 1048576 then some (opNames s) else none)
def inv328 (l : List OpD) : Nat → (Nat → DV) → St → Prop := fun k a σ => ∃ i, i ≤ l.length ∧ k = l.length - i ∧ Acc σ 1 ((l.take i).map fun o => [DV.lit (.string o.name)]) (a 3) ∧
  a 11 = .slice 7 .none (l.map EncR.opd.enc) ∧ a 12 = .lit (.int .i64 l.length) ∧ a 13 = .lit (.int .i64 i)
theorem t114 : TabOk Tryz.prog (tabOf [(342, s342)]) := .cons e342 .nil
theorem c328 : CallSound Tryz.prog 328 s328 := by
  refine CallSound.of_sp (T := tabOf [(342, s342)]) Tryz.func328 rfl (Nat.le_of_ble_eq_true rfl) fun E s y hy => ?_
  by_cases hlim : s.ops.length + s.funs.length ≤ 1048576 <;> simp [hlim] at hy
  subst hy
  refine Dwp.step t114 rfl fun K hK => ?_
  simp [drunL, drunO, dwanted, dopS, own, plainOf, dop, dput, eval, ofVal, Then, Ex.then, Ex.inBlock, upd, dbin, Tag.isNN, nilTest, intCmp, dload, dpart, TyI.agg, dfieldAddr, dfield, dindexAddr, dindex, dlen, lenOk, dlookup, mapOf, assocM, keyFits, dmapUpdate, dcallee, dcall, tabOf, dbuiltin, dstore, DV.cells, setAt, dslice, dboundOk, dappend, appTag, rowsOf, elemOk, growLimit, dbuildCells, dbuildCells.go, structOk, fieldsOk, dbuildRows, goInt, init, arg1, EncR.one, Enc.sigd, Enc.agg]
  refine hK _ _ ?_ rfl; clear hK K
  refine Dwp.step t114 rfl fun K hK => ?_
  simp [drunL, drunO, dwanted, dopS, own, plainOf, dop, dput, eval, ofVal, Then, Ex.then, Ex.inBlock, upd, dbin, Tag.isNN, nilTest, intCmp, dload, dpart, TyI.agg, dfieldAddr, dfield, dindexAddr, dindex, dlen, lenOk, dlookup, mapOf, assocM, keyFits, dmapUpdate, dcallee, dcall, tabOf, dbuiltin, dstore, DV.cells, setAt, dslice, dboundOk, dappend, appTag, rowsOf, elemOk, growLimit, dbuildCells, dbuildCells.go, structOk, fieldsOk, dbuildRows, goInt]
  refine hK _ _ ?_ rfl; clear hK K
  refine Dwp.seq ?_
  have g := call342 (tabOf [(342, s342)]) rfl s.ops s.funs hlim
  have ho : ∀ l : List OpD, (Enc.ops.enc l).cells = some [Enc.ops.enc l] := fun _ => rfl
  obtain ⟨l, hl⟩ : ∃ l, s.ops ++ s.funs = l := ⟨_, rfl⟩
  have hll : l.length ≤ 1048576 := by rw [← hl, List.length_append]; exact hlim
  have hnm : opNames s = l.map (·.name) := by rw [← hl]; rfl
  rw [hl] at g
  rw [hnm]
  refine Dwp.step t114 rfl fun K hK => ?_
  simp [drunL, dwanted, dopS, dop, dput, eval, ofVal, Then, upd, dfieldAddr, dload, dpart, TyI.agg, ty26, ty24, dcallee, dbuildRows, growLimit, ty277, g, ho, dbuiltin, lenOk, dlen, goInt]
  simp [Enc.ops, Enc.slice, lenOk, dlen, goInt]
  refine hK _ _ ?_ rfl; clear hK K
  refine Dwp.block (Dwp.loop (inv328 l) l.length ⟨0, by simp, by simp, .inl ⟨by simp, by simp [upd]⟩, by simp [upd], by simp [upd], by simp [upd]⟩ ?_)
  rintro k a σ ⟨i, hi, rfl, h3, h11, h12, h13⟩
  refine Dwp.step t114 rfl fun K hK => ?_
  simp [drunL, drunO, dwanted, dopS, own, plainOf, dop, dput, eval, ofVal, Then, Ex.then, Ex.inBlock, upd, dbin, Tag.isNN, nilTest, intCmp, dload, dpart, TyI.agg, dfieldAddr, dfield, dindexAddr, dindex, dlen, lenOk, dlookup, mapOf, assocM, keyFits, dmapUpdate, dcallee, dcall, tabOf, dbuiltin, dstore, DV.cells, setAt, dslice, dboundOk, dappend, appTag, rowsOf, elemOk, growLimit, dbuildCells, dbuildCells.go, structOk, fieldsOk, dbuildRows, goInt, h12, h13]
  refine hK _ _ ?_ rfl; clear hK K
  by_cases hlt : i < l.length
  · have htk : (l.take (i + 1)).map (fun o : OpD => [DV.lit (.string o.name)]) = (l.take i).map (fun o : OpD => [DV.lit (.string o.name)]) ++ [[DV.lit (.string l[i].name)]] := by
      rw [List.take_succ_eq_append_getElem hlt, List.map_append]; rfl
    refine Dwp.seq (Dwp.condT (by simp [eval, upd, hlt]) (Dwp.skip ?_))
    refine Dwp.seq (Dwp.block ?_)
    refine Dwp.step t114 rfl fun K hK => ?_
    simp [drunL, drunO, dwanted, dopS, own, plainOf, dop, dput, eval, ofVal, Then, Ex.then, Ex.inBlock, upd, dbin, Tag.isNN, nilTest, intCmp, dload, dpart, TyI.agg, dfieldAddr, dfield, dindexAddr, dindex, dlen, lenOk, dlookup, mapOf, assocM, keyFits, dmapUpdate, dcallee, dcall, tabOf, dbuiltin, dstore, DV.cells, setAt, dslice, dboundOk, dappend, appTag, rowsOf, elemOk, growLimit, dbuildCells, dbuildCells.go, structOk, fieldsOk, dbuildRows, goInt, h11, h13, ty24, ty83, hlt]
    refine hK _ _ ?_ rfl; clear hK K
    refine Dwp.reg t114 rfl fun K hK => ?_
    have hst : setAt (EncR.opd.enc ⟨⟨#[]⟩, [], ⟨#[]⟩, [], 0, 0, []⟩) 0 (EncR.opd.enc l[i]) = EncR.opd.enc l[i] := rfl
    have hsmall : min i l.length + 1 ≤ 16777216 := by omega
    rcases h3 with ⟨hr, h3⟩ | ⟨tk, g, h3, hg⟩
    · have hi0 : (l.take i).map (fun o : OpD => [DV.lit (.string o.name)]) = [] := hr
      simp [drunL, drunO, dwanted, dopS, own, plainOf, dop, dput, eval, ofVal, Then, Ex.then, Ex.inBlock, upd, dbin, Tag.isNN, nilTest, intCmp, dload, dpart, TyI.agg, dfieldAddr, dfield, dindexAddr, dindex, dlen, lenOk, dlookup, mapOf, assocM, keyFits, dmapUpdate, dcallee, dcall, tabOf, dbuiltin, dstore, DV.cells, setAt, dslice, dboundOk, dappend, appTag, rowsOf, elemOk, growLimit, dbuildCells, dbuildCells.go, structOk, fieldsOk, dbuildRows, goInt, h3, ty83, ty9, ty22, EncR.opd]
      refine hK _ _ ?_ rfl; clear hK K
      refine Dwp.reg t114 rfl fun K hK => ?_
      simp [drunL, drunO, dwanted, dopS, own, plainOf, dop, dput, eval, ofVal, Then, Ex.then, Ex.inBlock, upd, dbin, Tag.isNN, nilTest, intCmp, dload, dpart, TyI.agg, dfieldAddr, dfield, dindexAddr, dindex, dlen, lenOk, dlookup, mapOf, assocM, keyFits, dmapUpdate, dcallee, dcall, tabOf, dbuiltin, dstore, DV.cells, setAt, dslice, dboundOk, dappend, appTag, rowsOf, elemOk, growLimit, dbuildCells, dbuildCells.go, structOk, fieldsOk, dbuildRows, goInt, h13]
      refine hK _ _ ?_ rfl; clear hK K
      exact ⟨l.length - (i + 1), by omega, i + 1, by omega, rfl, .inr ⟨_, _, by rw [htk, hi0]; simp [upd]; exact ⟨rfl, rfl⟩, by simp [upd]⟩, by simp [upd, h11], by simp [upd, h12], by simp [upd, wrap_small (n := (i : Int) + 1) (by omega) (by omega)]⟩
    · simp [drunL, drunO, dwanted, dopS, own, plainOf, dop, dput, eval, ofVal, Then, Ex.then, Ex.inBlock, upd, dbin, Tag.isNN, nilTest, intCmp, dload, dpart, TyI.agg, dfieldAddr, dfield, dindexAddr, dindex, dlen, lenOk, dlookup, mapOf, assocM, keyFits, dmapUpdate, dcallee, dcall, tabOf, dbuiltin, dstore, DV.cells, setAt, dslice, dboundOk, dappend, appTag, rowsOf, elemOk, growLimit, dbuildCells, dbuildCells.go, structOk, fieldsOk, dbuildRows, goInt, h3, hg, ty83, ty9, ty22, EncR.opd, hsmall]
      refine hK _ _ ?_ rfl; clear hK K
      refine Dwp.reg t114 rfl fun K hK => ?_
      simp [drunL, drunO, dwanted, dopS, own, plainOf, dop, dput, eval, ofVal, Then, Ex.then, Ex.inBlock, upd, dbin, Tag.isNN, nilTest, intCmp, dload, dpart, TyI.agg, dfieldAddr, dfield, dindexAddr, dindex, dlen, lenOk, dlookup, mapOf, assocM, keyFits, dmapUpdate, dcallee, dcall, tabOf, dbuiltin, dstore, DV.cells, setAt, dslice, dboundOk, dappend, appTag, rowsOf, elemOk, growLimit, dbuildCells, dbuildCells.go, structOk, fieldsOk, dbuildRows, goInt, h13]
      refine hK _ _ ?_ rfl; clear hK K
      exact ⟨l.length - (i + 1), by omega, i + 1, by omega, rfl, .inr ⟨_, _, by rw [htk]; simp [upd]; exact ⟨rfl, rfl⟩, by simp [upd]⟩, by simp [upd, h11], by simp [upd, h12], by simp [upd, wrap_small (n := (i : Int) + 1) (by omega) (by omega)]⟩
  · refine Dwp.seq (Dwp.condF (by simp [eval, upd, hlt]) (Dwp.exit ?_))
    rw [List.take_of_length_le (by omega)] at h3
    have hd := h3.dec (A := EncR.one Enc.str) (l := l.map (·.name)) (by rw [show (l.map fun o : OpD => [DV.lit (.string o.name)]) = (l.map (·.name)).map fun s => [DV.lit (.string s)] by rw [List.map_map]; rfl]; exact strs_dec _)
    refine Dwp.step t114 rfl fun K hK => ?_
    simp [drunL, drunO, dwanted, dopS, own, plainOf, dop, dput, eval, ofVal, Then, Ex.then, Ex.inBlock, upd, dbin, Tag.isNN, nilTest, intCmp, dload, dpart, TyI.agg, dfieldAddr, dfield, dindexAddr, dindex, dlen, lenOk, dlookup, mapOf, assocM, keyFits, dmapUpdate, dcallee, dcall, tabOf, dbuiltin, dstore, DV.cells, setAt, dslice, dboundOk, dappend, appTag, rowsOf, elemOk, growLimit, dbuildCells, dbuildCells.go, structOk, fieldsOk, dbuildRows, goInt]
    refine hK _ _ (Dwp.ret ?_) rfl
    rcases h3 with ⟨hr, h3⟩ | ⟨tk, g, h3, hg⟩
    · rw [h3] at hd
      simp [Done, dresults, dres, frz, frz1, frz2, upd, h3, Enc.strs]
      exact hd
    · rw [h3] at hd
      simp [Done, dresults, dres, frz, frz1, frz2, upd, h3, Enc.strs]
      exact hd
theorem e328 : Go.FA.Good Tryz.prog (328, s328) := ⟨c328, Tryz.f328, _, Tryz.func328, rfl, by decide⟩
end Go.Proofs.Yt
namespace Go.FA
open Go.RowKit
set_option linter.unusedVariables false
set_option linter.unusedSimpArgs false
variable {P : Program} {T : Tab} {ops : Array Oper} {n0 i : Nat} {o : Oper} {rest : List Oper} {a : Nat → DV} {σ : St} {K : (Nat → DV) → St → Prop}

section
variable (id : Nat)
@[simp] theorem own_lit (v : Value) : own id σ (.lit v) = (.lit v, σ) := rfl
@[simp] theorem own_agg (cs : List DV) : own id σ (.agg cs) = (.agg cs, σ) := rfl
@[simp] theorem own_tuple (cs : List DV) : own id σ (.tuple cs) = (.tuple cs, σ) := rfl
@[simp] theorem own_fmap (ks : List Value) (vs : List DV) : own id σ (.fmap ks vs) = (.fmap ks vs, σ) := rfl
@[simp] theorem own_func (f : Fn) (x y : List DV) : own id σ (.func f x y) = (.func f x y, σ) := rfl
@[simp] theorem own_none (k : Nat) (r : List (List DV)) : own id σ (.slice k .none r) = (.slice k .none r, σ) := rfl
@[simp] theorem own_tok (k t g : Nat) (r : List (List DV)) : own id σ (.slice k (.tok t g) r) = (.slice k (.tok id 0) r, { σ with toks := upd σ.toks id (some 0) }) := rfl
end

def Then1 (x : Option (DV × St)) (K1 : DV → St → Prop) : Prop :=
  match x with
  | some (d, σ) => K1 d σ
  | none => False
/-- what a guard's slot says -/
def Guarded (g : DV) (want : Bool) (x : Option (DV × St)) (σ : St) (K1 : DV → St → Prop) : Prop :=
  match g with
  | .lit (.bool b) => if (b == want) = true then Then1 x K1 else K1 (.lit (.tuple #[])) σ
  | .lit (.tuple _) => K1 (.lit (.tuple #[])) σ
  | _ => False

theorem Then.done (h : K a σ) : Then (drunL P T ops n0 i [] a σ) K := h
theorem Then.stepD {t : Tmp} (hg : o.guard = none) (hd : o.dst = some t)
    (h : ∀ K1 : DV → St → Prop, (∀ d σ', Then (drunL P T ops n0 (i + 1) rest (upd a t d) σ') K → K1 d σ') → Then1 (dopS P T (n0 + i) a σ o.op) K1) : Then (drunL P T ops n0 i (o :: rest) a σ) K := by
  have h1 := h _ (fun _ _ h => h)
  unfold Then1 at h1
  simp only [drunL, hg, dwanted]
  split at h1
  · next d σ' he => rw [he]; simp only [dput, hd]; exact h1
  · exact h1.elim
theorem Then.stepN (hg : o.guard = none) (hd : o.dst = none)
    (h : ∀ K1 : DV → St → Prop, (∀ d σ', Then (drunL P T ops n0 (i + 1) rest a σ') K → K1 d σ') → Then1 (dopS P T (n0 + i) a σ o.op) K1) : Then (drunL P T ops n0 i (o :: rest) a σ) K := by
  have h1 := h _ (fun _ _ h => h)
  unfold Then1 at h1
  simp only [drunL, hg, dwanted]
  split at h1
  · next d σ' he => rw [he]; simp only [dput, hd]; exact h1
  · exact h1.elim
theorem Then.stepG {t u : Tmp} {j : Nat} {want : Bool} (hg : o.guard = some (j, want)) (hj : (ops[j]?).bind (·.dst) = some u) (hd : o.dst = some t)
    (h : ∀ K1 : DV → St → Prop, (∀ d σ', Then (drunL P T ops n0 (i + 1) rest (upd a t d) σ') K → K1 d σ') → Guarded (a u) want (dopS P T (n0 + i) a σ o.op) σ K1) : Then (drunL P T ops n0 i (o :: rest) a σ) K := by
  have h1 := h _ (fun _ _ h => h)
  unfold Guarded at h1
  simp only [drunL, hg, dwanted, hj]
  split at h1
  · next b hb =>
    rw [hb]
    simp only []
    split at h1
    · next hbw =>
      rw [hbw]
      unfold Then1 at h1
      split at h1
      · next d σ' he => rw [he]; simp only [dput, hd]; exact h1
      · exact h1.elim
    · next hbw =>
      have : (b == want) = false := by simpa using hbw
      rw [this]; simp only [dput, hd]; exact h1
  · next vs hb => rw [hb]; simp only [dput, hd]; exact h1
  · exact h1.elim
theorem Then.stepGN {u : Tmp} {j : Nat} {want : Bool} (hg : o.guard = some (j, want)) (hj : (ops[j]?).bind (·.dst) = some u) (hd : o.dst = none)
    (h : ∀ K1 : DV → St → Prop, (∀ d σ', Then (drunL P T ops n0 (i + 1) rest a σ') K → K1 d σ') → Guarded (a u) want (dopS P T (n0 + i) a σ o.op) σ K1) : Then (drunL P T ops n0 i (o :: rest) a σ) K := by
  have h1 := h _ (fun _ _ h => h)
  unfold Guarded at h1
  simp only [drunL, hg, dwanted, hj]
  split at h1
  · next b hb =>
    rw [hb]
    simp only []
    split at h1
    · next hbw =>
      rw [hbw]
      unfold Then1 at h1
      split at h1
      · next d σ' he => rw [he]; simp only [dput, hd]; exact h1
      · exact h1.elim
    · next hbw =>
      have : (b == want) = false := by simpa using hbw
      rw [this]; simp only [dput, hd]; exact h1
  · next vs hb => rw [hb]; simp only [dput, hd]; exact h1
  · exact h1.elim
end Go.FA
namespace Go.Proofs.Yt
open Go Go.FA Go.Proofs
set_option linter.unusedVariables false
set_option linter.unusedSimpArgs false
set_option maxRecDepth 100000

def badFun (b : Book) (o : OpD) : Bool := !isName o.name || builtIn o.name || !okArgs b o || !b.has o.sort || decide (0 < o.pieces.length) || decide (o.prec ≠ 0) || decide (o.assoc ≠ 0) || decide (0 < o.strict.length)
def s331 : Sp := sp (arg2 Enc.book Enc.opd) Enc.bool (fun x => some (badFun x.1 x.2))
abbrev T117 : Tab := tabOf [(105, s105), (120, s120), (345, s345), (311, s311)]
theorem t117 : TabOk Tryz.prog T117 := .cons e105 (.cons e120 (.cons e345 (.cons e311 .nil)))
theorem c331 : CallSound Tryz.prog 331 s331 := by
  refine CallSound.of_sp (T := T117) Tryz.func331 rfl (Nat.le_of_ble_eq_true rfl) fun E x y hy => ?_
  obtain ⟨b, o⟩ := x
  simp at hy
  subst hy
  have g1 := call105 T117 rfl o.name
  have g2 := call120 T117 rfl o.name
  have g3 := call345 T117 rfl b o
  have g4 := call311 T117 rfl b (.slice 1 .full [[.lit (.string o.sort)]]) [o.sort] rfl (by unfold lim; simp)
  simp only [List.all_cons, List.all_nil, Bool.and_true] at g4
  refine Dwp.step t117 rfl fun K hK => ?_
  simp [drunL, drunO, dwanted, dopS, own, plainOf, dop, dput, eval, ofVal, Then, Ex.then, Ex.inBlock, upd, dbin, Tag.isNN, nilTest, intCmp, dload, dpart, TyI.agg, dfieldAddr, dfield, dindexAddr, dindex, dlen, lenOk, dlookup, mapOf, assocM, keyFits, dmapUpdate, dcallee, dcall, tabOf, dbuiltin, dstore, DV.cells, setAt, dslice, dboundOk, dappend, appTag, rowsOf, elemOk, growLimit, dbuildCells, dbuildCells.go, structOk, fieldsOk, dbuildRows, goInt, init, arg1, arg2, arg3, EncR.one, EncR.and, Enc.bool, Enc.int, Enc.str, Enc.strs, Enc.slice, Enc.agg, Enc.tup, Enc.err, Enc.fn, Enc.opd, Enc.book]
  refine hK _ _ ?_ rfl; clear hK K
  refine Dwp.step t117 rfl fun K hK => ?_
  generalize T117 = T at *
  repeat (first
    | (refine Then.stepD rfl rfl (fun K1 hK1 => ?_); simp [Then1, Guarded, dopS, dop, eval, ofVal, upd, dfieldAddr, dload, dpart, TyI.agg, ty83, ty229, ty9, ty80, ty49, ty3, ty81, ty22, dcallee, dbuiltin, lenOk, dlen, goInt, dbin, intCmp, Enc.pies, Enc.ints, Enc.slice, dbuildRows, DV.cells, growLimit, g1]; refine hK1 _ _ ?_; clear hK1 K1)
    | (refine Then.stepG rfl rfl rfl (fun K1 hK1 => ?_); simp [Then1, Guarded, dopS, dop, eval, ofVal, upd, dfieldAddr, dload, dpart, TyI.agg, ty83, ty229, ty9, ty80, ty49, ty3, ty81, ty22, dcallee, dbuiltin, lenOk, dlen, goInt, dbin, intCmp, Enc.pies, Enc.ints, Enc.slice, dbuildRows, DV.cells, growLimit, g1]; refine hK1 _ _ ?_; clear hK1 K1)
    | (refine Then.stepN rfl rfl (fun K1 hK1 => ?_); simp [Then1, Guarded, dopS, dop, eval, ofVal, upd, dfieldAddr, dload, dpart, TyI.agg, ty83, ty229, ty9, ty80, ty49, ty3, ty81, ty22, dcallee, dbuiltin, lenOk, dlen, goInt, dbin, intCmp, Enc.pies, Enc.ints, Enc.slice, dbuildRows, DV.cells, growLimit, g1]; refine hK1 _ _ ?_; clear hK1 K1)
    | (refine Then.stepGN rfl rfl rfl (fun K1 hK1 => ?_); simp [Then1, Guarded, dopS, dop, eval, ofVal, upd, dfieldAddr, dload, dpart, TyI.agg, ty83, ty229, ty9, ty80, ty49, ty3, ty81, ty22, dcallee, dbuiltin, lenOk, dlen, goInt, dbin, intCmp, Enc.pies, Enc.ints, Enc.slice, dbuildRows, DV.cells, growLimit, g1]; refine hK1 _ _ ?_; clear hK1 K1))
  cases k1 : isName o.name with
  | false =>
    repeat (first
      | (refine Then.stepD rfl rfl (fun K1 hK1 => ?_); simp [Then1, Guarded, dopS, dop, eval, ofVal, upd, dfieldAddr, dload, dpart, TyI.agg, ty83, ty229, ty9, ty80, ty49, ty3, ty81, ty22, dcallee, dbuiltin, lenOk, dlen, goInt, dbin, intCmp, Enc.pies, Enc.ints, Enc.slice, dbuildRows, DV.cells, growLimit, g1, k1]; refine hK1 _ _ ?_; clear hK1 K1)
      | (refine Then.stepG rfl rfl rfl (fun K1 hK1 => ?_); simp [Then1, Guarded, dopS, dop, eval, ofVal, upd, dfieldAddr, dload, dpart, TyI.agg, ty83, ty229, ty9, ty80, ty49, ty3, ty81, ty22, dcallee, dbuiltin, lenOk, dlen, goInt, dbin, intCmp, Enc.pies, Enc.ints, Enc.slice, dbuildRows, DV.cells, growLimit, g1, k1]; refine hK1 _ _ ?_; clear hK1 K1)
      | (refine Then.stepN rfl rfl (fun K1 hK1 => ?_); simp [Then1, Guarded, dopS, dop, eval, ofVal, upd, dfieldAddr, dload, dpart, TyI.agg, ty83, ty229, ty9, ty80, ty49, ty3, ty81, ty22, dcallee, dbuiltin, lenOk, dlen, goInt, dbin, intCmp, Enc.pies, Enc.ints, Enc.slice, dbuildRows, DV.cells, growLimit, g1, k1]; refine hK1 _ _ ?_; clear hK1 K1)
      | (refine Then.stepGN rfl rfl rfl (fun K1 hK1 => ?_); simp [Then1, Guarded, dopS, dop, eval, ofVal, upd, dfieldAddr, dload, dpart, TyI.agg, ty83, ty229, ty9, ty80, ty49, ty3, ty81, ty22, dcallee, dbuiltin, lenOk, dlen, goInt, dbin, intCmp, Enc.pies, Enc.ints, Enc.slice, dbuildRows, DV.cells, growLimit, g1, k1]; refine hK1 _ _ ?_; clear hK1 K1))
    refine Then.done (hK _ _ (Dwp.ret ?_) rfl)
    simp [Done, dresults, dres, frz, frz1, frz2, Enc.bool, Ex.then, upd, badFun, k1]
  | true =>
  repeat (first
    | (refine Then.stepD rfl rfl (fun K1 hK1 => ?_); simp [Then1, Guarded, dopS, dop, eval, ofVal, upd, dfieldAddr, dload, dpart, TyI.agg, ty83, ty229, ty9, ty80, ty49, ty3, ty81, ty22, dcallee, dbuiltin, lenOk, dlen, goInt, dbin, intCmp, Enc.pies, Enc.ints, Enc.slice, dbuildRows, DV.cells, growLimit, g1, k1, g2]; refine hK1 _ _ ?_; clear hK1 K1)
    | (refine Then.stepG rfl rfl rfl (fun K1 hK1 => ?_); simp [Then1, Guarded, dopS, dop, eval, ofVal, upd, dfieldAddr, dload, dpart, TyI.agg, ty83, ty229, ty9, ty80, ty49, ty3, ty81, ty22, dcallee, dbuiltin, lenOk, dlen, goInt, dbin, intCmp, Enc.pies, Enc.ints, Enc.slice, dbuildRows, DV.cells, growLimit, g1, k1, g2]; refine hK1 _ _ ?_; clear hK1 K1)
    | (refine Then.stepN rfl rfl (fun K1 hK1 => ?_); simp [Then1, Guarded, dopS, dop, eval, ofVal, upd, dfieldAddr, dload, dpart, TyI.agg, ty83, ty229, ty9, ty80, ty49, ty3, ty81, ty22, dcallee, dbuiltin, lenOk, dlen, goInt, dbin, intCmp, Enc.pies, Enc.ints, Enc.slice, dbuildRows, DV.cells, growLimit, g1, k1, g2]; refine hK1 _ _ ?_; clear hK1 K1)
    | (refine Then.stepGN rfl rfl rfl (fun K1 hK1 => ?_); simp [Then1, Guarded, dopS, dop, eval, ofVal, upd, dfieldAddr, dload, dpart, TyI.agg, ty83, ty229, ty9, ty80, ty49, ty3, ty81, ty22, dcallee, dbuiltin, lenOk, dlen, goInt, dbin, intCmp, Enc.pies, Enc.ints, Enc.slice, dbuildRows, DV.cells, growLimit, g1, k1, g2]; refine hK1 _ _ ?_; clear hK1 K1))
  cases k2 : builtIn o.name with
  | true =>
    repeat (first
      | (refine Then.stepD rfl rfl (fun K1 hK1 => ?_); simp [Then1, Guarded, dopS, dop, eval, ofVal, upd, dfieldAddr, dload, dpart, TyI.agg, ty83, ty229, ty9, ty80, ty49, ty3, ty81, ty22, dcallee, dbuiltin, lenOk, dlen, goInt, dbin, intCmp, Enc.pies, Enc.ints, Enc.slice, dbuildRows, DV.cells, growLimit, g1, k1, g2, k2]; refine hK1 _ _ ?_; clear hK1 K1)
      | (refine Then.stepG rfl rfl rfl (fun K1 hK1 => ?_); simp [Then1, Guarded, dopS, dop, eval, ofVal, upd, dfieldAddr, dload, dpart, TyI.agg, ty83, ty229, ty9, ty80, ty49, ty3, ty81, ty22, dcallee, dbuiltin, lenOk, dlen, goInt, dbin, intCmp, Enc.pies, Enc.ints, Enc.slice, dbuildRows, DV.cells, growLimit, g1, k1, g2, k2]; refine hK1 _ _ ?_; clear hK1 K1)
      | (refine Then.stepN rfl rfl (fun K1 hK1 => ?_); simp [Then1, Guarded, dopS, dop, eval, ofVal, upd, dfieldAddr, dload, dpart, TyI.agg, ty83, ty229, ty9, ty80, ty49, ty3, ty81, ty22, dcallee, dbuiltin, lenOk, dlen, goInt, dbin, intCmp, Enc.pies, Enc.ints, Enc.slice, dbuildRows, DV.cells, growLimit, g1, k1, g2, k2]; refine hK1 _ _ ?_; clear hK1 K1)
      | (refine Then.stepGN rfl rfl rfl (fun K1 hK1 => ?_); simp [Then1, Guarded, dopS, dop, eval, ofVal, upd, dfieldAddr, dload, dpart, TyI.agg, ty83, ty229, ty9, ty80, ty49, ty3, ty81, ty22, dcallee, dbuiltin, lenOk, dlen, goInt, dbin, intCmp, Enc.pies, Enc.ints, Enc.slice, dbuildRows, DV.cells, growLimit, g1, k1, g2, k2]; refine hK1 _ _ ?_; clear hK1 K1))
    refine Then.done (hK _ _ (Dwp.ret ?_) rfl)
    simp [Done, dresults, dres, frz, frz1, frz2, Enc.bool, Ex.then, upd, badFun, k1, k2]
  | false =>
  repeat (first
    | (refine Then.stepD rfl rfl (fun K1 hK1 => ?_); simp [Then1, Guarded, dopS, dop, eval, ofVal, upd, dfieldAddr, dload, dpart, TyI.agg, ty83, ty229, ty9, ty80, ty49, ty3, ty81, ty22, dcallee, dbuiltin, lenOk, dlen, goInt, dbin, intCmp, Enc.pies, Enc.ints, Enc.slice, dbuildRows, DV.cells, growLimit, g1, k1, g2, k2, g3]; refine hK1 _ _ ?_; clear hK1 K1)
    | (refine Then.stepG rfl rfl rfl (fun K1 hK1 => ?_); simp [Then1, Guarded, dopS, dop, eval, ofVal, upd, dfieldAddr, dload, dpart, TyI.agg, ty83, ty229, ty9, ty80, ty49, ty3, ty81, ty22, dcallee, dbuiltin, lenOk, dlen, goInt, dbin, intCmp, Enc.pies, Enc.ints, Enc.slice, dbuildRows, DV.cells, growLimit, g1, k1, g2, k2, g3]; refine hK1 _ _ ?_; clear hK1 K1)
    | (refine Then.stepN rfl rfl (fun K1 hK1 => ?_); simp [Then1, Guarded, dopS, dop, eval, ofVal, upd, dfieldAddr, dload, dpart, TyI.agg, ty83, ty229, ty9, ty80, ty49, ty3, ty81, ty22, dcallee, dbuiltin, lenOk, dlen, goInt, dbin, intCmp, Enc.pies, Enc.ints, Enc.slice, dbuildRows, DV.cells, growLimit, g1, k1, g2, k2, g3]; refine hK1 _ _ ?_; clear hK1 K1)
    | (refine Then.stepGN rfl rfl rfl (fun K1 hK1 => ?_); simp [Then1, Guarded, dopS, dop, eval, ofVal, upd, dfieldAddr, dload, dpart, TyI.agg, ty83, ty229, ty9, ty80, ty49, ty3, ty81, ty22, dcallee, dbuiltin, lenOk, dlen, goInt, dbin, intCmp, Enc.pies, Enc.ints, Enc.slice, dbuildRows, DV.cells, growLimit, g1, k1, g2, k2, g3]; refine hK1 _ _ ?_; clear hK1 K1))
  cases k3 : okArgs b o with
  | false =>
    repeat (first
      | (refine Then.stepD rfl rfl (fun K1 hK1 => ?_); simp [Then1, Guarded, dopS, dop, eval, ofVal, upd, dfieldAddr, dload, dpart, TyI.agg, ty83, ty229, ty9, ty80, ty49, ty3, ty81, ty22, dcallee, dbuiltin, lenOk, dlen, goInt, dbin, intCmp, Enc.pies, Enc.ints, Enc.slice, dbuildRows, DV.cells, growLimit, g1, k1, g2, k2, g3, k3]; refine hK1 _ _ ?_; clear hK1 K1)
      | (refine Then.stepG rfl rfl rfl (fun K1 hK1 => ?_); simp [Then1, Guarded, dopS, dop, eval, ofVal, upd, dfieldAddr, dload, dpart, TyI.agg, ty83, ty229, ty9, ty80, ty49, ty3, ty81, ty22, dcallee, dbuiltin, lenOk, dlen, goInt, dbin, intCmp, Enc.pies, Enc.ints, Enc.slice, dbuildRows, DV.cells, growLimit, g1, k1, g2, k2, g3, k3]; refine hK1 _ _ ?_; clear hK1 K1)
      | (refine Then.stepN rfl rfl (fun K1 hK1 => ?_); simp [Then1, Guarded, dopS, dop, eval, ofVal, upd, dfieldAddr, dload, dpart, TyI.agg, ty83, ty229, ty9, ty80, ty49, ty3, ty81, ty22, dcallee, dbuiltin, lenOk, dlen, goInt, dbin, intCmp, Enc.pies, Enc.ints, Enc.slice, dbuildRows, DV.cells, growLimit, g1, k1, g2, k2, g3, k3]; refine hK1 _ _ ?_; clear hK1 K1)
      | (refine Then.stepGN rfl rfl rfl (fun K1 hK1 => ?_); simp [Then1, Guarded, dopS, dop, eval, ofVal, upd, dfieldAddr, dload, dpart, TyI.agg, ty83, ty229, ty9, ty80, ty49, ty3, ty81, ty22, dcallee, dbuiltin, lenOk, dlen, goInt, dbin, intCmp, Enc.pies, Enc.ints, Enc.slice, dbuildRows, DV.cells, growLimit, g1, k1, g2, k2, g3, k3]; refine hK1 _ _ ?_; clear hK1 K1))
    refine Then.done (hK _ _ (Dwp.ret ?_) rfl)
    simp [Done, dresults, dres, frz, frz1, frz2, Enc.bool, Ex.then, upd, badFun, k1, k2, k3]
  | true =>
  repeat (first
    | (refine Then.stepD rfl rfl (fun K1 hK1 => ?_); simp [Then1, Guarded, dopS, dop, eval, ofVal, upd, dfieldAddr, dload, dpart, TyI.agg, ty83, ty229, ty9, ty80, ty49, ty3, ty81, ty22, dcallee, dbuiltin, lenOk, dlen, goInt, dbin, intCmp, Enc.pies, Enc.ints, Enc.slice, dbuildRows, DV.cells, growLimit, g1, k1, g2, k2, g3, k3, g4]; refine hK1 _ _ ?_; clear hK1 K1)
    | (refine Then.stepG rfl rfl rfl (fun K1 hK1 => ?_); simp [Then1, Guarded, dopS, dop, eval, ofVal, upd, dfieldAddr, dload, dpart, TyI.agg, ty83, ty229, ty9, ty80, ty49, ty3, ty81, ty22, dcallee, dbuiltin, lenOk, dlen, goInt, dbin, intCmp, Enc.pies, Enc.ints, Enc.slice, dbuildRows, DV.cells, growLimit, g1, k1, g2, k2, g3, k3, g4]; refine hK1 _ _ ?_; clear hK1 K1)
    | (refine Then.stepN rfl rfl (fun K1 hK1 => ?_); simp [Then1, Guarded, dopS, dop, eval, ofVal, upd, dfieldAddr, dload, dpart, TyI.agg, ty83, ty229, ty9, ty80, ty49, ty3, ty81, ty22, dcallee, dbuiltin, lenOk, dlen, goInt, dbin, intCmp, Enc.pies, Enc.ints, Enc.slice, dbuildRows, DV.cells, growLimit, g1, k1, g2, k2, g3, k3, g4]; refine hK1 _ _ ?_; clear hK1 K1)
    | (refine Then.stepGN rfl rfl rfl (fun K1 hK1 => ?_); simp [Then1, Guarded, dopS, dop, eval, ofVal, upd, dfieldAddr, dload, dpart, TyI.agg, ty83, ty229, ty9, ty80, ty49, ty3, ty81, ty22, dcallee, dbuiltin, lenOk, dlen, goInt, dbin, intCmp, Enc.pies, Enc.ints, Enc.slice, dbuildRows, DV.cells, growLimit, g1, k1, g2, k2, g3, k3, g4]; refine hK1 _ _ ?_; clear hK1 K1))
  cases k4 : b.has o.sort with
  | false =>
    repeat (first
      | (refine Then.stepD rfl rfl (fun K1 hK1 => ?_); simp [Then1, Guarded, dopS, dop, eval, ofVal, upd, dfieldAddr, dload, dpart, TyI.agg, ty83, ty229, ty9, ty80, ty49, ty3, ty81, ty22, dcallee, dbuiltin, lenOk, dlen, goInt, dbin, intCmp, Enc.pies, Enc.ints, Enc.slice, dbuildRows, DV.cells, growLimit, g1, k1, g2, k2, g3, k3, g4, k4]; refine hK1 _ _ ?_; clear hK1 K1)
      | (refine Then.stepG rfl rfl rfl (fun K1 hK1 => ?_); simp [Then1, Guarded, dopS, dop, eval, ofVal, upd, dfieldAddr, dload, dpart, TyI.agg, ty83, ty229, ty9, ty80, ty49, ty3, ty81, ty22, dcallee, dbuiltin, lenOk, dlen, goInt, dbin, intCmp, Enc.pies, Enc.ints, Enc.slice, dbuildRows, DV.cells, growLimit, g1, k1, g2, k2, g3, k3, g4, k4]; refine hK1 _ _ ?_; clear hK1 K1)
      | (refine Then.stepN rfl rfl (fun K1 hK1 => ?_); simp [Then1, Guarded, dopS, dop, eval, ofVal, upd, dfieldAddr, dload, dpart, TyI.agg, ty83, ty229, ty9, ty80, ty49, ty3, ty81, ty22, dcallee, dbuiltin, lenOk, dlen, goInt, dbin, intCmp, Enc.pies, Enc.ints, Enc.slice, dbuildRows, DV.cells, growLimit, g1, k1, g2, k2, g3, k3, g4, k4]; refine hK1 _ _ ?_; clear hK1 K1)
      | (refine Then.stepGN rfl rfl rfl (fun K1 hK1 => ?_); simp [Then1, Guarded, dopS, dop, eval, ofVal, upd, dfieldAddr, dload, dpart, TyI.agg, ty83, ty229, ty9, ty80, ty49, ty3, ty81, ty22, dcallee, dbuiltin, lenOk, dlen, goInt, dbin, intCmp, Enc.pies, Enc.ints, Enc.slice, dbuildRows, DV.cells, growLimit, g1, k1, g2, k2, g3, k3, g4, k4]; refine hK1 _ _ ?_; clear hK1 K1))
    refine Then.done (hK _ _ (Dwp.ret ?_) rfl)
    simp [Done, dresults, dres, frz, frz1, frz2, Enc.bool, Ex.then, upd, badFun, k1, k2, k3, k4]
  | true =>
  repeat (first
    | (refine Then.stepD rfl rfl (fun K1 hK1 => ?_); simp [Then1, Guarded, dopS, dop, eval, ofVal, upd, dfieldAddr, dload, dpart, TyI.agg, ty83, ty229, ty9, ty80, ty49, ty3, ty81, ty22, dcallee, dbuiltin, lenOk, dlen, goInt, dbin, intCmp, Enc.pies, Enc.ints, Enc.slice, dbuildRows, DV.cells, growLimit, g1, k1, g2, k2, g3, k3, g4, k4]; refine hK1 _ _ ?_; clear hK1 K1)
    | (refine Then.stepG rfl rfl rfl (fun K1 hK1 => ?_); simp [Then1, Guarded, dopS, dop, eval, ofVal, upd, dfieldAddr, dload, dpart, TyI.agg, ty83, ty229, ty9, ty80, ty49, ty3, ty81, ty22, dcallee, dbuiltin, lenOk, dlen, goInt, dbin, intCmp, Enc.pies, Enc.ints, Enc.slice, dbuildRows, DV.cells, growLimit, g1, k1, g2, k2, g3, k3, g4, k4]; refine hK1 _ _ ?_; clear hK1 K1)
    | (refine Then.stepN rfl rfl (fun K1 hK1 => ?_); simp [Then1, Guarded, dopS, dop, eval, ofVal, upd, dfieldAddr, dload, dpart, TyI.agg, ty83, ty229, ty9, ty80, ty49, ty3, ty81, ty22, dcallee, dbuiltin, lenOk, dlen, goInt, dbin, intCmp, Enc.pies, Enc.ints, Enc.slice, dbuildRows, DV.cells, growLimit, g1, k1, g2, k2, g3, k3, g4, k4]; refine hK1 _ _ ?_; clear hK1 K1)
    | (refine Then.stepGN rfl rfl rfl (fun K1 hK1 => ?_); simp [Then1, Guarded, dopS, dop, eval, ofVal, upd, dfieldAddr, dload, dpart, TyI.agg, ty83, ty229, ty9, ty80, ty49, ty3, ty81, ty22, dcallee, dbuiltin, lenOk, dlen, goInt, dbin, intCmp, Enc.pies, Enc.ints, Enc.slice, dbuildRows, DV.cells, growLimit, g1, k1, g2, k2, g3, k3, g4, k4]; refine hK1 _ _ ?_; clear hK1 K1))
  by_cases k5 : o.pieces = []
  case neg =>
    have m1 : 0 < o.pieces.length := by cases h : o.pieces with | nil => exact absurd h k5 | cons _ _ => simp
    repeat (first
      | (refine Then.stepD rfl rfl (fun K1 hK1 => ?_); simp [Then1, Guarded, dopS, dop, eval, ofVal, upd, dfieldAddr, dload, dpart, TyI.agg, ty83, ty229, ty9, ty80, ty49, ty3, ty81, ty22, dcallee, dbuiltin, lenOk, dlen, goInt, dbin, intCmp, Enc.pies, Enc.ints, Enc.slice, dbuildRows, DV.cells, growLimit, g1, k1, g2, k2, g3, k3, g4, k4, k5, m1]; refine hK1 _ _ ?_; clear hK1 K1)
      | (refine Then.stepG rfl rfl rfl (fun K1 hK1 => ?_); simp [Then1, Guarded, dopS, dop, eval, ofVal, upd, dfieldAddr, dload, dpart, TyI.agg, ty83, ty229, ty9, ty80, ty49, ty3, ty81, ty22, dcallee, dbuiltin, lenOk, dlen, goInt, dbin, intCmp, Enc.pies, Enc.ints, Enc.slice, dbuildRows, DV.cells, growLimit, g1, k1, g2, k2, g3, k3, g4, k4, k5, m1]; refine hK1 _ _ ?_; clear hK1 K1)
      | (refine Then.stepN rfl rfl (fun K1 hK1 => ?_); simp [Then1, Guarded, dopS, dop, eval, ofVal, upd, dfieldAddr, dload, dpart, TyI.agg, ty83, ty229, ty9, ty80, ty49, ty3, ty81, ty22, dcallee, dbuiltin, lenOk, dlen, goInt, dbin, intCmp, Enc.pies, Enc.ints, Enc.slice, dbuildRows, DV.cells, growLimit, g1, k1, g2, k2, g3, k3, g4, k4, k5, m1]; refine hK1 _ _ ?_; clear hK1 K1)
      | (refine Then.stepGN rfl rfl rfl (fun K1 hK1 => ?_); simp [Then1, Guarded, dopS, dop, eval, ofVal, upd, dfieldAddr, dload, dpart, TyI.agg, ty83, ty229, ty9, ty80, ty49, ty3, ty81, ty22, dcallee, dbuiltin, lenOk, dlen, goInt, dbin, intCmp, Enc.pies, Enc.ints, Enc.slice, dbuildRows, DV.cells, growLimit, g1, k1, g2, k2, g3, k3, g4, k4, k5, m1]; refine hK1 _ _ ?_; clear hK1 K1))
    refine Then.done (hK _ _ (Dwp.ret ?_) rfl)
    simp [Done, dresults, dres, frz, frz1, frz2, Enc.bool, Ex.then, upd, badFun, k1, k2, k3, k4, k5, m1]
  repeat (first
    | (refine Then.stepD rfl rfl (fun K1 hK1 => ?_); simp [Then1, Guarded, dopS, dop, eval, ofVal, upd, dfieldAddr, dload, dpart, TyI.agg, ty83, ty229, ty9, ty80, ty49, ty3, ty81, ty22, dcallee, dbuiltin, lenOk, dlen, goInt, dbin, intCmp, Enc.pies, Enc.ints, Enc.slice, dbuildRows, DV.cells, growLimit, g1, k1, g2, k2, g3, k3, g4, k4, k5]; refine hK1 _ _ ?_; clear hK1 K1)
    | (refine Then.stepG rfl rfl rfl (fun K1 hK1 => ?_); simp [Then1, Guarded, dopS, dop, eval, ofVal, upd, dfieldAddr, dload, dpart, TyI.agg, ty83, ty229, ty9, ty80, ty49, ty3, ty81, ty22, dcallee, dbuiltin, lenOk, dlen, goInt, dbin, intCmp, Enc.pies, Enc.ints, Enc.slice, dbuildRows, DV.cells, growLimit, g1, k1, g2, k2, g3, k3, g4, k4, k5]; refine hK1 _ _ ?_; clear hK1 K1)
    | (refine Then.stepN rfl rfl (fun K1 hK1 => ?_); simp [Then1, Guarded, dopS, dop, eval, ofVal, upd, dfieldAddr, dload, dpart, TyI.agg, ty83, ty229, ty9, ty80, ty49, ty3, ty81, ty22, dcallee, dbuiltin, lenOk, dlen, goInt, dbin, intCmp, Enc.pies, Enc.ints, Enc.slice, dbuildRows, DV.cells, growLimit, g1, k1, g2, k2, g3, k3, g4, k4, k5]; refine hK1 _ _ ?_; clear hK1 K1)
    | (refine Then.stepGN rfl rfl rfl (fun K1 hK1 => ?_); simp [Then1, Guarded, dopS, dop, eval, ofVal, upd, dfieldAddr, dload, dpart, TyI.agg, ty83, ty229, ty9, ty80, ty49, ty3, ty81, ty22, dcallee, dbuiltin, lenOk, dlen, goInt, dbin, intCmp, Enc.pies, Enc.ints, Enc.slice, dbuildRows, DV.cells, growLimit, g1, k1, g2, k2, g3, k3, g4, k4, k5]; refine hK1 _ _ ?_; clear hK1 K1))
  by_cases k6 : o.prec = 0
  case neg =>
    have m1 : (o.prec == 0) = false := by simp [k6]
    have m2 : (o.prec != 0) = true := by simp [k6]
    repeat (first
      | (refine Then.stepD rfl rfl (fun K1 hK1 => ?_); simp [Then1, Guarded, dopS, dop, eval, ofVal, upd, dfieldAddr, dload, dpart, TyI.agg, ty83, ty229, ty9, ty80, ty49, ty3, ty81, ty22, dcallee, dbuiltin, lenOk, dlen, goInt, dbin, intCmp, Enc.pies, Enc.ints, Enc.slice, dbuildRows, DV.cells, growLimit, g1, k1, g2, k2, g3, k3, g4, k4, k5, k6, m1, m2]; refine hK1 _ _ ?_; clear hK1 K1)
      | (refine Then.stepG rfl rfl rfl (fun K1 hK1 => ?_); simp [Then1, Guarded, dopS, dop, eval, ofVal, upd, dfieldAddr, dload, dpart, TyI.agg, ty83, ty229, ty9, ty80, ty49, ty3, ty81, ty22, dcallee, dbuiltin, lenOk, dlen, goInt, dbin, intCmp, Enc.pies, Enc.ints, Enc.slice, dbuildRows, DV.cells, growLimit, g1, k1, g2, k2, g3, k3, g4, k4, k5, k6, m1, m2]; refine hK1 _ _ ?_; clear hK1 K1)
      | (refine Then.stepN rfl rfl (fun K1 hK1 => ?_); simp [Then1, Guarded, dopS, dop, eval, ofVal, upd, dfieldAddr, dload, dpart, TyI.agg, ty83, ty229, ty9, ty80, ty49, ty3, ty81, ty22, dcallee, dbuiltin, lenOk, dlen, goInt, dbin, intCmp, Enc.pies, Enc.ints, Enc.slice, dbuildRows, DV.cells, growLimit, g1, k1, g2, k2, g3, k3, g4, k4, k5, k6, m1, m2]; refine hK1 _ _ ?_; clear hK1 K1)
      | (refine Then.stepGN rfl rfl rfl (fun K1 hK1 => ?_); simp [Then1, Guarded, dopS, dop, eval, ofVal, upd, dfieldAddr, dload, dpart, TyI.agg, ty83, ty229, ty9, ty80, ty49, ty3, ty81, ty22, dcallee, dbuiltin, lenOk, dlen, goInt, dbin, intCmp, Enc.pies, Enc.ints, Enc.slice, dbuildRows, DV.cells, growLimit, g1, k1, g2, k2, g3, k3, g4, k4, k5, k6, m1, m2]; refine hK1 _ _ ?_; clear hK1 K1))
    refine Then.done (hK _ _ (Dwp.ret ?_) rfl)
    simp [Done, dresults, dres, frz, frz1, frz2, Enc.bool, Ex.then, upd, badFun, k1, k2, k3, k4, k5, k6, m1, m2]
  repeat (first
    | (refine Then.stepD rfl rfl (fun K1 hK1 => ?_); simp [Then1, Guarded, dopS, dop, eval, ofVal, upd, dfieldAddr, dload, dpart, TyI.agg, ty83, ty229, ty9, ty80, ty49, ty3, ty81, ty22, dcallee, dbuiltin, lenOk, dlen, goInt, dbin, intCmp, Enc.pies, Enc.ints, Enc.slice, dbuildRows, DV.cells, growLimit, g1, k1, g2, k2, g3, k3, g4, k4, k5, k6]; refine hK1 _ _ ?_; clear hK1 K1)
    | (refine Then.stepG rfl rfl rfl (fun K1 hK1 => ?_); simp [Then1, Guarded, dopS, dop, eval, ofVal, upd, dfieldAddr, dload, dpart, TyI.agg, ty83, ty229, ty9, ty80, ty49, ty3, ty81, ty22, dcallee, dbuiltin, lenOk, dlen, goInt, dbin, intCmp, Enc.pies, Enc.ints, Enc.slice, dbuildRows, DV.cells, growLimit, g1, k1, g2, k2, g3, k3, g4, k4, k5, k6]; refine hK1 _ _ ?_; clear hK1 K1)
    | (refine Then.stepN rfl rfl (fun K1 hK1 => ?_); simp [Then1, Guarded, dopS, dop, eval, ofVal, upd, dfieldAddr, dload, dpart, TyI.agg, ty83, ty229, ty9, ty80, ty49, ty3, ty81, ty22, dcallee, dbuiltin, lenOk, dlen, goInt, dbin, intCmp, Enc.pies, Enc.ints, Enc.slice, dbuildRows, DV.cells, growLimit, g1, k1, g2, k2, g3, k3, g4, k4, k5, k6]; refine hK1 _ _ ?_; clear hK1 K1)
    | (refine Then.stepGN rfl rfl rfl (fun K1 hK1 => ?_); simp [Then1, Guarded, dopS, dop, eval, ofVal, upd, dfieldAddr, dload, dpart, TyI.agg, ty83, ty229, ty9, ty80, ty49, ty3, ty81, ty22, dcallee, dbuiltin, lenOk, dlen, goInt, dbin, intCmp, Enc.pies, Enc.ints, Enc.slice, dbuildRows, DV.cells, growLimit, g1, k1, g2, k2, g3, k3, g4, k4, k5, k6]; refine hK1 _ _ ?_; clear hK1 K1))
  by_cases k7 : o.assoc = 0
  case neg =>
    have m1 : (o.assoc == 0) = false := by simp [k7]
    have m2 : (o.assoc != 0) = true := by simp [k7]
    repeat (first
      | (refine Then.stepD rfl rfl (fun K1 hK1 => ?_); simp [Then1, Guarded, dopS, dop, eval, ofVal, upd, dfieldAddr, dload, dpart, TyI.agg, ty83, ty229, ty9, ty80, ty49, ty3, ty81, ty22, dcallee, dbuiltin, lenOk, dlen, goInt, dbin, intCmp, Enc.pies, Enc.ints, Enc.slice, dbuildRows, DV.cells, growLimit, g1, k1, g2, k2, g3, k3, g4, k4, k5, k6, k7, m1, m2]; refine hK1 _ _ ?_; clear hK1 K1)
      | (refine Then.stepG rfl rfl rfl (fun K1 hK1 => ?_); simp [Then1, Guarded, dopS, dop, eval, ofVal, upd, dfieldAddr, dload, dpart, TyI.agg, ty83, ty229, ty9, ty80, ty49, ty3, ty81, ty22, dcallee, dbuiltin, lenOk, dlen, goInt, dbin, intCmp, Enc.pies, Enc.ints, Enc.slice, dbuildRows, DV.cells, growLimit, g1, k1, g2, k2, g3, k3, g4, k4, k5, k6, k7, m1, m2]; refine hK1 _ _ ?_; clear hK1 K1)
      | (refine Then.stepN rfl rfl (fun K1 hK1 => ?_); simp [Then1, Guarded, dopS, dop, eval, ofVal, upd, dfieldAddr, dload, dpart, TyI.agg, ty83, ty229, ty9, ty80, ty49, ty3, ty81, ty22, dcallee, dbuiltin, lenOk, dlen, goInt, dbin, intCmp, Enc.pies, Enc.ints, Enc.slice, dbuildRows, DV.cells, growLimit, g1, k1, g2, k2, g3, k3, g4, k4, k5, k6, k7, m1, m2]; refine hK1 _ _ ?_; clear hK1 K1)
      | (refine Then.stepGN rfl rfl rfl (fun K1 hK1 => ?_); simp [Then1, Guarded, dopS, dop, eval, ofVal, upd, dfieldAddr, dload, dpart, TyI.agg, ty83, ty229, ty9, ty80, ty49, ty3, ty81, ty22, dcallee, dbuiltin, lenOk, dlen, goInt, dbin, intCmp, Enc.pies, Enc.ints, Enc.slice, dbuildRows, DV.cells, growLimit, g1, k1, g2, k2, g3, k3, g4, k4, k5, k6, k7, m1, m2]; refine hK1 _ _ ?_; clear hK1 K1))
    refine Then.done (hK _ _ (Dwp.ret ?_) rfl)
    simp [Done, dresults, dres, frz, frz1, frz2, Enc.bool, Ex.then, upd, badFun, k1, k2, k3, k4, k5, k6, k7, m1, m2]
  repeat (first
    | (refine Then.stepD rfl rfl (fun K1 hK1 => ?_); simp [Then1, Guarded, dopS, dop, eval, ofVal, upd, dfieldAddr, dload, dpart, TyI.agg, ty83, ty229, ty9, ty80, ty49, ty3, ty81, ty22, dcallee, dbuiltin, lenOk, dlen, goInt, dbin, intCmp, Enc.pies, Enc.ints, Enc.slice, dbuildRows, DV.cells, growLimit, g1, k1, g2, k2, g3, k3, g4, k4, k5, k6, k7]; refine hK1 _ _ ?_; clear hK1 K1)
    | (refine Then.stepG rfl rfl rfl (fun K1 hK1 => ?_); simp [Then1, Guarded, dopS, dop, eval, ofVal, upd, dfieldAddr, dload, dpart, TyI.agg, ty83, ty229, ty9, ty80, ty49, ty3, ty81, ty22, dcallee, dbuiltin, lenOk, dlen, goInt, dbin, intCmp, Enc.pies, Enc.ints, Enc.slice, dbuildRows, DV.cells, growLimit, g1, k1, g2, k2, g3, k3, g4, k4, k5, k6, k7]; refine hK1 _ _ ?_; clear hK1 K1)
    | (refine Then.stepN rfl rfl (fun K1 hK1 => ?_); simp [Then1, Guarded, dopS, dop, eval, ofVal, upd, dfieldAddr, dload, dpart, TyI.agg, ty83, ty229, ty9, ty80, ty49, ty3, ty81, ty22, dcallee, dbuiltin, lenOk, dlen, goInt, dbin, intCmp, Enc.pies, Enc.ints, Enc.slice, dbuildRows, DV.cells, growLimit, g1, k1, g2, k2, g3, k3, g4, k4, k5, k6, k7]; refine hK1 _ _ ?_; clear hK1 K1)
    | (refine Then.stepGN rfl rfl rfl (fun K1 hK1 => ?_); simp [Then1, Guarded, dopS, dop, eval, ofVal, upd, dfieldAddr, dload, dpart, TyI.agg, ty83, ty229, ty9, ty80, ty49, ty3, ty81, ty22, dcallee, dbuiltin, lenOk, dlen, goInt, dbin, intCmp, Enc.pies, Enc.ints, Enc.slice, dbuildRows, DV.cells, growLimit, g1, k1, g2, k2, g3, k3, g4, k4, k5, k6, k7]; refine hK1 _ _ ?_; clear hK1 K1))
  by_cases k8 : o.strict = []
  case neg =>
    have m1 : 0 < o.strict.length := by cases h : o.strict with | nil => exact absurd h k8 | cons _ _ => simp
    repeat (first
      | (refine Then.stepD rfl rfl (fun K1 hK1 => ?_); simp [Then1, Guarded, dopS, dop, eval, ofVal, upd, dfieldAddr, dload, dpart, TyI.agg, ty83, ty229, ty9, ty80, ty49, ty3, ty81, ty22, dcallee, dbuiltin, lenOk, dlen, goInt, dbin, intCmp, Enc.pies, Enc.ints, Enc.slice, dbuildRows, DV.cells, growLimit, g1, k1, g2, k2, g3, k3, g4, k4, k5, k6, k7, k8, m1]; refine hK1 _ _ ?_; clear hK1 K1)
      | (refine Then.stepG rfl rfl rfl (fun K1 hK1 => ?_); simp [Then1, Guarded, dopS, dop, eval, ofVal, upd, dfieldAddr, dload, dpart, TyI.agg, ty83, ty229, ty9, ty80, ty49, ty3, ty81, ty22, dcallee, dbuiltin, lenOk, dlen, goInt, dbin, intCmp, Enc.pies, Enc.ints, Enc.slice, dbuildRows, DV.cells, growLimit, g1, k1, g2, k2, g3, k3, g4, k4, k5, k6, k7, k8, m1]; refine hK1 _ _ ?_; clear hK1 K1)
      | (refine Then.stepN rfl rfl (fun K1 hK1 => ?_); simp [Then1, Guarded, dopS, dop, eval, ofVal, upd, dfieldAddr, dload, dpart, TyI.agg, ty83, ty229, ty9, ty80, ty49, ty3, ty81, ty22, dcallee, dbuiltin, lenOk, dlen, goInt, dbin, intCmp, Enc.pies, Enc.ints, Enc.slice, dbuildRows, DV.cells, growLimit, g1, k1, g2, k2, g3, k3, g4, k4, k5, k6, k7, k8, m1]; refine hK1 _ _ ?_; clear hK1 K1)
      | (refine Then.stepGN rfl rfl rfl (fun K1 hK1 => ?_); simp [Then1, Guarded, dopS, dop, eval, ofVal, upd, dfieldAddr, dload, dpart, TyI.agg, ty83, ty229, ty9, ty80, ty49, ty3, ty81, ty22, dcallee, dbuiltin, lenOk, dlen, goInt, dbin, intCmp, Enc.pies, Enc.ints, Enc.slice, dbuildRows, DV.cells, growLimit, g1, k1, g2, k2, g3, k3, g4, k4, k5, k6, k7, k8, m1]; refine hK1 _ _ ?_; clear hK1 K1))
    refine Then.done (hK _ _ (Dwp.ret ?_) rfl)
    simp [Done, dresults, dres, frz, frz1, frz2, Enc.bool, Ex.then, upd, badFun, k1, k2, k3, k4, k5, k6, k7, k8, m1]
  repeat (first
    | (refine Then.stepD rfl rfl (fun K1 hK1 => ?_); simp [Then1, Guarded, dopS, dop, eval, ofVal, upd, dfieldAddr, dload, dpart, TyI.agg, ty83, ty229, ty9, ty80, ty49, ty3, ty81, ty22, dcallee, dbuiltin, lenOk, dlen, goInt, dbin, intCmp, Enc.pies, Enc.ints, Enc.slice, dbuildRows, DV.cells, growLimit, g1, k1, g2, k2, g3, k3, g4, k4, k5, k6, k7, k8]; refine hK1 _ _ ?_; clear hK1 K1)
    | (refine Then.stepG rfl rfl rfl (fun K1 hK1 => ?_); simp [Then1, Guarded, dopS, dop, eval, ofVal, upd, dfieldAddr, dload, dpart, TyI.agg, ty83, ty229, ty9, ty80, ty49, ty3, ty81, ty22, dcallee, dbuiltin, lenOk, dlen, goInt, dbin, intCmp, Enc.pies, Enc.ints, Enc.slice, dbuildRows, DV.cells, growLimit, g1, k1, g2, k2, g3, k3, g4, k4, k5, k6, k7, k8]; refine hK1 _ _ ?_; clear hK1 K1)
    | (refine Then.stepN rfl rfl (fun K1 hK1 => ?_); simp [Then1, Guarded, dopS, dop, eval, ofVal, upd, dfieldAddr, dload, dpart, TyI.agg, ty83, ty229, ty9, ty80, ty49, ty3, ty81, ty22, dcallee, dbuiltin, lenOk, dlen, goInt, dbin, intCmp, Enc.pies, Enc.ints, Enc.slice, dbuildRows, DV.cells, growLimit, g1, k1, g2, k2, g3, k3, g4, k4, k5, k6, k7, k8]; refine hK1 _ _ ?_; clear hK1 K1)
    | (refine Then.stepGN rfl rfl rfl (fun K1 hK1 => ?_); simp [Then1, Guarded, dopS, dop, eval, ofVal, upd, dfieldAddr, dload, dpart, TyI.agg, ty83, ty229, ty9, ty80, ty49, ty3, ty81, ty22, dcallee, dbuiltin, lenOk, dlen, goInt, dbin, intCmp, Enc.pies, Enc.ints, Enc.slice, dbuildRows, DV.cells, growLimit, g1, k1, g2, k2, g3, k3, g4, k4, k5, k6, k7, k8]; refine hK1 _ _ ?_; clear hK1 K1))
  refine Then.done (hK _ _ (Dwp.ret ?_) rfl)
  simp [Done, dresults, dres, frz, frz1, frz2, Enc.bool, Ex.then, upd, badFun, k1, k2, k3, k4, k5, k6, k7, k8]
theorem e331 : Go.FA.Good Tryz.prog (331, s331) := ⟨c331, Tryz.f331, _, Tryz.func331, rfl, by decide⟩
end Go.Proofs.Yt
namespace Go.Proofs.Yt
open Go Go.FA Go.Proofs
set_option linter.unusedVariables false
set_option linter.unusedSimpArgs false
set_option maxRecDepth 100000

theorem dcall1 {α β : Type} {A : Enc α} {B : Enc β} {g : α → Option β} {T : Tab} {f : FuncId} {x : α} {z : β} (hT : T f = some (sp (arg1 A) B g)) (hg : g x = some z) : dcall T f [A.enc x] = some (B.enc z) := by
  simp [dcall, hT, sp, arg1, EncR.one, A.de, hg]
theorem dcall2 {α β γ : Type} {A : Enc α} {B : Enc β} {C : Enc γ} {g : α × β → Option γ} {T : Tab} {f : FuncId} {x : α} {y : β} {z : γ} (hT : T f = some (sp (arg2 A B) C g)) (hg : g (x, y) = some z) : dcall T f [A.enc x, B.enc y] = some (C.enc z) := by
  simp [dcall, hT, sp, arg2, EncR.and, EncR.one, A.de, B.de, hg]
theorem dcall3 {α β γ δ : Type} {A : Enc α} {B : Enc β} {C : Enc γ} {D : Enc δ} {g : α × β × γ → Option δ} {T : Tab} {f : FuncId} {x : α} {y : β} {u : γ} {z : δ} (hT : T f = some (sp (arg3 A B C) D g)) (hg : g (x, y, u) = some z) : dcall T f [A.enc x, B.enc y, C.enc u] = some (D.enc z) := by
  simp [dcall, hT, sp, arg3, EncR.and, EncR.one, A.de, B.de, C.de, hg]

/-- slices.IndexFunc -/
def idxF {α : Type} (q : α → Bool) : List α → Nat → Int
  | [], _ => -1
  | x :: l, i => if q x then i else idxF q l (i + 1)
theorem idxF_drop {α : Type} (q : α → Bool) (l : List α) (i : Nat) (h : i < l.length) : idxF q (l.drop i) i = if q l[i] then (i : Int) else idxF q (l.drop (i + 1)) (i + 1) := by
  rw [List.drop_eq_getElem_cons h]; rfl
theorem idxF_any {α : Type} (q : α → Bool) : ∀ (l : List α) (i : Nat), decide (0 ≤ idxF q l i) = l.any q
  | [], i => by simp [idxF]
  | x :: l, i => by
    simp only [idxF, List.any_cons]
    by_cases h : q x
    · simp [h]
    · simp [h, idxF_any q l (i + 1)]

/-- the methods badOp (false) and badFun (true) of a book -/
def Enc.pred : Enc (Bool × Book) where
  enc p := .func (.func (if p.1 then 331 else 330)) [Enc.book.enc p.2] []
  dec d := match d with
    | .func (.func f) [x] [] => match Enc.book.dec x with
      | some b => if f = 331 then some (true, b) else if f = 330 then some (false, b) else none
      | none => none
    | _ => none
  le d x h := by
    intro C w v hv
    split at h
    · split at h
      · next b hb =>
        simp only [VRel] at hv ⊢
        obtain ⟨f', c', h1, h2, h3⟩ := hv
        split at h
        · next e => simp at h; subst h; subst e; exact ⟨f', c', h1, LRel_le (.cons (Enc.book.le _ _ hb) .nil) h2, h3⟩
        · split at h
          · next e => simp at h; subst h; subst e; exact ⟨f', c', h1, LRel_le (.cons (Enc.book.le _ _ hb) .nil) h2, h3⟩
          · simp at h
      · simp at h
    · simp at h
  pure p := by simp [pureB, pureL, Enc.book.pure]
  de p := by
    obtain ⟨b, k⟩ := p
    cases b <;> simp [Enc.book.de]
def predB (p : Bool × Book) (o : OpD) : Bool := if p.1 then badFun p.2 o else badOp p.2 o
def s343 : Sp := sp (arg2 Enc.ops Enc.pred) Enc.i64 (fun x => if x.1.length ≤ lim ∧ (∀ o ∈ x.1, o.small) then some (idxF (predB x.2) x.1 0) else none)
def inv343 (l : List OpD) (p : Bool × Book) : Nat → (Nat → DV) → St → Prop := fun k a σ => ∃ i, i ≤ l.length ∧ k = l.length - i ∧ idxF (predB p) l 0 = idxF (predB p) (l.drop i) i ∧
  a 0 = .slice 7 .none (l.map EncR.opd.enc) ∧ a 1 = Enc.pred.enc p ∧ a 7 = .lit (.int .i64 l.length) ∧ a 8 = .lit (.int .i64 i)
abbrev T131 : Tab := tabOf [(330, s330), (331, s331)]
theorem callPred (p : Bool × Book) (o : OpD) (ho : o.small) : dcall T131 (if p.1 then 331 else 330) [Enc.book.enc p.2, .agg (EncR.opd.enc o)] = some (.lit (.bool (predB p o))) := by
  obtain ⟨b, k⟩ := p
  cases b <;> simp [dcall, tabOf, s330, s331, sp, arg2, EncR.and, EncR.one, Enc.opd, Enc.agg, EncR.opd.de, Enc.book.de, Enc.bool, predB, ho]
theorem c343 : CallSound Tryz.prog 343 s343 := by
  have t131 : TabOk Tryz.prog T131 := .cons e330 (.cons e331 .nil)
  refine CallSound.of_sp (T := T131) Tryz.func343 rfl (Nat.le_of_ble_eq_true rfl) fun E x y hy => ?_
  obtain ⟨l, p⟩ := x
  by_cases hlim : l.length ≤ lim ∧ (∀ o ∈ l, o.small)
  case neg => simp only [hlim, if_false] at hy; cases hy
  rw [if_pos ⟨hlim.1, hlim.2⟩] at hy
  cases hy
  obtain ⟨hlim, hsm⟩ := hlim
  unfold lim at hlim
  refine Dwp.step t131 rfl fun K hK => ?_
  simp [drunL, drunO, dwanted, dopS, own, plainOf, dop, dput, eval, ofVal, Then, Ex.then, Ex.inBlock, upd, dbin, Tag.isNN, nilTest, intCmp, dload, dpart, TyI.agg, dfieldAddr, dfield, dindexAddr, dindex, dlen, lenOk, dlookup, mapOf, assocM, keyFits, dmapUpdate, dcallee, dcall, tabOf, dbuiltin, dstore, DV.cells, setAt, dslice, dboundOk, dappend, appTag, rowsOf, elemOk, growLimit, dbuildCells, dbuildCells.go, structOk, fieldsOk, dbuildRows, goInt]
  refine hK _ _ ?_ rfl; clear hK K
  refine Dwp.seq ?_
  refine Dwp.step t131 rfl fun K hK => ?_
  simp [drunL, drunO, dwanted, dopS, own, plainOf, dop, dput, eval, ofVal, Then, Ex.then, Ex.inBlock, upd, dbin, Tag.isNN, nilTest, intCmp, dload, dpart, TyI.agg, dfieldAddr, dfield, dindexAddr, dindex, dlen, lenOk, dlookup, mapOf, assocM, keyFits, dmapUpdate, dcallee, dcall, tabOf, dbuiltin, dstore, DV.cells, setAt, dslice, dboundOk, dappend, appTag, rowsOf, elemOk, growLimit, dbuildCells, dbuildCells.go, structOk, fieldsOk, dbuildRows, goInt, init, arg2, EncR.and, EncR.one, Enc.ops, Enc.slice, ty24]
  refine hK _ _ ?_ rfl; clear hK K
  refine Dwp.block (Dwp.loop (inv343 l p) l.length ⟨0, by simp, by simp, by simp, by simp [upd, init, Enc.ops, Enc.slice], by simp [upd, init], by simp [upd], by simp [upd]⟩ ?_)
  rintro k a σ ⟨i, hi, rfl, hidx, h0, h1, h7, h8⟩
  refine Dwp.step t131 rfl fun K hK => ?_
  simp [drunL, drunO, dwanted, dopS, own, plainOf, dop, dput, eval, ofVal, Then, Ex.then, Ex.inBlock, upd, dbin, Tag.isNN, nilTest, intCmp, dload, dpart, TyI.agg, dfieldAddr, dfield, dindexAddr, dindex, dlen, lenOk, dlookup, mapOf, assocM, keyFits, dmapUpdate, dcallee, dcall, tabOf, dbuiltin, dstore, DV.cells, setAt, dslice, dboundOk, dappend, appTag, rowsOf, elemOk, growLimit, dbuildCells, dbuildCells.go, structOk, fieldsOk, dbuildRows, goInt, h7, h8]
  refine hK _ _ ?_ rfl; clear hK K
  by_cases hlt : i < l.length
  · refine Dwp.seq (Dwp.condT (by simp [eval, upd, hlt]) (Dwp.skip ?_))
    refine Dwp.seq (Dwp.block ?_)
    refine Dwp.step t131 rfl fun K hK => ?_
    simp [drunL, drunO, dwanted, dopS, own, plainOf, dop, dput, eval, ofVal, Then, Ex.then, Ex.inBlock, upd, dbin, Tag.isNN, nilTest, intCmp, dload, dpart, TyI.agg, dfieldAddr, dfield, dindexAddr, dindex, dlen, lenOk, dlookup, mapOf, assocM, keyFits, dmapUpdate, dcallee, dcall, tabOf, dbuiltin, dstore, DV.cells, setAt, dslice, dboundOk, dappend, appTag, rowsOf, elemOk, growLimit, dbuildCells, dbuildCells.go, structOk, fieldsOk, dbuildRows, goInt, h8]
    refine hK _ _ ?_ rfl; clear hK K
    refine Dwp.step t131 rfl fun K hK => ?_
    have g := callPred p l[i] (hsm _ (List.getElem_mem hlt))
    simp [drunL, dwanted, dopS, own, dop, dput, eval, ofVal, Then, upd, h0, h1, ty24, ty83, dindexAddr, dload, dpart, TyI.agg, hlt, dcallee, Enc.pred, g]
    refine hK _ _ ?_ rfl; clear hK K
    have hd := idxF_drop (predB p) l i hlt
    cases hp : predB p l[i] with
    | true =>
      rw [hp] at hd
      refine Dwp.condT (by simp [eval, upd, hp]) ?_
      refine Dwp.step t131 rfl fun K hK => ?_
      simp [drunL, drunO, dwanted, dopS, own, plainOf, dop, dput, eval, ofVal, Then, Ex.then, Ex.inBlock, upd, dbin, Tag.isNN, nilTest, intCmp, dload, dpart, TyI.agg, dfieldAddr, dfield, dindexAddr, dindex, dlen, lenOk, dlookup, mapOf, assocM, keyFits, dmapUpdate, dcallee, dcall, tabOf, dbuiltin, dstore, DV.cells, setAt, dslice, dboundOk, dappend, appTag, rowsOf, elemOk, growLimit, dbuildCells, dbuildCells.go, structOk, fieldsOk, dbuildRows, goInt]
      refine hK _ _ (Dwp.ret ?_) rfl
      have : idxF (predB p) l 0 = i := by rw [hidx, hd]; rfl
      simp [Done, dresults, dres, frz, frz1, frz2, Enc.i64, Enc.int, Ex.then, Ex.inBlock, upd, this]
    | false =>
      rw [hp] at hd
      refine Dwp.condF (by simp [eval, upd, hp]) (Dwp.skip ?_)
      refine Dwp.reg t131 rfl fun K hK => ?_
      simp [drunL, drunO, dwanted, dopS, own, plainOf, dop, dput, eval, ofVal, Then, Ex.then, Ex.inBlock, upd, dbin, Tag.isNN, nilTest, intCmp, dload, dpart, TyI.agg, dfieldAddr, dfield, dindexAddr, dindex, dlen, lenOk, dlookup, mapOf, assocM, keyFits, dmapUpdate, dcallee, dcall, tabOf, dbuiltin, dstore, DV.cells, setAt, dslice, dboundOk, dappend, appTag, rowsOf, elemOk, growLimit, dbuildCells, dbuildCells.go, structOk, fieldsOk, dbuildRows, goInt, h8]
      refine hK _ _ ?_ rfl; clear hK K
      exact ⟨l.length - (i + 1), by omega, i + 1, by omega, rfl, by rw [hidx, hd]; rfl, by simp [upd, h0], by simp [upd, h1], by simp [upd, h7], by simp [upd, wrap_small (n := (i : Int) + 1) (by omega) (by omega)]⟩
  · refine Dwp.seq (Dwp.condF (by simp [eval, upd, hlt]) (Dwp.exit ?_))
    refine Dwp.step t131 rfl fun K hK => ?_
    simp [drunL, drunO, dwanted, dopS, own, plainOf, dop, dput, eval, ofVal, Then, Ex.then, Ex.inBlock, upd, dbin, Tag.isNN, nilTest, intCmp, dload, dpart, TyI.agg, dfieldAddr, dfield, dindexAddr, dindex, dlen, lenOk, dlookup, mapOf, assocM, keyFits, dmapUpdate, dcallee, dcall, tabOf, dbuiltin, dstore, DV.cells, setAt, dslice, dboundOk, dappend, appTag, rowsOf, elemOk, growLimit, dbuildCells, dbuildCells.go, structOk, fieldsOk, dbuildRows, goInt]
    refine hK _ _ (Dwp.ret ?_) rfl
    have : idxF (predB p) l 0 = -1 := by rw [hidx, List.drop_eq_nil_of_le (by omega)]; rfl
    simp [Done, dresults, dres, frz, frz1, frz2, Enc.i64, Enc.int, upd, this]

def s329 : Sp := sp (arg2 Enc.ops Enc.pred) Enc.bool (fun x => if x.1.length ≤ lim ∧ (∀ o ∈ x.1, o.small) then some (x.1.any (predB x.2)) else none)
theorem c329 : CallSound Tryz.prog 329 s329 := by
  have e131 : Go.FA.Good Tryz.prog (343, s343) := ⟨c343, Tryz.f343, _, Tryz.func343, rfl, by decide⟩
  have t115 : TabOk Tryz.prog (tabOf [(343, s343)]) := .cons e131 .nil
  refine CallSound.of_sp (T := tabOf [(343, s343)]) Tryz.func329 rfl (Nat.le_of_ble_eq_true rfl) fun E x y hy => ?_
  obtain ⟨l, p⟩ := x
  by_cases hlim : l.length ≤ lim ∧ (∀ o ∈ l, o.small)
  case neg => simp only [hlim, if_false] at hy; cases hy
  rw [if_pos ⟨hlim.1, hlim.2⟩] at hy
  cases hy
  have g : dcall (tabOf [(343, s343)]) 343 [Enc.ops.enc l, Enc.pred.enc p] = some (.lit (.int .i64 (idxF (predB p) l 0))) :=
    dcall2 (B := Enc.pred) (C := Enc.i64) (x := l) (y := p) (z := idxF (predB p) l 0) rfl (if_pos ⟨hlim.1, hlim.2⟩)
  refine Dwp.step t115 rfl fun K hK => ?_
  simp [drunL, drunO, dwanted, dopS, own, plainOf, dop, dput, eval, ofVal, Then, Ex.then, Ex.inBlock, upd, dbin, Tag.isNN, nilTest, intCmp, dload, dpart, TyI.agg, dfieldAddr, dfield, dindexAddr, dindex, dlen, lenOk, dlookup, mapOf, assocM, keyFits, dmapUpdate, dcallee, dcall, tabOf, dbuiltin, dstore, DV.cells, setAt, dslice, dboundOk, dappend, appTag, rowsOf, elemOk, growLimit, dbuildCells, dbuildCells.go, structOk, fieldsOk, dbuildRows, goInt]
  refine hK _ _ ?_ rfl; clear hK K
  refine Dwp.step t115 rfl fun K hK => ?_
  simp [drunL, dwanted, dopS, own, dop, dput, eval, ofVal, Then, upd, init, arg2, EncR.and, EncR.one, dcallee, g, dbin, intCmp]
  refine hK _ _ (Dwp.ret ?_) rfl
  have := idxF_any (predB p) l 0
  simp [Done, dresults, dres, frz, frz1, frz2, Enc.bool, upd, this]
theorem e329 : Go.FA.Good Tryz.prog (329, s329) := ⟨c329, Tryz.f329, _, Tryz.func329, rfl, by decide⟩
end Go.Proofs.Yt
namespace Go.Proofs.Yt
open Go Go.FA Go.Proofs
set_option linter.unusedVariables false
set_option linter.unusedSimpArgs false
set_option maxRecDepth 100000

def Enc.tru : Enc Unit where
  enc _ := .lit (.bool true)
  dec d := match d with | .lit (.bool true) => some () | _ => none
  le d x h := by split at h <;> simp_all [DLe.refl]
  pure _ := rfl
  de _ := rfl
/-- a set of strings: a map whose values are true -/
def Enc.set : Enc (List ByteArray) where
  enc l := .fmap (l.map .string) (l.map fun _ => .lit (.bool true))
  dec d := ((Enc.map Enc.tru).dec d).map (·.map (·.1))
  le d x h := by
    obtain ⟨l, h1, rfl⟩ := Option.map_eq_some_iff.1 h
    have h2 := (Enc.map Enc.tru).le _ _ h1
    have h3 : (Enc.map Enc.tru).enc l = .fmap ((l.map (·.1)).map .string) ((l.map (·.1)).map fun _ => .lit (.bool true)) := by
      simp only [Enc.map, List.map_map]; rfl
    rw [h3] at h2; exact h2
  pure l := by
    simp only [pureB]
    induction l with
    | nil => rfl
    | cons x l ih => simp [pureL, pureB, ih]
  de l := by
    have h := (Enc.map Enc.tru).de (l.map fun s => (s, ()))
    have h3 : (Enc.map Enc.tru).enc (l.map fun s => (s, ())) = .fmap (l.map .string) (l.map fun _ => .lit (.bool true)) := by
      simp only [Enc.map, List.map_map]; rfl
    rw [h3] at h
    rw [h]; simp [List.map_map, Function.comp_def]
theorem set_enc_dec (l : List ByteArray) : Enc.set.dec (.fmap (l.map .string) (l.map fun _ => .lit (.bool true))) = some l := Enc.set.de l
theorem keyStr (x y : ByteArray) : eqKey (.string x) (.string y) = some (decide (x = y)) := rfl

def Book.highsOf (b : Book) (s : ByteArray) : List ByteArray := (mget s b.highs).getD []
def overF (b : Book) : Nat → List ByteArray → List ByteArray → Option (List ByteArray)
  | 0, _, _ => none
  | _ + 1, [], seen => some seen
  | n + 1, x :: rest, seen => if x ∈ seen then overF b n rest seen else if rest.length + (b.highsOf x).length ≤ 16777216 then overF b n (rest ++ b.highsOf x) (seen ++ [x]) else none
def Book.over (b : Book) (s : ByteArray) : Option (List ByteArray) := if (b.highsOf s).length ≤ 1048576 then overF b 1000000 (b.highsOf s) [] else none
def s332 : Sp := sp (arg2 Enc.book Enc.str) Enc.set (fun x => x.1.over x.2)
@[simp] theorem book0 (b : Book) : (EncR.book.enc b)[0]? = some (.fmap (b.highs.map fun p => .string p.1) (b.highs.map fun p => Enc.strs.enc p.2)) := rfl

@[simp] theorem take_len_map {α β : Type} (l : List α) (f : α → β) : (l.map f).take l.length = l.map f := by rw [List.take_of_length_le (by simp)]
theorem rowsOf_strs (l : List ByteArray) : rowsOf 1 (Enc.strs.enc l) = some (l.map fun s => [DV.lit (.string s)]) := rfl
def inv332 (b : Book) (res : List ByteArray) : Nat → (Nat → DV) → St → Prop := fun k a σ => ∃ (todo seen : List ByteArray) (tk g : Nat), overF b k todo seen = some res ∧
  a 2 = .row (EncR.book.enc b) 0 ∧ a 5 = .map 2 ∧ σ.objs 2 = some (.map (seen.map .string) (seen.map fun _ => .lit (.bool true))) ∧
  a 6 = .slice 1 (.tok tk g) (todo.map fun s => [DV.lit (.string s)]) ∧ σ.toks tk = some g
theorem t94 : TabOk Tryz.prog (tabOf [(349, s120o)]) := .cons e120o .nil
theorem call120o (T : Tab) (hT : T 349 = some s120o) (d : DV) (l : List ByteArray) (hd : Enc.strs.dec d = some l) (hl : l.length ≤ 1048576) : dcall T 349 [d] = some (.slice 1 (.tok 0 0) (l.map fun s => [DV.lit (.string s)])) := by
  simp [dcall, hT, s120o, spOwn, arg1, EncR.one, hd, hl, Enc.str]
def Code.tl : Code → Code
  | .seq _ y => y
  | c => c
theorem tail94 (b : Book) (res : List ByteArray) (E : Entry) (n : Nat) (a : Nat → DV) (σ : St) (h0 : inv332 b res n a σ) :
    ∀ c, Tryz.f332.body.map (fun c => Code.tl (Code.tl (Code.tl c))) = some c → Dwp Tryz.prog (tabOf [(349, s120o)]) E Tryz.f332.ntmps c (Done Tryz.prog Tryz.f332.results Enc.set res) a σ := by
  intro c hc
  cases hc
  refine Dwp.seq ?_
  refine Dwp.block (Dwp.loop (inv332 b res) n h0 ?_)
  rintro k a σ ⟨todo, seen, tk, g, hov, h2, h5, hobj, h6, htk⟩
  refine Dwp.seq ?_
  refine Dwp.step t94 rfl fun K hK => ?_
  cases k with
  | zero => simp [overF] at hov
  | succ k =>
  cases todo with
  | nil =>
    simp [drunL, drunO, dwanted, dopS, own, plainOf, dop, dput, eval, ofVal, Then, Ex.then, Ex.inBlock, upd, dbin, Tag.isNN, nilTest, intCmp, dload, dpart, TyI.agg, dfieldAddr, dfield, dindexAddr, dindex, dlen, lenOk, dlookup, mapOf, assocM, keyFits, dmapUpdate, dcallee, dcall, tabOf, dbuiltin, dstore, DV.cells, setAt, dslice, dboundOk, dappend, appTag, rowsOf, elemOk, growLimit, dbuildCells, dbuildCells.go, structOk, fieldsOk, dbuildRows, goInt, h6, ty22]
    refine hK _ _ ?_ rfl; clear hK K
    refine Dwp.condF (by simp [eval, upd]) (Dwp.exit ?_)
    simp [overF] at hov; subst hov
    refine Dwp.step t94 rfl fun K hK => ?_
    simp [drunL, drunO, dwanted, dopS, own, plainOf, dop, dput, eval, ofVal, Then, Ex.then, Ex.inBlock, upd, dbin, Tag.isNN, nilTest, intCmp, dload, dpart, TyI.agg, dfieldAddr, dfield, dindexAddr, dindex, dlen, lenOk, dlookup, mapOf, assocM, keyFits, dmapUpdate, dcallee, dcall, tabOf, dbuiltin, dstore, DV.cells, setAt, dslice, dboundOk, dappend, appTag, rowsOf, elemOk, growLimit, dbuildCells, dbuildCells.go, structOk, fieldsOk, dbuildRows, goInt, h5]
    refine hK _ _ (Dwp.ret ?_) rfl
    have := set_enc_dec seen
    simp [Done, dresults, dres, frz, frz1, frz2, upd, hobj]
    exact this
  | cons x rest =>
    have hpos : (0 : Int) < (rest.length : Int) + 1 := by omega
    simp [drunL, drunO, dwanted, dopS, own, plainOf, dop, dput, eval, ofVal, Then, Ex.then, Ex.inBlock, upd, dbin, Tag.isNN, nilTest, intCmp, dload, dpart, TyI.agg, dfieldAddr, dfield, dindexAddr, dindex, dlen, lenOk, dlookup, mapOf, assocM, keyFits, dmapUpdate, dcallee, dcall, tabOf, dbuiltin, dstore, DV.cells, setAt, dslice, dboundOk, dappend, appTag, rowsOf, elemOk, growLimit, dbuildCells, dbuildCells.go, structOk, fieldsOk, dbuildRows, goInt, h6, ty22, hpos]
    refine hK _ _ ?_ rfl; clear hK K
    refine Dwp.condT (by simp [eval, upd]) (Dwp.skip ?_)
    refine Dwp.block ?_
    refine Dwp.step t94 rfl fun K hK => ?_
    simp [drunL, drunO, dwanted, dopS, own, plainOf, dop, dput, eval, ofVal, Then, Ex.then, Ex.inBlock, upd, dbin, Tag.isNN, nilTest, intCmp, dload, dpart, TyI.agg, dfieldAddr, dfield, dindexAddr, dindex, dlen, lenOk, dlookup, mapOf, assocM, keyFits, dmapUpdate, dcallee, dcall, tabOf, dbuiltin, dstore, DV.cells, setAt, dslice, dboundOk, dappend, appTag, rowsOf, elemOk, growLimit, dbuildCells, dbuildCells.go, structOk, fieldsOk, dbuildRows, goInt, h6, ty22, ty9]
    refine hK _ _ ?_ rfl; clear hK K
    refine Dwp.step t94 rfl fun K hK => ?_
    have h1le : (1 : Int) ≤ (rest.length : Int) + 1 := by omega
    simp [drunL, drunO, dwanted, dopS, own, plainOf, dop, dput, eval, ofVal, Then, Ex.then, Ex.inBlock, upd, dbin, Tag.isNN, nilTest, intCmp, dload, dpart, TyI.agg, dfieldAddr, dfield, dindexAddr, dindex, dlen, lenOk, dlookup, mapOf, assocM, keyFits, dmapUpdate, dcallee, dcall, tabOf, dbuiltin, dstore, DV.cells, setAt, dslice, dboundOk, dappend, appTag, rowsOf, elemOk, growLimit, dbuildCells, dbuildCells.go, structOk, fieldsOk, dbuildRows, goInt, h6, ty22, ty9, h1le]
    refine hK _ _ ?_ rfl; clear hK K
    simp only [overF] at hov
    have hA := assoc_keys _ keyStr x seen
    refine Dwp.step t94 rfl fun K hK => ?_
    by_cases hx : x ∈ seen
    · rw [if_pos hx] at hov
      simp [drunL, drunO, dwanted, dopS, own, plainOf, dop, dput, eval, ofVal, Then, Ex.then, Ex.inBlock, upd, dbin, Tag.isNN, nilTest, intCmp, dload, dpart, TyI.agg, dfieldAddr, dfield, dindexAddr, dindex, dlen, lenOk, dlookup, mapOf, assocM, keyFits, dmapUpdate, dcallee, dcall, tabOf, dbuiltin, dstore, DV.cells, setAt, dslice, dboundOk, dappend, appTag, rowsOf, elemOk, growLimit, dbuildCells, dbuildCells.go, structOk, fieldsOk, dbuildRows, goInt, h5, hobj, ty267, ty9, ty4, hA, hx]
      refine hK _ _ ?_ rfl; clear hK K
      refine Dwp.condF (by simp [eval, upd]) (Dwp.skip ?_)
      exact ⟨k, Nat.lt_succ_self _, rest, seen, tk, g, hov, by simp [upd, h2], by simp [upd, h5], by simp [upd, hobj], by simp [upd], by simp [upd, htk]⟩
    · rw [if_neg hx] at hov
      split at hov
      case isFalse => cases hov
      next hroom =>
      simp [drunL, drunO, dwanted, dopS, own, plainOf, dop, dput, eval, ofVal, Then, Ex.then, Ex.inBlock, upd, dbin, Tag.isNN, nilTest, intCmp, dload, dpart, TyI.agg, dfieldAddr, dfield, dindexAddr, dindex, dlen, lenOk, dlookup, mapOf, assocM, keyFits, dmapUpdate, dcallee, dcall, tabOf, dbuiltin, dstore, DV.cells, setAt, dslice, dboundOk, dappend, appTag, rowsOf, elemOk, growLimit, dbuildCells, dbuildCells.go, structOk, fieldsOk, dbuildRows, goInt, h5, hobj, ty267, ty9, ty4, hA, hx]
      refine hK _ _ ?_ rfl; clear hK K
      refine Dwp.condT (by simp [eval, upd]) ?_
      have hP := putKey_keys _ keyStr x (.lit (.bool true)) seen (seen.map fun _ => .lit (.bool true)) hx (by simp)
      refine Dwp.step t94 rfl fun K hK => ?_
      simp [drunL, drunO, dwanted, dopS, own, plainOf, dop, dput, eval, ofVal, Then, Ex.then, Ex.inBlock, upd, dbin, Tag.isNN, nilTest, intCmp, dload, dpart, TyI.agg, dfieldAddr, dfield, dindexAddr, dindex, dlen, lenOk, dlookup, mapOf, assocM, keyFits, dmapUpdate, dcallee, dcall, tabOf, dbuiltin, dstore, DV.cells, setAt, dslice, dboundOk, dappend, appTag, rowsOf, elemOk, growLimit, dbuildCells, dbuildCells.go, structOk, fieldsOk, dbuildRows, goInt, h5, hobj, ty267, ty9, hP]
      refine hK _ _ ?_ rfl; clear hK K
      have hass := assoc_enc Enc.strs x b.highs
      refine Dwp.reg t94 rfl fun K hK => ?_
      unfold Book.highsOf at hroom hov
      cases hm : mget x b.highs with
      | none =>
        rw [hm] at hass hroom hov
        simp at hroom
        simp [drunL, drunO, dwanted, dopS, own, plainOf, dop, dput, eval, ofVal, Then, Ex.then, Ex.inBlock, upd, dbin, Tag.isNN, nilTest, intCmp, dload, dpart, TyI.agg, dfieldAddr, dfield, dindexAddr, dindex, dlen, lenOk, dlookup, mapOf, assocM, keyFits, dmapUpdate, dcallee, dcall, tabOf, dbuiltin, dstore, DV.cells, setAt, dslice, dboundOk, dappend, appTag, rowsOf, elemOk, growLimit, dbuildCells, dbuildCells.go, structOk, fieldsOk, dbuildRows, goInt, h2, htk, ty229, ty155, ty9, ty22, hass, hroom]
        refine hK _ _ ?_ rfl; clear hK K
        refine ⟨k, Nat.lt_succ_self _, rest, seen ++ [x], tk, g + 1, by simpa using hov, by simp [upd, h2], by simp [upd, h5], by simp [upd], by simp [upd], by simp [upd]⟩
      | some l =>
        rw [hm] at hass hroom hov
        simp at hroom
        simp [Enc.strs, Enc.slice, EncR.one, Enc.str] at hass
        simp [drunL, drunO, dwanted, dopS, own, plainOf, dop, dput, eval, ofVal, Then, Ex.then, Ex.inBlock, upd, dbin, Tag.isNN, nilTest, intCmp, dload, dpart, TyI.agg, dfieldAddr, dfield, dindexAddr, dindex, dlen, lenOk, dlookup, mapOf, assocM, keyFits, dmapUpdate, dcallee, dcall, tabOf, dbuiltin, dstore, DV.cells, setAt, dslice, dboundOk, dappend, appTag, rowsOf, elemOk, growLimit, dbuildCells, dbuildCells.go, structOk, fieldsOk, dbuildRows, goInt, h2, htk, ty229, ty155, ty9, ty22, Enc.strs, Enc.slice, EncR.one, Enc.str, hass, hroom]
        refine hK _ _ ?_ rfl; clear hK K
        refine ⟨k, Nat.lt_succ_self _, rest ++ l, seen ++ [x], tk, g + 1, by simpa using hov, by simp [upd, h2], by simp [upd, h5], by simp [upd], by simp [upd], by simp [upd]⟩
theorem c332 : CallSound Tryz.prog 332 s332 := by
  refine CallSound.of_sp (T := tabOf [(349, s120o)]) Tryz.func332 rfl (Nat.le_of_ble_eq_true rfl) fun E x res hy => ?_
  obtain ⟨b, s⟩ := x
  unfold Book.over at hy
  split at hy
  case isFalse => cases hy
  next hlen =>
  refine Dwp.step t94 rfl fun K hK => ?_
  simp [drunL, drunO, dwanted, dopS, own, plainOf, dop, dput, eval, ofVal, Then, Ex.then, Ex.inBlock, upd, dbin, Tag.isNN, nilTest, intCmp, dload, dpart, TyI.agg, dfieldAddr, dfield, dindexAddr, dindex, dlen, lenOk, dlookup, mapOf, assocM, keyFits, dmapUpdate, dcallee, dcall, tabOf, dbuiltin, dstore, DV.cells, setAt, dslice, dboundOk, dappend, appTag, rowsOf, elemOk, growLimit, dbuildCells, dbuildCells.go, structOk, fieldsOk, dbuildRows, goInt, init, arg1, arg2, arg3, EncR.one, EncR.and, Enc.bool, Enc.int, Enc.str, Enc.strs, Enc.slice, Enc.agg, Enc.tup, Enc.err, Enc.fn, Enc.book]
  refine hK _ _ ?_ rfl; clear hK K
  refine Dwp.step t94 rfl fun K hK => ?_
  simp [drunL, drunO, dwanted, dopS, own, plainOf, dop, dput, eval, ofVal, Then, Ex.then, Ex.inBlock, upd, dbin, Tag.isNN, nilTest, intCmp, dload, dpart, TyI.agg, dfieldAddr, dfield, dindexAddr, dindex, dlen, lenOk, dlookup, mapOf, assocM, keyFits, dmapUpdate, dcallee, dcall, tabOf, dbuiltin, dstore, DV.cells, setAt, dslice, dboundOk, dappend, appTag, rowsOf, elemOk, growLimit, dbuildCells, dbuildCells.go, structOk, fieldsOk, dbuildRows, goInt]
  refine hK _ _ ?_ rfl; clear hK K
  refine Dwp.step t94 rfl fun K hK => ?_
  -- what the map holds
  have hass := assoc_enc Enc.strs s b.highs
  have hget : ∃ d, (match (mget s b.highs).map Enc.strs.enc with | some v => v | none => .lit (.slice none 0 0)) = d ∧ Enc.strs.dec d = some (b.highsOf s) := by
    unfold Book.highsOf
    cases mget s b.highs with
    | none => exact ⟨_, rfl, rfl⟩
    | some l => exact ⟨_, rfl, Enc.strs.de l⟩
  obtain ⟨d, hd1, hd2⟩ := hget
  have g := call120o (tabOf [(349, s120o)]) rfl d (b.highsOf s) hd2 hlen
  cases hm : mget s b.highs with
  | none =>
    rw [hm] at hass hd1
    simp only [Option.map_none] at hass hd1
    subst hd1
    simp [drunL, dwanted, dopS, own, plainOf, dop, dput, eval, ofVal, Then, upd, init, arg2, EncR.and, EncR.one, Enc.str, dfieldAddr, dload, dpart, TyI.agg, ty229, ty155, ty9, ty22, dlookup, mapOf, assocM, keyFits, hass, dcallee, g]
    refine hK _ _ ?_ rfl; clear hK K
    exact tail94 b res E 1000000 _ _ ⟨_, [], _, _, hy, by simp [upd], by simp [upd, σ0], by simp [upd, σ0], by simp [upd]; exact ⟨rfl, rfl⟩, by simp [upd, σ0]⟩ _ rfl
  | some l0 =>
    rw [hm] at hass hd1
    simp only [Option.map_some] at hass hd1
    subst hd1
    have hlc : (Enc.strs.enc l0).cells = some [Enc.strs.enc l0] := rfl
    simp [drunL, dwanted, dopS, own, plainOf, dop, dput, eval, ofVal, Then, upd, init, arg2, EncR.and, EncR.one, Enc.str, dfieldAddr, dload, dpart, TyI.agg, ty229, ty155, ty9, ty22, dlookup, mapOf, assocM, keyFits, hass, dcallee, g]
    refine hK _ _ ?_ rfl; clear hK K
    exact tail94 b res E 1000000 _ _ ⟨_, [], _, _, hy, by simp [upd], by simp [upd, σ0], by simp [upd, σ0], by simp [upd]; exact ⟨rfl, rfl⟩, by simp [upd, σ0]⟩ _ rfl
theorem e332 : Go.FA.Good Tryz.prog (332, s332) := ⟨c332, Tryz.f332, _, Tryz.func332, rfl, by decide⟩
end Go.Proofs.Yt
namespace Go.Proofs.Yt
open Go Go.FA Go.Proofs
set_option linter.unusedVariables false
set_option linter.unusedSimpArgs false
set_option maxRecDepth 100000

def anyS : ByteArray := ⟨#[65, 110, 121]⟩
def Book.atMost (b : Book) (lo hi : ByteArray) : Option Bool := if hi = anyS then some true else if lo = hi then some true else (b.over lo).map fun l => decide (hi ∈ l)
def s314 : Sp := sp (arg3 Enc.book Enc.str Enc.str) Enc.bool (fun x => x.1.atMost x.2.1 x.2.2)
theorem t50 : TabOk Tryz.prog (tabOf [(332, s332)]) := .cons e332 .nil
theorem c314 : CallSound Tryz.prog 314 s314 := by
  refine CallSound.of_sp (T := tabOf [(332, s332)]) Tryz.func314 rfl (Nat.le_of_ble_eq_true rfl) fun E x y hy => ?_
  obtain ⟨b, lo, hi⟩ := x
  simp only [Book.atMost] at hy
  refine Dwp.step t50 rfl fun K hK => ?_
  simp [drunL, drunO, dwanted, dopS, own, plainOf, dop, dput, eval, ofVal, Then, Ex.then, Ex.inBlock, upd, dbin, Tag.isNN, nilTest, intCmp, dload, dpart, TyI.agg, dfieldAddr, dfield, dindexAddr, dindex, dlen, lenOk, dlookup, mapOf, assocM, keyFits, dmapUpdate, dcallee, dcall, tabOf, dbuiltin, dstore, DV.cells, setAt, dslice, dboundOk, dappend, appTag, rowsOf, elemOk, growLimit, dbuildCells, dbuildCells.go, structOk, fieldsOk, dbuildRows, goInt, init, arg3, EncR.and, EncR.one, Enc.str, Enc.book, Enc.agg]
  refine hK _ _ ?_ rfl; clear hK K
  refine Dwp.step t50 rfl fun K hK => ?_
  by_cases h1 : hi = anyS
  · rw [if_pos h1] at hy; cases hy
    unfold anyS at h1
    simp [drunL, drunO, dwanted, dopS, own, plainOf, dop, dput, eval, ofVal, Then, Ex.then, Ex.inBlock, upd, dbin, Tag.isNN, nilTest, intCmp, dload, dpart, TyI.agg, dfieldAddr, dfield, dindexAddr, dindex, dlen, lenOk, dlookup, mapOf, assocM, keyFits, dmapUpdate, dcallee, dcall, tabOf, dbuiltin, dstore, DV.cells, setAt, dslice, dboundOk, dappend, appTag, rowsOf, elemOk, growLimit, dbuildCells, dbuildCells.go, structOk, fieldsOk, dbuildRows, goInt, init, arg3, EncR.and, EncR.one, Enc.str, h1]
    refine hK _ _ (Dwp.ret ?_) rfl
    simp [Done, dresults, dres, frz, frz1, frz2, Enc.bool, upd]
  rw [if_neg h1] at hy
  by_cases h2 : lo = hi
  · rw [if_pos h2] at hy; cases hy
    unfold anyS at h1
    simp [drunL, drunO, dwanted, dopS, own, plainOf, dop, dput, eval, ofVal, Then, Ex.then, Ex.inBlock, upd, dbin, Tag.isNN, nilTest, intCmp, dload, dpart, TyI.agg, dfieldAddr, dfield, dindexAddr, dindex, dlen, lenOk, dlookup, mapOf, assocM, keyFits, dmapUpdate, dcallee, dcall, tabOf, dbuiltin, dstore, DV.cells, setAt, dslice, dboundOk, dappend, appTag, rowsOf, elemOk, growLimit, dbuildCells, dbuildCells.go, structOk, fieldsOk, dbuildRows, goInt, init, arg3, EncR.and, EncR.one, Enc.str, h1, h2]
    refine hK _ _ (Dwp.ret ?_) rfl
    simp [Done, dresults, dres, frz, frz1, frz2, Enc.bool, upd]
  rw [if_neg h2] at hy
  obtain ⟨l, ho, rfl⟩ := Option.map_eq_some_iff.1 hy
  have g : dcall (tabOf [(332, s332)]) 332 [Enc.book.enc b, Enc.str.enc lo] = some (Enc.set.enc l) := dcall2 (B := Enc.str) rfl ho
  have hA := assoc_keys _ keyStr hi l
  unfold anyS at h1
  simp [dcall, tabOf, Enc.book, Enc.str, Enc.agg, Enc.set] at g
  by_cases hm : hi ∈ l
  · rw [if_pos hm] at hA
    simp [drunL, drunO, dwanted, dopS, own, plainOf, dop, dput, eval, ofVal, Then, Ex.then, Ex.inBlock, upd, dbin, Tag.isNN, nilTest, intCmp, dload, dpart, TyI.agg, dfieldAddr, dfield, dindexAddr, dindex, dlen, lenOk, dlookup, mapOf, assocM, keyFits, dmapUpdate, dcallee, dcall, tabOf, dbuiltin, dstore, DV.cells, setAt, dslice, dboundOk, dappend, appTag, rowsOf, elemOk, growLimit, dbuildCells, dbuildCells.go, structOk, fieldsOk, dbuildRows, goInt, init, arg3, EncR.and, EncR.one, Enc.str, h1, h2, ty229, ty267, ty9, ty4, g, hA]
    refine hK _ _ (Dwp.ret ?_) rfl
    simp [Done, dresults, dres, frz, frz1, frz2, Enc.bool, upd, hm]
  · rw [if_neg hm] at hA
    simp [drunL, drunO, dwanted, dopS, own, plainOf, dop, dput, eval, ofVal, Then, Ex.then, Ex.inBlock, upd, dbin, Tag.isNN, nilTest, intCmp, dload, dpart, TyI.agg, dfieldAddr, dfield, dindexAddr, dindex, dlen, lenOk, dlookup, mapOf, assocM, keyFits, dmapUpdate, dcallee, dcall, tabOf, dbuiltin, dstore, DV.cells, setAt, dslice, dboundOk, dappend, appTag, rowsOf, elemOk, growLimit, dbuildCells, dbuildCells.go, structOk, fieldsOk, dbuildRows, goInt, init, arg3, EncR.and, EncR.one, Enc.str, h1, h2, ty229, ty267, ty9, ty4, g, hA]
    refine hK _ _ (Dwp.ret ?_) rfl
    simp [Done, dresults, dres, frz, frz1, frz2, Enc.bool, upd, hm]
theorem e314 : Go.FA.Good Tryz.prog (314, s314) := ⟨c314, Tryz.f314, _, Tryz.func314, rfl, by decide⟩
end Go.Proofs.Yt
namespace Go.Proofs.Yt
open Go Go.FA Go.Proofs
set_option linter.unusedVariables false
set_option linter.unusedSimpArgs false
set_option maxRecDepth 100000

/-- how many entries a range over a map has left -/
def left (len : Nat) (seen : List Nat) : Nat := ((List.range len).filter fun i => !decide (i ∈ seen)).length
theorem left_lt {len j : Nat} {seen : List Nat} (hj : j < len) (hn : j ∉ seen) : left len (seen ++ [j]) < left len seen := by
  have h : ((List.range len).filter fun i => !decide (i ∈ seen ++ [j])) = ((List.range len).filter fun i => !decide (i ∈ seen)).filter fun i => decide (i ≠ j) := by
    rw [List.filter_filter]
    apply List.filter_congr
    intro i _
    by_cases h1 : i ∈ seen <;> by_cases h2 : i = j <;> simp [h1, h2]
  unfold left
  rw [h]
  exact List.length_filter_lt_length_iff_exists.2 ⟨j, by simp [hj, hn], by simp⟩

def Book.circ (b : Book) (s : ByteArray) : Bool := match b.over s with | some l => decide (s ∈ l) | none => false
def Book.circle (b : Book) : Bool := b.highs.any fun p => b.circ p.1
def s341 : Sp := sp (arg1 Enc.book) Enc.bool (fun b => if b.highs.all fun p => (b.over p.1).isSome then some b.circle else none)
def inv341 (b : Book) : Nat → (Nat → DV) → St → Prop := fun k a σ => ∃ seen, k = left b.highs.length seen ∧ (∀ j ∈ seen, ∀ p, b.highs[j]? = some p → b.circ p.1 = false) ∧
  a 1 = .row (EncR.book.enc b) 0 ∧ a 6 = .ptr 4 0 ∧ σ.objs 4 = some (.mapIter (b.highs.map fun p => .string p.1) (b.highs.map fun p => Enc.strs.enc p.2) seen)
theorem t129 : TabOk Tryz.prog (tabOf [(332, s332)]) := .cons e332 .nil
theorem c341 : CallSound Tryz.prog 341 s341 := by
  refine CallSound.of_sp (T := tabOf [(332, s332)]) Tryz.func341 rfl (Nat.le_of_ble_eq_true rfl) fun E b y hy => ?_
  split at hy
  case isFalse => cases hy
  next hall =>
  cases hy
  refine Dwp.step t129 rfl fun K hK => ?_
  simp [drunL, drunO, dwanted, dopS, own, plainOf, dop, dput, eval, ofVal, Then, Ex.then, Ex.inBlock, upd, dbin, Tag.isNN, nilTest, intCmp, dload, dpart, TyI.agg, dfieldAddr, dfield, dindexAddr, dindex, dlen, lenOk, dlookup, mapOf, assocM, keyFits, dmapUpdate, dcallee, dcall, tabOf, dbuiltin, dstore, DV.cells, setAt, dslice, dboundOk, dappend, appTag, rowsOf, elemOk, growLimit, dbuildCells, dbuildCells.go, structOk, fieldsOk, dbuildRows, goInt, init, arg1, EncR.one, Enc.book, Enc.agg]
  refine hK _ _ ?_ rfl; clear hK K
  refine Dwp.seq ?_
  refine Dwp.step t129 rfl fun K hK => ?_
  simp [drunL, drunO, dwanted, dopS, own, plainOf, dop, dput, eval, ofVal, Then, Ex.then, Ex.inBlock, upd, dbin, Tag.isNN, nilTest, intCmp, dload, dpart, TyI.agg, dfieldAddr, dfield, dindexAddr, dindex, dlen, lenOk, dlookup, mapOf, assocM, keyFits, dmapUpdate, dcallee, dcall, tabOf, dbuiltin, dstore, DV.cells, setAt, dslice, dboundOk, dappend, appTag, rowsOf, elemOk, growLimit, dbuildCells, dbuildCells.go, structOk, fieldsOk, dbuildRows, goInt, ty229, ty155]
  refine hK _ _ ?_ rfl; clear hK K
  refine Dwp.block (Dwp.loop (inv341 b) (left b.highs.length []) ⟨[], rfl, by simp, by simp [upd], by simp [upd, σ0], by simp [upd, σ0]⟩ ?_)
  rintro k a σ ⟨seen, rfl, hno, h1, h6, hobj⟩
  refine Dwp.seq (Dwp.next t129 rfl rfl rfl rfl h6 hobj ?_ ?_)
  · intro hend K hK
    simp [drunL, drunO, dwanted, dopS, own, plainOf, dop, dput, eval, ofVal, Then, Ex.then, Ex.inBlock, upd, dbin, Tag.isNN, nilTest, intCmp, dload, dpart, TyI.agg, dfieldAddr, dfield, dindexAddr, dindex, dlen, lenOk, dlookup, mapOf, assocM, keyFits, dmapUpdate, dcallee, dcall, tabOf, dbuiltin, dstore, DV.cells, setAt, dslice, dboundOk, dappend, appTag, rowsOf, elemOk, growLimit, dbuildCells, dbuildCells.go, structOk, fieldsOk, dbuildRows, goInt]
    refine hK _ _ ?_ rfl; clear hK K
    refine Dwp.seq (Dwp.condF (by simp [eval, upd]) (Dwp.exit ?_))
    refine Dwp.step t129 rfl fun K hK => ?_
    simp [drunL, drunO, dwanted, dopS, own, plainOf, dop, dput, eval, ofVal, Then, Ex.then, Ex.inBlock, upd, dbin, Tag.isNN, nilTest, intCmp, dload, dpart, TyI.agg, dfieldAddr, dfield, dindexAddr, dindex, dlen, lenOk, dlookup, mapOf, assocM, keyFits, dmapUpdate, dcallee, dcall, tabOf, dbuiltin, dstore, DV.cells, setAt, dslice, dboundOk, dappend, appTag, rowsOf, elemOk, growLimit, dbuildCells, dbuildCells.go, structOk, fieldsOk, dbuildRows, goInt]
    refine hK _ _ (Dwp.ret ?_) rfl
    have : b.circle = false := by
      unfold Book.circle
      rw [List.any_eq_false]
      intro p hp
      obtain ⟨j, hj, rfl⟩ := List.getElem_of_mem hp
      rw [hno j (hend j (by simpa using hj)) _ (List.getElem?_eq_getElem hj)]
      simp
    simp [Done, dresults, dres, frz, frz1, frz2, Enc.bool, upd, this]
  · intro j kk x hns hk hx K hK
    obtain ⟨p, hp, rfl⟩ : ∃ p, b.highs[j]? = some p ∧ Value.string p.1 = kk := by
      rw [List.getElem?_map, Option.map_eq_some_iff] at hk; exact hk
    have hjl : j < b.highs.length := by
      rcases Nat.lt_or_ge j b.highs.length with q | q
      · exact q
      · rw [List.getElem?_eq_none q] at hp; cases hp
    have hov := List.all_eq_true.1 hall p (List.mem_of_getElem? hp)
    obtain ⟨l, hl⟩ := Option.isSome_iff_exists.1 hov
    have g : dcall (tabOf [(332, s332)]) 332 [Enc.book.enc b, Enc.str.enc p.1] = some (Enc.set.enc l) := dcall2 (B := Enc.str) rfl hl
    have hA := assoc_keys _ keyStr p.1 l
    simp [drunL, drunO, dwanted, dopS, own, plainOf, dop, dput, eval, ofVal, Then, Ex.then, Ex.inBlock, upd, dbin, Tag.isNN, nilTest, intCmp, dload, dpart, TyI.agg, dfieldAddr, dfield, dindexAddr, dindex, dlen, lenOk, dlookup, mapOf, assocM, keyFits, dmapUpdate, dcallee, dcall, tabOf, dbuiltin, dstore, DV.cells, setAt, dslice, dboundOk, dappend, appTag, rowsOf, elemOk, growLimit, dbuildCells, dbuildCells.go, structOk, fieldsOk, dbuildRows, goInt]
    refine hK _ _ ?_ rfl; clear hK K
    refine Dwp.seq (Dwp.condT (by simp [eval, upd]) (Dwp.skip ?_))
    refine Dwp.block ?_
    refine Dwp.step t129 rfl fun K hK => ?_
    simp [drunL, drunO, dwanted, dopS, own, plainOf, dop, dput, eval, ofVal, Then, Ex.then, Ex.inBlock, upd, dbin, Tag.isNN, nilTest, intCmp, dload, dpart, TyI.agg, dfieldAddr, dfield, dindexAddr, dindex, dlen, lenOk, dlookup, mapOf, assocM, keyFits, dmapUpdate, dcallee, dcall, tabOf, dbuiltin, dstore, DV.cells, setAt, dslice, dboundOk, dappend, appTag, rowsOf, elemOk, growLimit, dbuildCells, dbuildCells.go, structOk, fieldsOk, dbuildRows, goInt, h6, upd, dentry, hk, hx]
    refine hK _ _ ?_ rfl; clear hK K
    refine Dwp.step t129 rfl fun K hK => ?_
    simp [dcall, tabOf, Enc.book, Enc.str, Enc.agg, Enc.set] at g
    by_cases hm : p.1 ∈ l
    · rw [if_pos hm] at hA
      simp [drunL, drunO, dwanted, dopS, own, plainOf, dop, dput, eval, ofVal, Then, Ex.then, Ex.inBlock, upd, dbin, Tag.isNN, nilTest, intCmp, dload, dpart, TyI.agg, dfieldAddr, dfield, dindexAddr, dindex, dlen, lenOk, dlookup, mapOf, assocM, keyFits, dmapUpdate, dcallee, dcall, tabOf, dbuiltin, dstore, DV.cells, setAt, dslice, dboundOk, dappend, appTag, rowsOf, elemOk, growLimit, dbuildCells, dbuildCells.go, structOk, fieldsOk, dbuildRows, goInt, h1, ty229, ty267, ty9, ty4, g, hA]
      refine hK _ _ ?_ rfl; clear hK K
      refine Dwp.condT (by simp [eval, upd]) ?_
      refine Dwp.step t129 rfl fun K hK => ?_
      simp [drunL, drunO, dwanted, dopS, own, plainOf, dop, dput, eval, ofVal, Then, Ex.then, Ex.inBlock, upd, dbin, Tag.isNN, nilTest, intCmp, dload, dpart, TyI.agg, dfieldAddr, dfield, dindexAddr, dindex, dlen, lenOk, dlookup, mapOf, assocM, keyFits, dmapUpdate, dcallee, dcall, tabOf, dbuiltin, dstore, DV.cells, setAt, dslice, dboundOk, dappend, appTag, rowsOf, elemOk, growLimit, dbuildCells, dbuildCells.go, structOk, fieldsOk, dbuildRows, goInt]
      refine hK _ _ (Dwp.ret ?_) rfl
      have : b.circle = true := by
        unfold Book.circle
        rw [List.any_eq_true]
        exact ⟨p, List.mem_of_getElem? hp, by simp [Book.circ, hl, hm]⟩
      simp [Done, dresults, dres, frz, frz1, frz2, Enc.bool, Ex.then, Ex.inBlock, upd, this]
    · rw [if_neg hm] at hA
      simp [drunL, drunO, dwanted, dopS, own, plainOf, dop, dput, eval, ofVal, Then, Ex.then, Ex.inBlock, upd, dbin, Tag.isNN, nilTest, intCmp, dload, dpart, TyI.agg, dfieldAddr, dfield, dindexAddr, dindex, dlen, lenOk, dlookup, mapOf, assocM, keyFits, dmapUpdate, dcallee, dcall, tabOf, dbuiltin, dstore, DV.cells, setAt, dslice, dboundOk, dappend, appTag, rowsOf, elemOk, growLimit, dbuildCells, dbuildCells.go, structOk, fieldsOk, dbuildRows, goInt, h1, ty229, ty267, ty9, ty4, g, hA]
      refine hK _ _ ?_ rfl; clear hK K
      refine Dwp.condF (by simp [eval, upd]) (Dwp.skip ?_)
      refine ⟨_, left_lt hjl hns, seen ++ [j], rfl, ?_, by simp [upd, h1], by simp [upd, h6], by simp [upd]⟩
      intro i hi q hq
      rcases List.mem_append.1 hi with hi | hi
      · exact hno i hi q hq
      · simp at hi; subst hi
        rw [hp] at hq; cases hq
        simp [Book.circ, hl, hm]
theorem e341 : Go.FA.Good Tryz.prog (341, s341) := ⟨c341, Tryz.f341, _, Tryz.func341, rfl, by decide⟩
end Go.Proofs.Yt
namespace Go.Proofs.Yt
open Go Go.FA Go.Proofs
set_option linter.unusedVariables false
set_option linter.unusedSimpArgs false
set_option maxRecDepth 100000

def Bel.val (b : Bel) : Value := .agg #[.string b.low, .string b.high]
theorem sk78 (x y : ByteArray) : structKey Tryz.prog 143 [.string x, .string y] = true := by kernel_rfl
theorem eqBel (x y : Bel) : eqKey x.val y.val = some (decide (x = y)) := by
  obtain ⟨a, b⟩ := x
  obtain ⟨c, d⟩ := y
  simp only [Bel.val, eqKey, eqVals, Option.map_some, Bel.mk.injEq]
  by_cases h1 : a = c <;> by_cases h2 : b = d <;> simp [h1, h2]
theorem assocBel (k : Bel) : ∀ (l : List Bel), assoc k.val (l.map Bel.val) (l.map fun _ => .lit (.bool true)) = some (if k ∈ l then some (.lit (.bool true)) else none)
  | [] => rfl
  | x :: l => by
    simp only [List.map_cons, assoc, eqBel, assocBel k l]
    by_cases h : k = x
    · simp [h]
    · simp [h]
theorem putBel (k : Bel) (x : DV) : ∀ (l : List Bel) (vs : List DV), k ∉ l → vs.length = l.length → putKey k.val x (l.map Bel.val) vs = some (l.map Bel.val ++ [k.val], vs ++ [x])
  | [], [], _, _ => rfl
  | [], _ :: _, _, h => by simp at h
  | _ :: _, [], _, h => by simp at h
  | y :: l, v :: vs, hn, h => by
    have h1 : k ≠ y := fun e => hn (by simp [e])
    have h2 : k ∉ l := fun e => hn (by simp [e])
    simp [putKey, eqBel, h1, putBel k x l vs h2 (by simpa using h)]
def s340 : Sp := sp (arg1 Enc.bels) Enc.bool (fun l => if l.length ≤ lim then some (decide l.Nodup) else none)
def inv340 (l : List Bel) : Nat → (Nat → DV) → St → Prop := fun k a σ => ∃ i, i ≤ l.length ∧ k = l.length - i ∧ (l.take i).Nodup ∧ a 3 = .map 1 ∧ a 7 = .slice 2 .none (l.map EncR.bel.enc) ∧
    a 8 = .lit (.int .i64 l.length) ∧ a 9 = .lit (.int .i64 i) ∧ 1 < σ.n ∧ σ.objs 1 = some (.map ((l.take i).map Bel.val) ((l.take i).map fun _ => .lit (.bool true)))

theorem c340 : CallSound Tryz.prog 340 s340 := by
  refine CallSound.of_sp (T := tabOf []) Tryz.func340 rfl (Nat.le_of_ble_eq_true rfl) fun E l y hy => ?_
  by_cases hlim : l.length ≤ lim <;> simp [hlim] at hy
  subst hy
  unfold lim at hlim
  refine Dwp.step tab0 rfl fun K hK => ?_
  simp [drunL, drunO, dwanted, dopS, own, plainOf, dop, dput, eval, ofVal, Then, Ex.then, Ex.inBlock, upd, dbin, Tag.isNN, nilTest, intCmp, dload, dpart, TyI.agg, dfieldAddr, dfield, dindexAddr, dindex, dlen, lenOk, dlookup, mapOf, assocM, keyFits, dmapUpdate, dcallee, dcall, tabOf, dbuiltin, dstore, DV.cells, setAt, dslice, dboundOk, dappend, appTag, rowsOf, elemOk, growLimit, dbuildCells, dbuildCells.go, structOk, fieldsOk, dbuildRows, goInt]
  refine hK _ _ ?_ rfl; clear hK K
  refine Dwp.step tab0 rfl fun K hK => ?_
  simp [drunL, drunO, dwanted, dopS, own, plainOf, dop, dput, eval, ofVal, Then, Ex.then, Ex.inBlock, upd, dbin, Tag.isNN, nilTest, intCmp, dload, dpart, TyI.agg, dfieldAddr, dfield, dindexAddr, dindex, dlen, lenOk, dlookup, mapOf, assocM, keyFits, dmapUpdate, dcallee, dcall, tabOf, dbuiltin, dstore, DV.cells, setAt, dslice, dboundOk, dappend, appTag, rowsOf, elemOk, growLimit, dbuildCells, dbuildCells.go, structOk, fieldsOk, dbuildRows, goInt]
  refine hK _ _ ?_ rfl; clear hK K
  refine Dwp.seq ?_
  refine Dwp.step tab0 rfl fun K hK => ?_
  simp [drunL, drunO, dwanted, dopS, own, plainOf, dop, dput, eval, ofVal, Then, Ex.then, Ex.inBlock, upd, dbin, Tag.isNN, nilTest, intCmp, dload, dpart, TyI.agg, dfieldAddr, dfield, dindexAddr, dindex, dlen, lenOk, dlookup, mapOf, assocM, keyFits, dmapUpdate, dcallee, dcall, tabOf, dbuiltin, dstore, DV.cells, setAt, dslice, dboundOk, dappend, appTag, rowsOf, elemOk, growLimit, dbuildCells, dbuildCells.go, structOk, fieldsOk, dbuildRows, goInt, init, arg1, EncR.one, Enc.bels, Enc.slice, ty23]
  refine hK _ _ ?_ rfl; clear hK K
  refine Dwp.block (Dwp.loop (inv340 l) l.length ⟨0, by simp, by simp, by simp, by simp [upd, σ0], by simp [upd], by simp [upd], by simp [upd], by simp [σ0], by simp [upd, σ0]⟩ ?_)
  rintro k a σ ⟨i, hi, rfl, hnd, h3, h7, h8, h9, hn, hobj⟩
  refine Dwp.step tab0 rfl fun K hK => ?_
  simp [drunL, drunO, dwanted, dopS, own, plainOf, dop, dput, eval, ofVal, Then, Ex.then, Ex.inBlock, upd, dbin, Tag.isNN, nilTest, intCmp, dload, dpart, TyI.agg, dfieldAddr, dfield, dindexAddr, dindex, dlen, lenOk, dlookup, mapOf, assocM, keyFits, dmapUpdate, dcallee, dcall, tabOf, dbuiltin, dstore, DV.cells, setAt, dslice, dboundOk, dappend, appTag, rowsOf, elemOk, growLimit, dbuildCells, dbuildCells.go, structOk, fieldsOk, dbuildRows, goInt, h8, h9]
  refine hK _ _ ?_ rfl; clear hK K
  by_cases hlt : i < l.length
  · refine Dwp.seq (Dwp.condT (by simp [eval, upd, hlt]) (Dwp.skip ?_))
    refine Dwp.seq (Dwp.block ?_)
    refine Dwp.step tab0 rfl fun K hK => ?_
    have hq : (2 : Nat) ≤ (EncR.bel.enc l[i]).length := Nat.le_refl _
    have hst : setAt [DV.lit (.string ⟨#[]⟩), .lit (.string ⟨#[]⟩)] 0 [DV.lit (.string l[i].low), .lit (.string l[i].high)] = [DV.lit (.string l[i].low), .lit (.string l[i].high)] := rfl
    simp [drunL, drunO, dwanted, dopS, own, plainOf, dop, dput, eval, ofVal, Then, Ex.then, Ex.inBlock, upd, dbin, Tag.isNN, nilTest, intCmp, dload, dpart, TyI.agg, dfieldAddr, dfield, dindexAddr, dindex, dlen, lenOk, dlookup, mapOf, assocM, keyFits, dmapUpdate, dcallee, dcall, tabOf, dbuiltin, dstore, DV.cells, setAt, dslice, dboundOk, dappend, appTag, rowsOf, elemOk, growLimit, dbuildCells, dbuildCells.go, structOk, fieldsOk, dbuildRows, goInt, h7, h9, ty23, ty143, hlt, EncR.bel]
    refine hK _ _ ?_ rfl; clear hK K
    have hA := assocBel l[i] (l.take i)
    simp only [List.map_take, Bel.val] at hA
    refine Dwp.seq ?_
    refine Dwp.step tab0 rfl fun K hK => ?_
    have hn1 : ¬ (1 = σ.n + 1 + 2) := by omega
    have hobj' : upd σ.objs (σ.n + 1 + 2) (some (.cells 143 [.lit (.string l[i].low), .lit (.string l[i].high)])) 1 = σ.objs 1 := by simp [upd, hn1]
    by_cases hm : l[i] ∈ l.take i
    · simp [drunL, drunO, dwanted, dopS, own, plainOf, dop, dput, eval, ofVal, Then, Ex.then, Ex.inBlock, upd, dbin, Tag.isNN, nilTest, intCmp, dload, dpart, TyI.agg, dfieldAddr, dfield, dindexAddr, dindex, dlen, lenOk, dlookup, mapOf, assocM, keyFits, dmapUpdate, dcallee, dcall, tabOf, dbuiltin, dstore, DV.cells, setAt, dslice, dboundOk, dappend, appTag, rowsOf, elemOk, growLimit, dbuildCells, dbuildCells.go, structOk, fieldsOk, dbuildRows, goInt, h3, hobj, ty276, ty143, ty4, hA, hm, sk78, hn1]
      refine hK _ _ ?_ rfl; clear hK K
      refine Dwp.condT (by simp [eval, upd]) ?_
      refine Dwp.step tab0 rfl fun K hK => ?_
      simp [drunL, drunO, dwanted, dopS, own, plainOf, dop, dput, eval, ofVal, Then, Ex.then, Ex.inBlock, upd, dbin, Tag.isNN, nilTest, intCmp, dload, dpart, TyI.agg, dfieldAddr, dfield, dindexAddr, dindex, dlen, lenOk, dlookup, mapOf, assocM, keyFits, dmapUpdate, dcallee, dcall, tabOf, dbuiltin, dstore, DV.cells, setAt, dslice, dboundOk, dappend, appTag, rowsOf, elemOk, growLimit, dbuildCells, dbuildCells.go, structOk, fieldsOk, dbuildRows, goInt]
      refine hK _ _ (Dwp.ret ?_) rfl
      have hno : ¬ l.Nodup := by
        intro hn
        have h1 : l.take (i + 1) = l.take i ++ [l[i]] := by rw [List.take_succ_eq_append_getElem hlt]
        have h2 : (l.take (i + 1)).Nodup := List.Nodup.sublist (List.take_sublist _ _) hn
        rw [h1, List.nodup_append] at h2
        exact h2.2.2 _ hm _ (by simp) rfl
      simp [Done, dresults, dres, frz, frz1, frz2, init, arg1, arg2, arg3, EncR.one, EncR.and, Enc.bool, Enc.int, Enc.str, Enc.strs, Enc.slice, Enc.agg, Enc.tup, Enc.err, Enc.fn, Ex.then, Ex.inBlock, upd, hno]
    · simp [drunL, drunO, dwanted, dopS, own, plainOf, dop, dput, eval, ofVal, Then, Ex.then, Ex.inBlock, upd, dbin, Tag.isNN, nilTest, intCmp, dload, dpart, TyI.agg, dfieldAddr, dfield, dindexAddr, dindex, dlen, lenOk, dlookup, mapOf, assocM, keyFits, dmapUpdate, dcallee, dcall, tabOf, dbuiltin, dstore, DV.cells, setAt, dslice, dboundOk, dappend, appTag, rowsOf, elemOk, growLimit, dbuildCells, dbuildCells.go, structOk, fieldsOk, dbuildRows, goInt, h3, hobj, ty276, ty143, ty4, hA, hm, sk78, hn1]
      refine hK _ _ ?_ rfl; clear hK K
      refine Dwp.condF (by simp [eval, upd]) (Dwp.skip ?_)
      refine Dwp.reg tab0 rfl fun K hK => ?_
      have hP := putBel l[i] (.lit (.bool true)) (l.take i) ((l.take i).map fun _ => .lit (.bool true)) hm (by simp)
      simp only [List.map_take, Bel.val] at hP
      simp [drunL, drunO, dwanted, dopS, own, plainOf, dop, dput, eval, ofVal, Then, Ex.then, Ex.inBlock, upd, dbin, Tag.isNN, nilTest, intCmp, dload, dpart, TyI.agg, dfieldAddr, dfield, dindexAddr, dindex, dlen, lenOk, dlookup, mapOf, assocM, keyFits, dmapUpdate, dcallee, dcall, tabOf, dbuiltin, dstore, DV.cells, setAt, dslice, dboundOk, dappend, appTag, rowsOf, elemOk, growLimit, dbuildCells, dbuildCells.go, structOk, fieldsOk, dbuildRows, goInt, h3, hobj, ty276, ty143, hP, sk78, hn1]
      refine hK _ _ ?_ rfl; clear hK K
      refine Dwp.reg tab0 rfl fun K hK => ?_
      simp [drunL, drunO, dwanted, dopS, own, plainOf, dop, dput, eval, ofVal, Then, Ex.then, Ex.inBlock, upd, dbin, Tag.isNN, nilTest, intCmp, dload, dpart, TyI.agg, dfieldAddr, dfield, dindexAddr, dindex, dlen, lenOk, dlookup, mapOf, assocM, keyFits, dmapUpdate, dcallee, dcall, tabOf, dbuiltin, dstore, DV.cells, setAt, dslice, dboundOk, dappend, appTag, rowsOf, elemOk, growLimit, dbuildCells, dbuildCells.go, structOk, fieldsOk, dbuildRows, goInt, h9]
      refine hK _ _ ?_ rfl; clear hK K
      refine ⟨l.length - (i + 1), by omega, i + 1, by omega, rfl, ?_, by simp [upd, h3], by simp [upd, h7], by simp [upd, h8], ?_, by simp <;> omega, ?_⟩
      · rw [List.take_succ_eq_append_getElem hlt, List.nodup_append]
        exact ⟨hnd, by simp, fun a ha b hb e => by simp at hb; subst hb; subst e; exact hm ha⟩
      · simp [upd, wrap_small (n := (i : Int) + 1) (by omega) (by omega)]
      · rw [List.take_succ_eq_append_getElem hlt]; simp [upd]; constructor <;> (rw [List.take_succ_eq_append_getElem (by simpa using hlt)]; simp [Bel.val])
  · refine Dwp.seq (Dwp.condF (by simp [eval, upd, hlt]) (Dwp.exit ?_))
    refine Dwp.step tab0 rfl fun K hK => ?_
    simp [drunL, drunO, dwanted, dopS, own, plainOf, dop, dput, eval, ofVal, Then, Ex.then, Ex.inBlock, upd, dbin, Tag.isNN, nilTest, intCmp, dload, dpart, TyI.agg, dfieldAddr, dfield, dindexAddr, dindex, dlen, lenOk, dlookup, mapOf, assocM, keyFits, dmapUpdate, dcallee, dcall, tabOf, dbuiltin, dstore, DV.cells, setAt, dslice, dboundOk, dappend, appTag, rowsOf, elemOk, growLimit, dbuildCells, dbuildCells.go, structOk, fieldsOk, dbuildRows, goInt]
    refine hK _ _ (Dwp.ret ?_) rfl
    have : l.take i = l := List.take_of_length_le (by omega)
    rw [this] at hnd
    simp [Done, dresults, dres, frz, frz1, frz2, init, arg1, arg2, arg3, EncR.one, EncR.and, Enc.bool, Enc.int, Enc.str, Enc.strs, Enc.slice, Enc.agg, Enc.tup, Enc.err, Enc.fn, upd, hnd]
theorem e340 : Go.FA.Good Tryz.prog (340, s340) := ⟨c340, Tryz.f340, _, Tryz.func340, rfl, by decide⟩
end Go.Proofs.Yt
namespace Go.Proofs.Yt
open Go Go.FA Go.Proofs
set_option linter.unusedVariables false
set_option linter.unusedSimpArgs false
set_option maxRecDepth 100000

def SigD.within (s : SigD) : Bool := decide (s.sorts.length ≤ 40) && decide (s.below.length ≤ 200) && decide (s.ops.length + s.funs.length ≤ 200)
def s308 : Sp := sp (arg1 Enc.sigd) Enc.bool (fun s => if s.ops.length ≤ lim ∧ s.funs.length ≤ lim then some s.within else none)
theorem c308 : CallSound Tryz.prog 308 s308 := by
  refine CallSound.of_sp (T := tabOf []) Tryz.func308 rfl (Nat.le_of_ble_eq_true rfl) fun E s y hy => ?_
  split at hy
  case isFalse => cases hy
  next hlim =>
  cases hy
  obtain ⟨hl1, hl2⟩ := hlim
  unfold lim at hl1 hl2
  refine Dwp.step tab0 rfl fun K hK => ?_
  simp [drunL, drunO, dwanted, dopS, own, plainOf, dop, dput, eval, ofVal, Then, Ex.then, Ex.inBlock, upd, dbin, Tag.isNN, nilTest, intCmp, dload, dpart, TyI.agg, dfieldAddr, dfield, dindexAddr, dindex, dlen, lenOk, dlookup, mapOf, assocM, keyFits, dmapUpdate, dcallee, dcall, tabOf, dbuiltin, dstore, DV.cells, setAt, dslice, dboundOk, dappend, appTag, rowsOf, elemOk, growLimit, dbuildCells, dbuildCells.go, structOk, fieldsOk, dbuildRows, goInt, init, arg1, EncR.one, Enc.sigd, Enc.agg]
  refine hK _ _ ?_ rfl; clear hK K
  refine Dwp.step tab0 rfl fun K hK => ?_
  have hw := wrap_small (n := (s.ops.length : Int) + s.funs.length) (by omega) (by omega)
  by_cases h1 : s.sorts.length ≤ 40
  · have h1' : (s.sorts.length : Int) ≤ 40 := by omega
    by_cases h2 : s.below.length ≤ 200
    · have h2' : (s.below.length : Int) ≤ 200 := by omega
      simp [drunL, drunO, dwanted, dopS, own, plainOf, dop, dput, eval, ofVal, Then, Ex.then, Ex.inBlock, upd, dbin, Tag.isNN, nilTest, intCmp, dload, dpart, TyI.agg, dfieldAddr, dfield, dindexAddr, dindex, dlen, lenOk, dlookup, mapOf, assocM, keyFits, dmapUpdate, dcallee, dcall, tabOf, dbuiltin, dstore, DV.cells, setAt, dslice, dboundOk, dappend, appTag, rowsOf, elemOk, growLimit, dbuildCells, dbuildCells.go, structOk, fieldsOk, dbuildRows, goInt, ty26, ty22, ty23, ty24, Enc.strs, Enc.bels, Enc.ops, Enc.slice, h1', h2', hw]
      refine hK _ _ (Dwp.ret ?_) rfl
      simp [Done, dresults, dres, frz, frz1, frz2, Enc.bool, upd, SigD.within, h1, h2]
      omega
    · have h2' : ¬ (s.below.length : Int) ≤ 200 := by omega
      simp [drunL, drunO, dwanted, dopS, own, plainOf, dop, dput, eval, ofVal, Then, Ex.then, Ex.inBlock, upd, dbin, Tag.isNN, nilTest, intCmp, dload, dpart, TyI.agg, dfieldAddr, dfield, dindexAddr, dindex, dlen, lenOk, dlookup, mapOf, assocM, keyFits, dmapUpdate, dcallee, dcall, tabOf, dbuiltin, dstore, DV.cells, setAt, dslice, dboundOk, dappend, appTag, rowsOf, elemOk, growLimit, dbuildCells, dbuildCells.go, structOk, fieldsOk, dbuildRows, goInt, ty26, ty22, ty23, ty24, Enc.strs, Enc.bels, Enc.ops, Enc.slice, h1', h2']
      refine hK _ _ (Dwp.ret ?_) rfl
      simp [Done, dresults, dres, frz, frz1, frz2, Enc.bool, upd, SigD.within, h1, h2]
  · have h1' : ¬ (s.sorts.length : Int) ≤ 40 := by omega
    simp [drunL, drunO, dwanted, dopS, own, plainOf, dop, dput, eval, ofVal, Then, Ex.then, Ex.inBlock, upd, dbin, Tag.isNN, nilTest, intCmp, dload, dpart, TyI.agg, dfieldAddr, dfield, dindexAddr, dindex, dlen, lenOk, dlookup, mapOf, assocM, keyFits, dmapUpdate, dcallee, dcall, tabOf, dbuiltin, dstore, DV.cells, setAt, dslice, dboundOk, dappend, appTag, rowsOf, elemOk, growLimit, dbuildCells, dbuildCells.go, structOk, fieldsOk, dbuildRows, goInt, ty26, ty22, ty23, ty24, Enc.strs, Enc.bels, Enc.ops, Enc.slice, h1']
    refine hK _ _ (Dwp.ret ?_) rfl
    simp [Done, dresults, dres, frz, frz1, frz2, Enc.bool, upd, SigD.within, h1]
theorem e308 : Go.FA.Good Tryz.prog (308, s308) := ⟨c308, Tryz.f308, _, Tryz.func308, rfl, by decide⟩

/-- differ of declarations that a sort is below another one -/
def okBel (b : Book) (x : Bel) : Bool := b.has x.low && !decide (x.low = anyS) && b.decl x.high
def okBelow (b : Book) (l : List Bel) : Option Bool := if l.length ≤ lim then (if l.all (okBel b) then (if decide l.Nodup then (if b.highs.all fun p => (b.over p.1).isSome then some (!b.circle) else none) else some false) else some false) else none
def s326 : Sp := sp (arg2 Enc.book Enc.bels) Enc.bool (fun x => okBelow x.1 x.2)
def inv326 (b : Book) (l : List Bel) : Nat → (Nat → DV) → St → Prop := fun k a σ => ∃ i, i ≤ l.length ∧ k = l.length - i ∧ (l.take i).all (okBel b) = true ∧
  a 1 = Enc.bels.enc l ∧ a 2 = .row (EncR.book.enc b) 0 ∧ a 7 = .slice 2 .none (l.map EncR.bel.enc) ∧ a 8 = .lit (.int .i64 l.length) ∧ a 9 = .lit (.int .i64 i)
abbrev T112 : Tab := tabOf [(311, s311), (339, s339), (340, s340), (341, s341)]
theorem c326 (e340 : Go.FA.Good Tryz.prog (340, s340)) : CallSound Tryz.prog 326 s326 := by
  have t112 : TabOk Tryz.prog T112 := .cons e311 (.cons e339 (.cons e340 (.cons e341 .nil)))
  refine CallSound.of_sp (T := T112) Tryz.func326 rfl (Nat.le_of_ble_eq_true rfl) fun E x y hy => ?_
  obtain ⟨b, l⟩ := x
  simp only [okBelow] at hy
  split at hy
  case isFalse => cases hy
  next hlim =>
  have hlim' := hlim
  unfold lim at hlim
  refine Dwp.step t112 rfl fun K hK => ?_
  simp [drunL, drunO, dwanted, dopS, own, plainOf, dop, dput, eval, ofVal, Then, Ex.then, Ex.inBlock, upd, dbin, Tag.isNN, nilTest, intCmp, dload, dpart, TyI.agg, dfieldAddr, dfield, dindexAddr, dindex, dlen, lenOk, dlookup, mapOf, assocM, keyFits, dmapUpdate, dcallee, dcall, tabOf, dbuiltin, dstore, DV.cells, setAt, dslice, dboundOk, dappend, appTag, rowsOf, elemOk, growLimit, dbuildCells, dbuildCells.go, structOk, fieldsOk, dbuildRows, goInt, init, arg2, EncR.and, EncR.one, Enc.book, Enc.agg]
  refine hK _ _ ?_ rfl; clear hK K
  refine Dwp.seq ?_
  refine Dwp.step t112 rfl fun K hK => ?_
  simp [drunL, drunO, dwanted, dopS, own, plainOf, dop, dput, eval, ofVal, Then, Ex.then, Ex.inBlock, upd, dbin, Tag.isNN, nilTest, intCmp, dload, dpart, TyI.agg, dfieldAddr, dfield, dindexAddr, dindex, dlen, lenOk, dlookup, mapOf, assocM, keyFits, dmapUpdate, dcallee, dcall, tabOf, dbuiltin, dstore, DV.cells, setAt, dslice, dboundOk, dappend, appTag, rowsOf, elemOk, growLimit, dbuildCells, dbuildCells.go, structOk, fieldsOk, dbuildRows, goInt, init, arg2, EncR.and, EncR.one, Enc.bels, Enc.slice, ty23]
  refine hK _ _ ?_ rfl; clear hK K
  refine Dwp.block (Dwp.loop (inv326 b l) l.length ⟨0, by simp, by simp, by simp, by simp [upd, init, Enc.bels, Enc.slice], by simp [upd, init], by simp [upd, init], by simp [upd], by simp [upd]⟩ ?_)
  rintro k a σ ⟨i, hi, rfl, hall, h1, h2, h7, h8, h9⟩
  refine Dwp.step t112 rfl fun K hK => ?_
  simp [drunL, drunO, dwanted, dopS, own, plainOf, dop, dput, eval, ofVal, Then, Ex.then, Ex.inBlock, upd, dbin, Tag.isNN, nilTest, intCmp, dload, dpart, TyI.agg, dfieldAddr, dfield, dindexAddr, dindex, dlen, lenOk, dlookup, mapOf, assocM, keyFits, dmapUpdate, dcallee, dcall, tabOf, dbuiltin, dstore, DV.cells, setAt, dslice, dboundOk, dappend, appTag, rowsOf, elemOk, growLimit, dbuildCells, dbuildCells.go, structOk, fieldsOk, dbuildRows, goInt, h8, h9]
  refine hK _ _ ?_ rfl; clear hK K
  by_cases hlt : i < l.length
  · refine Dwp.seq (Dwp.condT (by simp [eval, upd, hlt]) (Dwp.skip ?_))
    refine Dwp.seq (Dwp.block ?_)
    refine Dwp.step t112 rfl fun K hK => ?_
    simp [drunL, drunO, dwanted, dopS, own, plainOf, dop, dput, eval, ofVal, Then, Ex.then, Ex.inBlock, upd, dbin, Tag.isNN, nilTest, intCmp, dload, dpart, TyI.agg, dfieldAddr, dfield, dindexAddr, dindex, dlen, lenOk, dlookup, mapOf, assocM, keyFits, dmapUpdate, dcallee, dcall, tabOf, dbuiltin, dstore, DV.cells, setAt, dslice, dboundOk, dappend, appTag, rowsOf, elemOk, growLimit, dbuildCells, dbuildCells.go, structOk, fieldsOk, dbuildRows, goInt, h7, h9, ty23, ty143, hlt, EncR.bel]
    refine hK _ _ ?_ rfl; clear hK K
    refine Dwp.step t112 rfl fun K hK => ?_
    have g1 := call311 T112 rfl b (.slice 1 .full [[.lit (.string l[i].low)]]) [l[i].low] rfl (by unfold Go.FA.lim; simp)
    simp only [List.all_cons, List.all_nil, Bool.and_true] at g1
    have g2 := call339 T112 rfl b l[i].high
    cases k1 : b.has l[i].low with
    | false =>
      simp [drunL, dwanted, dopS, own, plainOf, dop, dput, eval, ofVal, Then, upd, dfieldAddr, dload, dpart, TyI.agg, ty143, ty229, ty9, ty22, dcallee, dbuildRows, DV.cells, growLimit, h2, g1, k1]
      refine hK _ _ ?_ rfl; clear hK K
      refine Dwp.condT (by simp [eval, upd]) ?_
      refine Dwp.step t112 rfl fun K hK => ?_
      simp [drunL, drunO, dwanted, dopS, own, plainOf, dop, dput, eval, ofVal, Then, Ex.then, Ex.inBlock, upd, dbin, Tag.isNN, nilTest, intCmp, dload, dpart, TyI.agg, dfieldAddr, dfield, dindexAddr, dindex, dlen, lenOk, dlookup, mapOf, assocM, keyFits, dmapUpdate, dcallee, dcall, tabOf, dbuiltin, dstore, DV.cells, setAt, dslice, dboundOk, dappend, appTag, rowsOf, elemOk, growLimit, dbuildCells, dbuildCells.go, structOk, fieldsOk, dbuildRows, goInt]
      refine hK _ _ (Dwp.ret ?_) rfl
      have hf : okBel b l[i] = false := by simp [okBel, k1]
      have := all_false hlt hf
      simp only [this] at hy; cases hy
      simp [Done, dresults, dres, frz, frz1, frz2, Enc.bool, Ex.then, Ex.inBlock, upd]
    | true =>
    by_cases k2 : l[i].low = anyS
    · have k2' : l[i].low = ⟨#[65, 110, 121]⟩ := k2
      simp [drunL, dwanted, dopS, own, plainOf, dop, dput, eval, ofVal, Then, upd, dfieldAddr, dload, dpart, TyI.agg, ty143, ty229, ty9, ty22, dcallee, dbuildRows, DV.cells, growLimit, dbin, h2, k2'] at g1 k1
      simp [drunL, dwanted, dopS, own, plainOf, dop, dput, eval, ofVal, Then, upd, dfieldAddr, dload, dpart, TyI.agg, ty143, ty229, ty9, ty22, dcallee, dbuildRows, DV.cells, growLimit, dbin, h2, g1, k1, k2']
      refine hK _ _ ?_ rfl; clear hK K
      refine Dwp.condT (by simp [eval, upd]) ?_
      refine Dwp.step t112 rfl fun K hK => ?_
      simp [drunL, drunO, dwanted, dopS, own, plainOf, dop, dput, eval, ofVal, Then, Ex.then, Ex.inBlock, upd, dbin, Tag.isNN, nilTest, intCmp, dload, dpart, TyI.agg, dfieldAddr, dfield, dindexAddr, dindex, dlen, lenOk, dlookup, mapOf, assocM, keyFits, dmapUpdate, dcallee, dcall, tabOf, dbuiltin, dstore, DV.cells, setAt, dslice, dboundOk, dappend, appTag, rowsOf, elemOk, growLimit, dbuildCells, dbuildCells.go, structOk, fieldsOk, dbuildRows, goInt]
      refine hK _ _ (Dwp.ret ?_) rfl
      have hf : okBel b l[i] = false := by simp [okBel, k2]
      have := all_false hlt hf
      simp only [this] at hy; cases hy
      simp [Done, dresults, dres, frz, frz1, frz2, Enc.bool, Ex.then, Ex.inBlock, upd]
    · have k2' : ¬ l[i].low = ⟨#[65, 110, 121]⟩ := k2
      cases k3 : b.decl l[i].high with
      | false =>
        simp [drunL, dwanted, dopS, own, plainOf, dop, dput, eval, ofVal, Then, upd, dfieldAddr, dload, dpart, TyI.agg, ty143, ty229, ty9, ty22, dcallee, dbuildRows, DV.cells, growLimit, dbin, h2, g1, k1, k2', g2, k3]
        refine hK _ _ ?_ rfl; clear hK K
        refine Dwp.condT (by simp [eval, upd]) ?_
        refine Dwp.step t112 rfl fun K hK => ?_
        simp [drunL, drunO, dwanted, dopS, own, plainOf, dop, dput, eval, ofVal, Then, Ex.then, Ex.inBlock, upd, dbin, Tag.isNN, nilTest, intCmp, dload, dpart, TyI.agg, dfieldAddr, dfield, dindexAddr, dindex, dlen, lenOk, dlookup, mapOf, assocM, keyFits, dmapUpdate, dcallee, dcall, tabOf, dbuiltin, dstore, DV.cells, setAt, dslice, dboundOk, dappend, appTag, rowsOf, elemOk, growLimit, dbuildCells, dbuildCells.go, structOk, fieldsOk, dbuildRows, goInt]
        refine hK _ _ (Dwp.ret ?_) rfl
        have hf : okBel b l[i] = false := by simp [okBel, k3]
        have := all_false hlt hf
        simp only [this] at hy; cases hy
        simp [Done, dresults, dres, frz, frz1, frz2, Enc.bool, Ex.then, Ex.inBlock, upd]
      | true =>
        simp [drunL, dwanted, dopS, own, plainOf, dop, dput, eval, ofVal, Then, upd, dfieldAddr, dload, dpart, TyI.agg, ty143, ty229, ty9, ty22, dcallee, dbuildRows, DV.cells, growLimit, dbin, h2, g1, k1, k2', g2, k3]
        refine hK _ _ ?_ rfl; clear hK K
        refine Dwp.condF (by simp [eval, upd]) (Dwp.skip ?_)
        refine Dwp.reg t112 rfl fun K hK => ?_
        simp [drunL, drunO, dwanted, dopS, own, plainOf, dop, dput, eval, ofVal, Then, Ex.then, Ex.inBlock, upd, dbin, Tag.isNN, nilTest, intCmp, dload, dpart, TyI.agg, dfieldAddr, dfield, dindexAddr, dindex, dlen, lenOk, dlookup, mapOf, assocM, keyFits, dmapUpdate, dcallee, dcall, tabOf, dbuiltin, dstore, DV.cells, setAt, dslice, dboundOk, dappend, appTag, rowsOf, elemOk, growLimit, dbuildCells, dbuildCells.go, structOk, fieldsOk, dbuildRows, goInt, h9]
        refine hK _ _ ?_ rfl; clear hK K
        exact ⟨l.length - (i + 1), by omega, i + 1, by omega, rfl, all_take hlt hall (by simp [okBel, k1, k2, k3]), by simp [upd, h1], by simp [upd, h2], by simp [upd, h7], by simp [upd, h8], by simp [upd, wrap_small (n := (i : Int) + 1) (by omega) (by omega)]⟩
  · refine Dwp.seq (Dwp.condF (by simp [eval, upd, hlt]) (Dwp.exit ?_))
    rw [List.take_of_length_le (by omega)] at hall
    simp only [hall, if_true] at hy
    have g3 : dcall T112 340 [Enc.bels.enc l] = some (Enc.bool.enc (decide l.Nodup)) := dcall1 (A := Enc.bels) (B := Enc.bool) rfl (if_pos hlim')
    refine Dwp.step t112 rfl fun K hK => ?_
    by_cases k1 : l.Nodup
    · simp only [k1, decide_true, if_true] at hy
      split at hy
      case isFalse => cases hy
      next hov =>
      cases hy
      have g4 : dcall T112 341 [Enc.book.enc b] = some (Enc.bool.enc b.circle) := dcall1 (A := Enc.book) (B := Enc.bool) rfl (if_pos hov)
      simp only [Enc.bool] at g3 g4
      simp only [Enc.book, Enc.agg] at g4
      simp [drunL, dwanted, dopS, own, plainOf, dop, dput, eval, ofVal, Then, upd, dload, dpart, TyI.agg, ty229, dcallee, h1, h2, g3, g4, k1]
      refine hK _ _ (Dwp.ret ?_) rfl
      simp [Done, dresults, dres, frz, frz1, frz2, Enc.bool, upd]
    · simp only [k1, decide_false, Bool.false_eq_true, if_false] at hy
      cases hy
      simp only [Enc.bool] at g3
      simp [drunL, dwanted, dopS, own, plainOf, dop, dput, eval, ofVal, Then, upd, dload, dpart, TyI.agg, ty229, dcallee, h1, h2, g3, k1]
      refine hK _ _ (Dwp.ret ?_) rfl
      simp [Done, dresults, dres, frz, frz1, frz2, Enc.bool, upd]
end Go.Proofs.Yt
namespace Go.Proofs.Yt
open Go Go.FA Go.Proofs
set_option linter.unusedVariables false
set_option linter.unusedSimpArgs false
set_option maxRecDepth 100000

def SigD.sizes (s : SigD) : Prop := s.sorts.length ≤ 1000000 ∧ s.ops.length + s.funs.length ≤ 1048576 ∧ s.values.length ≤ lim ∧ (∀ o ∈ s.ops, o.small) ∧ (∀ o ∈ s.funs, o.small)
instance (s : SigD) : Decidable s.sizes := by unfold SigD.sizes; infer_instance
def validB (b : Book) (s : SigD) : Option Bool :=
  if s.sizes then (if okSorts s.sorts then (match okBelow b s.below with
    | none => none
    | some false => some false
    | some true => some (decide (opNames s).Nodup && !(s.ops.any (predB (false, b))) && !(s.funs.any (predB (true, b))) && s.values.all b.has && decide s.values.Nodup)) else some false) else none
def s310 : Sp := sp (arg2 Enc.book Enc.sigd) Enc.bool (fun x => validB x.1 x.2)
abbrev T88 : Tab := tabOf [(325, s325), (326, s326), (328, s328), (327, s327), (329, s329), (311, s311)]
theorem c310 (e326 : Go.FA.Good Tryz.prog (326, s326)) : CallSound Tryz.prog 310 s310 := by
  have t88 : TabOk Tryz.prog T88 := .cons e325 (.cons e326 (.cons e328 (.cons e327 (.cons e329 (.cons e311 .nil)))))
  refine CallSound.of_sp (T := T88) Tryz.func310 rfl (Nat.le_of_ble_eq_true rfl) fun E x y hy => ?_
  obtain ⟨b, s⟩ := x
  simp only [validB] at hy
  split at hy
  case isFalse => cases hy
  next hsz =>
  obtain ⟨z1, z2, z3, z4, z5⟩ := hsz
  have zo : s.ops.length ≤ lim := by unfold lim; omega
  have zf : s.funs.length ≤ lim := by unfold lim; omega
  have zn : (opNames s).length ≤ lim := by unfold opNames lim; simp; omega
  have g1 : dcall T88 325 [Enc.strs.enc s.sorts] = some (Enc.bool.enc (okSorts s.sorts)) := dcall1 (A := Enc.strs) (B := Enc.bool) rfl (if_pos z1)
  have g3 : dcall T88 328 [Enc.sigd.enc s] = some (Enc.strs.enc (opNames s)) := dcall1 (A := Enc.sigd) (B := Enc.strs) rfl (if_pos z2)
  have g4 := call327 T88 rfl (opNames s) zn
  have g5 : dcall T88 329 [Enc.ops.enc s.ops, Enc.pred.enc (false, b)] = some (Enc.bool.enc (s.ops.any (predB (false, b)))) := dcall2 (B := Enc.pred) (C := Enc.bool) (y := (false, b)) rfl (if_pos ⟨zo, z4⟩)
  have g6 : dcall T88 329 [Enc.ops.enc s.funs, Enc.pred.enc (true, b)] = some (Enc.bool.enc (s.funs.any (predB (true, b)))) := dcall2 (B := Enc.pred) (C := Enc.bool) (y := (true, b)) rfl (if_pos ⟨zf, z5⟩)
  have g7 := call311 T88 rfl b (Enc.strs.enc s.values) s.values (Enc.strs.de _) z3
  have g8 := call327 T88 rfl s.values z3
  simp only [Enc.bool, Enc.sigd, Enc.agg, Enc.pred, Enc.book, Bool.false_eq_true, if_true, if_false] at g1 g3 g5 g6
  have hTT : T88 326 = some s326 := rfl
  refine Dwp.step t88 rfl fun K hK => ?_
  simp [drunL, drunO, dwanted, dopS, own, plainOf, dop, dput, eval, ofVal, Then, Ex.then, Ex.inBlock, upd, dbin, Tag.isNN, nilTest, intCmp, dload, dpart, TyI.agg, dfieldAddr, dfield, dindexAddr, dindex, dlen, lenOk, dlookup, mapOf, assocM, keyFits, dmapUpdate, dcallee, dcall, tabOf, dbuiltin, dstore, DV.cells, setAt, dslice, dboundOk, dappend, appTag, rowsOf, elemOk, growLimit, dbuildCells, dbuildCells.go, structOk, fieldsOk, dbuildRows, goInt, init, arg2, EncR.and, EncR.one, Enc.book, Enc.sigd, Enc.agg]
  refine hK _ _ ?_ rfl; clear hK K
  refine Dwp.step t88 rfl fun K hK => ?_
  generalize T88 = T at *
  repeat (first
    | (refine Then.stepD rfl rfl (fun K1 hK1 => ?_); simp [Then1, Guarded, dopS, dop, eval, ofVal, upd, dfieldAddr, dload, dpart, TyI.agg, ty26, ty229, ty22, ty23, ty24, dcallee, g1]; refine hK1 _ _ ?_; clear hK1 K1)
    | (refine Then.stepG rfl rfl rfl (fun K1 hK1 => ?_); simp [Then1, Guarded, dopS, dop, eval, ofVal, upd, dfieldAddr, dload, dpart, TyI.agg, ty26, ty229, ty22, ty23, ty24, dcallee, g1]; refine hK1 _ _ ?_; clear hK1 K1)
    | (refine Then.stepN rfl rfl (fun K1 hK1 => ?_); simp [Then1, Guarded, dopS, dop, eval, ofVal, upd, dfieldAddr, dload, dpart, TyI.agg, ty26, ty229, ty22, ty23, ty24, dcallee, g1]; refine hK1 _ _ ?_; clear hK1 K1)
    | (refine Then.stepGN rfl rfl rfl (fun K1 hK1 => ?_); simp [Then1, Guarded, dopS, dop, eval, ofVal, upd, dfieldAddr, dload, dpart, TyI.agg, ty26, ty229, ty22, ty23, ty24, dcallee, g1]; refine hK1 _ _ ?_; clear hK1 K1))
  cases k1 : okSorts s.sorts with
  | false =>
    simp only [k1, Bool.false_eq_true, if_false] at hy
    cases hy
    repeat (first
      | (refine Then.stepD rfl rfl (fun K1 hK1 => ?_); simp [Then1, Guarded, dopS, dop, eval, ofVal, upd, dfieldAddr, dload, dpart, TyI.agg, ty26, ty229, ty22, ty23, ty24, dcallee, g1, k1]; refine hK1 _ _ ?_; clear hK1 K1)
      | (refine Then.stepG rfl rfl rfl (fun K1 hK1 => ?_); simp [Then1, Guarded, dopS, dop, eval, ofVal, upd, dfieldAddr, dload, dpart, TyI.agg, ty26, ty229, ty22, ty23, ty24, dcallee, g1, k1]; refine hK1 _ _ ?_; clear hK1 K1)
      | (refine Then.stepN rfl rfl (fun K1 hK1 => ?_); simp [Then1, Guarded, dopS, dop, eval, ofVal, upd, dfieldAddr, dload, dpart, TyI.agg, ty26, ty229, ty22, ty23, ty24, dcallee, g1, k1]; refine hK1 _ _ ?_; clear hK1 K1)
      | (refine Then.stepGN rfl rfl rfl (fun K1 hK1 => ?_); simp [Then1, Guarded, dopS, dop, eval, ofVal, upd, dfieldAddr, dload, dpart, TyI.agg, ty26, ty229, ty22, ty23, ty24, dcallee, g1, k1]; refine hK1 _ _ ?_; clear hK1 K1))
    refine Then.done (hK _ _ (Dwp.ret ?_) rfl)
    simp [Done, dresults, dres, frz, frz1, frz2, Enc.bool, Ex.then, upd]
  | true =>
  simp only [k1, if_true] at hy
  cases k2 : okBelow b s.below with
  | none => rw [k2] at hy; cases hy
  | some r =>
  have g2 : dcall T 326 [Enc.book.enc b, Enc.bels.enc s.below] = some (Enc.bool.enc r) := dcall2 (B := Enc.bels) (C := Enc.bool) (y := s.below) hTT k2
  simp only [Enc.book, Enc.agg, Enc.bool] at g2
  rw [k2] at hy
  repeat (first
    | (refine Then.stepD rfl rfl (fun K1 hK1 => ?_); simp [Then1, Guarded, dopS, dop, eval, ofVal, upd, dfieldAddr, dload, dpart, TyI.agg, ty26, ty229, ty22, ty23, ty24, dcallee, g1, k1, g2]; refine hK1 _ _ ?_; clear hK1 K1)
    | (refine Then.stepG rfl rfl rfl (fun K1 hK1 => ?_); simp [Then1, Guarded, dopS, dop, eval, ofVal, upd, dfieldAddr, dload, dpart, TyI.agg, ty26, ty229, ty22, ty23, ty24, dcallee, g1, k1, g2]; refine hK1 _ _ ?_; clear hK1 K1)
    | (refine Then.stepN rfl rfl (fun K1 hK1 => ?_); simp [Then1, Guarded, dopS, dop, eval, ofVal, upd, dfieldAddr, dload, dpart, TyI.agg, ty26, ty229, ty22, ty23, ty24, dcallee, g1, k1, g2]; refine hK1 _ _ ?_; clear hK1 K1)
    | (refine Then.stepGN rfl rfl rfl (fun K1 hK1 => ?_); simp [Then1, Guarded, dopS, dop, eval, ofVal, upd, dfieldAddr, dload, dpart, TyI.agg, ty26, ty229, ty22, ty23, ty24, dcallee, g1, k1, g2]; refine hK1 _ _ ?_; clear hK1 K1))
  cases r with
  | false =>
    cases hy
    repeat (first
      | (refine Then.stepD rfl rfl (fun K1 hK1 => ?_); simp [Then1, Guarded, dopS, dop, eval, ofVal, upd, dfieldAddr, dload, dpart, TyI.agg, ty26, ty229, ty22, ty23, ty24, dcallee, g1, k1, g2]; refine hK1 _ _ ?_; clear hK1 K1)
      | (refine Then.stepG rfl rfl rfl (fun K1 hK1 => ?_); simp [Then1, Guarded, dopS, dop, eval, ofVal, upd, dfieldAddr, dload, dpart, TyI.agg, ty26, ty229, ty22, ty23, ty24, dcallee, g1, k1, g2]; refine hK1 _ _ ?_; clear hK1 K1)
      | (refine Then.stepN rfl rfl (fun K1 hK1 => ?_); simp [Then1, Guarded, dopS, dop, eval, ofVal, upd, dfieldAddr, dload, dpart, TyI.agg, ty26, ty229, ty22, ty23, ty24, dcallee, g1, k1, g2]; refine hK1 _ _ ?_; clear hK1 K1)
      | (refine Then.stepGN rfl rfl rfl (fun K1 hK1 => ?_); simp [Then1, Guarded, dopS, dop, eval, ofVal, upd, dfieldAddr, dload, dpart, TyI.agg, ty26, ty229, ty22, ty23, ty24, dcallee, g1, k1, g2]; refine hK1 _ _ ?_; clear hK1 K1))
    refine Then.done (hK _ _ (Dwp.ret ?_) rfl)
    simp [Done, dresults, dres, frz, frz1, frz2, Enc.bool, Ex.then, upd]
  | true =>
  simp only [Option.some.injEq] at hy
  subst hy
  generalize decide (opNames s).Nodup = q3 at *
  generalize s.ops.any (predB (false, b)) = q4 at *
  generalize s.funs.any (predB (true, b)) = q5 at *
  generalize s.values.all b.has = q6 at *
  generalize decide s.values.Nodup = q7 at *
  repeat (first
    | (refine Then.stepD rfl rfl (fun K1 hK1 => ?_); simp [Then1, Guarded, dopS, dop, eval, ofVal, upd, dfieldAddr, dload, dpart, TyI.agg, ty26, ty229, ty22, ty23, ty24, dcallee, g1, k1, g2, g3, g4]; refine hK1 _ _ ?_; clear hK1 K1)
    | (refine Then.stepG rfl rfl rfl (fun K1 hK1 => ?_); simp [Then1, Guarded, dopS, dop, eval, ofVal, upd, dfieldAddr, dload, dpart, TyI.agg, ty26, ty229, ty22, ty23, ty24, dcallee, g1, k1, g2, g3, g4]; refine hK1 _ _ ?_; clear hK1 K1)
    | (refine Then.stepN rfl rfl (fun K1 hK1 => ?_); simp [Then1, Guarded, dopS, dop, eval, ofVal, upd, dfieldAddr, dload, dpart, TyI.agg, ty26, ty229, ty22, ty23, ty24, dcallee, g1, k1, g2, g3, g4]; refine hK1 _ _ ?_; clear hK1 K1)
    | (refine Then.stepGN rfl rfl rfl (fun K1 hK1 => ?_); simp [Then1, Guarded, dopS, dop, eval, ofVal, upd, dfieldAddr, dload, dpart, TyI.agg, ty26, ty229, ty22, ty23, ty24, dcallee, g1, k1, g2, g3, g4]; refine hK1 _ _ ?_; clear hK1 K1))
  cases q3 with
  | false =>
    repeat (first
      | (refine Then.stepD rfl rfl (fun K1 hK1 => ?_); simp [Then1, Guarded, dopS, dop, eval, ofVal, upd, dfieldAddr, dload, dpart, TyI.agg, ty26, ty229, ty22, ty23, ty24, dcallee, g1, k1, g2, g3, g4]; refine hK1 _ _ ?_; clear hK1 K1)
      | (refine Then.stepG rfl rfl rfl (fun K1 hK1 => ?_); simp [Then1, Guarded, dopS, dop, eval, ofVal, upd, dfieldAddr, dload, dpart, TyI.agg, ty26, ty229, ty22, ty23, ty24, dcallee, g1, k1, g2, g3, g4]; refine hK1 _ _ ?_; clear hK1 K1)
      | (refine Then.stepN rfl rfl (fun K1 hK1 => ?_); simp [Then1, Guarded, dopS, dop, eval, ofVal, upd, dfieldAddr, dload, dpart, TyI.agg, ty26, ty229, ty22, ty23, ty24, dcallee, g1, k1, g2, g3, g4]; refine hK1 _ _ ?_; clear hK1 K1)
      | (refine Then.stepGN rfl rfl rfl (fun K1 hK1 => ?_); simp [Then1, Guarded, dopS, dop, eval, ofVal, upd, dfieldAddr, dload, dpart, TyI.agg, ty26, ty229, ty22, ty23, ty24, dcallee, g1, k1, g2, g3, g4]; refine hK1 _ _ ?_; clear hK1 K1))
    refine Then.done (hK _ _ (Dwp.ret ?_) rfl)
    simp [Done, dresults, dres, frz, frz1, frz2, Enc.bool, Ex.then, upd]
  | true =>
  repeat (first
    | (refine Then.stepD rfl rfl (fun K1 hK1 => ?_); simp [Then1, Guarded, dopS, dop, eval, ofVal, upd, dfieldAddr, dload, dpart, TyI.agg, ty26, ty229, ty22, ty23, ty24, dcallee, g1, k1, g2, g3, g4, g5]; refine hK1 _ _ ?_; clear hK1 K1)
    | (refine Then.stepG rfl rfl rfl (fun K1 hK1 => ?_); simp [Then1, Guarded, dopS, dop, eval, ofVal, upd, dfieldAddr, dload, dpart, TyI.agg, ty26, ty229, ty22, ty23, ty24, dcallee, g1, k1, g2, g3, g4, g5]; refine hK1 _ _ ?_; clear hK1 K1)
    | (refine Then.stepN rfl rfl (fun K1 hK1 => ?_); simp [Then1, Guarded, dopS, dop, eval, ofVal, upd, dfieldAddr, dload, dpart, TyI.agg, ty26, ty229, ty22, ty23, ty24, dcallee, g1, k1, g2, g3, g4, g5]; refine hK1 _ _ ?_; clear hK1 K1)
    | (refine Then.stepGN rfl rfl rfl (fun K1 hK1 => ?_); simp [Then1, Guarded, dopS, dop, eval, ofVal, upd, dfieldAddr, dload, dpart, TyI.agg, ty26, ty229, ty22, ty23, ty24, dcallee, g1, k1, g2, g3, g4, g5]; refine hK1 _ _ ?_; clear hK1 K1))
  cases q4 with
  | true =>
    repeat (first
      | (refine Then.stepD rfl rfl (fun K1 hK1 => ?_); simp [Then1, Guarded, dopS, dop, eval, ofVal, upd, dfieldAddr, dload, dpart, TyI.agg, ty26, ty229, ty22, ty23, ty24, dcallee, g1, k1, g2, g3, g4, g5]; refine hK1 _ _ ?_; clear hK1 K1)
      | (refine Then.stepG rfl rfl rfl (fun K1 hK1 => ?_); simp [Then1, Guarded, dopS, dop, eval, ofVal, upd, dfieldAddr, dload, dpart, TyI.agg, ty26, ty229, ty22, ty23, ty24, dcallee, g1, k1, g2, g3, g4, g5]; refine hK1 _ _ ?_; clear hK1 K1)
      | (refine Then.stepN rfl rfl (fun K1 hK1 => ?_); simp [Then1, Guarded, dopS, dop, eval, ofVal, upd, dfieldAddr, dload, dpart, TyI.agg, ty26, ty229, ty22, ty23, ty24, dcallee, g1, k1, g2, g3, g4, g5]; refine hK1 _ _ ?_; clear hK1 K1)
      | (refine Then.stepGN rfl rfl rfl (fun K1 hK1 => ?_); simp [Then1, Guarded, dopS, dop, eval, ofVal, upd, dfieldAddr, dload, dpart, TyI.agg, ty26, ty229, ty22, ty23, ty24, dcallee, g1, k1, g2, g3, g4, g5]; refine hK1 _ _ ?_; clear hK1 K1))
    refine Then.done (hK _ _ (Dwp.ret ?_) rfl)
    simp [Done, dresults, dres, frz, frz1, frz2, Enc.bool, Ex.then, upd]
  | false =>
  repeat (first
    | (refine Then.stepD rfl rfl (fun K1 hK1 => ?_); simp [Then1, Guarded, dopS, dop, eval, ofVal, upd, dfieldAddr, dload, dpart, TyI.agg, ty26, ty229, ty22, ty23, ty24, dcallee, g1, k1, g2, g3, g4, g5, g6]; refine hK1 _ _ ?_; clear hK1 K1)
    | (refine Then.stepG rfl rfl rfl (fun K1 hK1 => ?_); simp [Then1, Guarded, dopS, dop, eval, ofVal, upd, dfieldAddr, dload, dpart, TyI.agg, ty26, ty229, ty22, ty23, ty24, dcallee, g1, k1, g2, g3, g4, g5, g6]; refine hK1 _ _ ?_; clear hK1 K1)
    | (refine Then.stepN rfl rfl (fun K1 hK1 => ?_); simp [Then1, Guarded, dopS, dop, eval, ofVal, upd, dfieldAddr, dload, dpart, TyI.agg, ty26, ty229, ty22, ty23, ty24, dcallee, g1, k1, g2, g3, g4, g5, g6]; refine hK1 _ _ ?_; clear hK1 K1)
    | (refine Then.stepGN rfl rfl rfl (fun K1 hK1 => ?_); simp [Then1, Guarded, dopS, dop, eval, ofVal, upd, dfieldAddr, dload, dpart, TyI.agg, ty26, ty229, ty22, ty23, ty24, dcallee, g1, k1, g2, g3, g4, g5, g6]; refine hK1 _ _ ?_; clear hK1 K1))
  cases q5 with
  | true =>
    repeat (first
      | (refine Then.stepD rfl rfl (fun K1 hK1 => ?_); simp [Then1, Guarded, dopS, dop, eval, ofVal, upd, dfieldAddr, dload, dpart, TyI.agg, ty26, ty229, ty22, ty23, ty24, dcallee, g1, k1, g2, g3, g4, g5, g6]; refine hK1 _ _ ?_; clear hK1 K1)
      | (refine Then.stepG rfl rfl rfl (fun K1 hK1 => ?_); simp [Then1, Guarded, dopS, dop, eval, ofVal, upd, dfieldAddr, dload, dpart, TyI.agg, ty26, ty229, ty22, ty23, ty24, dcallee, g1, k1, g2, g3, g4, g5, g6]; refine hK1 _ _ ?_; clear hK1 K1)
      | (refine Then.stepN rfl rfl (fun K1 hK1 => ?_); simp [Then1, Guarded, dopS, dop, eval, ofVal, upd, dfieldAddr, dload, dpart, TyI.agg, ty26, ty229, ty22, ty23, ty24, dcallee, g1, k1, g2, g3, g4, g5, g6]; refine hK1 _ _ ?_; clear hK1 K1)
      | (refine Then.stepGN rfl rfl rfl (fun K1 hK1 => ?_); simp [Then1, Guarded, dopS, dop, eval, ofVal, upd, dfieldAddr, dload, dpart, TyI.agg, ty26, ty229, ty22, ty23, ty24, dcallee, g1, k1, g2, g3, g4, g5, g6]; refine hK1 _ _ ?_; clear hK1 K1))
    refine Then.done (hK _ _ (Dwp.ret ?_) rfl)
    simp [Done, dresults, dres, frz, frz1, frz2, Enc.bool, Ex.then, upd]
  | false =>
  repeat (first
    | (refine Then.stepD rfl rfl (fun K1 hK1 => ?_); simp [Then1, Guarded, dopS, dop, eval, ofVal, upd, dfieldAddr, dload, dpart, TyI.agg, ty26, ty229, ty22, ty23, ty24, dcallee, g1, k1, g2, g3, g4, g5, g6, g7]; refine hK1 _ _ ?_; clear hK1 K1)
    | (refine Then.stepG rfl rfl rfl (fun K1 hK1 => ?_); simp [Then1, Guarded, dopS, dop, eval, ofVal, upd, dfieldAddr, dload, dpart, TyI.agg, ty26, ty229, ty22, ty23, ty24, dcallee, g1, k1, g2, g3, g4, g5, g6, g7]; refine hK1 _ _ ?_; clear hK1 K1)
    | (refine Then.stepN rfl rfl (fun K1 hK1 => ?_); simp [Then1, Guarded, dopS, dop, eval, ofVal, upd, dfieldAddr, dload, dpart, TyI.agg, ty26, ty229, ty22, ty23, ty24, dcallee, g1, k1, g2, g3, g4, g5, g6, g7]; refine hK1 _ _ ?_; clear hK1 K1)
    | (refine Then.stepGN rfl rfl rfl (fun K1 hK1 => ?_); simp [Then1, Guarded, dopS, dop, eval, ofVal, upd, dfieldAddr, dload, dpart, TyI.agg, ty26, ty229, ty22, ty23, ty24, dcallee, g1, k1, g2, g3, g4, g5, g6, g7]; refine hK1 _ _ ?_; clear hK1 K1))
  cases q6 with
  | false =>
    repeat (first
      | (refine Then.stepD rfl rfl (fun K1 hK1 => ?_); simp [Then1, Guarded, dopS, dop, eval, ofVal, upd, dfieldAddr, dload, dpart, TyI.agg, ty26, ty229, ty22, ty23, ty24, dcallee, g1, k1, g2, g3, g4, g5, g6, g7]; refine hK1 _ _ ?_; clear hK1 K1)
      | (refine Then.stepG rfl rfl rfl (fun K1 hK1 => ?_); simp [Then1, Guarded, dopS, dop, eval, ofVal, upd, dfieldAddr, dload, dpart, TyI.agg, ty26, ty229, ty22, ty23, ty24, dcallee, g1, k1, g2, g3, g4, g5, g6, g7]; refine hK1 _ _ ?_; clear hK1 K1)
      | (refine Then.stepN rfl rfl (fun K1 hK1 => ?_); simp [Then1, Guarded, dopS, dop, eval, ofVal, upd, dfieldAddr, dload, dpart, TyI.agg, ty26, ty229, ty22, ty23, ty24, dcallee, g1, k1, g2, g3, g4, g5, g6, g7]; refine hK1 _ _ ?_; clear hK1 K1)
      | (refine Then.stepGN rfl rfl rfl (fun K1 hK1 => ?_); simp [Then1, Guarded, dopS, dop, eval, ofVal, upd, dfieldAddr, dload, dpart, TyI.agg, ty26, ty229, ty22, ty23, ty24, dcallee, g1, k1, g2, g3, g4, g5, g6, g7]; refine hK1 _ _ ?_; clear hK1 K1))
    refine Then.done (hK _ _ (Dwp.ret ?_) rfl)
    simp [Done, dresults, dres, frz, frz1, frz2, Enc.bool, Ex.then, upd]
  | true =>
  repeat (first
    | (refine Then.stepD rfl rfl (fun K1 hK1 => ?_); simp [Then1, Guarded, dopS, dop, eval, ofVal, upd, dfieldAddr, dload, dpart, TyI.agg, ty26, ty229, ty22, ty23, ty24, dcallee, g1, k1, g2, g3, g4, g5, g6, g7, g8]; refine hK1 _ _ ?_; clear hK1 K1)
    | (refine Then.stepG rfl rfl rfl (fun K1 hK1 => ?_); simp [Then1, Guarded, dopS, dop, eval, ofVal, upd, dfieldAddr, dload, dpart, TyI.agg, ty26, ty229, ty22, ty23, ty24, dcallee, g1, k1, g2, g3, g4, g5, g6, g7, g8]; refine hK1 _ _ ?_; clear hK1 K1)
    | (refine Then.stepN rfl rfl (fun K1 hK1 => ?_); simp [Then1, Guarded, dopS, dop, eval, ofVal, upd, dfieldAddr, dload, dpart, TyI.agg, ty26, ty229, ty22, ty23, ty24, dcallee, g1, k1, g2, g3, g4, g5, g6, g7, g8]; refine hK1 _ _ ?_; clear hK1 K1)
    | (refine Then.stepGN rfl rfl rfl (fun K1 hK1 => ?_); simp [Then1, Guarded, dopS, dop, eval, ofVal, upd, dfieldAddr, dload, dpart, TyI.agg, ty26, ty229, ty22, ty23, ty24, dcallee, g1, k1, g2, g3, g4, g5, g6, g7, g8]; refine hK1 _ _ ?_; clear hK1 K1))
  refine Then.done (hK _ _ (Dwp.ret ?_) rfl)
  simp [Done, dresults, dres, frz, frz1, frz2, Enc.bool, Ex.then, upd]
end Go.Proofs.Yt
