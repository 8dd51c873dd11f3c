/- Contracts of functions of the program, by a machine over abstract values; part 9. No condition beyond those of each theorem. -/
import Derived.Test.YtfpejlbfdpeofaaGreatDoorSm7
import Derived.Shelf.Sort.Plain
import Derived.Shelf.Slices.In.SortNone
import Derived.Sort.Row
import Derived.Sort.Grow
import Derived.Sort.EncStr
import Derived.Shelf.SlGeneric
import Derived.Shelf.SlIter.Nil
import Derived.Ground.GgzProg
import Derived.StringKeys
namespace Go.Proofs.Yt
open Go Go.FA Go.Proofs
set_option linter.unusedVariables false
set_option linter.unusedSimpArgs false
set_option maxRecDepth 100000

/-- an entry of a map set -/
def mput {α : Type} (k : ByteArray) (v : α) : List (ByteArray × α) → List (ByteArray × α)
  | [] => [(k, v)]
  | p :: l => if k = p.1 then (k, v) :: l else p :: mput k v l
theorem putKey_enc {α : Type} (A : Enc α) (k : ByteArray) (v : α) : ∀ l : List (ByteArray × α),
    putKey (.string k) (A.enc v) (l.map fun p => .string p.1) (l.map fun p => A.enc p.2) = some ((mput k v l).map (fun p => .string p.1), (mput k v l).map fun p => A.enc p.2)
  | [] => rfl
  | p :: l => by
    simp only [List.map_cons, putKey, eqKey, mput]
    by_cases h : k = p.1
    · simp [h]
    · simp [h, putKey_enc A k v l]
theorem setOpd (o : OpD) : setAt [.lit (.string ⟨#[]⟩), .lit (.slice none 0 0), .lit (.string ⟨#[]⟩), .lit (.slice none 0 0), .lit (.int .i64 0), .lit (.int .i64 0), .lit (.slice none 0 0)] 0 (EncR.opd.enc o) = EncR.opd.enc o := rfl
def byName (l : List OpD) : List (ByteArray × OpD) := l.foldl (fun m o => mput o.name o m) []
theorem byName_take {l : List OpD} {i : Nat} (h : i < l.length) : byName (l.take (i + 1)) = mput l[i].name l[i] (byName (l.take i)) := by
  unfold byName
  rw [List.take_succ_eq_append_getElem h, List.foldl_append]; rfl
def s322 : Sp := sp (arg1 Enc.ops) (Enc.map Enc.opd) (fun l => if l.length ≤ lim then some (byName l) else none)
def inv322 (l : List OpD) : Nat → (Nat → DV) → St → Prop := fun k a σ => ∃ i, i ≤ l.length ∧ k = l.length - i ∧ a 3 = .map 1 ∧
  σ.objs 1 = some (.map ((byName (l.take i)).map fun p => .string p.1) ((byName (l.take i)).map fun p => .agg (EncR.opd.enc p.2))) ∧
  a 7 = .slice 7 .none (l.map EncR.opd.enc) ∧ a 8 = .lit (.int .i64 l.length) ∧ a 9 = .lit (.int .i64 i) ∧ 1 < σ.n
theorem c322 : CallSound Tryz.prog 322 s322 := by
  refine CallSound.of_sp (T := tabOf []) Tryz.func322 rfl (Nat.le_of_ble_eq_true rfl) fun E l y hy => ?_
  by_cases hlim : l.length ≤ lim <;> simp [hlim] at hy
  subst hy
  unfold lim at hlim
  refine Dwp.step tab0 rfl fun K hK => ?_
  simp [drunL, drunO, dwanted, dopS, own, plainOf, dop, dput, eval, ofVal, Then, Ex.then, Ex.inBlock, upd, dbin, Tag.isNN, nilTest, intCmp, dload, dpart, TyI.agg, dfieldAddr, dfield, dindexAddr, dindex, dlen, lenOk, dlookup, mapOf, assocM, keyFits, dmapUpdate, dcallee, dcall, tabOf, dbuiltin, dstore, DV.cells, setAt, dslice, dboundOk, dappend, appTag, rowsOf, elemOk, growLimit, dbuildCells, dbuildCells.go, structOk, fieldsOk, dbuildRows, goInt]
  refine hK _ _ ?_ rfl; clear hK K
  refine Dwp.step tab0 rfl fun K hK => ?_
  simp [drunL, drunO, dwanted, dopS, own, plainOf, dop, dput, eval, ofVal, Then, Ex.then, Ex.inBlock, upd, dbin, Tag.isNN, nilTest, intCmp, dload, dpart, TyI.agg, dfieldAddr, dfield, dindexAddr, dindex, dlen, lenOk, dlookup, mapOf, assocM, keyFits, dmapUpdate, dcallee, dcall, tabOf, dbuiltin, dstore, DV.cells, setAt, dslice, dboundOk, dappend, appTag, rowsOf, elemOk, growLimit, dbuildCells, dbuildCells.go, structOk, fieldsOk, dbuildRows, goInt]
  refine hK _ _ ?_ rfl; clear hK K
  refine Dwp.seq ?_
  refine Dwp.step tab0 rfl fun K hK => ?_
  simp [drunL, drunO, dwanted, dopS, own, plainOf, dop, dput, eval, ofVal, Then, Ex.then, Ex.inBlock, upd, dbin, Tag.isNN, nilTest, intCmp, dload, dpart, TyI.agg, dfieldAddr, dfield, dindexAddr, dindex, dlen, lenOk, dlookup, mapOf, assocM, keyFits, dmapUpdate, dcallee, dcall, tabOf, dbuiltin, dstore, DV.cells, setAt, dslice, dboundOk, dappend, appTag, rowsOf, elemOk, growLimit, dbuildCells, dbuildCells.go, structOk, fieldsOk, dbuildRows, goInt, init, arg1, EncR.one, Enc.ops, Enc.slice, ty24]
  refine hK _ _ ?_ rfl; clear hK K
  refine Dwp.block (Dwp.loop (inv322 l) l.length ⟨0, by simp, by simp, by simp [upd, σ0], by simp [upd, σ0, byName], by simp [upd], by simp [upd], by simp [upd], by simp [σ0]⟩ ?_)
  rintro k a σ ⟨i, hi, rfl, h3, hobj, h7, h8, h9, hn⟩
  refine Dwp.step tab0 rfl fun K hK => ?_
  simp [drunL, drunO, dwanted, dopS, own, plainOf, dop, dput, eval, ofVal, Then, Ex.then, Ex.inBlock, upd, dbin, Tag.isNN, nilTest, intCmp, dload, dpart, TyI.agg, dfieldAddr, dfield, dindexAddr, dindex, dlen, lenOk, dlookup, mapOf, assocM, keyFits, dmapUpdate, dcallee, dcall, tabOf, dbuiltin, dstore, DV.cells, setAt, dslice, dboundOk, dappend, appTag, rowsOf, elemOk, growLimit, dbuildCells, dbuildCells.go, structOk, fieldsOk, dbuildRows, goInt, h8, h9]
  refine hK _ _ ?_ rfl; clear hK K
  by_cases hlt : i < l.length
  · refine Dwp.seq (Dwp.condT (by simp [eval, upd, hlt]) (Dwp.skip ?_))
    refine Dwp.seq (Dwp.block ?_)
    have hne : (1 : Nat) ≠ σ.n + 1 + 2 := by omega
    refine Dwp.step tab0 rfl fun K hK => ?_
    simp [drunL, drunO, dwanted, dopS, own, plainOf, dop, dput, eval, ofVal, Then, Ex.then, Ex.inBlock, upd, dbin, Tag.isNN, nilTest, intCmp, dload, dpart, TyI.agg, dfieldAddr, dfield, dindexAddr, dindex, dlen, lenOk, dlookup, mapOf, assocM, keyFits, dmapUpdate, dcallee, dcall, tabOf, dbuiltin, dstore, DV.cells, setAt, dslice, dboundOk, dappend, appTag, rowsOf, elemOk, growLimit, dbuildCells, dbuildCells.go, structOk, fieldsOk, dbuildRows, goInt, h7, h9, ty24, ty83, hlt, setOpd]
    refine hK _ _ ?_ rfl; clear hK K
    refine Dwp.reg tab0 rfl fun K hK => ?_
    have hP := putKey_enc Enc.opd l[i].name l[i] (byName (l.take i))
    simp only [Enc.opd, Enc.agg] at hP
    simp [drunL, drunO, dwanted, dopS, own, plainOf, dop, dput, eval, ofVal, Then, Ex.then, Ex.inBlock, upd, dbin, Tag.isNN, nilTest, intCmp, dload, dpart, TyI.agg, dfieldAddr, dfield, dindexAddr, dindex, dlen, lenOk, dlookup, mapOf, assocM, keyFits, dmapUpdate, dcallee, dcall, tabOf, dbuiltin, dstore, DV.cells, setAt, dslice, dboundOk, dappend, appTag, rowsOf, elemOk, growLimit, dbuildCells, dbuildCells.go, structOk, fieldsOk, dbuildRows, goInt, h3, hobj, hne, ty83, ty9, ty154, hP]
    refine hK _ _ ?_ rfl; clear hK K
    refine Dwp.reg tab0 rfl fun K hK => ?_
    simp [drunL, drunO, dwanted, dopS, own, plainOf, dop, dput, eval, ofVal, Then, Ex.then, Ex.inBlock, upd, dbin, Tag.isNN, nilTest, intCmp, dload, dpart, TyI.agg, dfieldAddr, dfield, dindexAddr, dindex, dlen, lenOk, dlookup, mapOf, assocM, keyFits, dmapUpdate, dcallee, dcall, tabOf, dbuiltin, dstore, DV.cells, setAt, dslice, dboundOk, dappend, appTag, rowsOf, elemOk, growLimit, dbuildCells, dbuildCells.go, structOk, fieldsOk, dbuildRows, goInt, h9]
    refine hK _ _ ?_ rfl; clear hK K
    have hbt := byName_take hlt
    exact ⟨l.length - (i + 1), by omega, i + 1, by omega, rfl, by simp [upd, h3], by simp [upd, hbt], by simp [upd, h7], by simp [upd, h8], by simp [upd, wrap_small (n := (i : Int) + 1) (by omega) (by omega)], by simp <;> omega⟩
  · refine Dwp.seq (Dwp.condF (by simp [eval, upd, hlt]) (Dwp.exit ?_))
    rw [List.take_of_length_le (by omega)] at hobj
    refine Dwp.step tab0 rfl fun K hK => ?_
    simp [drunL, drunO, dwanted, dopS, own, plainOf, dop, dput, eval, ofVal, Then, Ex.then, Ex.inBlock, upd, dbin, Tag.isNN, nilTest, intCmp, dload, dpart, TyI.agg, dfieldAddr, dfield, dindexAddr, dindex, dlen, lenOk, dlookup, mapOf, assocM, keyFits, dmapUpdate, dcallee, dcall, tabOf, dbuiltin, dstore, DV.cells, setAt, dslice, dboundOk, dappend, appTag, rowsOf, elemOk, growLimit, dbuildCells, dbuildCells.go, structOk, fieldsOk, dbuildRows, goInt, h3]
    refine hK _ _ (Dwp.ret ?_) rfl
    have hd := decMap_enc Enc.opd (byName l)
    simp [Done, dresults, dres, frz, frz1, frz2, upd, hobj, Enc.map]
    exact hd
theorem e322 : Go.FA.Good Tryz.prog (322, s322) := ⟨c322, Tryz.f322, _, Tryz.func322, rfl, by decide⟩
end Go.Proofs.Yt
namespace Go.Proofs.Yt
open Go Go.FA Go.Proofs
set_option linter.unusedVariables false
set_option linter.unusedSimpArgs false
set_option maxRecDepth 100000

def addBel (m : List (ByteArray × List ByteArray)) (x : Bel) : List (ByteArray × List ByteArray) := match mget x.low m with | some l => mput x.low (l ++ [x.high]) m | none => m
def newBook (s : SigD) : Book := ⟨s.below.foldl addBel ((given ++ s.sorts).foldl (fun m n => mput n [] m) []), byName s.ops, byName s.funs⟩
def s309 : Sp := sp (arg1 Enc.sigd) Enc.book (fun s => if s.within then some (newBook s) else none)

def noBook : DV := .agg [.lit (.map none), .lit (.map none), .lit (.map none)]
/-- a book, or the empty one, and an error's number -/
def Enc.opened : Enc (Option Book × Int) where
  enc x := .tuple [(match x.1 with | some b => Enc.book.enc b | none => noBook), .lit (.int .i64 x.2)]
  dec d := match d with
    | .tuple [x, .lit (.int .i64 e)] => match x with
      | .agg [.lit (.map none), .lit (.map none), .lit (.map none)] => some (none, e)
      | x => (Enc.book.dec x).map fun b => (some b, e)
    | _ => none
  le d x h := by
    split at h
    · intro C w v hv
      simp only [VRel] at hv ⊢
      obtain ⟨ys, h1, h2⟩ := hv
      split at h
      · simp at h; subst h; exact ⟨ys, h1, h2⟩
      · obtain ⟨b, hb, rfl⟩ := Option.map_eq_some_iff.1 h
        exact ⟨ys, h1, LRel_le (.cons (Enc.book.le _ _ hb) (.cons (DLe.refl _) .nil)) h2⟩
    · simp at h
  pure x := by
    obtain ⟨o, e⟩ := x
    cases o <;> simp [pureB, pureL, noBook, Enc.book.pure]
  de x := by
    obtain ⟨o, e⟩ := x
    cases o with
    | none => rfl
    | some b => simp [Enc.book, Enc.agg, EncR.book, Enc.map]; exact EncR.book.de b
def openF (s : SigD) (names : List ByteArray) : Option (Option Book × Int) :=
  if s.ops.length ≤ lim ∧ s.funs.length ≤ lim ∧ names.length ≤ lim then
    (if s.within then (match validB (newBook s) s with
      | none => none
      | some false => some (none, 2)
      | some true => if names.all (newBook s).has then some (some (newBook s), 0) else some (none, 13)) else some (none, 2)) else none
def s284 : Sp := sp (arg2 Enc.sigd Enc.strs) Enc.opened (fun x => openF x.1 x.2)
abbrev T44 : Tab := tabOf [(308, s308), (309, s309), (310, s310), (311, s311)]
theorem frzBook (σ : St) (b : Book) : (EncR.book.enc b).map (frz1 σ) = EncR.book.enc b := rfl
theorem setBook (b : Book) : setAt [.lit (.map none), .lit (.map none), .lit (.map none)] 0 (EncR.book.enc b) = EncR.book.enc b := rfl
theorem c284 (e309 : Go.FA.Good Tryz.prog (309, s309)) (e310 : Go.FA.Good Tryz.prog (310, s310)) : CallSound Tryz.prog 284 s284 := by
  have t44 : TabOk Tryz.prog T44 := .cons e308 (.cons e309 (.cons e310 (.cons e311 .nil)))
  refine CallSound.of_sp (T := T44) Tryz.func284 rfl (Nat.le_of_ble_eq_true rfl) fun E x y hy => ?_
  obtain ⟨s, names⟩ := x
  simp only [openF] at hy
  split at hy
  case isFalse => cases hy
  next hsz =>
  obtain ⟨z1, z2, z3⟩ := hsz
  have g1 : dcall T44 308 [Enc.sigd.enc s] = some (Enc.bool.enc s.within) := dcall1 (A := Enc.sigd) (B := Enc.bool) rfl (if_pos ⟨z1, z2⟩)
  simp only [Enc.bool, Enc.sigd, Enc.agg] at g1
  refine Dwp.step t44 rfl fun K hK => ?_
  simp [drunL, drunO, dwanted, dopS, own, plainOf, dop, dput, eval, ofVal, Then, Ex.then, Ex.inBlock, upd, dbin, Tag.isNN, nilTest, intCmp, dload, dpart, TyI.agg, dfieldAddr, dfield, dindexAddr, dindex, dlen, lenOk, dlookup, mapOf, assocM, keyFits, dmapUpdate, dcallee, dcall, tabOf, dbuiltin, dstore, DV.cells, setAt, dslice, dboundOk, dappend, appTag, rowsOf, elemOk, growLimit, dbuildCells, dbuildCells.go, structOk, fieldsOk, dbuildRows, goInt, init, arg2, EncR.and, EncR.one, Enc.sigd, Enc.agg, ty229]
  refine hK _ _ ?_ rfl; clear hK K
  refine Dwp.seq ?_
  refine Dwp.step t44 rfl fun K hK => ?_
  cases k1 : s.within with
  | false =>
    simp only [k1, Bool.false_eq_true, if_false] at hy
    cases hy
    repeat (first
      | (refine Then.stepD rfl rfl (fun K1 hK1 => ?_); simp [Then1, Guarded, dopS, dop, eval, ofVal, upd, dload, dpart, TyI.agg, ty26, dcallee, g1, k1]; refine hK1 _ _ ?_; clear hK1 K1)
      | (refine Then.stepG rfl rfl rfl (fun K1 hK1 => ?_); simp [Then1, Guarded, dopS, dop, eval, ofVal, upd, dload, dpart, TyI.agg, ty26, dcallee, g1, k1]; refine hK1 _ _ ?_; clear hK1 K1)
      | (refine Then.stepN rfl rfl (fun K1 hK1 => ?_); simp [Then1, Guarded, dopS, dop, eval, ofVal, upd, dload, dpart, TyI.agg, ty26, dcallee, g1, k1]; refine hK1 _ _ ?_; clear hK1 K1)
      | (refine Then.stepGN rfl rfl rfl (fun K1 hK1 => ?_); simp [Then1, Guarded, dopS, dop, eval, ofVal, upd, dload, dpart, TyI.agg, ty26, dcallee, g1, k1]; refine hK1 _ _ ?_; clear hK1 K1))
    refine Then.done ?_
    refine hK _ _ ?_ rfl; clear hK K
    refine Dwp.condT (by simp [eval, upd]) ?_
    refine Dwp.step t44 rfl fun K hK => ?_
    simp [drunL, drunO, dwanted, dopS, own, plainOf, dop, dput, eval, ofVal, Then, Ex.then, Ex.inBlock, upd, dbin, Tag.isNN, nilTest, intCmp, dload, dpart, TyI.agg, dfieldAddr, dfield, dindexAddr, dindex, dlen, lenOk, dlookup, mapOf, assocM, keyFits, dmapUpdate, dcallee, dcall, tabOf, dbuiltin, dstore, DV.cells, setAt, dslice, dboundOk, dappend, appTag, rowsOf, elemOk, growLimit, dbuildCells, dbuildCells.go, structOk, fieldsOk, dbuildRows, goInt, ty229, ty155, ty154]
    refine hK _ _ (Dwp.ret ?_) rfl
    simp [Done, dresults, dres, frz, frz1, frz2, Ex.then, upd, dload, dpart, TyI.agg, ty229, Enc.opened]
  | true =>
  simp only [k1, if_true] at hy
  repeat (first
    | (refine Then.stepD rfl rfl (fun K1 hK1 => ?_); simp [Then1, Guarded, dopS, dop, eval, ofVal, upd, dload, dpart, TyI.agg, ty26, dcallee, g1, k1]; refine hK1 _ _ ?_; clear hK1 K1)
    | (refine Then.stepG rfl rfl rfl (fun K1 hK1 => ?_); simp [Then1, Guarded, dopS, dop, eval, ofVal, upd, dload, dpart, TyI.agg, ty26, dcallee, g1, k1]; refine hK1 _ _ ?_; clear hK1 K1)
    | (refine Then.stepN rfl rfl (fun K1 hK1 => ?_); simp [Then1, Guarded, dopS, dop, eval, ofVal, upd, dload, dpart, TyI.agg, ty26, dcallee, g1, k1]; refine hK1 _ _ ?_; clear hK1 K1)
    | (refine Then.stepGN rfl rfl rfl (fun K1 hK1 => ?_); simp [Then1, Guarded, dopS, dop, eval, ofVal, upd, dload, dpart, TyI.agg, ty26, dcallee, g1, k1]; refine hK1 _ _ ?_; clear hK1 K1))
  refine Then.done ?_
  refine hK _ _ ?_ rfl; clear hK K
  refine Dwp.condF (by simp [eval, upd]) (Dwp.skip ?_)
  have g2 : dcall T44 309 [Enc.sigd.enc s] = some (Enc.book.enc (newBook s)) := dcall1 (A := Enc.sigd) (B := Enc.book) rfl (if_pos k1)
  simp only [Enc.book, Enc.sigd, Enc.agg] at g2
  have h88 : T44 310 = some s310 := rfl
  have h54 : T44 311 = some s311 := rfl
  generalize newBook s = b at *
  refine Dwp.step t44 rfl fun K hK => ?_
  simp [drunL, dwanted, dopS, own, dop, dput, eval, ofVal, Then, upd, dload, dpart, TyI.agg, ty26, ty229, dcallee, g2, DV.cells, dstore, setBook]
  refine hK _ _ ?_ rfl; clear hK K
  refine Dwp.seq ?_
  cases k2 : validB b s with
  | none => rw [k2] at hy; cases hy
  | some r =>
  rw [k2] at hy
  have g3 : dcall T44 310 [Enc.book.enc b, Enc.sigd.enc s] = some (Enc.bool.enc r) := dcall2 (B := Enc.sigd) (C := Enc.bool) (y := s) h88 k2
  simp only [Enc.book, Enc.sigd, Enc.agg, Enc.bool] at g3
  refine Dwp.step t44 rfl fun K hK => ?_
  cases r with
  | false =>
    cases hy
    simp [drunL, dwanted, dopS, own, dop, dput, eval, ofVal, Then, upd, dload, dpart, TyI.agg, ty26, ty229, dcallee, g3]
    refine hK _ _ ?_ rfl; clear hK K
    refine Dwp.condT (by simp [eval, upd]) ?_
    refine Dwp.step t44 rfl fun K hK => ?_
    simp [drunL, drunO, dwanted, dopS, own, plainOf, dop, dput, eval, ofVal, Then, Ex.then, Ex.inBlock, upd, dbin, Tag.isNN, nilTest, intCmp, dload, dpart, TyI.agg, dfieldAddr, dfield, dindexAddr, dindex, dlen, lenOk, dlookup, mapOf, assocM, keyFits, dmapUpdate, dcallee, dcall, tabOf, dbuiltin, dstore, DV.cells, setAt, dslice, dboundOk, dappend, appTag, rowsOf, elemOk, growLimit, dbuildCells, dbuildCells.go, structOk, fieldsOk, dbuildRows, goInt, ty229, ty155, ty154]
    refine hK _ _ (Dwp.ret ?_) rfl
    simp [Done, dresults, dres, frz, frz1, frz2, Ex.then, upd, dload, dpart, TyI.agg, ty229, Enc.opened]
  | true =>
    simp [drunL, dwanted, dopS, own, dop, dput, eval, ofVal, Then, upd, dload, dpart, TyI.agg, ty26, ty229, dcallee, g3]
    refine hK _ _ ?_ rfl; clear hK K
    refine Dwp.condF (by simp [eval, upd]) (Dwp.skip ?_)
    refine Dwp.seq ?_
    have g4 := call311 T44 h54 b (Enc.strs.enc names) names (Enc.strs.de _) z3
    refine Dwp.step t44 rfl fun K hK => ?_
    cases k3 : names.all b.has with
    | false =>
      simp only [k3, Bool.false_eq_true, if_false] at hy
      cases hy
      rw [k3] at g4
      simp [drunL, dwanted, dopS, own, dop, dput, eval, ofVal, Then, upd, init, arg2, EncR.and, EncR.one, dload, dpart, TyI.agg, ty26, ty229, dcallee, g4]
      refine hK _ _ ?_ rfl; clear hK K
      refine Dwp.condT (by simp [eval, upd]) ?_
      refine Dwp.step t44 rfl fun K hK => ?_
      simp [drunL, drunO, dwanted, dopS, own, plainOf, dop, dput, eval, ofVal, Then, Ex.then, Ex.inBlock, upd, dbin, Tag.isNN, nilTest, intCmp, dload, dpart, TyI.agg, dfieldAddr, dfield, dindexAddr, dindex, dlen, lenOk, dlookup, mapOf, assocM, keyFits, dmapUpdate, dcallee, dcall, tabOf, dbuiltin, dstore, DV.cells, setAt, dslice, dboundOk, dappend, appTag, rowsOf, elemOk, growLimit, dbuildCells, dbuildCells.go, structOk, fieldsOk, dbuildRows, goInt, ty229, ty155, ty154]
      refine hK _ _ (Dwp.ret ?_) rfl
      simp [Done, dresults, dres, frz, frz1, frz2, Ex.then, upd, dload, dpart, TyI.agg, ty229, Enc.opened]
    | true =>
      simp only [k3, if_true] at hy
      cases hy
      rw [k3] at g4
      simp [drunL, dwanted, dopS, own, dop, dput, eval, ofVal, Then, upd, init, arg2, EncR.and, EncR.one, dload, dpart, TyI.agg, ty26, ty229, dcallee, g4]
      refine hK _ _ ?_ rfl; clear hK K
      refine Dwp.condF (by simp [eval, upd]) (Dwp.skip ?_)
      refine Dwp.step t44 rfl fun K hK => ?_
      simp [drunL, dwanted, dopS, own, dop, dput, eval, ofVal, Then, upd, dload, dpart, TyI.agg, ty229, DV.cells, dstore, setBook]
      refine hK _ _ (Dwp.ret ?_) rfl
      have := Enc.opened.de (some b, 0)
      simp [Done, dresults, dres, frz, frz1, frz2, upd, dload, dpart, TyI.agg, ty229, frzBook]
      exact this
end Go.Proofs.Yt
namespace Go.Proofs.Yt
open Go Go.FA Go.Proofs
set_option linter.unusedVariables false
set_option linter.unusedSimpArgs false
set_option maxRecDepth 100000

theorem call284 (T : Tab) (hT : T 284 = some s284) (s : SigD) (d : DV) (names : List ByteArray) (r : Option Book × Int) (hd : Enc.strs.dec d = some names) (hr : openF s names = some r) : dcall T 284 [.agg (EncR.sigd.enc s), d] = some (Enc.opened.enc r) := by
  simp [dcall, hT, s284, sp, arg2, EncR.and, EncR.one, Enc.sigd, Enc.agg, EncR.sigd.de, hd, hr]
theorem setNo : setAt [DV.lit (.map none), .lit (.map none), .lit (.map none)] 0 [DV.lit (.map none), .lit (.map none), .lit (.map none)] = [DV.lit (.map none), .lit (.map none), .lit (.map none)] := rfl
def s237 : Sp := sp (arg1 Enc.sigd) Enc.bool (fun s => (openF s []).map fun r => decide (r.2 = 0))
theorem c237 (e284 : Go.FA.Good Tryz.prog (284, s284)) : CallSound Tryz.prog 237 s237 := by
  have t12 : TabOk Tryz.prog (tabOf [(284, s284)]) := .cons e284 .nil
  refine CallSound.of_sp (T := tabOf [(284, s284)]) Tryz.func237 rfl (Nat.le_of_ble_eq_true rfl) fun E s y hy => ?_
  obtain ⟨⟨o, e⟩, hr, rfl⟩ := Option.map_eq_some_iff.1 hy
  have g := call284 (tabOf [(284, s284)]) rfl s (.lit (.slice none 0 0)) [] _ rfl hr
  refine Dwp.step t12 rfl fun K hK => ?_
  simp [drunL, drunO, dwanted, dopS, own, plainOf, dop, dput, eval, ofVal, Then, Ex.then, Ex.inBlock, upd, dbin, Tag.isNN, nilTest, intCmp, dload, dpart, TyI.agg, dfieldAddr, dfield, dindexAddr, dindex, dlen, lenOk, dlookup, mapOf, assocM, keyFits, dmapUpdate, dcallee, dcall, tabOf, dbuiltin, dstore, DV.cells, setAt, dslice, dboundOk, dappend, appTag, rowsOf, elemOk, growLimit, dbuildCells, dbuildCells.go, structOk, fieldsOk, dbuildRows, goInt, init, arg1, EncR.one, Enc.sigd, Enc.agg]
  refine hK _ _ ?_ rfl; clear hK K
  refine Dwp.step t12 rfl fun K hK => ?_
  generalize tabOf [(284, s284)] = T at *
  have h2 : (e == 0) = decide (e = 0) := rfl
  cases o with
  | none =>
    simp only [Enc.opened, noBook] at g
    simp [drunL, dwanted, dopS, own, dop, dput, eval, ofVal, Then, upd, dload, dpart, TyI.agg, ty26, ty229, dcallee, g, DV.cells, dstore, setNo]
    refine hK _ _ ?_ rfl; clear hK K
    refine Dwp.step t12 rfl fun K hK => ?_
    simp [drunL, dwanted, dopS, own, dop, dput, eval, ofVal, Then, upd, dbin, intCmp]
    refine hK _ _ (Dwp.ret ?_) rfl
    simp [Done, dresults, dres, frz, frz1, frz2, Enc.bool, upd, h2]
  | some b =>
    simp only [Enc.opened, Enc.book, Enc.agg] at g
    simp [drunL, dwanted, dopS, own, dop, dput, eval, ofVal, Then, upd, dload, dpart, TyI.agg, ty26, ty229, dcallee, g, DV.cells, dstore, setBook]
    refine hK _ _ ?_ rfl; clear hK K
    refine Dwp.step t12 rfl fun K hK => ?_
    simp [drunL, dwanted, dopS, own, dop, dput, eval, ofVal, Then, upd, dbin, intCmp]
    refine hK _ _ (Dwp.ret ?_) rfl
    simp [Done, dresults, dres, frz, frz1, frz2, Enc.bool, upd, h2]
end Go.Proofs.Yt
namespace Go.Proofs.Yt
open Go Go.FA Go.Proofs
set_option linter.unusedVariables false
set_option linter.unusedSimpArgs false
set_option maxRecDepth 100000

def Enc.boolErr : Enc (Bool × Int) := Enc.tup (arg2 Enc.bool Enc.i64)
/-- an answer with a book that was opened, or the error -/
def withBook {β : Type} (r : Option (Option Book × Int)) (no : β) (f : Book → Option β) : Option (β × Int) := match r with
  | some (some b, e) => if e = 0 then (f b).map (·, 0) else none
  | some (none, e) => if e = 0 then none else some (no, e)
  | none => none
def s14 : Sp := sp (arg3 Enc.sigd Enc.str Enc.str) Enc.boolErr (fun x => withBook (openF x.1 [x.2.1, x.2.2]) false fun b => b.atMost x.2.1 x.2.2)
abbrev T14 : Tab := tabOf [(284, s284), (314, s314)]
end Go.Proofs.Yt
namespace Go.Proofs.Yt
open Go Go.FA Go.Proofs
set_option linter.unusedVariables false
set_option linter.unusedSimpArgs false
set_option maxRecDepth 100000

/-- one at most the other -/
def Book.meet (b : Book) (lo hi : ByteArray) : Option Bool := match b.atMost lo hi with
  | some true => some true
  | some false => b.atMost hi lo
  | none => none
def s16 : Sp := sp (arg3 Enc.sigd Enc.str Enc.str) Enc.boolErr (fun x => withBook (openF x.1 [x.2.1, x.2.2]) false fun b => b.meet x.2.1 x.2.2)
abbrev T16 : Tab := tabOf [(284, s284), (314, s314)]
end Go.Proofs.Yt
namespace Go.Proofs.Yt
open Go Go.FA Go.Proofs
set_option linter.unusedVariables false
set_option linter.unusedSimpArgs false
set_option maxRecDepth 100000

def atMostF (s : SigD) (lo hi : ByteArray) : Option (Bool × Int) := withBook (openF s [lo, hi]) false fun b => b.atMost lo hi
/-- the law's own: AtMost is true and there is no error -/
def s40 : Sp := sp (arg3 Enc.sigd Enc.str Enc.str) Enc.bool (fun x => (atMostF x.1 x.2.1 x.2.2).map fun r => r.1 && decide (r.2 = 0))
end Go.Proofs.Yt
namespace Go.Proofs.Yt
open Go Go.FA Go.Proofs
set_option linter.unusedVariables false
set_option linter.unusedSimpArgs false
set_option maxRecDepth 100000

/-! a map under way whose values are slices that are appended to: each has its own token -/
abbrev Tk := List ByteArray × Option (Nat × Nat)
def Tk.dv (v : Tk) : DV := match v.2 with
  | some (t, g) => .slice 1 (.tok t g) (v.1.map fun s => [DV.lit (.string s)])
  | none => .lit (.slice none 0 0)
def tkl (m : List (ByteArray × Tk)) : List Nat := m.filterMap fun p => p.2.2.map (·.1)
def TkOk (toks : Nat → Option Nat) (n : Nat) : List (ByteArray × Tk) → Prop
  | [] => True
  | p :: m => (match p.2.2 with | none => p.2.1 = [] | some (t, g) => toks t = some g ∧ t < n ∧ t ∉ tkl m) ∧ TkOk toks n m
def strip (m : List (ByteArray × Tk)) : List (ByteArray × List ByteArray) := m.map fun p => (p.1, p.2.1)

theorem assoc_dv {α : Type} (f : α → DV) (k : ByteArray) : ∀ m : List (ByteArray × α), assoc (.string k) (m.map fun p => .string p.1) (m.map fun p => f p.2) = some ((mget k m).map f)
  | [] => rfl
  | p :: m => by
    simp only [List.map_cons, assoc, eqKey, mget, assoc_dv f k m]
    by_cases h : k = p.1
    · simp [h]
    · simp [h]
theorem putKey_dv {α : Type} (f : α → DV) (k : ByteArray) (v : α) : ∀ m : List (ByteArray × α),
    putKey (.string k) (f v) (m.map fun p => .string p.1) (m.map fun p => f p.2) = some ((mput k v m).map (fun p => .string p.1), (mput k v m).map fun p => f p.2)
  | [] => rfl
  | p :: m => by
    simp only [List.map_cons, putKey, eqKey, mput]
    by_cases h : k = p.1
    · simp [h]
    · simp [h, putKey_dv f k v m]
theorem strip_put (k : ByteArray) (v : Tk) : ∀ m, strip (mput k v m) = mput k v.1 (strip m)
  | [] => rfl
  | p :: m => by
    simp only [mput, strip, List.map_cons]
    by_cases h : k = p.1
    · simp [h]
    · simp only [h, if_false, List.map_cons]
      congr 1
      exact strip_put k v m
theorem strip_get (k : ByteArray) : ∀ m, mget k (strip m) = (mget k m).map (·.1)
  | [] => rfl
  | p :: m => by
    simp only [mget, strip, List.map_cons]
    by_cases h : k = p.1
    · simp [h]
    · simp only [h, if_false]
      exact strip_get k m
theorem tkl_lt {toks : Nat → Option Nat} {n : Nat} : ∀ {m}, TkOk toks n m → ∀ t ∈ tkl m, t < n
  | [], _, t, ht => by simp [tkl] at ht
  | p :: m, h, t, ht => by
    obtain ⟨h1, h2⟩ := h
    obtain ⟨k, l, o⟩ := p
    cases o with
    | none => exact tkl_lt h2 t (by simpa [tkl] using ht)
    | some x =>
      simp only [tkl, List.filterMap_cons, Option.map_some, List.mem_cons] at ht
      rcases ht with rfl | ht
      · exact h1.2.1
      · exact tkl_lt h2 t ht
theorem TkOk.other {toks : Nat → Option Nat} {n n' t : Nat} {x : Option Nat} (hn : n ≤ n') : ∀ {m}, TkOk toks n m → t ∉ tkl m → TkOk (upd toks t x) n' m
  | [], _, _ => trivial
  | p :: m, h, ht => by
    obtain ⟨h1, h2⟩ := h
    obtain ⟨k, l, o⟩ := p
    cases o with
    | none => exact ⟨h1, TkOk.other hn h2 (by simpa [tkl] using ht)⟩
    | some y =>
      simp only [tkl, List.filterMap_cons, Option.map_some, List.mem_cons, not_or] at ht
      refine ⟨⟨?_, by have := h1.2.1; omega, h1.2.2⟩, TkOk.other hn h2 ht.2⟩
      have : ¬ y.1 = t := fun e => ht.1 e.symm
      simp only [upd, this, if_false]; exact h1.1
theorem TkOk.grow {toks : Nat → Option Nat} {n n' : Nat} (hn : n ≤ n') : ∀ {m}, TkOk toks n m → TkOk toks n' m
  | [], _ => trivial
  | p :: m, h => by
    obtain ⟨h1, h2⟩ := h
    refine ⟨?_, TkOk.grow hn h2⟩
    split at h1
    · exact h1
    · exact ⟨h1.1, by have := h1.2.1; omega, h1.2.2⟩
theorem mem_tkl {k : ByteArray} {l : List ByteArray} {t g : Nat} : ∀ {m}, mget k m = some (l, some (t, g)) → t ∈ tkl m
  | [], h => by simp [mget] at h
  | p :: m, h => by
    simp only [mget] at h
    split at h
    · simp only [Option.some.injEq] at h; simp [tkl, h]
    · have := mem_tkl h
      simp only [tkl, List.filterMap_cons]
      split
      · exact this
      · exact List.mem_cons_of_mem _ this
theorem tkl_put {k : ByteArray} {l' : List ByteArray} {t g : Nat} : ∀ {m} {x}, x ∈ tkl (mput k (l', some (t, g)) m) → x = t ∨ x ∈ tkl m
  | [], x, h => by simp [mput, tkl] at h; exact .inl h
  | p :: m, x, h => by
    simp only [mput] at h
    split at h
    · simp only [tkl, List.filterMap_cons, Option.map_some, List.mem_cons] at h
      rcases h with h | h
      · exact .inl h
      · right; simp only [tkl, List.filterMap_cons]; split
        · exact h
        · exact List.mem_cons_of_mem _ h
    · simp only [tkl, List.filterMap_cons] at h ⊢
      split at h
      · exact tkl_put h
      · rcases List.mem_cons.1 h with h | h
        · right; rw [h]; exact List.mem_cons_self
        · rcases tkl_put h with h | h
          · exact .inl h
          · exact .inr (List.mem_cons_of_mem _ h)
theorem TkOk.put {toks : Nat → Option Nat} {n n' t g' : Nat} {k : ByteArray} {l l' : List ByteArray} {o : Option (Nat × Nat)} (hn : n ≤ n') (ht : t < n') (ho : match o with | none => n ≤ t | some x => t = x.1) :
    ∀ {m}, TkOk toks n m → mget k m = some (l, o) → TkOk (upd toks t (some g')) n' (mput k (l', some (t, g')) m)
  | [], _, h => by simp [mget] at h
  | p :: m, h, hg => by
    obtain ⟨h1, h2⟩ := h
    simp only [mget] at hg
    simp only [mput]
    split at hg
    · next hk =>
      rw [if_pos hk]
      simp only [Option.some.injEq] at hg
      have hnm : t ∉ tkl m := by
        cases o with
        | none => intro hm; have := tkl_lt h2 t hm; omega
        | some x => simp only [hg] at h1; rw [ho]; exact h1.2.2
      exact ⟨⟨by simp [upd], ht, hnm⟩, h2.other hn hnm⟩
    · next hk =>
      rw [if_neg hk]
      refine ⟨?_, TkOk.put hn ht ho h2 hg⟩
      split at h1
      · exact h1
      · next y z e =>
        have hne : ¬ y = t := by
          cases o with
          | none => intro e; have := h1.2.1; omega
          | some x => intro e; subst e; exact h1.2.2 (by rw [ho]; exact mem_tkl (g := x.2) hg)
        refine ⟨by simp only [upd, hne, if_false]; exact h1.1, by have := h1.2.1; omega, fun hm => ?_⟩
        rcases tkl_put hm with q | q
        · exact hne q
        · exact h1.2.2 q
theorem dec_tk {toks : Nat → Option Nat} {n : Nat} : ∀ {m}, TkOk toks n m → decMap Enc.strs (m.map fun p => .string p.1) (m.map fun p => Tk.dv p.2) = some (strip m)
  | [], _ => rfl
  | p :: m, h => by
    obtain ⟨h1, h2⟩ := h
    have hd : Enc.strs.dec (Tk.dv p.2) = some p.2.1 := by
      obtain ⟨k, l, o⟩ := p
      cases o with
      | none => simp only at h1; subst h1; rfl
      | some x =>
        have := decRows_enc (EncR.one Enc.str) l
        simp only [EncR.one, Enc.str] at this
        simp [Tk.dv, Enc.strs, Enc.slice, EncR.one, Enc.str]; exact this
    simp only [List.map_cons, decMap, hd, dec_tk h2]
    rfl
def names0 (l : List ByteArray) : List (ByteArray × Tk) := l.foldl (fun m n => mput n ([], none) m) []
theorem names0_take {l : List ByteArray} {i : Nat} (h : i < l.length) : names0 (l.take (i + 1)) = mput l[i] ([], none) (names0 (l.take i)) := by
  unfold names0; rw [List.take_succ_eq_append_getElem h, List.foldl_append]; rfl
theorem tkl_none {k : ByteArray} {t : Nat} : ∀ {m}, t ∉ tkl m → t ∉ tkl (mput k ([], none) m)
  | [], _ => by simp [mput, tkl]
  | p :: m, h => by
    have h2 : t ∉ tkl m := by
      intro hm; apply h
      simp only [tkl, List.filterMap_cons]; split
      · exact hm
      · exact List.mem_cons_of_mem _ hm
    simp only [mput]
    split
    · simpa [tkl] using h2
    · simp only [tkl, List.filterMap_cons] at h ⊢
      split
      · exact tkl_none h2
      · next y e =>
        rw [e] at h
        intro hm
        rcases List.mem_cons.1 hm with q | q
        · exact h (by rw [q]; exact List.mem_cons_self)
        · exact tkl_none h2 q
theorem TkOk.blank {toks : Nat → Option Nat} {n : Nat} {k : ByteArray} : ∀ {m}, TkOk toks n m → TkOk toks n (mput k ([], none) m)
  | [], _ => ⟨rfl, trivial⟩
  | p :: m, h => by
    obtain ⟨h1, h2⟩ := h
    simp only [mput]
    split
    · exact ⟨rfl, h2⟩
    · refine ⟨?_, TkOk.blank h2⟩
      split at h1
      · exact h1
      · exact ⟨h1.1, h1.2.1, tkl_none h1.2.2⟩
theorem TkOk.names (toks : Nat → Option Nat) (n : Nat) (l : List ByteArray) : TkOk toks n (names0 l) := by
  unfold names0
  have : ∀ (l : List ByteArray) (m : List (ByteArray × Tk)), TkOk toks n m → TkOk toks n (l.foldl (fun m n => mput n ([], none) m) m) := by
    intro l
    induction l with
    | nil => exact fun m h => h
    | cons x l ih => exact fun m h => ih _ h.blank
  exact this l [] trivial
theorem strip_names (l : List ByteArray) : strip (names0 l) = l.foldl (fun m n => mput n [] m) [] := by
  unfold names0
  have : ∀ (l : List ByteArray) (m : List (ByteArray × Tk)), strip (l.foldl (fun m n => mput n ([], none) m) m) = l.foldl (fun m n => mput n [] m) (strip m) := by
    intro l
    induction l with
    | nil => exact fun m => rfl
    | cons x l ih => intro m; simp only [List.foldl_cons, ih, strip_put]
  exact this l []
theorem foldBel_take {l : List Bel} {i : Nat} (h : i < l.length) (m : List (ByteArray × List ByteArray)) : (l.take (i + 1)).foldl addBel m = addBel ((l.take i).foldl addBel m) l[i] := by
  rw [List.take_succ_eq_append_getElem h, List.foldl_append]; rfl
end Go.Proofs.Yt
namespace Go.Proofs.Yt
open Go Go.FA Go.Proofs
set_option linter.unusedVariables false
set_option linter.unusedSimpArgs false
set_option maxRecDepth 100000

def key1 (m : List (ByteArray × Tk)) : List Value := m.map fun p => .string p.1
def val1 (m : List (ByteArray × Tk)) : List DV := m.map fun p => Tk.dv p.2
def mapD (m : List (ByteArray × OpD)) : DV := .fmap (m.map fun p => .string p.1) (m.map fun p => .agg (EncR.opd.enc p.2))
theorem callByName (T : Tab) (hT : T 322 = some s322) (l : List OpD) (h : l.length ≤ lim) : dcall T 322 [Enc.ops.enc l] = some (mapD (byName l)) := by
  have : dcall T 322 [Enc.ops.enc l] = some ((Enc.map Enc.opd).enc (byName l)) := dcall1 (A := Enc.ops) (B := Enc.map Enc.opd) hT (if_pos h)
  exact this
def base87 (s : SigD) (L : List ByteArray) (a : Nat → DV) (σ : St) : Prop :=
  a 1 = .row (EncR.sigd.enc s) 0 ∧ a 2 = .ptr 1 0 ∧ a 3 = .ptr 10 0 ∧ 12 ≤ σ.n ∧
  σ.objs 10 = some (.cells 229 [.map 2, mapD (byName s.ops), mapD (byName s.funs)]) ∧ σ.objs 1 = some (.cells 229 [.lit (.map none), .lit (.map none), .lit (.map none)])
def inv87a (s : SigD) (L : List ByteArray) : Nat → (Nat → DV) → St → Prop := fun k a σ => ∃ i, i ≤ L.length ∧ k = L.length - i ∧ base87 s L a σ ∧
  a 20 = .slice 1 .none (L.map fun s => [DV.lit (.string s)]) ∧ a 21 = .lit (.int .i64 L.length) ∧ a 22 = .lit (.int .i64 i) ∧
  σ.objs 2 = some (.map (key1 (names0 (L.take i))) (val1 (names0 (L.take i))))
def LenOk (n : Nat) (m : List (ByteArray × Tk)) : Prop := ∀ p ∈ m, p.2.1.length ≤ n
def inv87b (s : SigD) (L : List ByteArray) : Nat → (Nat → DV) → St → Prop := fun k a σ => ∃ i m, i ≤ s.below.length ∧ k = s.below.length - i ∧ base87 s L a σ ∧
  a 31 = .slice 2 .none (s.below.map EncR.bel.enc) ∧ a 32 = .lit (.int .i64 s.below.length) ∧ a 33 = .lit (.int .i64 i) ∧
  σ.objs 2 = some (.map (key1 m) (val1 m)) ∧ TkOk σ.toks σ.n m ∧ LenOk i m ∧ strip m = (s.below.take i).foldl addBel (L.foldl (fun m n => mput n [] m) [])
abbrev T87 : Tab := tabOf [(322, s322), (324, s324), (323, s323), (311, s311)]
theorem t87 : TabOk Tryz.prog T87 := .cons e322 (.cons e324 (.cons e323 (.cons e311 .nil)))
theorem strsC (l : List ByteArray) : Enc.strs.enc l = .slice 1 .none (l.map fun s => [DV.lit (.string s)]) := rfl
theorem put1 (k : ByteArray) (v : Tk) (m : List (ByteArray × Tk)) : putKey (.string k) (Tk.dv v) (key1 m) (val1 m) = some (key1 (mput k v m), val1 (mput k v m)) := putKey_dv Tk.dv k v m
theorem get1 (k : ByteArray) (m : List (ByteArray × Tk)) : assoc (.string k) (key1 m) (val1 m) = some ((mget k m).map Tk.dv) := assoc_dv Tk.dv k m
theorem set3 (x y z : DV) : setAt [DV.lit (.map none), .lit (.map none), .lit (.map none)] 0 [x, y, z] = [x, y, z] := rfl
theorem set2 (x y : DV) : setAt [DV.lit (.string ⟨#[]⟩), .lit (.string ⟨#[]⟩)] 0 [x, y] = [x, y] := rfl
theorem mem_mput {α : Type} {k : ByteArray} {v : α} {p : ByteArray × α} : ∀ {m : List (ByteArray × α)}, p ∈ mput k v m → p = (k, v) ∨ p ∈ m
  | [], h => by simp [mput] at h; exact .inl h
  | q :: m, h => by
    simp only [mput] at h
    split at h
    · rcases List.mem_cons.1 h with h | h
      · exact .inl h
      · exact .inr (List.mem_cons_of_mem _ h)
    · rcases List.mem_cons.1 h with h | h
      · exact .inr (by rw [h]; exact List.mem_cons_self)
      · rcases mem_mput h with h | h
        · exact .inl h
        · exact .inr (List.mem_cons_of_mem _ h)
theorem mget_mem {α : Type} {k : ByteArray} {v : α} : ∀ {m : List (ByteArray × α)}, mget k m = some v → (k, v) ∈ m
  | [], h => by simp [mget] at h
  | p :: m, h => by
    simp only [mget] at h
    split at h
    · next hk => simp at h; rw [← h, hk]; exact List.mem_cons_self
    · exact List.mem_cons_of_mem _ (mget_mem h)
theorem LenOk.names (l : List ByteArray) : LenOk 0 (names0 l) := by
  unfold names0
  have : ∀ (l : List ByteArray) (m : List (ByteArray × Tk)), LenOk 0 m → LenOk 0 (l.foldl (fun m n => mput n ([], none) m) m) := by
    intro l
    induction l with
    | nil => exact fun m h => h
    | cons x l ih =>
      refine fun m h => ih _ fun p hp => ?_
      rcases mem_mput hp with rfl | hp
      · simp
      · exact h p hp
  exact this l [] (fun p hp => by simp at hp)
@[simp] theorem frz1_mapD (σ : St) (m : List (ByteArray × OpD)) : frz1 σ (mapD m) = mapD m := rfl
theorem has87 (T : Tab) (hT : T 311 = some s311) {toks : Nat → Option Nat} {n : Nat} {m : List (ByteArray × Tk)} (h : TkOk toks n m) (A B : List (ByteArray × OpD)) (k : ByteArray) :
    dcall T 311 [.agg [.fmap (key1 m) (val1 m), mapD A, mapD B], .slice 1 .full [[.lit (.string k)]]] = some (.lit (.bool (mget k (strip m)).isSome)) ∧
    dcall T 311 [.agg [.map 2, mapD A, mapD B], .slice 1 .full [[.lit (.string k)]]] = none := by
  have h1 : (Enc.map Enc.strs).dec (.fmap (key1 m) (val1 m)) = some (strip m) := dec_tk h
  have h2 : ∀ A, (Enc.map Enc.opd).dec (mapD A) = some A := fun A => (Enc.map Enc.opd).de A
  have h3 : Enc.strs.dec (.slice 1 .full [[.lit (.string k)]]) = some [k] := rfl
  have h4 : (Enc.map Enc.strs).dec (.map 2) = none := rfl
  constructor
  · simp [dcall, hT, s311, sp, arg2, EncR.and, EncR.one, Enc.book, Enc.agg, EncR.book, h1, h2, h3, Enc.bool, Book.has, lim]
  · simp [dcall, hT, s311, sp, arg2, EncR.and, EncR.one, Enc.book, Enc.agg, EncR.book, h4]
theorem TkOk.nil {toks : Nat → Option Nat} {n : Nat} {k : ByteArray} {l : List ByteArray} : ∀ {m}, TkOk toks n m → mget k m = some (l, none) → l = []
  | [], _, h => by simp [mget] at h
  | p :: m, h, hg => by
    obtain ⟨h1, h2⟩ := h
    simp only [mget] at hg
    split at hg
    · simp only [Option.some.injEq] at hg; rw [hg] at h1; exact h1
    · exact h2.nil hg
theorem TkOk.get {toks : Nat → Option Nat} {n : Nat} {k : ByteArray} {l : List ByteArray} {t g : Nat} : ∀ {m}, TkOk toks n m → mget k m = some (l, some (t, g)) → toks t = some g ∧ t < n
  | [], _, h => by simp [mget] at h
  | p :: m, h, hg => by
    obtain ⟨h1, h2⟩ := h
    simp only [mget] at hg
    split at hg
    · simp only [Option.some.injEq] at hg; rw [hg] at h1; exact ⟨h1.1, h1.2.1⟩
    · exact h2.get hg
theorem LenOk.put {n : Nat} {m : List (ByteArray × Tk)} (h : LenOk n m) {k : ByteArray} {v : Tk} (hv : v.1.length ≤ n + 1) : LenOk (n + 1) (mput k v m) := fun p hp => by
  rcases mem_mput hp with rfl | hp
  · exact hv
  · have := h p hp; omega
theorem c309 : CallSound Tryz.prog 309 s309 := by
  refine CallSound.of_sp (T := T87) Tryz.func309 rfl (Nat.le_of_ble_eq_true rfl) fun E s y hy => ?_
  by_cases hw : s.within = true <;> simp [hw] at hy
  subst hy
  have hw' := hw
  simp only [SigD.within, Bool.and_eq_true, decide_eq_true_eq] at hw'
  obtain ⟨⟨w1, w2⟩, w3⟩ := hw'
  have hL : (given ++ s.sorts).length ≤ 47 := by simp [given]; omega
  have g1 := callByName T87 rfl s.ops (by unfold lim; omega)
  have g2 := callByName T87 rfl s.funs (by unfold lim; omega)
  have g3 := call324 T87 rfl
  have g4 := call323 T87 rfl given s.sorts (by simp [given]; omega)
  simp only [strsC] at g3 g4
  have g5 : T87 311 = some s311 := rfl
  refine Dwp.step t87 rfl fun K hK => ?_
  simp [drunL, drunO, dwanted, dopS, own, plainOf, dop, dput, eval, ofVal, Then, Ex.then, Ex.inBlock, upd, dbin, Tag.isNN, nilTest, intCmp, dload, dpart, TyI.agg, dfieldAddr, dfield, dindexAddr, dindex, dlen, lenOk, dlookup, mapOf, assocM, keyFits, dmapUpdate, dcallee, dcall, tabOf, dbuiltin, dstore, DV.cells, setAt, dslice, dboundOk, dappend, appTag, rowsOf, elemOk, growLimit, dbuildCells, dbuildCells.go, structOk, fieldsOk, dbuildRows, goInt, init, arg1, EncR.one, Enc.sigd, Enc.agg, ty229]
  refine hK _ _ ?_ rfl; clear hK K
  refine Dwp.drawStep [.newobj 2, .none, .none, .none, .none, .none, .none, .none, .newobj 10, .wobj 10] mixed t87 rfl (by decide) fun K hK => ?_
  obtain ⟨L, hLe⟩ : ∃ L, L = given ++ s.sorts := ⟨_, rfl⟩
  rw [← hLe] at hL g4
  have tT := t87
  generalize T87 = T at *
  simp [drunT, touch, touchP, drunL, drunO, dwanted, dopS, own, plainOf, dop, dput, eval, ofVal, Then, Ex.then, Ex.inBlock, upd, dbin, Tag.isNN, nilTest, intCmp, dload, dpart, TyI.agg, dfieldAddr, dfield, dindexAddr, dindex, dlen, lenOk, dlookup, mapOf, assocM, keyFits, dmapUpdate, dcallee, dbuiltin, dstore, DV.cells, setAt, dslice, dboundOk, dappend, appTag, rowsOf, elemOk, growLimit, dbuildCells, dbuildCells.go, structOk, fieldsOk, dbuildRows, goInt, init, arg1, EncR.one, Enc.sigd, Enc.agg, ty26, ty24, ty229, ty155, ty154, g1, g2, mapD, set3]
  refine hK _ _ ?_ rfl; clear hK K
  refine Dwp.seq ?_
  refine Dwp.drawStep [] mixed tT rfl (by decide) fun K hK => ?_
  simp [drunT, touch, touchP, drunL, drunO, dwanted, dopS, own, plainOf, dop, dput, eval, ofVal, Then, Ex.then, Ex.inBlock, upd, dbin, Tag.isNN, nilTest, intCmp, dload, dpart, TyI.agg, dfieldAddr, dfield, dindexAddr, dindex, dlen, lenOk, dlookup, mapOf, assocM, keyFits, dmapUpdate, dcallee, dbuiltin, dstore, DV.cells, setAt, dslice, dboundOk, dappend, appTag, rowsOf, elemOk, growLimit, dbuildCells, dbuildCells.go, structOk, fieldsOk, dbuildRows, goInt, ty26, ty22, ty272, g3, g4, strsC]
  refine hK _ _ ?_ rfl; clear hK K
  refine (Dwp.block (Dwp.loop (inv87a s L) L.length ⟨0, by simp, by simp, ⟨by simp [upd], by simp [upd, σ0], by simp [upd, σ0], by simp, by simp [upd, σ0, mapD], by simp [upd, σ0]⟩, by simp [upd], by simp [upd], by simp [upd], by simp [upd, σ0, names0, key1, val1]⟩ ?_))
  rintro k a σ ⟨i, hi, rfl, ⟨h1, h2, h3, hn, ho3, ho2⟩, h20, h21, h22, hobj⟩
  refine Dwp.step tT rfl fun K hK => ?_
  simp [drunL, drunO, dwanted, dopS, own, plainOf, dop, dput, eval, ofVal, Then, Ex.then, Ex.inBlock, upd, dbin, Tag.isNN, nilTest, intCmp, dload, dpart, TyI.agg, dfieldAddr, dfield, dindexAddr, dindex, dlen, lenOk, dlookup, mapOf, assocM, keyFits, dmapUpdate, dcallee, dcall, tabOf, dbuiltin, dstore, DV.cells, setAt, dslice, dboundOk, dappend, appTag, rowsOf, elemOk, growLimit, dbuildCells, dbuildCells.go, structOk, fieldsOk, dbuildRows, goInt, h21, h22]
  refine hK _ _ ?_ rfl; clear hK K
  by_cases hlt : i < L.length
  · refine Dwp.seq (Dwp.condT (by simp [eval, upd, hlt]) (Dwp.skip ?_))
    refine Dwp.seq (Dwp.block ?_)
    refine Dwp.step tT rfl fun K hK => ?_
    simp [drunL, drunO, dwanted, dopS, own, plainOf, dop, dput, eval, ofVal, Then, Ex.then, Ex.inBlock, upd, dbin, Tag.isNN, nilTest, intCmp, dload, dpart, TyI.agg, dfieldAddr, dfield, dindexAddr, dindex, dlen, lenOk, dlookup, mapOf, assocM, keyFits, dmapUpdate, dcallee, dcall, tabOf, dbuiltin, dstore, DV.cells, setAt, dslice, dboundOk, dappend, appTag, rowsOf, elemOk, growLimit, dbuildCells, dbuildCells.go, structOk, fieldsOk, dbuildRows, goInt, h20, h22, ty22, ty9, hlt]
    refine hK _ _ ?_ rfl; clear hK K
    refine Dwp.reg tT rfl fun K hK => ?_
    have hP := put1 L[i] ([], none) (names0 (L.take i))
    simp only [Tk.dv] at hP
    simp [drunL, drunO, dwanted, dopS, own, plainOf, dop, dput, eval, ofVal, Then, Ex.then, Ex.inBlock, upd, dbin, Tag.isNN, nilTest, intCmp, dload, dpart, TyI.agg, dfieldAddr, dfield, dindexAddr, dindex, dlen, lenOk, dlookup, mapOf, assocM, keyFits, dmapUpdate, dcallee, dcall, tabOf, dbuiltin, dstore, DV.cells, setAt, dslice, dboundOk, dappend, appTag, rowsOf, elemOk, growLimit, dbuildCells, dbuildCells.go, structOk, fieldsOk, dbuildRows, goInt, h3, ho3, hobj, ty229, ty155, ty9, ty22, hP]
    refine hK _ _ ?_ rfl; clear hK K
    refine Dwp.reg tT rfl fun K hK => ?_
    simp [drunL, drunO, dwanted, dopS, own, plainOf, dop, dput, eval, ofVal, Then, Ex.then, Ex.inBlock, upd, dbin, Tag.isNN, nilTest, intCmp, dload, dpart, TyI.agg, dfieldAddr, dfield, dindexAddr, dindex, dlen, lenOk, dlookup, mapOf, assocM, keyFits, dmapUpdate, dcallee, dcall, tabOf, dbuiltin, dstore, DV.cells, setAt, dslice, dboundOk, dappend, appTag, rowsOf, elemOk, growLimit, dbuildCells, dbuildCells.go, structOk, fieldsOk, dbuildRows, goInt, h22]
    refine hK _ _ ?_ rfl; clear hK K
    have hnt := names0_take hlt
    refine ⟨L.length - (i + 1), by omega, i + 1, by omega, rfl, ⟨by simp [upd, h1], by simp [upd, h2], by simp [upd, h3], by simp <;> omega, by simp [upd, ho3], by simp [upd, ho2]⟩, by simp [upd, h20], by simp [upd, h21], by simp [upd, wrap_small (n := (i : Int) + 1) (by omega) (by omega)], ?_⟩
    rw [hnt]
    simp [upd]
  refine Dwp.seq (Dwp.condF (by simp [eval, upd, hlt]) (Dwp.exit ?_))
  simp only [Ex.then, Ex.inBlock, if_true]
  rw [List.take_of_length_le (by omega)] at hobj
  have hbase : base87 s L a σ := ⟨h1, h2, h3, hn, ho3, ho2⟩
  refine Dwp.seq ?_
  refine Dwp.step tT rfl fun K hK => ?_
  simp [drunL, drunO, dwanted, dopS, own, plainOf, dop, dput, eval, ofVal, Then, Ex.then, Ex.inBlock, upd, dbin, Tag.isNN, nilTest, intCmp, dload, dpart, TyI.agg, dfieldAddr, dfield, dindexAddr, dindex, dlen, lenOk, dlookup, mapOf, assocM, keyFits, dmapUpdate, dcallee, dbuiltin, dstore, DV.cells, setAt, dslice, dboundOk, dappend, appTag, rowsOf, elemOk, growLimit, dbuildCells, dbuildCells.go, structOk, fieldsOk, dbuildRows, goInt, h1, ty26, ty23, Enc.bels, Enc.slice]
  refine hK _ _ ?_ rfl; clear hK K
  refine (Dwp.block (Dwp.loop (inv87b s L) s.below.length ⟨0, names0 L, by simp, by simp, ⟨by simp [upd, h1], by simp [upd, h2], by simp [upd, h3], by simp <;> omega, by simp [ho3], by simp [ho2]⟩, by simp [upd], by simp [upd], by simp [upd], by simpa using hobj, TkOk.names _ _ _, LenOk.names _, by simp [strip_names]⟩ ?_))
  clear hobj hbase h1 h2 h3 hn ho3 ho2
  rintro k a σ ⟨i, m, hi, rfl, ⟨h1, h2, h3, hn, ho3, ho2⟩, h31, h32, h33, hobj, htk, hlen, hst⟩
  refine Dwp.step tT rfl fun K hK => ?_
  simp [drunL, drunO, dwanted, dopS, own, plainOf, dop, dput, eval, ofVal, Then, Ex.then, Ex.inBlock, upd, dbin, Tag.isNN, nilTest, intCmp, dload, dpart, TyI.agg, dfieldAddr, dfield, dindexAddr, dindex, dlen, lenOk, dlookup, mapOf, assocM, keyFits, dmapUpdate, dcallee, dcall, tabOf, dbuiltin, dstore, DV.cells, setAt, dslice, dboundOk, dappend, appTag, rowsOf, elemOk, growLimit, dbuildCells, dbuildCells.go, structOk, fieldsOk, dbuildRows, goInt, h32, h33]
  refine hK _ _ ?_ rfl; clear hK K
  by_cases hlt : i < s.below.length
  · refine Dwp.seq (Dwp.condT (by simp [eval, upd, hlt]) (Dwp.skip ?_))
    refine Dwp.seq (Dwp.block ?_)
    refine Dwp.step tT rfl fun K hK => ?_
    simp [drunL, drunO, dwanted, dopS, own, plainOf, dop, dput, eval, ofVal, Then, Ex.then, Ex.inBlock, upd, dbin, Tag.isNN, nilTest, intCmp, dload, dpart, TyI.agg, dfieldAddr, dfield, dindexAddr, dindex, dlen, lenOk, dlookup, mapOf, assocM, keyFits, dmapUpdate, dcallee, dcall, tabOf, dbuiltin, dstore, DV.cells, setAt, dslice, dboundOk, dappend, appTag, rowsOf, elemOk, growLimit, dbuildCells, dbuildCells.go, structOk, fieldsOk, dbuildRows, goInt, h31, h33, ty23, ty143, hlt, EncR.bel, set2]
    refine hK _ _ ?_ rfl; clear hK K
    have hf := foldBel_take hlt (L.foldl (fun m n => mput n [] m) [])
    generalize s.below[i] = b at *
    obtain ⟨g6, g7⟩ := has87 T g5 htk (byName s.ops) (byName s.funs) b.low
    simp only [mapD] at g6 g7 ho3
    have hn10 : ¬ (10 = σ.n + 1 + 2) := by omega
    have hn2 : ¬ (2 = σ.n + 1 + 2) := by omega
    have hn1 : ¬ (1 = σ.n + 1 + 2) := by omega
    refine Dwp.step tT rfl fun K hK => ?_
    simp [drunL, dwanted, dopS, own, plainOf, dop, dput, eval, ofVal, Then, upd, dload, dpart, TyI.agg, dfieldAddr, dcallee, dbuildRows, growLimit, DV.cells, h3, ho3, hobj, hn10, hn2, hn1, ty229, ty143, ty9, ty22, g7, frz2, frz1, g6, mapD]
    refine hK _ _ ?_ rfl; clear hK K
    have hfin : ∀ (m' : List (ByteArray × Tk)) (a' : Nat → DV) (σ' : St), base87 s L a' σ' → a' 31 = a 31 → a' 32 = a 32 → a' 33 = .lit (.int .i64 ((i : Int) + 1)) → σ'.objs 2 = some (.map (key1 m') (val1 m')) → TkOk σ'.toks σ'.n m' → LenOk (i + 1) m' →
        strip m' = addBel ((s.below.take i).foldl addBel (L.foldl (fun m n => mput n [] m) [])) b → ∃ k', k' < s.below.length - i ∧ inv87b s L k' a' σ' := by
      intro m' a' σ' hb e31 e32 e33 ho' ht' hl' hs'
      exact ⟨s.below.length - (i + 1), by omega, i + 1, m', by omega, rfl, hb, by rw [e31, h31], by rw [e32, h32], by rw [e33]; simp, ho', ht', hl', by rw [hf, hs']⟩
    have hwi : IntKind.i64.wrap ((i : Int) + 1) = (i : Int) + 1 := wrap_small (n := (i : Int) + 1) (by omega) (by omega)
    have hg := strip_get b.low m
    cases hm : mget b.low m with
    | none =>
      rw [hm] at hg
      rw [hg]
      refine Dwp.condF (by simp [eval, upd]) (Dwp.skip ?_)
      refine Dwp.reg tT rfl fun K hK => ?_
      simp [drunL, drunO, dwanted, dopS, own, plainOf, dop, dput, eval, ofVal, Then, Ex.then, Ex.inBlock, upd, dbin, Tag.isNN, nilTest, intCmp, dload, dpart, TyI.agg, dfieldAddr, dfield, dindexAddr, dindex, dlen, lenOk, dlookup, mapOf, assocM, keyFits, dmapUpdate, dcallee, dcall, tabOf, dbuiltin, dstore, DV.cells, setAt, dslice, dboundOk, dappend, appTag, rowsOf, elemOk, growLimit, dbuildCells, dbuildCells.go, structOk, fieldsOk, dbuildRows, goInt, h33, hwi]
      refine hK _ _ ?_ rfl; clear hK K
      refine hfin m _ _ ⟨by simp [upd, h1], by simp [upd, h2], by simp [upd, h3], by simp <;> omega, by simp [upd, hn10, ho3, mapD], by simp [upd, hn1, ho2]⟩ (by simp [upd]) (by simp [upd]) (by simp [upd]) (by simp [upd, hn2, hobj]) (htk.grow (by simp <;> omega)) (fun p hp => by have := hlen p hp; omega) ?_
      rw [← hst, addBel, hg]; rfl
    | some v =>
      obtain ⟨l, o⟩ := v
      rw [hm] at hg
      rw [hg]
      refine Dwp.condT (by simp [eval, upd]) ?_
      refine Dwp.draw [.none, .robj 10, .none, .robj (σ.n + 1 + 2), .none, .robj 10, .none, .robj (σ.n + 1 + 2), .robj 2, .none, .robj (σ.n + 1 + 2), .none, .tok, .wobj 2] mixed tT rfl (by rfl) fun K hK => ?_
      have hga := get1 b.low m
      rw [hm] at hga
      cases o with
      | none =>
        have hpu := put1 b.low (l ++ [b.high], some (σ.n + 1 + 4 + 5 + 12, 0)) m
        have hl0 : l = [] := htk.nil hm
        subst hl0
        simp only [Option.map_some, Tk.dv, List.nil_append, List.map_cons, List.map_nil] at hga hpu
        simp [drunT, touch, touchP, drunL, drunO, dwanted, dopS, own, plainOf, dop, dput, eval, ofVal, Then, Ex.then, Ex.inBlock, upd, dbin, Tag.isNN, nilTest, intCmp, dload, dpart, TyI.agg, dfieldAddr, dfield, dindexAddr, dindex, dlen, lenOk, dlookup, mapOf, assocM, keyFits, dmapUpdate, dcallee, dbuiltin, dstore, DV.cells, setAt, dslice, dboundOk, dappend, appTag, rowsOf, elemOk, growLimit, dbuildCells, dbuildCells.go, structOk, fieldsOk, dbuildRows, goInt, h3, ho3, hobj, hn10, hn2, hn1, ty229, ty143, ty9, ty22, ty155, hga, hpu]
        refine hK _ _ ?_ rfl; clear hK K
        refine Dwp.reg tT rfl fun K hK => ?_
        simp [drunL, drunO, dwanted, dopS, own, plainOf, dop, dput, eval, ofVal, Then, Ex.then, Ex.inBlock, upd, dbin, Tag.isNN, nilTest, intCmp, dload, dpart, TyI.agg, dfieldAddr, dfield, dindexAddr, dindex, dlen, lenOk, dlookup, mapOf, assocM, keyFits, dmapUpdate, dcallee, dcall, tabOf, dbuiltin, dstore, DV.cells, setAt, dslice, dboundOk, dappend, appTag, rowsOf, elemOk, growLimit, dbuildCells, dbuildCells.go, structOk, fieldsOk, dbuildRows, goInt, h33, hwi]
        refine hK _ _ ?_ rfl; clear hK K
        refine hfin (mput b.low ([b.high], some (σ.n + 1 + 4 + 5 + 12, 0)) m) _ _ ⟨by simp [upd, h1], by simp [upd, h2], by simp [upd, h3], by simp <;> omega, by simp [upd, hn10, ho3, mapD], by simp [upd, hn1, ho2]⟩ (by simp [upd]) (by simp [upd]) (by simp [upd]) (by simp [upd]) (TkOk.put (by simp <;> omega) (by simp <;> omega) (by simp <;> omega) htk hm) (hlen.put (by simp)) ?_
        rw [← hst, addBel, hg, strip_put]; rfl
      | some x =>
        obtain ⟨t, g⟩ := x
        obtain ⟨q1, q2⟩ := htk.get hm
        have hlb : l.length ≤ i := hlen _ (mget_mem hm)
        have hlb2 : l.length + 1 ≤ 16777216 := by omega
        have hpu := put1 b.low (l ++ [b.high], some (t, g + 1)) m
        simp only [Option.map_some, Tk.dv, List.map_append, List.map_cons, List.map_nil] at hga hpu
        simp [drunT, touch, touchP, drunL, drunO, dwanted, dopS, own, plainOf, dop, dput, eval, ofVal, Then, Ex.then, Ex.inBlock, upd, dbin, Tag.isNN, nilTest, intCmp, dload, dpart, TyI.agg, dfieldAddr, dfield, dindexAddr, dindex, dlen, lenOk, dlookup, mapOf, assocM, keyFits, dmapUpdate, dcallee, dbuiltin, dstore, DV.cells, setAt, dslice, dboundOk, dappend, appTag, rowsOf, elemOk, growLimit, dbuildCells, dbuildCells.go, structOk, fieldsOk, dbuildRows, goInt, h3, ho3, hobj, hn10, hn2, hn1, ty229, ty143, ty9, ty22, ty155, hga, hpu, q1, hlb2]
        refine hK _ _ ?_ rfl; clear hK K
        refine Dwp.reg tT rfl fun K hK => ?_
        simp [drunL, drunO, dwanted, dopS, own, plainOf, dop, dput, eval, ofVal, Then, Ex.then, Ex.inBlock, upd, dbin, Tag.isNN, nilTest, intCmp, dload, dpart, TyI.agg, dfieldAddr, dfield, dindexAddr, dindex, dlen, lenOk, dlookup, mapOf, assocM, keyFits, dmapUpdate, dcallee, dcall, tabOf, dbuiltin, dstore, DV.cells, setAt, dslice, dboundOk, dappend, appTag, rowsOf, elemOk, growLimit, dbuildCells, dbuildCells.go, structOk, fieldsOk, dbuildRows, goInt, h33, hwi]
        refine hK _ _ ?_ rfl; clear hK K
        refine hfin (mput b.low (l ++ [b.high], some (t, g + 1)) m) _ _ ⟨by simp [upd, h1], by simp [upd, h2], by simp [upd, h3], by simp <;> omega, by simp [upd, hn10, ho3, mapD], by simp [upd, hn1, ho2]⟩ (by simp [upd]) (by simp [upd]) (by simp [upd]) (by simp [upd]) (TkOk.put (by simp <;> omega) (by simp <;> omega) rfl htk hm) (hlen.put (by simp <;> omega)) ?_
        rw [← hst, addBel, hg, strip_put]; rfl
  refine Dwp.seq (Dwp.condF (by simp [eval, upd, hlt]) (Dwp.exit ?_))
  simp only [Ex.then, Ex.inBlock, if_true]
  rw [List.take_of_length_le (by omega)] at hst
  refine Dwp.step tT rfl fun K hK => ?_
  simp only [mapD] at ho3
  simp [drunL, drunO, dwanted, dopS, own, plainOf, dop, dput, eval, ofVal, Then, Ex.then, Ex.inBlock, upd, dbin, Tag.isNN, nilTest, intCmp, dload, dpart, TyI.agg, dfieldAddr, dfield, dindexAddr, dindex, dlen, lenOk, dlookup, mapOf, assocM, keyFits, dmapUpdate, dcallee, dcall, tabOf, dbuiltin, dstore, DV.cells, setAt, dslice, dboundOk, dappend, appTag, rowsOf, elemOk, growLimit, dbuildCells, dbuildCells.go, structOk, fieldsOk, dbuildRows, goInt, h2, h3, ho3, ho2, ty229, set3]
  refine hK _ _ (Dwp.ret ?_) rfl
  have hd1 := dec_tk htk
  have hd2 := fun A => decMap_enc Enc.opd A
  simp only [Enc.opd, Enc.agg] at hd2
  simp [Done, dresults, dres, frz, frz1, frz2, upd, h2, hobj, ty229, dload, dpart, TyI.agg]
  have e1 : (Enc.map Enc.strs).dec (.fmap (key1 m) (val1 m)) = some (strip m) := hd1
  have e2 : ∀ A, (Enc.map Enc.opd).dec (mapD A) = some A := fun A => (Enc.map Enc.opd).de A
  simp only [mapD] at e2
  simp only [Enc.book, Enc.agg, EncR.book, e1, e2, hst, newBook, hLe]
theorem e309 : Go.FA.Good Tryz.prog (309, s309) := ⟨c309, Tryz.f309, _, Tryz.func309, rfl, by decide⟩
theorem e326 : Go.FA.Good Tryz.prog (326, s326) := ⟨c326 e340, Tryz.f326, _, Tryz.func326, rfl, by decide⟩
theorem e310 : Go.FA.Good Tryz.prog (310, s310) := ⟨c310 e326, Tryz.f310, _, Tryz.func310, rfl, by decide⟩
theorem e284 : Go.FA.Good Tryz.prog (284, s284) := ⟨c284 e309 e310, Tryz.f284, _, Tryz.func284, rfl, by decide⟩
end Go.Proofs.Yt
namespace Go.Proofs.Yt
open Go Go.FA Go.Proofs Go.Shelf
set_option maxRecDepth 100000
def ren190 : Go.Shelf.Ren := ⟨fun n => if n = 190 then 94 else if n = 125 then 160 else if n = 258 then 159 else if n = 128 then 260 else if n = 129 then 261 else if n = 302 then 251 else if n = 303 then 252 else if n = 304 then 253 else if n = 305 then 254 else if n = 306 then 255 else if n = 307 then 256 else if n = 308 then 257 else if n = 309 then 258 else if n = 310 then 259 else if n = 333 then 289 else if n = 329 then 290 else if n = 330 then 291 else if n = 334 then 292 else if n = 335 then 293 else if n = 336 then 250 else if n = 344 then 315 else n, fun n => if n = 31 then 22 else if n = 9 then 9 else if n = 3 then 3 else if n = 46 then 167 else if n = 0 then 0 else if n = 51 then 216 else if n = 53 then 218 else if n = 4 then 4 else if n = 183 then 209 else if n = 182 then 208 else if n = 131 then 213 else if n = 5 then 5 else if n = 218 then 238 else if n = 222 then 90 else if n = 228 then 257 else if n = 229 then 221 else n, fun n => n⟩
theorem lays190 : Lays.n190 Tryz.prog ren190 :=
{ mixed := Eq.refl true, f125 := Eq.trans Tryz.func160 (congrArg some (Eq.refl (Body.n125 ren190))),
  f128 := Eq.trans Tryz.func260 (congrArg some (Eq.refl (Body.n128 ren190))),
  f129 := Eq.trans Tryz.func261 (congrArg some (Eq.refl (Body.n129 ren190))),
  f190 := Eq.trans Tryz.func94 (congrArg some (Eq.refl (Body.n190 ren190))),
  f258 := Eq.trans Tryz.func159 (congrArg some (Eq.refl (Body.n258 ren190))),
  f302 := Eq.trans Tryz.func251 (congrArg some (Eq.refl (Body.n302 ren190))),
  f303 := Eq.trans Tryz.func252 (congrArg some (Eq.refl (Body.n303 ren190))),
  f304 := Eq.trans Tryz.func253 (congrArg some (Eq.refl (Body.n304 ren190))),
  f305 := Eq.trans Tryz.func254 (congrArg some (Eq.refl (Body.n305 ren190))),
  f306 := Eq.trans Tryz.func255 (congrArg some (Eq.refl (Body.n306 ren190))),
  f307 := Eq.trans Tryz.func256 (congrArg some (Eq.refl (Body.n307 ren190))),
  f308 := Eq.trans Tryz.func257 (congrArg some (Eq.refl (Body.n308 ren190))),
  f309 := Eq.trans Tryz.func258 (congrArg some (Eq.refl (Body.n309 ren190))),
  f310 := Eq.trans Tryz.func259 (congrArg some (Eq.refl (Body.n310 ren190))),
  f329 := Eq.trans Tryz.func290 (congrArg some (Eq.refl (Body.n329 ren190))),
  f330 := Eq.trans Tryz.func291 (congrArg some (Eq.refl (Body.n330 ren190))),
  f333 := Eq.trans Tryz.func289 (congrArg some (Eq.refl (Body.n333 ren190))),
  f334 := Eq.trans Tryz.func292 (congrArg some (Eq.refl (Body.n334 ren190))),
  f335 := Eq.trans Tryz.func293 (congrArg some (Eq.refl (Body.n335 ren190))),
  f336 := Eq.trans Tryz.func250 (congrArg some (Eq.refl (Body.n336 ren190))),
  f344 := Eq.trans Tryz.func315 (congrArg some (Eq.refl (Body.n344 ren190))), t0 := Tryz.underlying0,
  a0 := Tryz.isAgg0, z0 := Tryz.sizeOf0, v0 := Tryz.zeroValue0, t3 := Tryz.underlying3, a3 := Tryz.isAgg3,
  z3 := Tryz.sizeOf3, v3 := Tryz.zeroValue3, t4 := Tryz.underlying4, a4 := Tryz.isAgg4, z4 := Tryz.sizeOf4,
  v4 := Tryz.zeroValue4, t5 := Tryz.underlying5, a5 := Tryz.isAgg5, z5 := Tryz.sizeOf5, v5 := Tryz.zeroValue5,
  t9 := Tryz.underlying9, a9 := Tryz.isAgg9, z9 := Tryz.sizeOf9, v9 := Tryz.zeroValue9, t31 := Tryz.underlying22,
  a31 := Tryz.isAgg22, z31 := Tryz.sizeOf22, v31 := Tryz.zeroValue22, t46 := Tryz.underlying167, a46 := Tryz.isAgg167,
  z46 := Tryz.sizeOf167, v46 := Tryz.zeroValue167, t51 := Tryz.underlying216, a51 := Tryz.isAgg216,
  z51 := Tryz.sizeOf216, v51 := Tryz.zeroValue216, t53 := Tryz.underlying218, a53 := Tryz.isAgg218,
  z53 := Tryz.sizeOf218, v53 := Tryz.zeroValue218, t131 := Tryz.underlying213, a131 := Tryz.isAgg213,
  z131 := Tryz.sizeOf213, v131 := Tryz.zeroValue213, t182 := Tryz.underlying208, a182 := Tryz.isAgg208,
  z182 := Tryz.sizeOf208, v182 := Tryz.zeroValue208, t183 := Tryz.underlying209, a183 := Tryz.isAgg209,
  z183 := Tryz.sizeOf209, v183 := Tryz.zeroValue209, t218 := Tryz.underlying238, a218 := Tryz.isAgg238,
  z218 := Tryz.sizeOf238, v218 := Tryz.zeroValue238, t222 := Tryz.underlying90, a222 := Tryz.isAgg90,
  z222 := Tryz.sizeOf90, v222 := Tryz.zeroValue90, t228 := Tryz.underlying257, a228 := Tryz.isAgg257,
  z228 := Tryz.sizeOf257, v228 := Tryz.zeroValue257, t229 := Tryz.underlying221, a229 := Tryz.isAgg221,
  z229 := Tryz.sizeOf221, v229 := Tryz.zeroValue221 }
end Go.Proofs.Yt
namespace Go.FA
open Go.RowKit Go.Sort Go.Proofs
set_option linter.unusedVariables false
set_option linter.unusedSimpArgs false
variable {P : Program} {T : Tab} {E : Entry} {F : Nat → Prop} {C : Ctx} {w : World} {σ : St} {n : Nat} {Q : Ex → (Nat → DV) → St → Prop} {a : Nat → DV}

/-- the contract of the library's sort of strings -/
structure SortsS (P : Program) (f : FuncId) : Prop where
  some : ∀ (blk off cap : Nat) (ss : List (List UInt8)) (w : World), Holds encStr w blk off ss.toArray → blk < w.heap.size → ss.length < 4611686018427387904 →
    Calls P f #[.slice (some ⟨blk, off, none⟩) ss.length cap] w fun e w' => e = .returned (.tuple #[]) ∧ ∃ n os, w' = grow (putRow encStr (Sort.ahead w n) blk off (ss.mergeSort fun x y => decide (x ≤ y)).toArray) os
  none : ∀ (p : Option Addr) (cap : Nat) (w : World), Calls P f #[.slice p 0 cap] w fun e w' => e = .returned (.tuple #[]) ∧ w' = w

def bl (s : ByteArray) : List UInt8 := s.data.toList
def lb (l : List UInt8) : ByteArray := ⟨l.toArray⟩
theorem lb_bl (s : ByteArray) : lb (bl s) = s := rfl
theorem bl_lb (l : List UInt8) : bl (lb l) = l := rfl
/-- strings in order -/
def sortB (l : List ByteArray) : List ByteArray := ((l.map bl).mergeSort fun x y => decide (x ≤ y)).map lb
theorem length_sortB (l : List ByteArray) : (sortB l).length = l.length := by simp [sortB]
def rowsS (l : List ByteArray) : List (List DV) := l.map fun x => [DV.lit (.string x)]

theorem rows_cells {b : Nat} : ∀ (l : List ByteArray) (o : Nat), RRel C w 1 b o (rowsS l) → ∀ j x, l[j]? = some x → w.cell? ⟨b, o + j, none⟩ = some (.string x)
  | [], o, h, j, x, hx => by simp at hx
  | y :: l, o, h, j, x, hx => by
    simp only [rowsS, List.map_cons, RRel] at h
    cases j with
    | zero =>
      simp at hx; subst hx
      have := h.2.1
      simp only [CRel, VRel] at this
      obtain ⟨⟨_, v, h1, _, h2⟩, _⟩ := this
      rw [h2] at h1; exact h1
    | succ j =>
      have := rows_cells l (o + 1) h.2.2 j x (by simpa using hx)
      rwa [show o + 1 + j = o + (j + 1) by omega] at this
theorem cells_rows {b : Nat} : ∀ (l : List ByteArray) (o : Nat), (∀ j x, l[j]? = some x → C.pc b (o + j) ∧ w.cell? ⟨b, o + j, none⟩ = some (.string x)) → RRel C w 1 b o (rowsS l)
  | [], o, h => by simp [rowsS, RRel]
  | y :: l, o, h => by
    simp only [rowsS, List.map_cons, RRel, CRel, VRel]
    have h0 := h 0 y rfl
    refine ⟨rfl, ⟨⟨h0.1, _, h0.2, rfl, rfl⟩, trivial⟩, cells_rows l (o + 1) fun j x hx => ?_⟩
    have := h (j + 1) x (by simpa using hx)
    rwa [show o + (j + 1) = o + 1 + j by omega] at this

theorem Dwp.sortS {f : FuncId} (hE : E.Lone) (hs : SortsS P f) (hfn : ∃ fn c, P.funcs[f]? = some fn ∧ fn.body = some c ∧ fn.name ≠ "runtime.NumGoroutine") {rid : Nat} {ops : Array Oper} {o0 o1 : Oper} {s d0 : Tmp} {tys : Array TypeId}
    (hops : ops = #[o0, o1]) (h0 : o0.op = .move (.tmp s)) (hd0 : o0.dst = some d0) (hg0 : o0.guard = none) (h1 : o1.op = .call ⟨.value (.func f), #[.tmp d0], tys⟩) (hg1 : o1.guard = none) (hne : s ≠ d0) (hd1 : o1.dst ≠ some s)
    (hd : dstsOk n ops = true) (l : List ByteArray) (ha : (a s = .lit (.slice none 0 0) ∧ l = []) ∨ ∃ t g, a s = .slice 1 (.tok t g) (rowsS l)) (hl : l.length < 1099511627776)
    (h : Q .normal (fun t => if t = s then .slice 1 .none (rowsS (sortB l)) else .junk) { n := σ.n + ops.size, objs := fun _ => none, toks := fun _ => none }) :
    Dwp P T E n (.region rid ops false) Q a σ := by
  subst hops
  refine ⟨fun ca w ds hok => wp_region ?_⟩
  obtain ⟨hn, C, hf, hS⟩ := hok
  have hb0 : d0 < ca.size := by
    have := List.all_eq_true.1 hd o0 (by simp)
    rw [hd0] at this; rw [hn]; simpa using this
  have hr : List.range (#[o0, o1] : Array Oper).size = [0, 1] := rfl
  rw [hr]
  simp only [wpOps, List.getElem?_toArray, List.getElem?_cons_zero, List.getElem?_cons_succ]
  rw [if_pos (by unfold Region.wanted; rw [hg0])]
  left
  have e0 : (execOp (Act.eval ⟨ca, ds⟩) o0).run P w = .ok (.value (ca.getD s undef)) w := by simp only [execOp, h0]; rfl
  unfold Oper.wp
  rw [e0]
  show (if Region.wanted o1 _ = true then _ else _)
  rw [if_pos (by unfold Region.wanted; rw [hg1])]
  left
  generalize hca : (Act.put ⟨ca, ds⟩ o0.dst (ca.getD s undef)) = act1
  have hact : act1 = ⟨ca.setIfInBounds d0 (ca.getD s undef), ds⟩ := by
    rw [← hca, hd0]; simp [Act.put]
  have hev : Act.eval act1 (.tmp d0) = ca.getD s undef := by
    rw [hact]; simp [Act.eval, hb0]
  have e1 : (execOp (Act.eval act1) o1).run P w = .ok (.enter f #[ca.getD s undef]) w := by
    obtain ⟨fn, c, q1, q2, q3⟩ := hfn
    have : Act.eval act1 (.func f) = .func (.func f) #[] #[] := rfl
    simp only [execOp, h1, resolve, this, Deferred.ofValue, Sem.run_bind, Sem.run_pure, Result.andThen_ok, invoke, callFunc, run_program, q1]
    simp [q2, q3, hev]
  rw [e1]
  unfold Oper.upon
  have hv := hf.rel s
  generalize hvv : ca.getD s undef = v at *
  -- what is left behind
  have fin : ∀ (C' : Ctx) (w' : World) (r : Value), SRel E (fun i => σ.n + 2 ≤ i) C' w' { n := σ.n + 2, objs := fun _ => none, toks := fun _ => none } → VRel C' w' (.slice 1 .none (rowsS (sortB l))) v → (∀ b o, E.P0 b o → C'.pc b o) → (∀ b, E.M0 b → C'.pm b) → C'.lo = E.B →
      Post E n ds Q .normal (act1.put o1.dst r) w' := by
    intro C' w' r hS' hv' hpc hpm hlo
    rw [hact, put_eq]
    refine ⟨rfl, .normal, _, _, rfl, h, ?_, C', ?_, hS'⟩
    · rw [put_size]; simp [hn]
    · refine ⟨?_, ⟨fun i b e => (by rw [hE.obj] at e; cases e), fun t x e => (by rw [hE.tk] at e; cases e), fun b o p => hpc _ _ (hE.pc _ _ p), fun b p => hpm _ (hE.pm _ p), hlo.trans hE.lo.symm⟩, ?_⟩
      · intro t
        by_cases ht : t = s
        · subst ht
          simp only [if_true]
          have hg : (Act.put ⟨ca.setIfInBounds d0 v, ds⟩ o1.dst r).tmps.getD t undef = v := by
            unfold Act.put
            cases hdd : o1.dst with
            | none => simp [Array.getD_eq_getD_getElem?, Array.getElem?_setIfInBounds, Ne.symm hne]; simpa [Array.getD_eq_getD_getElem?] using hvv
            | some d => 
              have hdt : d ≠ t := fun e => hd1 (by rw [hdd, e])
              simp [Array.getD_eq_getD_getElem?, Array.getElem?_setIfInBounds, Ne.symm hne, hdt]; simpa [Array.getD_eq_getD_getElem?] using hvv
          rw [hg]; exact hv'
        · simp only [ht, if_false, VRel]
      · have hb := hS'.below
        refine ⟨fun b o p => ?_, fun b p => ?_, fun b c e p1 p2 => ?_⟩
        · rw [hE.w]; exact World.cell?_of_block (w := E.w0) (hb.block b (hS.pB _ _ (hE.pc _ _ p)))
        · rw [hE.w]; exact hb.block b (hS.mB _ (hE.pm _ p))
        · exfalso
          rw [hE.lo] at p1
          have : b < E.gw.heap.size := by
            rcases Nat.lt_or_ge b E.gw.heap.size with q | q
            · exact q
            · simp [Array.getElem?_eq_none q] at p2
          rw [hE.size] at this; omega
  have lone : ∀ (w' : World) (C' : Ctx), C'.lo = E.B → Below E.B w w' → (∀ b o, E.P0 b o → C'.pc b o) → (∀ b, E.M0 b → C'.pm b) → (∀ b o, C'.pc b o → E.P0 b o ∨ (E.B ≤ b ∧ b < w'.heap.size)) → (∀ b, C'.pm b → E.M0 b) →
      (∀ i, C'.obj i = none ∧ C'.tk i = none) → SRel E (fun i => σ.n + 2 ≤ i) C' w' { n := σ.n + 2, objs := fun _ => none, toks := fun _ => none } := by
    intro w' C' q0 q1 q2 q3 q4 q5 q6
    exact ⟨q0, hS.below.trans q1, Nat.le_trans hS.bsize q1.size, hS.pB, hS.mB, q2, q3, q4, fun b p => .inl (q5 b p), fun i o hi => by simp at hi, fun i j oi oj b hi => by simp at hi, fun t g ht => by simp at ht, fun t t' g g' x x' ht => by simp at ht, fun t g x i o ht => by simp at ht, fun i _ => q6 i⟩
  have empty : ∀ ad : Option Addr, v = .slice ad 0 0 → l = [] → Calls P f #[v] w fun e w' => e = .returned (.tuple #[]) ∧ Post E n ds Q .normal (act1.put o1.dst (.tuple #[])) w' := by
    intro ad hve hle
    rw [hve]
    refine (hs.none ad 0 w).mono ?_
    rintro e w' ⟨rfl, rfl⟩
    refine ⟨rfl, fin ⟨fun _ => none, fun _ => none, E.P0, E.M0, E.B⟩ w' _ (lone w' _ rfl (Below.refl _ _) (fun _ _ p => p) (fun _ p => p) (fun _ _ p => .inl p) (fun _ p => p) fun _ => ⟨rfl, rfl⟩) ?_ (fun _ _ p => p) (fun _ p => p) rfl⟩
    subst hle
    simp only [VRel]
    exact .inr ⟨ad, hve, by simp [sortB, rowsS], trivial⟩
  rcases ha with ⟨ha, hle⟩ | ⟨t, g, ha⟩
  · rw [ha] at hv
    simp only [VRel] at hv
    refine (empty _ hv hle).mono ?_
    rintro e w' ⟨rfl, hp⟩; exact hp
  · rw [ha] at hv
    simp only [VRel] at hv
    rcases hv with ⟨b, o, cap, hve, hcap, hR, _, how, c, e, hc⟩ | ⟨ad, hve, hle, _⟩
    · have hlt : b < w.heap.size := by
        rcases Nat.lt_or_ge b w.heap.size with r | r
        · exact r
        · simp [Array.getElem?_eq_none r] at hc
      have hlen : (rowsS l).length = (l.map bl).length := by simp [rowsS]
      have hH : Holds encStr w b o (l.map bl).toArray := by
        intro j hj
        have hjl : j < l.length := by simpa using hj
        refine ⟨?_, ?_⟩
        · have := rows_cells l o hR j l[j] (by simp [hjl])
          rw [this]
          simp [hjl, encStr, bl]
        · simp [World.frozen?, hc]
      rw [hve, hlen]
      refine (hs.some b o cap (l.map bl) w hH hlt (by simp; omega)).mono ?_
      rintro e w' ⟨rfl, m, os, rfl⟩
      obtain ⟨ls, hls⟩ : ∃ ls, ls = (l.map bl).mergeSort fun x y => decide (x ≤ y) := ⟨_, rfl⟩
      have hlsl : ls.length = l.length := by rw [hls]; simp
      rw [← hls]
      have hsz : (putRow encStr (Sort.ahead w m) b o ls.toArray).heap.size = w.heap.size := by simp
      have hcell : ∀ (j : Nat) (x : ByteArray), (sortB l)[j]? = some x → (grow (putRow encStr (Sort.ahead w m) b o ls.toArray) os).cell? ⟨b, o + j, none⟩ = some (.string x) := by
        intro j x hx
        have hjl : j < ls.length := by
          have : j < (sortB l).length := by
            rcases Nat.lt_or_ge j (sortB l).length with q | q
            · exact q
            · simp [List.getElem?_eq_none q] at hx
          rw [length_sortB] at this; omega
        rw [cell?_grow _ _ _ (by rw [hsz]; exact hlt), cell?_putRow encStr (Sort.ahead w m) b o (l.map bl).toArray ls.toArray (holds_ahead _ _ _ _ _ _ hH) (by simp [hlsl]) j (by simpa using hjl)]
        simp only [sortB, ← hls, List.getElem?_map, List.getElem?_eq_getElem hjl, Option.map_some, Option.some.injEq] at hx
        rw [← hx]
        simp [hjl, encStr, lb]
      have hbel : Below E.B w (grow (putRow encStr (Sort.ahead w m) b o ls.toArray) os) := by
        refine ⟨rfl, rfl, rfl, by rw [size_grow, hsz]; omega, fun k hk => ?_⟩
        have hkb : k ≠ b := by have := hS.lo; omega
        have hks : k < w.heap.size := by have := hS.bsize; omega
        rw [heap_grow_old _ _ (by rw [hsz]; exact hks)]
        simp [putRow, mapBlock, Array.getElem?_modify, Ne.symm hkb]
      refine fin ⟨fun _ => none, fun _ => none, fun k j => E.P0 k j ∨ (k = b ∧ o ≤ j), E.M0, E.B⟩ _ _ (lone _ _ rfl hbel (fun _ _ p => .inl p) (fun _ p => p) (fun k j p => p.imp (fun q => q) fun q => by rw [q.1, size_grow, hsz]; exact ⟨by have := hS.lo; omega, by omega⟩) (fun _ p => p) fun _ => ⟨rfl, rfl⟩) ?_ (fun _ _ p => .inl p) (fun _ p => p) rfl
      have hls2 : (rowsS (sortB l)).length = (rowsS l).length := by simp [rowsS, length_sortB]
      simp only [VRel]
      refine .inl ⟨b, o, cap, by rw [hve, hls2], by rw [hls2]; exact hcap, cells_rows _ _ fun j x hx => ⟨.inr ⟨rfl, by omega⟩, hcell j x hx⟩, trivial⟩
    · refine (empty ad hve (by simpa [rowsS] using hle)).mono ?_
      rintro e w' ⟨rfl, hp⟩; exact hp
end Go.FA
namespace Go.Proofs.Yt
open Go Go.FA Go.Proofs
set_option linter.unusedVariables false
set_option linter.unusedSimpArgs false
set_option maxRecDepth 100000

theorem e237 : Go.FA.Good Tryz.prog (237, s237) := ⟨c237 e284, Tryz.f237, _, Tryz.func237, rfl, by decide⟩
theorem sorts94 : SortsS Tryz.prog 94 := ⟨fun blk off cap ss w h1 h2 h3 => Any.slices_Sort_string lays190 blk off cap ss w h1 h2 h3, fun p cap w => Any.slices_Sort_string_none lays190 p cap w⟩

def OpD.fits (o : OpD) : Prop := o.args.length ≤ 1048576 ∧ o.pieces.length ≤ 1048576 ∧ o.strict.length ≤ 1048576
instance (o : OpD) : Decidable o.fits := by unfold OpD.fits; infer_instance
def s96 : Sp := sp (arg1 Enc.opd) Enc.opd (fun o => if o.fits then some o else none)
theorem piesC (l : List Pie) : Enc.pies.enc l = .slice 2 .none (l.map EncR.pie.enc) := rfl
theorem intsC (l : List Int) : Enc.ints.enc l = .slice 1 .none (l.map fun n => [DV.lit (.int .i64 n)]) := rfl
theorem setA1 (o : OpD) : setAt (EncR.opd.enc o) 1 [.slice 1 .none (o.args.map fun s => [DV.lit (.string s)])] = EncR.opd.enc o := rfl
theorem setA3 (o : OpD) : setAt (EncR.opd.enc o) 3 [.slice 2 .none (o.pieces.map EncR.pie.enc)] = EncR.opd.enc o := rfl
theorem setA6 (o : OpD) : setAt (EncR.opd.enc o) 6 [.slice 1 .none (o.strict.map fun n => [DV.lit (.int .i64 n)])] = EncR.opd.enc o := rfl
theorem frzOpd (σ : St) (o : OpD) : (EncR.opd.enc o).map (frz1 σ) = EncR.opd.enc o := rfl
/-- an operator and an error's number -/
def Enc.opErr : Enc (OpD × Int) := Enc.tup (arg2 Enc.opd Enc.i64)
def noOp : OpD := ⟨⟨#[]⟩, [], ⟨#[]⟩, [], 0, 0, []⟩
def noOpD : List DV := [.lit (.string ⟨#[]⟩), .lit (.slice none 0 0), .lit (.string ⟨#[]⟩), .lit (.slice none 0 0), .lit (.int .i64 0), .lit (.int .i64 0), .lit (.slice none 0 0)]
theorem decNo : EncR.opd.dec noOpD = some noOp := rfl
def lookF (m : List (ByteArray × OpD)) (k : ByteArray) : Option (OpD × Int) := match mget k m with
  | some o => if o.fits then some (o, 0) else none
  | none => some (noOp, 4)
def s58 : Sp := sp (arg2 (Enc.map Enc.opd) Enc.str) Enc.opErr (fun x => lookF x.1 x.2)
theorem setO (o : OpD) : setAt noOpD 0 (EncR.opd.enc o) = EncR.opd.enc o := rfl
theorem setN : setAt noOpD 0 noOpD = noOpD := rfl
end Go.Proofs.Yt
namespace Go.Proofs.Yt
open Go Go.FA Go.Proofs
set_option linter.unusedVariables false
set_option linter.unusedSimpArgs false
set_option maxRecDepth 100000
def findF22 (s : SigD) (k : ByteArray) : Option (OpD × Int) := match openF s [] with
  | some (some b, e) => if e = 0 then lookF b.ops k else none
  | some (none, e) => if e = 0 then none else some (noOp, e)
  | none => none
def s22 : Sp := sp (arg2 Enc.sigd Enc.str) Enc.opErr (fun x => findF22 x.1 x.2)
def findF25 (s : SigD) (k : ByteArray) : Option (OpD × Int) := match openF s [] with
  | some (some b, e) => if e = 0 then lookF b.funs k else none
  | some (none, e) => if e = 0 then none else some (noOp, e)
  | none => none
def s25 : Sp := sp (arg2 Enc.sigd Enc.str) Enc.opErr (fun x => findF25 x.1 x.2)
end Go.Proofs.Yt
namespace Go.Proofs.Yt
open Go Go.FA Go.Proofs
set_option linter.unusedVariables false
set_option linter.unusedSimpArgs false
set_option maxRecDepth 100000

/-- a variable that a closure shares, and nobody writes any more -/
def Enc.boxed {α : Type} (A : EncR α) : Enc α where
  enc x := .row (A.enc x) 0
  dec d := match d with | .row cells 0 => A.dec cells | _ => none
  le d x h := by
    split at h
    · intro C w v hv
      simp only [VRel] at hv ⊢
      obtain ⟨b, o, h1, h2⟩ := hv
      exact ⟨b, o, h1, CRel_le (A.le _ _ h) h2⟩
    · simp at h
  pure x := by simp [pureB, A.pure]
  de x := A.de x
/-- a closure over a book and a sort -/
def Enc.clo : Enc (Nat × Book × ByteArray) where
  enc p := .func (.func p.1) [] [.row (EncR.book.enc p.2.1) 0, .row [.lit (.string p.2.2)] 0]
  dec d := match d with
    | .func (.func f) [] [x, y] => match (Enc.boxed EncR.book).dec x, (Enc.boxed (EncR.one Enc.str)).dec y with
      | some b, some s => some (f, b, s)
      | _, _ => none
    | _ => none
  le d x h := by
    intro C w v hv
    split at h
    · split at h
      · next b s hb hs =>
        simp at h; subst h
        simp only [VRel] at hv ⊢
        obtain ⟨f', c', h1, h2, h3⟩ := hv
        exact ⟨f', c', h1, h2, LRel_le (.cons ((Enc.boxed EncR.book).le _ _ hb) (.cons ((Enc.boxed (EncR.one Enc.str)).le _ _ hs) .nil)) h3⟩
      · simp at h
    · simp at h
  pure p := by
    have h1 := (Enc.boxed EncR.book).pure p.2.1
    have h2 := (Enc.boxed (EncR.one Enc.str)).pure p.2.2
    simp only [Enc.boxed, EncR.one, Enc.str] at h1 h2
    simp [pureB, pureL, h1] at h2 ⊢
    simpa [pureB] using h1
  de p := by
    have h1 := (Enc.boxed EncR.book).de p.2.1
    have h2 := (Enc.boxed (EncR.one Enc.str)).de p.2.2
    simp only [Enc.boxed] at h1 h2
    simp only [EncR.one, Enc.str] at h2
    simp [Enc.boxed, EncR.one, Enc.str, h1]
def Book.clo (b : Book) (f : Nat) (x y : ByteArray) : Option Bool := if f = 313 then b.atMost x y else none
def sclo (f : Nat) : Sp := sp (arg3 Enc.str (Enc.boxed EncR.book) (Enc.boxed (EncR.one Enc.str))) Enc.bool (fun x => x.2.1.clo f x.2.2 x.1)
theorem cclo (f : Nat) (fn : Func) (c : Code) (hf : Tryz.prog.funcs[f]? = some fn) : True := trivial
theorem t50c : TabOk Tryz.prog (tabOf [(314, s314)]) := .cons e314 .nil
theorem c313 : CallSound Tryz.prog 313 (sclo 313) := by
  refine CallSound.of_sp (T := tabOf [(314, s314)]) Tryz.func313 rfl (Nat.le_of_ble_eq_true rfl) fun E x y hy => ?_
  obtain ⟨z, b, x⟩ := x
  have g : dcall (tabOf [(314, s314)]) 314 [Enc.book.enc b, Enc.str.enc x, Enc.str.enc z] = some (Enc.bool.enc y) := dcall3 (B := Enc.str) (C := Enc.str) (D := Enc.bool) rfl hy
  have tT := t50c
  simp only [Enc.book, Enc.agg, Enc.str, Enc.bool] at g
  generalize tabOf [(314, s314)] = T at *
  refine Dwp.step tT rfl fun K hK => ?_
  simp [drunL, drunO, dwanted, dopS, own, plainOf, dop, dput, eval, ofVal, Then, Ex.then, Ex.inBlock, upd, dbin, Tag.isNN, nilTest, intCmp, dload, dpart, TyI.agg, dfieldAddr, dfield, dindexAddr, dindex, dlen, lenOk, dlookup, mapOf, assocM, keyFits, dmapUpdate, dcallee, dcall, tabOf, dbuiltin, dstore, DV.cells, setAt, dslice, dboundOk, dappend, appTag, rowsOf, elemOk, growLimit, dbuildCells, dbuildCells.go, structOk, fieldsOk, dbuildRows, goInt]
  refine hK _ _ ?_ rfl; clear hK K
  refine Dwp.step tT rfl fun K hK => ?_
  simp [drunL, drunO, dwanted, dopS, own, plainOf, dop, dput, eval, ofVal, Then, Ex.then, Ex.inBlock, upd, dbin, Tag.isNN, nilTest, intCmp, dload, dpart, TyI.agg, dfieldAddr, dfield, dindexAddr, dindex, dlen, lenOk, dlookup, mapOf, assocM, keyFits, dmapUpdate, dcallee, dbuiltin, dstore, DV.cells, setAt, dslice, dboundOk, dappend, appTag, rowsOf, elemOk, growLimit, dbuildCells, dbuildCells.go, structOk, fieldsOk, dbuildRows, goInt, init, arg3, EncR.and, EncR.one, Enc.boxed, Enc.str, ty229, ty9, g]
  refine hK _ _ (Dwp.ret ?_) rfl
  simp [Done, dresults, dres, frz, frz1, frz2, Enc.bool, upd]
theorem e313 : Go.FA.Good Tryz.prog (313, sclo 313) := ⟨c313, Tryz.f313, _, Tryz.func313, rfl, by decide⟩
theorem callClo (T : Tab) (f : Nat) (hT : T f = some (sclo f)) (b : Book) (x y : ByteArray) (r : Bool) (h : b.clo f x y = some r) :
    dcall T f [.lit (.string y), .row (EncR.book.enc b) 0, .row [.lit (.string x)] 0] = some (.lit (.bool r)) :=
  dcall3 (A := Enc.str) (B := Enc.boxed EncR.book) (C := Enc.boxed (EncR.one Enc.str)) (D := Enc.bool) hT h
end Go.Proofs.Yt
namespace Go.Proofs.Yt
open Go Go.FA Go.Proofs
set_option linter.unusedVariables false
set_option linter.unusedSimpArgs false
set_option maxRecDepth 100000

def cloB (b : Book) (f : Nat) (x y : ByteArray) : Bool := (b.clo f x y).getD false
def s247 : Sp := sp (arg2 Enc.strs Enc.clo) Enc.i64 (fun x => if x.1.length ≤ lim ∧ x.2.1 = 56 ∧ (x.1.all fun y => (x.2.2.1.clo x.2.1 x.2.2.2 y).isSome) = true then some (idxF (cloB x.2.2.1 x.2.1 x.2.2.2) x.1 0) else none)
abbrev T95 : Tab := tabOf [(56, sclo 56)]
def s147 : Sp := sp (arg2 Enc.strs Enc.clo) Enc.bool (fun x => if x.1.length ≤ lim ∧ x.2.1 = 56 ∧ (x.1.all fun y => (x.2.2.1.clo x.2.1 x.2.2.2 y).isSome) = true then some (x.1.any (cloB x.2.2.1 x.2.1 x.2.2.2)) else none)
end Go.Proofs.Yt
namespace Go.Proofs.Yt
open Go Go.FA Go.Proofs
set_option linter.unusedVariables false
set_option linter.unusedSimpArgs false
set_option maxRecDepth 100000

theorem sortB_perm {l m : List ByteArray} (h : l.Perm m) : sortB l = sortB m := by
  unfold sortB
  congr 1
  have tr : ∀ (a b c : List UInt8), decide (a ≤ b) = true → decide (b ≤ c) = true → decide (a ≤ c) = true := fun a b c h1 h2 => by
    simp only [decide_eq_true_eq] at *; exact List.le_trans h1 h2
  have to : ∀ (a b : List UInt8), (decide (a ≤ b) || decide (b ≤ a)) = true := fun a b => by
    simp only [Bool.or_eq_true, decide_eq_true_eq]; exact List.le_total a b
  refine List.Perm.eq_of_pairwise (le := fun a b => decide (a ≤ b) = true) (fun a b _ _ h1 h2 => ?_) (List.pairwise_mergeSort tr to _) (List.pairwise_mergeSort tr to _) ?_
  · simp only [decide_eq_true_eq] at h1 h2; exact List.le_antisymm h1 h2
  · exact (List.mergeSort_perm _ _).trans ((h.map bl).trans (List.mergeSort_perm _ _).symm)

theorem range_get {α β : Type} (g : α → β) : ∀ (m : List α), (List.range m.length).filterMap (fun j => (m[j]?).map g) = m.map g := by
  intro m
  induction m with
  | nil => rfl
  | cons x m ih =>
    rw [List.length_cons, List.range_succ_eq_map, List.filterMap_cons]
    simp only [List.getElem?_cons_zero, Option.map_some, List.map_cons, List.cons.injEq, true_and]
    rw [List.filterMap_map]
    rw [← ih]
    congr 1

def thatF (k : Book) (f : Nat) (b : Book) (x : ByteArray) : Option (List ByteArray) :=
  if k.highs.length ≤ 1000 ∧ f = 313 ∧ (k.highs.all fun p => (b.clo f x p.1).isSome) = true then some (sortB ((k.highs.map (·.1)).filter (cloB b f x))) else none
def s312 : Sp := sp (arg2 Enc.book Enc.clo) Enc.strs (fun x => thatF x.1 x.2.1 x.2.2.1 x.2.2.2)
def picked (m : List (ByteArray × List ByteArray)) (q : ByteArray → Bool) (seen : List Nat) : List ByteArray := (seen.filterMap fun j => (m[j]?).map (·.1)).filter q
theorem picked_all {m : List (ByteArray × List ByteArray)} {q : ByteArray → Bool} {seen : List Nat} (hn : seen.Nodup) (hl : ∀ j ∈ seen, j < m.length) (ha : ∀ j, j < m.length → j ∈ seen) : (picked m q seen).Perm ((m.map (·.1)).filter q) := by
  unfold picked
  refine List.Perm.filter q ?_
  have hp : seen.Perm (List.range m.length) := (List.perm_ext_iff_of_nodup hn List.nodup_range).2 fun j => ⟨fun h => by simpa using hl j h, fun h => ha j (by simpa using h)⟩
  refine (hp.filterMap _).trans (List.Perm.of_eq ?_)
  exact range_get (·.1) m
theorem picked_len {m : List (ByteArray × List ByteArray)} {q : ByteArray → Bool} {seen : List Nat} : (picked m q seen).length ≤ seen.length :=
  Nat.le_trans (List.length_filter_le _ _) (List.length_filterMap_le _ _)
theorem picked_app {m : List (ByteArray × List ByteArray)} {q : ByteArray → Bool} {seen : List Nat} {j : Nat} {p : ByteArray × List ByteArray} (h : m[j]? = some p) : picked m q (seen ++ [j]) = picked m q seen ++ (if q p.1 then [p.1] else []) := by
  unfold picked
  rw [List.filterMap_append, List.filter_append]
  simp only [List.filterMap_cons, List.filterMap_nil, h, Option.map_some, List.filter_cons, List.filter_nil]
theorem seen_len {seen : List Nat} {n : Nat} (hn : seen.Nodup) (hl : ∀ j ∈ seen, j < n) : seen.length ≤ n := by
  have := List.Nodup.length_le_of_subset hn (l₂ := List.range n) (fun j h => by simpa using hl j h)
  simpa using this
def inv312 (k : Book) (f : Nat) (b : Book) (x : ByteArray) : Nat → (Nat → DV) → St → Prop := fun m a σ => ∃ seen, m = left k.highs.length seen ∧ seen.Nodup ∧ (∀ j ∈ seen, j < k.highs.length) ∧
  a 1 = .func (.func f) [] [.row (EncR.book.enc b) 0, .row [.lit (.string x)] 0] ∧ a 9 = .ptr 5 0 ∧ 5 < σ.n ∧ Acc σ 1 (rowsS (picked k.highs (cloB b f x) seen)) (a 5) ∧ (∀ t g r, a 5 = .slice 1 (.tok t g) r → t < σ.n) ∧
  σ.objs 5 = some (.mapIter (k.highs.map fun p => .string p.1) (k.highs.map fun p => Enc.strs.enc p.2) seen)
abbrev T61 : Tab := tabOf [(313, sclo 313)]
theorem c312 : CallSound Tryz.prog 312 s312 := by
  have tT : TabOk Tryz.prog T61 := .cons e313 .nil
  refine CallSound.of_sp (T := T61) Tryz.func312 rfl (Nat.le_of_ble_eq_true rfl) fun E xx y hy => ?_
  obtain ⟨k, f, b, x⟩ := xx
  simp only [thatF] at hy
  split at hy
  case isFalse => cases hy
  next hc =>
  cases hy
  obtain ⟨hlim, hf, hall⟩ := hc
  have hT : T61 f = some (sclo f) := by subst hf; rfl
  generalize T61 = T at *
  refine Dwp.step tT rfl fun K hK => ?_
  simp [drunL, drunO, dwanted, dopS, own, plainOf, dop, dput, eval, ofVal, Then, Ex.then, Ex.inBlock, upd, dbin, Tag.isNN, nilTest, intCmp, dload, dpart, TyI.agg, dfieldAddr, dfield, dindexAddr, dindex, dlen, lenOk, dlookup, mapOf, assocM, keyFits, dmapUpdate, dcallee, dcall, tabOf, dbuiltin, dstore, DV.cells, setAt, dslice, dboundOk, dappend, appTag, rowsOf, elemOk, growLimit, dbuildCells, dbuildCells.go, structOk, fieldsOk, dbuildRows, goInt, init, arg2, EncR.and, EncR.one, Enc.book, Enc.agg]
  refine hK _ _ ?_ rfl; clear hK K
  refine Dwp.step tT rfl fun K hK => ?_
  simp [drunL, drunO, dwanted, dopS, own, plainOf, dop, dput, eval, ofVal, Then, Ex.then, Ex.inBlock, upd, dbin, Tag.isNN, nilTest, intCmp, dload, dpart, TyI.agg, dfieldAddr, dfield, dindexAddr, dindex, dlen, lenOk, dlookup, mapOf, assocM, keyFits, dmapUpdate, dcallee, dcall, tabOf, dbuiltin, dstore, DV.cells, setAt, dslice, dboundOk, dappend, appTag, rowsOf, elemOk, growLimit, dbuildCells, dbuildCells.go, structOk, fieldsOk, dbuildRows, goInt]
  refine hK _ _ ?_ rfl; clear hK K
  refine Dwp.seq ?_
  refine Dwp.step tT rfl fun K hK => ?_
  simp [drunL, drunO, dwanted, dopS, own, plainOf, dop, dput, eval, ofVal, Then, Ex.then, Ex.inBlock, upd, dbin, Tag.isNN, nilTest, intCmp, dload, dpart, TyI.agg, dfieldAddr, dfield, dindexAddr, dindex, dlen, lenOk, dlookup, mapOf, assocM, keyFits, dmapUpdate, dcallee, dcall, tabOf, dbuiltin, dstore, DV.cells, setAt, dslice, dboundOk, dappend, appTag, rowsOf, elemOk, growLimit, dbuildCells, dbuildCells.go, structOk, fieldsOk, dbuildRows, goInt, ty229, ty155]
  refine hK _ _ ?_ rfl; clear hK K
  refine (Dwp.block (Dwp.loop (inv312 k f b x) (left k.highs.length []) ⟨[], rfl, by simp, by simp, by simp [upd, init, Enc.clo], by simp [upd, σ0], by simp [σ0], .inl ⟨by simp [picked, rowsS], by simp [upd]⟩, by simp [upd], by simp [upd, σ0]⟩ ?_))
  rintro m a σ ⟨seen, rfl, hnd, hlt, h1, h9, hn, hacc, htn, hobj⟩
  refine Dwp.seq (Dwp.next tT rfl rfl rfl rfl h9 hobj ?_ ?_)
  · intro hend K hK
    simp [drunL, drunO, dwanted, dopS, own, plainOf, dop, dput, eval, ofVal, Then, Ex.then, Ex.inBlock, upd, dbin, Tag.isNN, nilTest, intCmp, dload, dpart, TyI.agg, dfieldAddr, dfield, dindexAddr, dindex, dlen, lenOk, dlookup, mapOf, assocM, keyFits, dmapUpdate, dcallee, dcall, tabOf, dbuiltin, dstore, DV.cells, setAt, dslice, dboundOk, dappend, appTag, rowsOf, elemOk, growLimit, dbuildCells, dbuildCells.go, structOk, fieldsOk, dbuildRows, goInt]
    refine hK _ _ ?_ rfl; clear hK K
    refine Dwp.seq (Dwp.condF (by simp [eval, upd]) (Dwp.exit ?_))
    simp only [Ex.then, Ex.inBlock, if_true]
    have hperm := picked_all (q := cloB b f x) hnd hlt (fun j hj => hend j (by simpa using hj))
    have hsl := seen_len hnd hlt
    have hpl := picked_len (m := k.highs) (q := cloB b f x) (seen := seen)
    refine Dwp.seq (Dwp.sortS E.2 sorts94 ⟨Tryz.f94, _, Tryz.func94, rfl, by decide⟩ rfl rfl rfl rfl rfl rfl (by decide) (by decide) rfl (picked k.highs (cloB b f x) seen) ?_ (by omega) ?_)
    · rcases hacc with ⟨q1, q2⟩ | ⟨t, g, q1, _⟩
      · exact .inl ⟨by simpa [upd] using q2, by simpa [rowsS] using q1⟩
      · exact .inr ⟨t, g, by simpa [upd] using q1⟩
    simp only [Ex.then]
    refine Dwp.step tT rfl fun K hK => ?_
    simp [drunL, drunO, dwanted, dopS, own, plainOf, dop, dput, eval, ofVal, Then, Ex.then, Ex.inBlock, upd, dbin, Tag.isNN, nilTest, intCmp, dload, dpart, TyI.agg, dfieldAddr, dfield, dindexAddr, dindex, dlen, lenOk, dlookup, mapOf, assocM, keyFits, dmapUpdate, dcallee, dcall, tabOf, dbuiltin, dstore, DV.cells, setAt, dslice, dboundOk, dappend, appTag, rowsOf, elemOk, growLimit, dbuildCells, dbuildCells.go, structOk, fieldsOk, dbuildRows, goInt]
    refine hK _ _ (Dwp.ret ?_) rfl
    rw [sortB_perm hperm]
    have := decRows_enc (EncR.one Enc.str) (sortB (List.filter (cloB b f x) (List.map (·.1) k.highs)))
    simp only [EncR.one, Enc.str] at this
    simp [Done, dresults, dres, frz, frz1, frz2, Enc.strs, Enc.slice, EncR.one, Enc.str, upd, rowsS, this]
  · intro j kk v hns hk hx K hK
    obtain ⟨p, hp, rfl⟩ : ∃ p, k.highs[j]? = some p ∧ Value.string p.1 = kk := by
      rw [List.getElem?_map, Option.map_eq_some_iff] at hk; exact hk
    have hjl : j < k.highs.length := by
      rcases Nat.lt_or_ge j k.highs.length with q | q
      · exact q
      · rw [List.getElem?_eq_none q] at hp; cases hp
    obtain ⟨r, hr⟩ := Option.isSome_iff_exists.1 (List.all_eq_true.1 hall p (List.mem_of_getElem? hp))
    have g := callClo T f hT b x p.1 r hr
    have hq : cloB b f x p.1 = r := by simp [cloB, hr]
    have happ := picked_app (q := cloB b f x) (seen := seen) hp
    rw [hq] at happ
    have hnd' : (seen ++ [j]).Nodup := by rw [List.nodup_append]; exact ⟨hnd, by simp, fun a ha b hb e => by simp at hb; subst hb; subst e; exact hns ha⟩
    have hlt' : ∀ i ∈ seen ++ [j], i < k.highs.length := fun i hi => by
      rcases List.mem_append.1 hi with h | h
      · exact hlt i h
      · simp at h; subst h; exact hjl
    simp [drunL, drunO, dwanted, dopS, own, plainOf, dop, dput, eval, ofVal, Then, Ex.then, Ex.inBlock, upd, dbin, Tag.isNN, nilTest, intCmp, dload, dpart, TyI.agg, dfieldAddr, dfield, dindexAddr, dindex, dlen, lenOk, dlookup, mapOf, assocM, keyFits, dmapUpdate, dcallee, dcall, tabOf, dbuiltin, dstore, DV.cells, setAt, dslice, dboundOk, dappend, appTag, rowsOf, elemOk, growLimit, dbuildCells, dbuildCells.go, structOk, fieldsOk, dbuildRows, goInt]
    refine hK _ _ ?_ rfl; clear hK K
    refine Dwp.seq (Dwp.condT (by simp [eval, upd]) (Dwp.skip ?_))
    refine Dwp.block ?_
    refine Dwp.step tT rfl fun K hK => ?_
    simp [drunL, drunO, dwanted, dopS, own, plainOf, dop, dput, eval, ofVal, Then, Ex.then, Ex.inBlock, upd, dbin, Tag.isNN, nilTest, intCmp, dload, dpart, TyI.agg, dfieldAddr, dfield, dindexAddr, dindex, dlen, lenOk, dlookup, mapOf, assocM, keyFits, dmapUpdate, dcallee, dcall, tabOf, dbuiltin, dstore, DV.cells, setAt, dslice, dboundOk, dappend, appTag, rowsOf, elemOk, growLimit, dbuildCells, dbuildCells.go, structOk, fieldsOk, dbuildRows, goInt, h9, upd, dentry, hk, hx]
    refine hK _ _ ?_ rfl; clear hK K
    refine Dwp.step tT rfl fun K hK => ?_
    simp [drunL, dwanted, dopS, own, dop, dput, eval, ofVal, Then, upd, h1, dcallee, g]
    refine hK _ _ ?_ rfl; clear hK K
    cases r with
    | false =>
      refine Dwp.condF (by simp [eval, upd]) (Dwp.skip ?_)
      simp only [Bool.false_eq_true, if_false, List.append_nil] at happ
      refine ⟨_, left_lt hjl hns, seen ++ [j], rfl, hnd', hlt', by simp [upd, h1], by simp [upd, h9], by simp <;> omega, ?_, ?_, by simp [upd]⟩
      · rw [happ]; simpa [Acc, upd] using hacc
      · intro t g' r h; have := htn t g' r (by simpa [upd] using h); simp; omega
    | true =>
      refine Dwp.condT (by simp [eval, upd]) ?_
      simp only [if_true] at happ
      refine Dwp.reg tT rfl fun K hK => ?_
      rcases hacc with ⟨q1, q2⟩ | ⟨t, gg, q1, q3⟩
      · have q0 : picked k.highs (cloB b f x) seen = [] := by simpa [rowsS] using q1
        simp [drunL, drunO, dwanted, dopS, own, plainOf, dop, dput, eval, ofVal, Then, Ex.then, Ex.inBlock, upd, dbin, Tag.isNN, nilTest, intCmp, dload, dpart, TyI.agg, dfieldAddr, dfield, dindexAddr, dindex, dlen, lenOk, dlookup, mapOf, assocM, keyFits, dmapUpdate, dcallee, dcall, tabOf, dbuiltin, dstore, DV.cells, setAt, dslice, dboundOk, dappend, appTag, rowsOf, elemOk, growLimit, dbuildCells, dbuildCells.go, structOk, fieldsOk, dbuildRows, goInt, q2, ty22, ty9]
        refine hK _ _ ?_ rfl; clear hK K
        refine ⟨_, left_lt hjl hns, seen ++ [j], rfl, hnd', hlt', by simp [upd, h1], by simp [upd, h9], by simp <;> omega, ?_, ?_, by simp [upd]⟩
        · rw [happ, q0]; exact .inr ⟨_, 0, by simp [upd, rowsS]; rfl, by simp [upd]⟩
        · intro t g' r h
          simp [upd] at h
          simp; omega
      · have hl1 := seen_len hnd hlt
        have hl2 := picked_len (m := k.highs) (q := cloB b f x) (seen := seen)
        have hl3 : (rowsS (picked k.highs (cloB b f x) seen)).length + 1 ≤ 16777216 := by simp [rowsS]; omega
        simp [drunL, drunO, dwanted, dopS, own, plainOf, dop, dput, eval, ofVal, Then, Ex.then, Ex.inBlock, upd, dbin, Tag.isNN, nilTest, intCmp, dload, dpart, TyI.agg, dfieldAddr, dfield, dindexAddr, dindex, dlen, lenOk, dlookup, mapOf, assocM, keyFits, dmapUpdate, dcallee, dcall, tabOf, dbuiltin, dstore, DV.cells, setAt, dslice, dboundOk, dappend, appTag, rowsOf, elemOk, growLimit, dbuildCells, dbuildCells.go, structOk, fieldsOk, dbuildRows, goInt, q1, q3, ty22, ty9, hl3]
        refine hK _ _ ?_ rfl; clear hK K
        refine ⟨_, left_lt hjl hns, seen ++ [j], rfl, hnd', hlt', by simp [upd, h1], by simp [upd, h9], by simp <;> omega, ?_, ?_, by simp [upd]⟩
        · rw [happ]; exact .inr ⟨t, gg + 1, by simp [upd, rowsS], by simp [upd]⟩
        · intro t' g' r h
          simp [upd] at h
          have := htn t gg _ q1
          simp; omega
theorem e312 : Go.FA.Good Tryz.prog (312, s312) := ⟨c312, Tryz.f312, _, Tryz.func312, rfl, by decide⟩
end Go.Proofs.Yt
namespace Go.Proofs.Yt
open Go Go.FA Go.Proofs
set_option linter.unusedVariables false
set_option linter.unusedSimpArgs false
set_option maxRecDepth 100000

def Enc.strsErr : Enc (List ByteArray × Int) := Enc.tup (arg2 Enc.strs Enc.i64)
abbrev T27 : Tab := tabOf [(284, s284), (312, s312), (311, s311)]
theorem t27 : TabOk Tryz.prog T27 := .cons e284 (.cons e312 (.cons e311 .nil))

def thatErr27 (s : SigD) (x : ByteArray) : Option (List ByteArray × Int) := withBook (openF s [x]) [] fun b => thatF b 313 b x
def s285 : Sp := sp (arg2 Enc.sigd Enc.str) Enc.strsErr (fun x => withBook (openF x.1 [x.2]) [] fun b => thatF b 313 b x.2)
theorem c285 : CallSound Tryz.prog 285 s285 := by
  refine CallSound.of_sp (T := T27) Tryz.func285 rfl (Nat.le_of_ble_eq_true rfl) fun E xx y hy => ?_
  obtain ⟨s, x⟩ := xx
  simp only [withBook] at hy
  cases hr : openF s [x] with
  | none => rw [hr] at hy; cases hy
  | some r =>
  rw [hr] at hy
  have g := call284 T27 rfl s (.slice 1 .full [[.lit (.string x)]]) [x] r rfl hr
  have h61 : T27 312 = some s312 := rfl
  have tT := t27
  generalize T27 = T at *
  refine Dwp.step tT rfl fun K hK => ?_
  simp [drunL, drunO, dwanted, dopS, own, plainOf, dop, dput, eval, ofVal, Then, Ex.then, Ex.inBlock, upd, dbin, Tag.isNN, nilTest, intCmp, dload, dpart, TyI.agg, dfieldAddr, dfield, dindexAddr, dindex, dlen, lenOk, dlookup, mapOf, assocM, keyFits, dmapUpdate, dcallee, dbuiltin, dstore, DV.cells, setAt, dslice, dboundOk, dappend, appTag, rowsOf, elemOk, growLimit, dbuildCells, dbuildCells.go, structOk, fieldsOk, dbuildRows, goInt, init, arg2, EncR.and, EncR.one, Enc.sigd, Enc.agg, Enc.str]
  refine hK _ _ ?_ rfl; clear hK K
  refine Dwp.step tT rfl fun K hK => ?_
  obtain ⟨o, e⟩ := r
  cases o with
  | none =>
    simp only [Enc.opened, noBook] at g
    simp only [] at hy
    split at hy
    case isTrue => cases hy
    next he =>
    cases hy
    have he' : (e != 0) = true := by simp [he]
    simp [drunL, dwanted, dopS, own, dop, dput, eval, ofVal, Then, upd, dload, dpart, TyI.agg, ty26, ty229, ty22, ty9, dbuildRows, growLimit, dcallee, g, DV.cells, dstore, setNo]
    refine hK _ _ ?_ rfl; clear hK K
    refine Dwp.seq ?_
    refine Dwp.step tT rfl fun K hK => ?_
    simp [drunL, dwanted, dopS, own, dop, dput, eval, ofVal, Then, upd, dbin, intCmp, he']
    refine hK _ _ ?_ rfl; clear hK K
    refine Dwp.condT (by simp [eval, upd]) ?_
    refine Dwp.step tT rfl fun K hK => ?_
    simp [drunL, drunO, dwanted, dopS, own, plainOf, dop, dput, eval, ofVal, Then, Ex.then, Ex.inBlock, upd, dbin, Tag.isNN, nilTest, intCmp, dload, dpart, TyI.agg, dfieldAddr, dfield, dindexAddr, dindex, dlen, lenOk, dlookup, mapOf, assocM, keyFits, dmapUpdate, dcallee, dcall, tabOf, dbuiltin, dstore, DV.cells, setAt, dslice, dboundOk, dappend, appTag, rowsOf, elemOk, growLimit, dbuildCells, dbuildCells.go, structOk, fieldsOk, dbuildRows, goInt]
    refine hK _ _ (Dwp.ret ?_) rfl
    simp [Done, dresults, dres, frz, frz1, frz2, Ex.then, upd, Enc.strsErr, Enc.tup, arg2, EncR.and, EncR.one, Enc.strs, Enc.slice, Enc.str, Enc.i64, Enc.int]
  | some b =>
    simp only [Enc.opened, Enc.book, Enc.agg] at g
    simp only [] at hy
    split at hy
    case isFalse => cases hy
    next he =>
    subst he
    obtain ⟨v, hv, rfl⟩ := Option.map_eq_some_iff.1 hy
    simp [drunL, dwanted, dopS, own, dop, dput, eval, ofVal, Then, upd, dload, dpart, TyI.agg, ty26, ty229, ty22, ty9, dbuildRows, growLimit, dcallee, g, DV.cells, dstore, setBook]
    refine hK _ _ ?_ rfl; clear hK K
    refine Dwp.seq ?_
    refine Dwp.step tT rfl fun K hK => ?_
    simp [drunL, dwanted, dopS, own, dop, dput, eval, ofVal, Then, upd, dbin, intCmp]
    refine hK _ _ ?_ rfl; clear hK K
    refine Dwp.condF (by simp [eval, upd]) (Dwp.skip ?_)
    refine Dwp.freeze 11 (o := .cells 229 (EncR.book.enc b)) (fun t => if t = 6 then .row (EncR.book.enc b) 0 else if t = 2 then .row (EncR.sigd.enc s) 0 else if t = 3 then .row [.lit (.string x)] 0 else .junk) (by simp [upd, σ0]) (fun t => ?_) ?_
    · by_cases h6 : t = 6
      · subst h6; simp [upd]; exact .box (t := 229) 0 (by simp [upd, σ0])
      by_cases h2 : t = 2
      · subst h2; simp [upd]; exact .keep _
      by_cases h3 : t = 3
      · subst h3; simp [upd]; exact .keep _
      simp [h6, h2, h3]; exact .junk _
    have g2 : dcall T 312 [Enc.book.enc b, Enc.clo.enc (313, b, x)] = some (Enc.strs.enc v) := dcall2 (A := Enc.book) (B := Enc.clo) (C := Enc.strs) h61 hv
    simp only [Enc.book, Enc.agg, Enc.clo, strsC] at g2
    refine Dwp.step tT rfl fun K hK => ?_
    simp [drunL, drunO, dwanted, dopS, own, plainOf, dop, dput, eval, ofVal, Then, Ex.then, Ex.inBlock, upd, dbin, Tag.isNN, nilTest, intCmp, dload, dpart, TyI.agg, dfieldAddr, dfield, dindexAddr, dindex, dlen, lenOk, dlookup, mapOf, assocM, keyFits, dmapUpdate, dcallee, dbuiltin, dstore, DV.cells, setAt, dslice, dboundOk, dappend, appTag, rowsOf, elemOk, growLimit, dbuildCells, dbuildCells.go, structOk, fieldsOk, dbuildRows, goInt, ty229, g2]
    refine hK _ _ (Dwp.ret ?_) rfl
    have := decRows_enc (EncR.one Enc.str) v
    simp only [EncR.one, Enc.str] at this
    simp [Done, dresults, dres, frz, frz1, frz2, Ex.then, upd, Enc.strsErr, Enc.tup, arg2, EncR.and, EncR.one, Enc.strs, Enc.slice, Enc.str, Enc.i64, Enc.int, this]
theorem e285 : Go.FA.Good Tryz.prog (285, s285) := ⟨c285, Tryz.f285, _, Tryz.func285, rfl, by decide⟩

def thatErr30 (s : SigD) (x : ByteArray) : Option (List ByteArray × Int) := withBook (openF s [x]) [] fun b => thatF b 65 b x
def s30 : Sp := sp (arg2 Enc.sigd Enc.str) Enc.strsErr (fun x => withBook (openF x.1 [x.2]) [] fun b => thatF b 65 b x.2)
def valueB (s : SigD) (b : Book) (x : ByteArray) : Option Bool := if s.values.length ≤ lim ∧ (s.values.all fun y => (b.clo 56 x y).isSome) = true then some (s.values.any (cloB b 56 x)) else none
def s20 : Sp := sp (arg2 Enc.sigd Enc.str) Enc.boolErr (fun x => withBook (openF x.1 [x.2]) false fun b => valueB x.1 b x.2)
end Go.Proofs.Yt
namespace Go.FA
open Go.RowKit Go.Sort Go.Proofs
set_option linter.unusedVariables false

/-- '<=' of strings, byte by byte -/
def leL : List UInt8 → List UInt8 → Bool
  | [], _ => true
  | _ :: _, [] => false
  | a :: xs, b :: bs => match Nat.blt a.toNat b.toNat with
    | true => true
    | false => match Nat.blt b.toNat a.toNat with
      | true => false
      | false => leL xs bs
theorem leL_eq : ∀ x y : List UInt8, leL x y = decide (x ≤ y)
  | [], y => by simp [leL]
  | a :: xs, [] => by simp [leL]
  | a :: xs, b :: bs => by
    simp only [leL]
    cases h1 : Nat.blt a.toNat b.toNat with
    | true =>
      have h : a < b := UInt8.lt_iff_toNat_lt.2 (by simpa [Nat.blt_eq] using h1)
      simp [List.cons_le_cons_iff, h]
    | false =>
      have h1' : ¬ a.toNat < b.toNat := by
        intro q; rw [← Nat.blt_eq] at q; rw [h1] at q; cases q
      cases h2 : Nat.blt b.toNat a.toNat with
      | true =>
        have h : b.toNat < a.toNat := by simpa [Nat.blt_eq] using h2
        have hl : ¬ a < b := fun q => h1' (UInt8.lt_iff_toNat_lt.1 q)
        have he : a ≠ b := fun q => by subst q; omega
        simp [List.cons_le_cons_iff, hl, he]
      | false =>
        have h2' : ¬ b.toNat < a.toNat := by
          intro q; rw [← Nat.blt_eq] at q; rw [h2] at q; cases q
        have he : a = b := UInt8.toNat_inj.1 (by omega)
        subst he
        simp [List.cons_le_cons_iff, leL_eq xs bs]
def insL (x : List UInt8) : List (List UInt8) → List (List UInt8)
  | [] => [x]
  | y :: l => match leL x y with
    | true => x :: y :: l
    | false => y :: insL x l
def sortL : List (List UInt8) → List (List UInt8)
  | [] => []
  | x :: l => insL x (sortL l)
theorem insL_perm (x : List UInt8) : ∀ l, (insL x l).Perm (x :: l)
  | [] => .refl _
  | y :: l => by
    simp only [insL]
    cases leL x y with
    | true => exact .refl _
    | false => exact ((insL_perm x l).cons y).trans (.swap x y l)
theorem sortL_perm : ∀ l, (sortL l).Perm l
  | [] => .refl _
  | x :: l => (insL_perm x (sortL l)).trans ((sortL_perm l).cons x)
theorem le_total (x y : List UInt8) : (decide (x ≤ y) || decide (y ≤ x)) = true := by
  rcases List.le_total x y with h | h <;> simp [h]
theorem insL_pair (x : List UInt8) : ∀ l : List (List UInt8), l.Pairwise (fun a b => decide (a ≤ b) = true) → (insL x l).Pairwise (fun a b => decide (a ≤ b) = true)
  | [], _ => by simp [insL]
  | y :: l, h => by
    obtain ⟨h1, h2⟩ := List.pairwise_cons.1 h
    simp only [insL]
    cases hb : leL x y with
    | true =>
      rw [leL_eq] at hb
      refine List.pairwise_cons.2 ⟨fun z hz => ?_, h⟩
      rcases List.mem_cons.1 hz with rfl | hz
      · exact hb
      · have := h1 z hz
        simp only [decide_eq_true_eq] at hb this ⊢
        exact List.le_trans hb this
    | false =>
      rw [leL_eq] at hb
      have hyx : decide (y ≤ x) = true := by have := le_total x y; rw [hb] at this; simpa using this
      refine List.pairwise_cons.2 ⟨fun z hz => ?_, insL_pair x l h2⟩
      have hz' := (insL_perm x l).mem_iff.1 hz
      rcases List.mem_cons.1 hz' with rfl | hz'
      · exact hyx
      · exact h1 z hz'
theorem sortL_pair : ∀ l, (sortL l).Pairwise (fun a b => decide (a ≤ b) = true)
  | [] => .nil
  | x :: l => insL_pair x _ (sortL_pair l)
theorem mergeSort_eq (l : List (List UInt8)) : (l.mergeSort fun x y => decide (x ≤ y)) = sortL l := by
  refine List.Perm.eq_of_pairwise (le := fun a b => decide (a ≤ b) = true) (fun a b _ _ h1 h2 => ?_) (List.pairwise_mergeSort (fun a b c h1 h2 => ?_) (fun a b => le_total a b) l) (sortL_pair l) ((List.mergeSort_perm _ _).trans (sortL_perm l).symm)
  · simp only [decide_eq_true_eq] at h1 h2
    exact List.le_antisymm h1 h2
  · simp only [decide_eq_true_eq] at h1 h2 ⊢
    exact List.le_trans h1 h2
theorem sortB_ins (l : List ByteArray) : sortB l = (sortL (l.map bl)).map lb := by rw [sortB, mergeSort_eq]
end Go.FA
namespace Go.Proofs.Yt
open Go Go.FA Go.Proofs
set_option linter.unusedVariables false
def sortI (l : List ByteArray) : List ByteArray := (sortL (l.map bl)).map lb
def thatI (k : Book) (f : Nat) (b : Book) (x : ByteArray) : Option (List ByteArray) :=
  if k.highs.length ≤ 1000 ∧ f = 313 ∧ (k.highs.all fun p => (b.clo f x p.1).isSome) = true then some (sortI ((k.highs.map (·.1)).filter (cloB b f x))) else none
theorem thatI_eq (k : Book) (f : Nat) (b : Book) (x : ByteArray) : thatI k f b x = thatF k f b x := by
  unfold thatI thatF sortI
  rw [sortB_ins]
def s285i : Sp := sp (arg2 Enc.sigd Enc.str) Enc.strsErr (fun x => withBook (openF x.1 [x.2]) [] fun b => thatI b 313 b x.2)
theorem e285i : Go.FA.Good Tryz.prog (285, s285i) := by
  have : s285i = s285 := by
    unfold s285i s285
    congr 1; funext x; congr 1; funext b; exact thatI_eq _ _ _ _
  rw [this]; exact e285
end Go.Proofs.Yt
namespace Go.Proofs
open Go.Shelf
def keys118_ren : Go.Shelf.Ren := ⟨fun | 7 => 118 | 10 => 224 | n => n, fun | 23 => 129 | 26 => 9 | 3 => 128 | 28 => 138 | 0 => 0 | 27 => 137 | 33 => 70 | 4 => 4 | n => n, fun | n => n⟩
theorem keys118 : Go.Proofs.SlLaysZ.n7 Tryz.prog keys118_ren := {
  mixed := by kernel_rfl
  f7 := ⟨Tryz.f118.name, by decide, Tryz.func118.trans (congrArg some (by kernel_rfl))⟩
  f10 := ⟨Tryz.f224.name, by decide, Tryz.func224.trans (congrArg some (by kernel_rfl))⟩
  t0 := Tryz.underlying0
  a0 := Tryz.isAgg0
  z0 := Tryz.sizeOf0
  v0 := Tryz.zeroValue0
  t4 := Tryz.underlying4
  a4 := Tryz.isAgg4
  z4 := Tryz.sizeOf4
  v4 := Tryz.zeroValue4
  t23 := Tryz.underlying129
  a23 := Tryz.isAgg129
  z23 := Tryz.sizeOf129
  v23 := Tryz.zeroValue129
  t26 := Tryz.underlying9
  a26 := Tryz.isAgg9
  z26 := Tryz.sizeOf9
  v26 := Tryz.zeroValue9
  t27 := Tryz.underlying137
  a27 := Tryz.isAgg137
  z27 := Tryz.sizeOf137
  v27 := Tryz.zeroValue137
  t28 := Tryz.underlying138
  a28 := Tryz.isAgg138
  z28 := Tryz.sizeOf138
  v28 := Tryz.zeroValue138
  t33 := Tryz.underlying70
  a33 := Tryz.isAgg70
  z33 := Tryz.sizeOf70
  v33 := Tryz.zeroValue70 }
def sorted117_ren : Go.Shelf.Ren := ⟨fun | 6 => 117 | 8 => 223 | 9 => 94 | 11 => 283 | 13 => 160 | 12 => 159 | 23 => 260 | 24 => 261 | 14 => 251 | 15 => 252 | 16 => 253 | 17 => 254 | 18 => 255 | 19 => 256 | 20 => 257 | 21 => 258 | 22 => 259 | 25 => 289 | 26 => 290 | 27 => 291 | 28 => 292 | 29 => 293 | 30 => 250 | 31 => 315 | n => n, fun | 26 => 9 | 28 => 138 | 24 => 22 | 0 => 0 | 3 => 3 | 37 => 167 | 48 => 216 | 50 => 218 | 4 => 4 | 40 => 209 | 39 => 208 | 45 => 213 | 5 => 5 | 9 => 9 | 51 => 238 | 55 => 90 | 57 => 257 | 58 => 221 | 33 => 70 | n => n, fun | n => n⟩
theorem sorted117 : Go.Proofs.SlLaysZ.n6 Tryz.prog sorted117_ren := {
  mixed := by kernel_rfl
  f6 := ⟨Tryz.f117.name, by decide, Tryz.func117.trans (congrArg some (by kernel_rfl))⟩
  f8 := ⟨Tryz.f223.name, by decide, Tryz.func223.trans (congrArg some (by kernel_rfl))⟩
  f11 := ⟨Tryz.f283.name, by decide, Tryz.func283.trans (congrArg some (by kernel_rfl))⟩
  t0 := Tryz.underlying0
  a0 := Tryz.isAgg0
  z0 := Tryz.sizeOf0
  v0 := Tryz.zeroValue0
  t24 := Tryz.underlying22
  a24 := Tryz.isAgg22
  z24 := Tryz.sizeOf22
  v24 := Tryz.zeroValue22
  t26 := Tryz.underlying9
  a26 := Tryz.isAgg9
  z26 := Tryz.sizeOf9
  v26 := Tryz.zeroValue9
  t28 := Tryz.underlying138
  a28 := Tryz.isAgg138
  z28 := Tryz.sizeOf138
  v28 := Tryz.zeroValue138
  i26 := by kernel_rfl }
end Go.Proofs
namespace Go.Proofs.Yt
open Go Go.FA Go.Proofs Go.RowKit Go.Maps Go.Sort Go.Shelf
set_option linter.unusedVariables false
set_option maxRecDepth 1000000
def keyB : Value → ByteArray
  | .string s => s
  | _ => ⟨#[]⟩
def strK : Value → Bool
  | .string s => decide (s.size ≤ 1048576)
  | _ => false
theorem strK_spec {v : Value} (h : strK v = true) : v = .string (keyB v) ∧ (keyB v).size ≤ 1048576 := by
  cases v <;> simp [strK] at h
  exact ⟨rfl, h⟩
theorem sorts94n : SortsS Tryz.prog 94 := ⟨fun blk off cap ss w h1 h2 h3 => Any.slices_Sort_string lays190 blk off cap ss w h1 h2 h3, fun p cap w => Any.slices_Sort_string_none lays190 p cap w⟩
theorem sortsIn (m : Nat) : AnyZ.SortsIn Tryz.prog sorted117_ren Fence.wide m :=
  ⟨fun blk off cap ss W h1 h2 h3 => callsIn_wide.2 (sorts94n.some blk off cap ss W h1 h2 h3), fun p cap W => callsIn_wide.2 (sorts94n.none p cap W)⟩
def nodupK : List Value → Bool
  | [] => true
  | k :: ks => strK k && allMiss k ks && nodupK ks
theorem nodupK_spec : ∀ {l : List Value}, nodupK l = true → l.Nodup ∧ ∀ k ∈ l, strK k = true
  | [], _ => by simp
  | k :: ks, h => by
    simp only [nodupK, Bool.and_eq_true] at h
    obtain ⟨i1, i2⟩ := nodupK_spec h.2
    refine ⟨List.nodup_cons.2 ⟨fun hin => ?_, i1⟩, fun x hx => ?_⟩
    · have := allMiss_spec h.1.2 k hin
      rw [(strK_spec h.1.1).1] at this
      simp [eqKey] at this
    · rcases List.mem_cons.1 hx with rfl | q
      · exact h.1.1
      · exact i2 x q
def anyV : Value → Option (DataW Unit × List MemPlace) := fun _ => some (.nil, [])
theorem under9 : Tryz.prog.underlying 9 = some .string := by kernel_rfl
/-- slices.Sorted(maps.Keys(m)) of a map whose keys are known -/
theorem hc117 {σ : St} {id mid : Nat} {t : TypeId} {sl : Sl} (h1 : σ.objs id = some (.cells t [.map mid])) (h2 : σ.objs mid = some (.slots sl)) (hk : nodupK ((fil sl).map (·.1)) = true) (hn : (fil sl).length ≤ 1048576) :
    HC Tryz.prog 117 [.func (.func 224) [] [.ptr id 0]] σ (fun d σ' => d = .slice 1 .none (rowsS (sortB ((fil sl).map fun p => keyB p.1))) ∧ σ' = σ) := by
  refine ⟨⟨Tryz.f117, _, Tryz.func117, rfl, by decide⟩, fun E C w args hl hs => ?_⟩
  match args, hl with
  | [v], hl =>
    simp only [LRel, VRel] at hl
    obtain ⟨⟨f', c', rfl, hf', hc'⟩, _⟩ := hl
    match f', c', hf', hc' with
    | [], [p], _, hc' =>
      simp only [LRel, VRel] at hc'
      obtain ⟨⟨Bm, hB, rfl⟩, _⟩ := hc'
      obtain ⟨b1, hb1, _, hlt1, _, _, vs, hv1, hv2, _⟩ := hs.obj _ _ h1
      obtain rfl : Bm = b1 := by rw [hB] at hb1; exact Option.some.inj hb1
      match vs, hv1, hv2 with
      | [u], hv1, hv2 =>
        simp only [LRel, VRel] at hv2
        obtain ⟨⟨b, hb, rfl⟩, _⟩ := hv2
        obtain ⟨b2, hb2, _, hlt2, _, _, es, clock, es', k1, k2, k3, k4⟩ := hs.obj _ _ h2
        obtain rfl : b = b2 := by rw [hb] at hb2; exact Option.some.inj hb2
        have hcell : w.cell? ⟨Bm, 0, none⟩ = some (.map (some b)) := by rw [cell?_of_cells hv1]; simp
        have hkeys := (SlRel.keys k3).1
        have hall : ∀ e ∈ es.toList, strK e.key = true := by
          intro e he
          have h3 : e.key ∈ es'.map (·.key) := List.mem_map.2 ⟨e, k2.mem_iff.2 he, rfl⟩
          rw [hkeys] at h3
          obtain ⟨p, hp, hpe⟩ := List.mem_map.1 h3
          rw [← hpe]; exact (nodupK_spec hk).2 _ (List.mem_map.2 ⟨p, hp, rfl⟩)
        have hlen : es.size = (fil sl).length := by
          have := k2.length_eq
          have h4 := congrArg List.length hkeys
          simp at this h4; omega
        have hrd : ∀ e ∈ es.toList, WideElems.rd Tryz.prog 9 anyV e = some (.string (bl (keyB e.key)), .nil) := by
          intro e he
          obtain ⟨q1, q2⟩ := strK_spec (hall e he)
          obtain ⟨key, val, born⟩ := e
          simp only at q1 q2 ⊢
          have := WideMaps.keyOf_string_mk under9 (s := keyB key) (Nat.le_trans q2 (by decide))
          rw [← q1] at this
          exact WideElems.rd_mk this (yv := (.nil, [])) rfl
        have hfit : WideElems.Fit Tryz.prog 9 anyV es clock := ⟨by rw [hlen]; exact Nat.le_trans hn (by decide), ⟨k4.1, k4.2, by
          have h5 : (es'.map (·.key)).Perm (es.toList.map (·.key)) := k2.map _
          rw [hkeys] at h5
          exact h5.nodup_iff.1 (nodupK_spec hk).1⟩, fun e he => ⟨_, hrd e he⟩⟩
        obtain ⟨D0, hD0⟩ : ∃ D0, D0 = DataW.map ((es.toList.map (WideElems.rg Tryz.prog 9 anyV)).foldr DataW.insert []) := ⟨_, rfl⟩
        have hown : w.ownsMap Tryz.prog 9 anyV b es.size D0 := ⟨es, clock, k1, hfit, Nat.le_refl _, hD0⟩
        have hsz : Maps.size D0 = (fil sl).length := by
          rw [hD0, Maps.size_eq, (WideShapes.sorted_perm _).length_eq, List.length_map, Array.length_toList, hlen]
        have hperm : (strKeys D0).Perm (((fil sl).map fun p => keyB p.1).map bl) := by
          rw [hD0]
          refine ((WideShapes.sorted_perm _).map _).trans ?_
          have e1 : (es.toList.map (WideElems.rg Tryz.prog 9 anyV)).map (fun p => strOf p.1) = (es.toList.map (·.key)).map fun k => bl (keyB k) := by
            rw [List.map_map, List.map_map]
            refine List.map_congr_left fun e he => ?_
            simp only [Function.comp, WideElems.rg_of (hrd e he), strOf]
          rw [e1]
          have e2 : ((fil sl).map fun p => keyB p.1).map bl = (es'.map (·.key)).map fun k => bl (keyB k) := by rw [hkeys]; simp [List.map_map, Function.comp_def]
          rw [e2]
          exact ((k2.symm.map _).map _)
        have hseq : SeqGives Fence.wide 2 Tryz.prog 224 #[.pointer (some ⟨Bm, 0, none⟩)] encStr (fun ss => ss.Perm (strKeys D0)) (Maps.size D0) w :=
          AnyZ.keys_gives (ρ := keys118_ren) { keys118 with } Fence.wide _ trivial rfl (by omega) Bm b es.size D0 w hlt1 hcell hown
        have hS := AnyZ.sorted_in sorted117 Fence.wide 5 trivial trivial trivial trivial rfl (by omega) (sortsIn _) (enters_of Tryz.func94 (by kernel_rfl) rfl) 224 #[.pointer (some ⟨Bm, 0, none⟩)] trivial (enters_of Tryz.func224 (by kernel_rfl) rfl) _ _ (by rw [hsz]; exact Nat.le_trans hn (by decide)) (by rw [hsz]; exact Nat.le_trans (Nat.mul_le_mul_right 16 hn) (by decide)) w hseq
        refine (callsIn_wide.1 hS).mono fun e w' ⟨v, ss, he, hP, hrow, hnil, hbel⟩ => ⟨v, he, _, _, ⟨rfl, rfl⟩, ?_⟩
        have hms : ss.mergeSort (fun x y => decide (x ≤ y)) = (((fil sl).map fun p => keyB p.1).map bl).mergeSort (fun x y => decide (x ≤ y)) := mergeSort_of_perm (hP.trans hperm)
        refine Res.of_call hs hbel ?_ ?_
        · rfl
        · have hrows : sortB ((fil sl).map fun p => keyB p.1) = (ss.mergeSort fun x y => decide (x ≤ y)).map lb := by unfold sortB; rw [hms]
          rw [hrows]
          simp only [VRel]
          have hl1 : ((ss.mergeSort fun x y => decide (x ≤ y)).map lb).length = ss.length := by simp
          rcases hrow.2 with ⟨rfl, hz⟩ | ⟨g, cap, cur, rfl, hg, hblk, r1, r2, r3, r4⟩
          · right
            have : ss = [] := List.eq_nil_of_length_eq_zero hz
            subst this
            exact ⟨none, rfl, by simp [rowsS], trivial⟩
          · left
            have hgl : g < w'.heap.size := (Array.getElem?_eq_some_iff.1 hblk).1
            refine ⟨g, 0, cap, by simp [rowsS], by simpa [rowsS] using r1, ?_, trivial⟩
            refine cells_rows _ 0 fun j x hx => ⟨.inr ⟨hg, hgl⟩, ?_⟩
            rw [cell?_of_cells hblk]
            have h5 : (cur.toList.take (ss.length * 1))[j]? = some (.string x) := by
              rw [r4]
              simp only [List.getElem?_map] at hx ⊢
              obtain ⟨y, hy, rfl⟩ := Option.map_eq_some_iff.1 hx
              rw [hy]; rfl
            have hj : j < ss.length := by
              have := (List.getElem?_eq_some_iff.1 hx).1
              omega
            rw [List.getElem?_take] at h5
            simp only [Nat.mul_one, hj, if_true] at h5
            simpa using h5
end Go.Proofs.Yt
namespace Go.Proofs.Yt
open Go Go.FA Go.Proofs Go.RowKit Go.Proofs.Y
set_option maxRecDepth 1000000
def isB (r : Option (DV × EvS)) : Bool := match r with
  | some (.lit (.bool b), _) => b
  | _ => false
def ran (r : Option (DV × EvS)) : Bool := match r with
  | some _ => true
  | _ => false
def ok0 (r : Option (DV × EvS)) : Bool := match r with
  | some (.tuple [_, .lit (.int _ 0)], _) => true
  | _ => false
noncomputable def T1 : Tab := tabOf [(237, s237), (285, s285i), (296, s296)]
def fnKeys : List Value := [.string ⟨#[97, 100, 100]⟩, .string ⟨#[115, 117, 98]⟩, .string ⟨#[109, 117, 108]⟩, .string ⟨#[100, 105, 118]⟩, .string ⟨#[109, 111, 100]⟩, .string ⟨#[110, 101, 103]⟩, .string ⟨#[108, 116]⟩, .string ⟨#[108, 101]⟩, .string ⟨#[103, 116]⟩, .string ⟨#[103, 101]⟩, .string ⟨#[101, 113]⟩, .string ⟨#[110, 101]⟩, .string ⟨#[97, 110, 100]⟩, .string ⟨#[111, 114]⟩, .string ⟨#[110, 111, 116]⟩, .string ⟨#[112, 105, 99, 107]⟩, .string ⟨#[99, 97, 116]⟩, .string ⟨#[108, 101, 110, 103, 116, 104]⟩, .string ⟨#[116, 101, 120, 116]⟩, .string ⟨#[106, 111, 105, 110]⟩, .string ⟨#[103, 101, 116]⟩, .string ⟨#[112, 117, 116]⟩, .string ⟨#[104, 97, 115]⟩, .string ⟨#[100, 101, 108]⟩, .string ⟨#[107, 101, 121, 115]⟩, .string ⟨#[115, 105, 122, 101]⟩, .string ⟨#[105, 115]⟩, .string ⟨#[105, 115, 118, 97, 108, 117, 101]⟩]
def L1 : FuncId → Bool := fun g => g == 278 || g == 277 || g == 300 || g == 118 || g == 112 || g == 127 || g == 78 || g == 110 || g == 101 || g == 172
def M1 : FuncId → Go.FA.Mode := fun g => match g with
  | 112 => ⟨false, [], fnKeys, false, []⟩
  | 118 => ⟨false, [1], [], false, []⟩
  | 172 => ⟨true, [], [], false, []⟩
  | 101 => ⟨false, [1], [], false, []⟩
  | 106 => ⟨false, [3], [], false, []⟩
  | 179 => ⟨false, [3], [], false, []⟩
  | 213 => ⟨false, [], [], false, [(1, [5, 6])]⟩
  | 278 => ⟨false, [], [], false, []⟩
  | 218 => ⟨false, [], [], true, []⟩
  | 199 => ⟨false, [], [], true, []⟩
  | _ => ⟨false, [], [], false, []⟩
/-- slices.Sorted of a map's keys -/
def S117 : List DV → EvS → Option (DV × EvS) := fun xs s => match xs with
  | [.func (.func g) [] [.ptr id 0]] => match Nat.beq g 224 with
    | true => match s.h.get id with
      | some (.cells _ [.map mid]) => match s.h.get mid with
        | some (.slots sl) => match nodupK ((fil sl).map (·.1)) && Nat.ble (fil sl).length 1048576 with
          | true => some (.slice 1 .none (rowsS ((sortL (((fil sl).map fun p => keyB p.1).map bl)).map lb)), s)
          | false => none
        | _ => none
      | _ => none
    | false => none
  | _ => none
def H1 : Hs := fun g => match Nat.beq g 117 with
  | true => some S117
  | false => none
theorem H1ok : HsOk Tryz.prog H1 := by
  intro g S hg xs s d s' h
  unfold H1 at hg
  split at hg
  · next hb =>
    have := Nat.eq_of_beq_eq_true hb
    subst this
    simp only [Option.some.injEq] at hg; subst hg
    unfold S117 at h
    split at h
    · next g id =>
      split at h
      · next hg2 =>
        have := Nat.eq_of_beq_eq_true hg2
        subst this
        split at h
        · next t mid h1 =>
          split at h
          · next sl h2 =>
            split at h
            · next hk =>
              simp only [Bool.and_eq_true] at hk
              simp only [Option.some.injEq, Prod.mk.injEq] at h; obtain ⟨rfl, rfl⟩ := h
              refine (hc117 (σ := s.st) h1 h2 hk.1 (Nat.le_of_ble_eq_true hk.2)).mono ?_
              rintro d σ' ⟨rfl, rfl⟩
              exact ⟨by rw [sortB_ins], rfl⟩
            · simp at h
          · simp at h
        · simp at h
      · simp at h
    · simp at h
  · simp at hg
noncomputable def call (f : Nat) (g : Nat) (xs : List DV) : Option (DV × EvS) := evC Tryz.prog T1 H1 L1 M1 (ev Tryz.prog T1 H1 L1 M1 f) g xs ⟨0, .leaf, .leaf⟩
noncomputable def andThen (r : Option (DV × EvS)) (k : DV → Option (DV × EvS)) : Option (DV × EvS) := match r with | some (d, _) => k d | none => none
noncomputable def num (n : Int) : Option (DV × EvS) := call 10 52 [.lit (.int .i64 n)]
def sigZ : DV := .agg [.lit (.slice none 0 0), .lit (.slice none 0 0), .lit (.slice none 0 0), .lit (.slice none 0 0), .lit (.slice none 0 0)]
noncomputable def int3 (n : Int) : Option (DV × EvS) := call 10 68 [.lit (.int .i64 n)]
def cellsOf : DV → List DV | .agg cs => cs | _ => []
noncomputable def apply2 (f : List UInt8) (a b : DV) : Option (DV × EvS) := call 1000 57 [sigZ, .lit (.string ⟨f.toArray⟩), .slice 6 .none [cellsOf a, cellsOf b]]
end Go.Proofs.Yt
