/- Contracts of functions of the program, by a machine over abstract values; part 3. No condition beyond those of each theorem. -/
import Derived.Test.YtboifamdcpelfaaGreatSm1
import Derived.Shelf.Sort.Plain
import Derived.Shelf.Slices.In.SortNone
import Derived.Sort.Row
import Derived.Sort.Grow
import Derived.Sort.EncStr
namespace Go.Proofs.Yt
open Go Go.FA Go.Proofs
set_option linter.unusedVariables false
set_option linter.unusedSimpArgs false
set_option maxRecDepth 100000

def s130 : Sp := sp (arg1 (Enc.lists Enc.ops)) Enc.ops (fun l => if l.length ≤ 1048576 ∧ (cat l).length ≤ 1048576 then some (cat l) else none)
def inv130a (l : List (List OpD)) : Nat → (Nat → DV) → St → Prop := fun k a σ => ∃ i, i ≤ l.length ∧ k = l.length - i ∧ a 0 = .slice 1 .none (l.map fun s => [Enc.ops.enc s]) ∧ a 3 = .lit (.int .i64 (cat (l.take i)).length) ∧
  a 9 = .slice 1 .none (l.map fun s => [Enc.ops.enc s]) ∧ a 10 = .lit (.int .i64 l.length) ∧ a 11 = .lit (.int .i64 i)
def inv130b (l : List (List OpD)) : Nat → (Nat → DV) → St → Prop := fun k a σ => ∃ (i tk g : Nat), i ≤ l.length ∧ k = l.length - i ∧
  a 6 = .slice 7 (.tok tk g) ((cat (l.take i)).map EncR.opd.enc) ∧ σ.toks tk = some g ∧
  a 25 = .slice 1 .none (l.map fun s => [Enc.ops.enc s]) ∧ a 26 = .lit (.int .i64 l.length) ∧ a 27 = .lit (.int .i64 i)
theorem t130 : TabOk Tryz.prog (tabOf [(150, s150)]) := .cons e150 .nil
attribute [local simp] drunL drunO dwanted dopS own plainOf dop dput eval ofVal Then Ex.then Ex.inBlock upd dbin Tag.isNN nilTest intCmp dload dpart TyI.agg dfieldAddr dfield dindexAddr dindex dlen lenOk dlookup mapOf keyFits dmapUpdate dcallee dbuiltin dstore DV.cells dslice dboundOk dappend appTag rowsOf elemOk growLimit dbuildCells dbuildCells.go structOk fieldsOk dbuildRows goInt
theorem c130 : CallSound Tryz.prog 130 s130 := by
  refine CallSound.of_sp (T := tabOf [(150, s150)]) Tryz.func130 rfl (Nat.le_of_ble_eq_true rfl) fun E l y hy => ?_
  by_cases hlim : l.length ≤ 1048576 ∧ (cat l).length ≤ 1048576 <;> simp only [hlim, and_self, if_true, if_false, reduceCtorEq, Option.some.injEq] at hy
  subst hy
  obtain ⟨hl1, hl2⟩ := hlim
  refine Dwp.step t130 rfl fun K hK => ?_
  simp [dcall, tabOf, setAt]
  refine hK _ _ ?_ rfl; clear hK K
  refine Dwp.step t130 rfl fun K hK => ?_
  simp [dcall, tabOf, setAt]
  refine hK _ _ ?_ rfl; clear hK K
  refine Dwp.seq ?_
  refine Dwp.step t130 rfl fun K hK => ?_
  simp [dcall, tabOf, setAt, init, arg1, EncR.one, Enc.lists, Enc.slice, ty138]
  refine hK _ _ ?_ rfl; clear hK K
  refine Dwp.block (Dwp.loop (inv130a l) l.length ⟨0, by simp, by simp, by simp [upd, init, Enc.ops, Enc.slice, EncR.one], by simp [upd], by simp [upd, init, Enc.ops, Enc.slice, EncR.one], by simp [upd], by simp [upd]⟩ ?_)
  rintro k a σ ⟨i, hi, rfl, h0, h3, h9, h10, h11⟩
  refine Dwp.step t130 rfl fun K hK => ?_
  simp [dcall, tabOf, setAt, h10, h11]
  refine hK _ _ ?_ rfl; clear hK K
  by_cases hlt : i < l.length
  · refine Dwp.seq (Dwp.condT (by simp [eval, upd, hlt]) (Dwp.skip ?_))
    refine Dwp.seq (Dwp.block ?_)
    refine Dwp.step t130 rfl fun K hK => ?_
    simp [dcall, tabOf, setAt, h9, h11, ty138, ty24, hlt]
    refine hK _ _ ?_ rfl; clear hK K
    refine Dwp.step t130 rfl fun K hK => ?_
    have hft := cat_take hlt
    have hfl := cat_le (l := l) (i := i + 1)
    have hsum : (cat (l.take (i + 1))).length = (cat (l.take i)).length + l[i].length := by rw [hft]; simp
    have hw : IntKind.wrap .i64 (((cat (l.take i)).length : Int) + l[i].length) = ((cat (l.take (i + 1))).length : Int) := by rw [wrap_small (n := ((cat (l.take i)).length : Int) + l[i].length) (by omega) (by omega)]; omega
    simp [dcall, tabOf, setAt, h3, ty24, Enc.ops, Enc.slice, EncR.one, hw]
    refine hK _ _ ?_ rfl; clear hK K
    refine Dwp.step t130 rfl fun K hK => ?_
    have hnn : ¬ (((cat (l.take (i + 1))).length : Int) < 0) := by omega
    simp [dcall, tabOf, setAt, hnn]
    refine hK _ _ ?_ rfl; clear hK K
    refine Dwp.condF (by simp [eval, upd]) (Dwp.skip ?_)
    refine Dwp.reg t130 rfl fun K hK => ?_
    simp [dcall, tabOf, setAt, h11]
    refine hK _ _ ?_ rfl; clear hK K
    refine ⟨l.length - (i + 1), by omega, i + 1, by omega, rfl, by simp [upd, h0], by simp [upd], by simp [upd, h9], by simp [upd, h10], by simp [upd, wrap_small (n := (i : Int) + 1) (by omega) (by omega)]⟩
  · refine Dwp.seq (Dwp.condF (by simp [eval, upd, hlt]) (Dwp.exit ?_))
    rw [List.take_of_length_le (by omega)] at h3
    refine Dwp.step t130 rfl fun K hK => ?_
    have g := call150 (tabOf [(150, s150)]) rfl ((cat l).length : Int) (by omega) (by omega)
    simp [dcall, tabOf] at g
    simp [dcall, tabOf, setAt, h3, g]
    refine hK _ _ ?_ rfl; clear hK K
    refine Dwp.seq ?_
    refine Dwp.step t130 rfl fun K hK => ?_
    simp [dcall, tabOf, setAt, h0, ty138]
    refine hK _ _ ?_ rfl; clear hK K
    refine Dwp.block (Dwp.loop (inv130b l) l.length ⟨0, _, 0, by simp, by simp, by simp [upd]; rfl, by simp [upd], by simp [upd, h0], by simp [upd], by simp [upd]⟩ ?_)
    rintro k a σ ⟨i, tk, g, hi, rfl, h6, htk, h25, h26, h27⟩
    refine Dwp.step t130 rfl fun K hK => ?_
    simp [dcall, tabOf, setAt, h26, h27]
    refine hK _ _ ?_ rfl; clear hK K
    by_cases hlt : i < l.length
    · refine Dwp.seq (Dwp.condT (by simp [eval, upd, hlt]) (Dwp.skip ?_))
      refine Dwp.seq (Dwp.block ?_)
      refine Dwp.step t130 rfl fun K hK => ?_
      simp [dcall, tabOf, setAt, h25, h27, ty138, ty24, hlt]
      refine hK _ _ ?_ rfl; clear hK K
      refine Dwp.reg t130 rfl fun K hK => ?_
      have hft := cat_take hlt
      have hfl := cat_le (l := l) (i := i + 1)
      have hsum : (cat (l.take i)).length + l[i].length ≤ 16777216 := by rw [hft] at hfl; simp only [List.length_append] at hfl; omega
      simp [dcall, tabOf, setAt, h6, htk, ty24, ty38, Enc.ops, Enc.slice, hsum]
      refine hK _ _ ?_ rfl; clear hK K
      refine Dwp.reg t130 rfl fun K hK => ?_
      simp [dcall, tabOf, setAt, h27]
      refine hK _ _ ?_ rfl; clear hK K
      refine ⟨l.length - (i + 1), by omega, i + 1, _, _, by omega, rfl, by rw [hft]; simp [upd]; exact ⟨rfl, rfl⟩, by simp [upd], by simp [upd, h25], by simp [upd, h26], by simp [upd, wrap_small (n := (i : Int) + 1) (by omega) (by omega)]⟩
    · refine Dwp.seq (Dwp.condF (by simp [eval, upd, hlt]) (Dwp.exit ?_))
      rw [List.take_of_length_le (by omega)] at h6
      refine Dwp.step t130 rfl fun K hK => ?_
      simp [dcall, tabOf, setAt, h6]
      refine hK _ _ (Dwp.ret ?_) rfl
      have hd := decRows_enc EncR.opd (cat l)
      simp [Done, dresults, dres, frz, frz1, frz2, upd, Enc.ops, Enc.slice] at hd ⊢
      exact hd
theorem e130 : Go.FA.Good Tryz.prog (130, s130) := ⟨c130, Tryz.f130, _, Tryz.func130, rfl, by decide⟩
end Go.Proofs.Yt
namespace Go.Proofs.Yt
open Go Go.FA Go.Proofs
set_option linter.unusedVariables false
set_option linter.unusedSimpArgs false
set_option maxRecDepth 100000

@[simp] theorem sig0 (s : SigD) : (EncR.sigd.enc s)[0]? = some (Enc.strs.enc s.sorts) := rfl
@[simp] theorem sig1 (s : SigD) : (EncR.sigd.enc s)[1]? = some (Enc.bels.enc s.below) := rfl
@[simp] theorem sig2 (s : SigD) : (EncR.sigd.enc s)[2]? = some (Enc.ops.enc s.ops) := rfl
@[simp] theorem sig3 (s : SigD) : (EncR.sigd.enc s)[3]? = some (Enc.ops.enc s.funs) := rfl
@[simp] theorem sig4 (s : SigD) : (EncR.sigd.enc s)[4]? = some (Enc.strs.enc s.values) := rfl
@[simp] theorem sigLen (s : SigD) : (EncR.sigd.enc s).length = 5 := rfl
@[simp] theorem sigTake (s : SigD) : (EncR.sigd.enc s).take 5 = EncR.sigd.enc s := rfl

theorem call109 (T : Tab) (hT : T 109 = some s109) (l m : List ByteArray) (h : l.length + m.length ≤ 1048576) : dcall T 109 [.slice 1 .full [[Enc.strs.enc l], [Enc.strs.enc m]]] = some (Enc.strs.enc (l ++ m)) := by
  have h1 : (Enc.lists Enc.strs).dec (.slice 1 .full [[Enc.strs.enc l], [Enc.strs.enc m]]) = some [l, m] := by simp [Enc.lists, Enc.slice, EncR.one, decRows, Enc.strs.de]
  have h2 : (cat [l, m]).length ≤ 1048576 := by simpa [cat] using h
  simp only [dcall, hT, s109, sp, arg1, EncR.one, h1, Option.bind_some]
  rw [if_pos ⟨by simp, h2⟩]
  simp [cat]
theorem call113 (T : Tab) (hT : T 113 = some s113) (l : List ByteArray) (h : l.length ≤ lim) : dcall T 113 [Enc.strs.enc l] = some (.lit (.bool (decide l.Nodup))) := by
  simp [dcall, hT, s113, sp, arg1, EncR.one, Enc.strs.de, h, Enc.bool]
def okSorts (l : List ByteArray) : Bool := l.all isName && decide (given ++ l).Nodup
def s111 : Sp := sp (arg1 Enc.strs) Enc.bool (fun l => if l.length ≤ 1000000 then some (okSorts l) else none)
def inv111 (l : List ByteArray) : Nat → (Nat → DV) → St → Prop := fun k a σ => ∃ i, i ≤ l.length ∧ k = l.length - i ∧ (l.take i).all isName = true ∧ a 0 = Enc.strs.enc l ∧
  a 5 = .slice 1 .none (l.map fun s => [DV.lit (.string s)]) ∧ a 6 = .lit (.int .i64 l.length) ∧ a 7 = .lit (.int .i64 i)
abbrev T111 : Tab := tabOf [(38, s38), (110, s110), (109, s109), (113, s113)]
theorem t111 : TabOk Tryz.prog T111 := .cons e38 (.cons e110 (.cons e109 (.cons e113 .nil)))
theorem c111 : CallSound Tryz.prog 111 s111 := by
  refine CallSound.of_sp (T := T111) Tryz.func111 rfl (Nat.le_of_ble_eq_true rfl) fun E l y hy => ?_
  by_cases hlim : l.length ≤ 1000000 <;> simp [hlim] at hy
  subst hy
  refine Dwp.step t111 rfl fun K hK => ?_
  simp [drunL, drunO, dwanted, dopS, own, plainOf, dop, dput, eval, ofVal, Then, Ex.then, Ex.inBlock, upd, dbin, Tag.isNN, nilTest, intCmp, dload, dpart, TyI.agg, dfieldAddr, dfield, dindexAddr, dindex, dlen, lenOk, dlookup, mapOf, keyFits, dmapUpdate, dcallee, dcall, tabOf, dbuiltin, dstore, DV.cells, setAt, dslice, dboundOk, dappend, appTag, rowsOf, elemOk, growLimit, dbuildCells, dbuildCells.go, structOk, fieldsOk, dbuildRows, goInt]
  refine hK _ _ ?_ rfl; clear hK K
  refine Dwp.seq ?_
  refine Dwp.step t111 rfl fun K hK => ?_
  simp [drunL, drunO, dwanted, dopS, own, plainOf, dop, dput, eval, ofVal, Then, Ex.then, Ex.inBlock, upd, dbin, Tag.isNN, nilTest, intCmp, dload, dpart, TyI.agg, dfieldAddr, dfield, dindexAddr, dindex, dlen, lenOk, dlookup, mapOf, keyFits, dmapUpdate, dcallee, dcall, tabOf, dbuiltin, dstore, DV.cells, setAt, dslice, dboundOk, dappend, appTag, rowsOf, elemOk, growLimit, dbuildCells, dbuildCells.go, structOk, fieldsOk, dbuildRows, goInt, init, arg1, arg2, arg3, EncR.one, EncR.and, Enc.bool, Enc.int, Enc.str, Enc.strs, Enc.slice, Enc.agg, Enc.tup, Enc.err, Enc.fn, ty22]
  refine hK _ _ ?_ rfl; clear hK K
  refine Dwp.block (Dwp.loop (inv111 l) l.length ⟨0, by simp, by simp, by simp, by simp [upd, init, arg1, arg2, arg3, EncR.one, EncR.and, Enc.bool, Enc.int, Enc.str, Enc.strs, Enc.slice, Enc.agg, Enc.tup, Enc.err, Enc.fn], by simp [upd, init, arg1, arg2, arg3, EncR.one, EncR.and, Enc.bool, Enc.int, Enc.str, Enc.strs, Enc.slice, Enc.agg, Enc.tup, Enc.err, Enc.fn], by simp [upd], by simp [upd]⟩ ?_)
  rintro k a σ ⟨i, hi, rfl, hall, h0, h5, h6, h7⟩
  refine Dwp.step t111 rfl fun K hK => ?_
  simp [drunL, drunO, dwanted, dopS, own, plainOf, dop, dput, eval, ofVal, Then, Ex.then, Ex.inBlock, upd, dbin, Tag.isNN, nilTest, intCmp, dload, dpart, TyI.agg, dfieldAddr, dfield, dindexAddr, dindex, dlen, lenOk, dlookup, mapOf, keyFits, dmapUpdate, dcallee, dcall, tabOf, dbuiltin, dstore, DV.cells, setAt, dslice, dboundOk, dappend, appTag, rowsOf, elemOk, growLimit, dbuildCells, dbuildCells.go, structOk, fieldsOk, dbuildRows, goInt, h6, h7]
  refine hK _ _ ?_ rfl; clear hK K
  by_cases hlt : i < l.length
  · refine Dwp.seq (Dwp.condT (by simp [eval, upd, hlt]) (Dwp.skip ?_))
    refine Dwp.seq (Dwp.block ?_)
    refine Dwp.step t111 rfl fun K hK => ?_
    simp [drunL, drunO, dwanted, dopS, own, plainOf, dop, dput, eval, ofVal, Then, Ex.then, Ex.inBlock, upd, dbin, Tag.isNN, nilTest, intCmp, dload, dpart, TyI.agg, dfieldAddr, dfield, dindexAddr, dindex, dlen, lenOk, dlookup, mapOf, keyFits, dmapUpdate, dcallee, dcall, tabOf, dbuiltin, dstore, DV.cells, setAt, dslice, dboundOk, dappend, appTag, rowsOf, elemOk, growLimit, dbuildCells, dbuildCells.go, structOk, fieldsOk, dbuildRows, goInt, h5, h7, ty22, ty9, hlt]
    refine hK _ _ ?_ rfl; clear hK K
    refine Dwp.step t111 rfl fun K hK => ?_
    have g := call38 T111 rfl l[i]
    simp [dcall, tabOf] at g
    cases hp : isName l[i] with
    | true =>
      simp [drunL, drunO, dwanted, dopS, own, plainOf, dop, dput, eval, ofVal, Then, Ex.then, Ex.inBlock, upd, dbin, Tag.isNN, nilTest, intCmp, dload, dpart, TyI.agg, dfieldAddr, dfield, dindexAddr, dindex, dlen, lenOk, dlookup, mapOf, keyFits, dmapUpdate, dcallee, dcall, tabOf, dbuiltin, dstore, DV.cells, setAt, dslice, dboundOk, dappend, appTag, rowsOf, elemOk, growLimit, dbuildCells, dbuildCells.go, structOk, fieldsOk, dbuildRows, goInt, g, hp]
      refine hK _ _ ?_ rfl; clear hK K
      refine Dwp.condF (by simp [eval, upd]) (Dwp.skip ?_)
      refine Dwp.reg t111 rfl fun K hK => ?_
      simp [drunL, drunO, dwanted, dopS, own, plainOf, dop, dput, eval, ofVal, Then, Ex.then, Ex.inBlock, upd, dbin, Tag.isNN, nilTest, intCmp, dload, dpart, TyI.agg, dfieldAddr, dfield, dindexAddr, dindex, dlen, lenOk, dlookup, mapOf, keyFits, dmapUpdate, dcallee, dcall, tabOf, dbuiltin, dstore, DV.cells, setAt, dslice, dboundOk, dappend, appTag, rowsOf, elemOk, growLimit, dbuildCells, dbuildCells.go, structOk, fieldsOk, dbuildRows, goInt, h7]
      refine hK _ _ ?_ rfl; clear hK K
      exact ⟨l.length - (i + 1), by omega, i + 1, by omega, rfl, all_take hlt hall hp, by simp [upd, h0], by simp [upd, h5], by simp [upd, h6], by simp [upd, wrap_small (n := (i : Int) + 1) (by omega) (by omega)]⟩
    | false =>
      simp [drunL, drunO, dwanted, dopS, own, plainOf, dop, dput, eval, ofVal, Then, Ex.then, Ex.inBlock, upd, dbin, Tag.isNN, nilTest, intCmp, dload, dpart, TyI.agg, dfieldAddr, dfield, dindexAddr, dindex, dlen, lenOk, dlookup, mapOf, keyFits, dmapUpdate, dcallee, dcall, tabOf, dbuiltin, dstore, DV.cells, setAt, dslice, dboundOk, dappend, appTag, rowsOf, elemOk, growLimit, dbuildCells, dbuildCells.go, structOk, fieldsOk, dbuildRows, goInt, g, hp]
      refine hK _ _ ?_ rfl; clear hK K
      refine Dwp.condT (by simp [eval, upd]) ?_
      refine Dwp.step t111 rfl fun K hK => ?_
      simp [drunL, drunO, dwanted, dopS, own, plainOf, dop, dput, eval, ofVal, Then, Ex.then, Ex.inBlock, upd, dbin, Tag.isNN, nilTest, intCmp, dload, dpart, TyI.agg, dfieldAddr, dfield, dindexAddr, dindex, dlen, lenOk, dlookup, mapOf, keyFits, dmapUpdate, dcallee, dcall, tabOf, dbuiltin, dstore, DV.cells, setAt, dslice, dboundOk, dappend, appTag, rowsOf, elemOk, growLimit, dbuildCells, dbuildCells.go, structOk, fieldsOk, dbuildRows, goInt]
      refine hK _ _ (Dwp.ret ?_) rfl
      have := all_false hlt hp
      simp [Done, dresults, dres, frz, frz1, frz2, init, arg1, arg2, arg3, EncR.one, EncR.and, Enc.bool, Enc.int, Enc.str, Enc.strs, Enc.slice, Enc.agg, Enc.tup, Enc.err, Enc.fn, Ex.then, Ex.inBlock, upd, okSorts, this]
  · refine Dwp.seq (Dwp.condF (by simp [eval, upd, hlt]) (Dwp.exit ?_))
    rw [List.take_of_length_le (by omega)] at hall
    have hgl : given.length = 7 := rfl
    have g1 := call110 T111 rfl
    have g2 := call109 T111 rfl given l (by omega)
    have g3 := call113 T111 rfl (given ++ l) (by rw [List.length_append]; unfold lim; omega)
    generalize hG : Enc.strs.enc given = G at *
    generalize hL : Enc.strs.enc l = L at *
    have hGc : G.cells = some [G] := by subst hG; rfl
    have hLc : L.cells = some [L] := by subst hL; rfl
    have hGo : ∀ id σ, own id σ G = (G, σ) := by subst hG; intro id σ; rfl
    generalize hM : Enc.strs.enc (given ++ l) = M at *
    have hMo : ∀ id σ, own id σ M = (M, σ) := by subst hM; intro id σ; rfl
    refine Dwp.step t111 rfl fun K hK => ?_
    simp [drunL, dwanted, dopS, dop, dput, eval, ofVal, Then, upd, dcallee, dbuildRows, growLimit, ty119, ty22, h0, g1, g2, g3, hGc, hLc, hGo, hMo]
    simp [own]
    refine hK _ _ (Dwp.ret ?_) rfl
    simp [Done, dresults, dres, frz, frz1, frz2, Enc.bool, upd, okSorts, hall]
theorem e111 : Go.FA.Good Tryz.prog (111, s111) := ⟨c111, Tryz.f111, _, Tryz.func111, rfl, by decide⟩
end Go.Proofs.Yt
namespace Go.Proofs.Yt
open Go Go.FA Go.Proofs
set_option linter.unusedVariables false
set_option linter.unusedSimpArgs false
set_option maxRecDepth 100000

theorem call130 (T : Tab) (hT : T 130 = some s130) (l m : List OpD) (h : l.length + m.length ≤ 1048576) : dcall T 130 [.slice 1 .full [[Enc.ops.enc l], [Enc.ops.enc m]]] = some (Enc.ops.enc (l ++ m)) := by
  have h1 : (Enc.lists Enc.ops).dec (.slice 1 .full [[Enc.ops.enc l], [Enc.ops.enc m]]) = some [l, m] := by simp [Enc.lists, Enc.slice, EncR.one, decRows, Enc.ops.de]
  have h2 : (cat [l, m]).length ≤ 1048576 := by simpa [cat] using h
  simp only [dcall, hT, s130, sp, arg1, EncR.one, h1, Option.bind_some]
  rw [if_pos ⟨by simp, h2⟩]
  simp [cat]
def opNames (s : SigD) : List ByteArray := (s.ops ++ s.funs).map (·.name)
def s114 : Sp := sp (arg1 Enc.sigd) Enc.strs (fun s => if s.ops.length + s.funs.length ≤ 1048576 then some (opNames s) else none)
def inv114 (l : List OpD) : Nat → (Nat → DV) → St → Prop := fun k a σ => ∃ i, i ≤ l.length ∧ k = l.length - i ∧ Acc σ 1 ((l.take i).map fun o => [DV.lit (.string o.name)]) (a 3) ∧
  a 11 = .slice 7 .none (l.map EncR.opd.enc) ∧ a 12 = .lit (.int .i64 l.length) ∧ a 13 = .lit (.int .i64 i)
theorem t114 : TabOk Tryz.prog (tabOf [(130, s130)]) := .cons e130 .nil
theorem c114 : CallSound Tryz.prog 114 s114 := by
  refine CallSound.of_sp (T := tabOf [(130, s130)]) Tryz.func114 rfl (Nat.le_of_ble_eq_true rfl) fun E s y hy => ?_
  by_cases hlim : s.ops.length + s.funs.length ≤ 1048576 <;> simp [hlim] at hy
  subst hy
  refine Dwp.step t114 rfl fun K hK => ?_
  simp [drunL, drunO, dwanted, dopS, own, plainOf, dop, dput, eval, ofVal, Then, Ex.then, Ex.inBlock, upd, dbin, Tag.isNN, nilTest, intCmp, dload, dpart, TyI.agg, dfieldAddr, dfield, dindexAddr, dindex, dlen, lenOk, dlookup, mapOf, keyFits, dmapUpdate, dcallee, dcall, tabOf, dbuiltin, dstore, DV.cells, setAt, dslice, dboundOk, dappend, appTag, rowsOf, elemOk, growLimit, dbuildCells, dbuildCells.go, structOk, fieldsOk, dbuildRows, goInt, init, arg1, EncR.one, Enc.sigd, Enc.agg]
  refine hK _ _ ?_ rfl; clear hK K
  refine Dwp.step t114 rfl fun K hK => ?_
  simp [drunL, drunO, dwanted, dopS, own, plainOf, dop, dput, eval, ofVal, Then, Ex.then, Ex.inBlock, upd, dbin, Tag.isNN, nilTest, intCmp, dload, dpart, TyI.agg, dfieldAddr, dfield, dindexAddr, dindex, dlen, lenOk, dlookup, mapOf, keyFits, dmapUpdate, dcallee, dcall, tabOf, dbuiltin, dstore, DV.cells, setAt, dslice, dboundOk, dappend, appTag, rowsOf, elemOk, growLimit, dbuildCells, dbuildCells.go, structOk, fieldsOk, dbuildRows, goInt]
  refine hK _ _ ?_ rfl; clear hK K
  refine Dwp.seq ?_
  have g := call130 (tabOf [(130, s130)]) rfl s.ops s.funs hlim
  have ho : ∀ l : List OpD, (Enc.ops.enc l).cells = some [Enc.ops.enc l] := fun _ => rfl
  obtain ⟨l, hl⟩ : ∃ l, s.ops ++ s.funs = l := ⟨_, rfl⟩
  have hll : l.length ≤ 1048576 := by rw [← hl, List.length_append]; exact hlim
  have hnm : opNames s = l.map (·.name) := by rw [← hl]; rfl
  rw [hl] at g
  rw [hnm]
  refine Dwp.step t114 rfl fun K hK => ?_
  simp [drunL, dwanted, dopS, dop, dput, eval, ofVal, Then, upd, dfieldAddr, dload, dpart, TyI.agg, ty26, ty24, dcallee, dbuildRows, growLimit, ty138, g, ho, dbuiltin, lenOk, dlen, goInt]
  simp [Enc.ops, Enc.slice, lenOk, dlen, goInt]
  refine hK _ _ ?_ rfl; clear hK K
  refine Dwp.block (Dwp.loop (inv114 l) l.length ⟨0, by simp, by simp, .inl ⟨by simp, by simp [upd]⟩, by simp [upd], by simp [upd], by simp [upd]⟩ ?_)
  rintro k a σ ⟨i, hi, rfl, h3, h11, h12, h13⟩
  refine Dwp.step t114 rfl fun K hK => ?_
  simp [drunL, drunO, dwanted, dopS, own, plainOf, dop, dput, eval, ofVal, Then, Ex.then, Ex.inBlock, upd, dbin, Tag.isNN, nilTest, intCmp, dload, dpart, TyI.agg, dfieldAddr, dfield, dindexAddr, dindex, dlen, lenOk, dlookup, mapOf, keyFits, dmapUpdate, dcallee, dcall, tabOf, dbuiltin, dstore, DV.cells, setAt, dslice, dboundOk, dappend, appTag, rowsOf, elemOk, growLimit, dbuildCells, dbuildCells.go, structOk, fieldsOk, dbuildRows, goInt, h12, h13]
  refine hK _ _ ?_ rfl; clear hK K
  by_cases hlt : i < l.length
  · have htk : (l.take (i + 1)).map (fun o : OpD => [DV.lit (.string o.name)]) = (l.take i).map (fun o : OpD => [DV.lit (.string o.name)]) ++ [[DV.lit (.string l[i].name)]] := by
      rw [List.take_succ_eq_append_getElem hlt, List.map_append]; rfl
    refine Dwp.seq (Dwp.condT (by simp [eval, upd, hlt]) (Dwp.skip ?_))
    refine Dwp.seq (Dwp.block ?_)
    refine Dwp.step t114 rfl fun K hK => ?_
    simp [drunL, drunO, dwanted, dopS, own, plainOf, dop, dput, eval, ofVal, Then, Ex.then, Ex.inBlock, upd, dbin, Tag.isNN, nilTest, intCmp, dload, dpart, TyI.agg, dfieldAddr, dfield, dindexAddr, dindex, dlen, lenOk, dlookup, mapOf, keyFits, dmapUpdate, dcallee, dcall, tabOf, dbuiltin, dstore, DV.cells, setAt, dslice, dboundOk, dappend, appTag, rowsOf, elemOk, growLimit, dbuildCells, dbuildCells.go, structOk, fieldsOk, dbuildRows, goInt, h11, h13, ty24, ty38, hlt]
    refine hK _ _ ?_ rfl; clear hK K
    refine Dwp.reg t114 rfl fun K hK => ?_
    have hst : setAt (EncR.opd.enc ⟨⟨#[]⟩, [], ⟨#[]⟩, [], 0, 0, []⟩) 0 (EncR.opd.enc l[i]) = EncR.opd.enc l[i] := rfl
    have hsmall : min i l.length + 1 ≤ 16777216 := by omega
    rcases h3 with ⟨hr, h3⟩ | ⟨tk, g, h3, hg⟩
    · have hi0 : (l.take i).map (fun o : OpD => [DV.lit (.string o.name)]) = [] := hr
      simp [drunL, drunO, dwanted, dopS, own, plainOf, dop, dput, eval, ofVal, Then, Ex.then, Ex.inBlock, upd, dbin, Tag.isNN, nilTest, intCmp, dload, dpart, TyI.agg, dfieldAddr, dfield, dindexAddr, dindex, dlen, lenOk, dlookup, mapOf, keyFits, dmapUpdate, dcallee, dcall, tabOf, dbuiltin, dstore, DV.cells, setAt, dslice, dboundOk, dappend, appTag, rowsOf, elemOk, growLimit, dbuildCells, dbuildCells.go, structOk, fieldsOk, dbuildRows, goInt, h3, ty38, ty9, ty22, EncR.opd]
      refine hK _ _ ?_ rfl; clear hK K
      refine Dwp.reg t114 rfl fun K hK => ?_
      simp [drunL, drunO, dwanted, dopS, own, plainOf, dop, dput, eval, ofVal, Then, Ex.then, Ex.inBlock, upd, dbin, Tag.isNN, nilTest, intCmp, dload, dpart, TyI.agg, dfieldAddr, dfield, dindexAddr, dindex, dlen, lenOk, dlookup, mapOf, keyFits, dmapUpdate, dcallee, dcall, tabOf, dbuiltin, dstore, DV.cells, setAt, dslice, dboundOk, dappend, appTag, rowsOf, elemOk, growLimit, dbuildCells, dbuildCells.go, structOk, fieldsOk, dbuildRows, goInt, h13]
      refine hK _ _ ?_ rfl; clear hK K
      exact ⟨l.length - (i + 1), by omega, i + 1, by omega, rfl, .inr ⟨_, _, by rw [htk, hi0]; simp [upd]; exact ⟨rfl, rfl⟩, by simp [upd]⟩, by simp [upd, h11], by simp [upd, h12], by simp [upd, wrap_small (n := (i : Int) + 1) (by omega) (by omega)]⟩
    · simp [drunL, drunO, dwanted, dopS, own, plainOf, dop, dput, eval, ofVal, Then, Ex.then, Ex.inBlock, upd, dbin, Tag.isNN, nilTest, intCmp, dload, dpart, TyI.agg, dfieldAddr, dfield, dindexAddr, dindex, dlen, lenOk, dlookup, mapOf, keyFits, dmapUpdate, dcallee, dcall, tabOf, dbuiltin, dstore, DV.cells, setAt, dslice, dboundOk, dappend, appTag, rowsOf, elemOk, growLimit, dbuildCells, dbuildCells.go, structOk, fieldsOk, dbuildRows, goInt, h3, hg, ty38, ty9, ty22, EncR.opd, hsmall]
      refine hK _ _ ?_ rfl; clear hK K
      refine Dwp.reg t114 rfl fun K hK => ?_
      simp [drunL, drunO, dwanted, dopS, own, plainOf, dop, dput, eval, ofVal, Then, Ex.then, Ex.inBlock, upd, dbin, Tag.isNN, nilTest, intCmp, dload, dpart, TyI.agg, dfieldAddr, dfield, dindexAddr, dindex, dlen, lenOk, dlookup, mapOf, keyFits, dmapUpdate, dcallee, dcall, tabOf, dbuiltin, dstore, DV.cells, setAt, dslice, dboundOk, dappend, appTag, rowsOf, elemOk, growLimit, dbuildCells, dbuildCells.go, structOk, fieldsOk, dbuildRows, goInt, h13]
      refine hK _ _ ?_ rfl; clear hK K
      exact ⟨l.length - (i + 1), by omega, i + 1, by omega, rfl, .inr ⟨_, _, by rw [htk]; simp [upd]; exact ⟨rfl, rfl⟩, by simp [upd]⟩, by simp [upd, h11], by simp [upd, h12], by simp [upd, wrap_small (n := (i : Int) + 1) (by omega) (by omega)]⟩
  · refine Dwp.seq (Dwp.condF (by simp [eval, upd, hlt]) (Dwp.exit ?_))
    rw [List.take_of_length_le (by omega)] at h3
    have hd := h3.dec (A := EncR.one Enc.str) (l := l.map (·.name)) (by rw [show (l.map fun o : OpD => [DV.lit (.string o.name)]) = (l.map (·.name)).map fun s => [DV.lit (.string s)] by rw [List.map_map]; rfl]; exact strs_dec _)
    refine Dwp.step t114 rfl fun K hK => ?_
    simp [drunL, drunO, dwanted, dopS, own, plainOf, dop, dput, eval, ofVal, Then, Ex.then, Ex.inBlock, upd, dbin, Tag.isNN, nilTest, intCmp, dload, dpart, TyI.agg, dfieldAddr, dfield, dindexAddr, dindex, dlen, lenOk, dlookup, mapOf, keyFits, dmapUpdate, dcallee, dcall, tabOf, dbuiltin, dstore, DV.cells, setAt, dslice, dboundOk, dappend, appTag, rowsOf, elemOk, growLimit, dbuildCells, dbuildCells.go, structOk, fieldsOk, dbuildRows, goInt]
    refine hK _ _ (Dwp.ret ?_) rfl
    rcases h3 with ⟨hr, h3⟩ | ⟨tk, g, h3, hg⟩
    · rw [h3] at hd
      simp [Done, dresults, dres, frz, frz1, frz2, upd, h3, Enc.strs]
      exact hd
    · rw [h3] at hd
      simp [Done, dresults, dres, frz, frz1, frz2, upd, h3, Enc.strs]
      exact hd
theorem e114 : Go.FA.Good Tryz.prog (114, s114) := ⟨c114, Tryz.f114, _, Tryz.func114, rfl, by decide⟩
end Go.Proofs.Yt
namespace Go.FA
open Go.RowKit
set_option linter.unusedVariables false
set_option linter.unusedSimpArgs false
variable {P : Program} {T : Tab} {ops : Array Oper} {n0 i : Nat} {o : Oper} {rest : List Oper} {a : Nat → DV} {σ : St} {K : (Nat → DV) → St → Prop}

section
variable (id : Nat)
@[simp] theorem own_lit (v : Value) : own id σ (.lit v) = (.lit v, σ) := rfl
@[simp] theorem own_agg (cs : List DV) : own id σ (.agg cs) = (.agg cs, σ) := rfl
@[simp] theorem own_tuple (cs : List DV) : own id σ (.tuple cs) = (.tuple cs, σ) := rfl
@[simp] theorem own_fmap (ks : List Value) (vs : List DV) : own id σ (.fmap ks vs) = (.fmap ks vs, σ) := rfl
@[simp] theorem own_func (f : Fn) (x y : List DV) : own id σ (.func f x y) = (.func f x y, σ) := rfl
@[simp] theorem own_none (k : Nat) (r : List (List DV)) : own id σ (.slice k .none r) = (.slice k .none r, σ) := rfl
@[simp] theorem own_tok (k t g : Nat) (r : List (List DV)) : own id σ (.slice k (.tok t g) r) = (.slice k (.tok id 0) r, { σ with toks := upd σ.toks id (some 0) }) := rfl
end

def Then1 (x : Option (DV × St)) (K1 : DV → St → Prop) : Prop :=
  match x with
  | some (d, σ) => K1 d σ
  | none => False
/-- what a guard's slot says -/
def Guarded (g : DV) (want : Bool) (x : Option (DV × St)) (σ : St) (K1 : DV → St → Prop) : Prop :=
  match g with
  | .lit (.bool b) => if (b == want) = true then Then1 x K1 else K1 (.lit (.tuple #[])) σ
  | .lit (.tuple _) => K1 (.lit (.tuple #[])) σ
  | _ => False

theorem Then.done (h : K a σ) : Then (drunL P T ops n0 i [] a σ) K := h
theorem Then.stepD {t : Tmp} (hg : o.guard = none) (hd : o.dst = some t)
    (h : ∀ K1 : DV → St → Prop, (∀ d σ', Then (drunL P T ops n0 (i + 1) rest (upd a t d) σ') K → K1 d σ') → Then1 (dopS P T (n0 + i) a σ o.op) K1) : Then (drunL P T ops n0 i (o :: rest) a σ) K := by
  have h1 := h _ (fun _ _ h => h)
  unfold Then1 at h1
  simp only [drunL, hg, dwanted]
  split at h1
  · next d σ' he => rw [he]; simp only [dput, hd]; exact h1
  · exact h1.elim
theorem Then.stepN (hg : o.guard = none) (hd : o.dst = none)
    (h : ∀ K1 : DV → St → Prop, (∀ d σ', Then (drunL P T ops n0 (i + 1) rest a σ') K → K1 d σ') → Then1 (dopS P T (n0 + i) a σ o.op) K1) : Then (drunL P T ops n0 i (o :: rest) a σ) K := by
  have h1 := h _ (fun _ _ h => h)
  unfold Then1 at h1
  simp only [drunL, hg, dwanted]
  split at h1
  · next d σ' he => rw [he]; simp only [dput, hd]; exact h1
  · exact h1.elim
theorem Then.stepG {t u : Tmp} {j : Nat} {want : Bool} (hg : o.guard = some (j, want)) (hj : (ops[j]?).bind (·.dst) = some u) (hd : o.dst = some t)
    (h : ∀ K1 : DV → St → Prop, (∀ d σ', Then (drunL P T ops n0 (i + 1) rest (upd a t d) σ') K → K1 d σ') → Guarded (a u) want (dopS P T (n0 + i) a σ o.op) σ K1) : Then (drunL P T ops n0 i (o :: rest) a σ) K := by
  have h1 := h _ (fun _ _ h => h)
  unfold Guarded at h1
  simp only [drunL, hg, dwanted, hj]
  split at h1
  · next b hb =>
    rw [hb]
    simp only []
    split at h1
    · next hbw =>
      rw [hbw]
      unfold Then1 at h1
      split at h1
      · next d σ' he => rw [he]; simp only [dput, hd]; exact h1
      · exact h1.elim
    · next hbw =>
      have : (b == want) = false := by simpa using hbw
      rw [this]; simp only [dput, hd]; exact h1
  · next vs hb => rw [hb]; simp only [dput, hd]; exact h1
  · exact h1.elim
theorem Then.stepGN {u : Tmp} {j : Nat} {want : Bool} (hg : o.guard = some (j, want)) (hj : (ops[j]?).bind (·.dst) = some u) (hd : o.dst = none)
    (h : ∀ K1 : DV → St → Prop, (∀ d σ', Then (drunL P T ops n0 (i + 1) rest a σ') K → K1 d σ') → Guarded (a u) want (dopS P T (n0 + i) a σ o.op) σ K1) : Then (drunL P T ops n0 i (o :: rest) a σ) K := by
  have h1 := h _ (fun _ _ h => h)
  unfold Guarded at h1
  simp only [drunL, hg, dwanted, hj]
  split at h1
  · next b hb =>
    rw [hb]
    simp only []
    split at h1
    · next hbw =>
      rw [hbw]
      unfold Then1 at h1
      split at h1
      · next d σ' he => rw [he]; simp only [dput, hd]; exact h1
      · exact h1.elim
    · next hbw =>
      have : (b == want) = false := by simpa using hbw
      rw [this]; simp only [dput, hd]; exact h1
  · next vs hb => rw [hb]; simp only [dput, hd]; exact h1
  · exact h1.elim
end Go.FA
namespace Go.Proofs.Yt
open Go Go.FA Go.Proofs
set_option linter.unusedVariables false
set_option linter.unusedSimpArgs false
set_option maxRecDepth 100000

def badFun (b : Book) (o : OpD) : Bool := !isName o.name || builtIn o.name || !okArgs b o || !b.has o.sort || decide (0 < o.pieces.length) || decide (o.prec ≠ 0) || decide (o.assoc ≠ 0) || decide (0 < o.strict.length)
def s117 : Sp := sp (arg2 Enc.book Enc.opd) Enc.bool (fun x => some (badFun x.1 x.2))
abbrev T117 : Tab := tabOf [(38, s38), (36, s36), (133, s133), (54, s54)]
theorem t117 : TabOk Tryz.prog T117 := .cons e38 (.cons e36 (.cons e133 (.cons e54 .nil)))
attribute [local simp] drunL drunO dwanted dopS own plainOf dop dput eval ofVal Then Ex.then Ex.inBlock upd dbin Tag.isNN nilTest intCmp dload dpart TyI.agg dfieldAddr dfield dindexAddr dindex dlen lenOk dlookup mapOf keyFits dmapUpdate dcallee dbuiltin dstore DV.cells dslice dboundOk dappend appTag rowsOf elemOk growLimit dbuildCells dbuildCells.go structOk fieldsOk dbuildRows goInt
theorem c117 : CallSound Tryz.prog 117 s117 := by
  refine CallSound.of_sp (T := T117) Tryz.func117 rfl (Nat.le_of_ble_eq_true rfl) fun E x y hy => ?_
  obtain ⟨b, o⟩ := x
  simp at hy
  subst hy
  have g1 := call38 T117 rfl o.name
  have g2 := call36 T117 rfl o.name
  have g3 := call133 T117 rfl b o
  have g4 := call54 T117 rfl b (.slice 1 .full [[.lit (.string o.sort)]]) [o.sort] rfl (by unfold lim; simp)
  simp only [List.all_cons, List.all_nil, Bool.and_true] at g4
  refine Dwp.step t117 rfl fun K hK => ?_
  simp [dcall, tabOf, setAt, init, arg1, arg2, arg3, EncR.one, EncR.and, Enc.bool, Enc.int, Enc.str, Enc.strs, Enc.slice, Enc.agg, Enc.tup, Enc.err, Enc.fn, Enc.opd, Enc.book]
  refine hK _ _ ?_ rfl; clear hK K
  refine Dwp.step t117 rfl fun K hK => ?_
  generalize T117 = T at *
  repeat (first
    | (refine Then.stepD rfl rfl (fun K1 hK1 => ?_); simp [Then1, Guarded, dfieldAddr, dload, dpart, TyI.agg, ty38, ty58, ty9, ty34, ty36, ty3, ty35, ty22, dcallee, dbuiltin, lenOk, dlen, goInt, dbin, intCmp, Enc.pies, Enc.ints, Enc.slice, dbuildRows, DV.cells, growLimit, g1]; refine hK1 _ _ ?_; clear hK1 K1)
    | (refine Then.stepG rfl rfl rfl (fun K1 hK1 => ?_); simp [Then1, Guarded, dfieldAddr, dload, dpart, TyI.agg, ty38, ty58, ty9, ty34, ty36, ty3, ty35, ty22, dcallee, dbuiltin, lenOk, dlen, goInt, dbin, intCmp, Enc.pies, Enc.ints, Enc.slice, dbuildRows, DV.cells, growLimit, g1]; refine hK1 _ _ ?_; clear hK1 K1)
    | (refine Then.stepN rfl rfl (fun K1 hK1 => ?_); simp [Then1, Guarded, dfieldAddr, dload, dpart, TyI.agg, ty38, ty58, ty9, ty34, ty36, ty3, ty35, ty22, dcallee, dbuiltin, lenOk, dlen, goInt, dbin, intCmp, Enc.pies, Enc.ints, Enc.slice, dbuildRows, DV.cells, growLimit, g1]; refine hK1 _ _ ?_; clear hK1 K1)
    | (refine Then.stepGN rfl rfl rfl (fun K1 hK1 => ?_); simp [Then1, Guarded, dfieldAddr, dload, dpart, TyI.agg, ty38, ty58, ty9, ty34, ty36, ty3, ty35, ty22, dcallee, dbuiltin, lenOk, dlen, goInt, dbin, intCmp, Enc.pies, Enc.ints, Enc.slice, dbuildRows, DV.cells, growLimit, g1]; refine hK1 _ _ ?_; clear hK1 K1))
  cases k1 : isName o.name with
  | false =>
    repeat (first
      | (refine Then.stepD rfl rfl (fun K1 hK1 => ?_); simp [Then1, Guarded, dfieldAddr, dload, dpart, TyI.agg, ty38, ty58, ty9, ty34, ty36, ty3, ty35, ty22, dcallee, dbuiltin, lenOk, dlen, goInt, dbin, intCmp, Enc.pies, Enc.ints, Enc.slice, dbuildRows, DV.cells, growLimit, g1, k1]; refine hK1 _ _ ?_; clear hK1 K1)
      | (refine Then.stepG rfl rfl rfl (fun K1 hK1 => ?_); simp [Then1, Guarded, dfieldAddr, dload, dpart, TyI.agg, ty38, ty58, ty9, ty34, ty36, ty3, ty35, ty22, dcallee, dbuiltin, lenOk, dlen, goInt, dbin, intCmp, Enc.pies, Enc.ints, Enc.slice, dbuildRows, DV.cells, growLimit, g1, k1]; refine hK1 _ _ ?_; clear hK1 K1)
      | (refine Then.stepN rfl rfl (fun K1 hK1 => ?_); simp [Then1, Guarded, dfieldAddr, dload, dpart, TyI.agg, ty38, ty58, ty9, ty34, ty36, ty3, ty35, ty22, dcallee, dbuiltin, lenOk, dlen, goInt, dbin, intCmp, Enc.pies, Enc.ints, Enc.slice, dbuildRows, DV.cells, growLimit, g1, k1]; refine hK1 _ _ ?_; clear hK1 K1)
      | (refine Then.stepGN rfl rfl rfl (fun K1 hK1 => ?_); simp [Then1, Guarded, dfieldAddr, dload, dpart, TyI.agg, ty38, ty58, ty9, ty34, ty36, ty3, ty35, ty22, dcallee, dbuiltin, lenOk, dlen, goInt, dbin, intCmp, Enc.pies, Enc.ints, Enc.slice, dbuildRows, DV.cells, growLimit, g1, k1]; refine hK1 _ _ ?_; clear hK1 K1))
    refine Then.done (hK _ _ (Dwp.ret ?_) rfl)
    simp [Done, dresults, dres, frz, frz1, frz2, Enc.bool, Ex.then, upd, badFun, k1]
  | true =>
  repeat (first
    | (refine Then.stepD rfl rfl (fun K1 hK1 => ?_); simp [Then1, Guarded, dfieldAddr, dload, dpart, TyI.agg, ty38, ty58, ty9, ty34, ty36, ty3, ty35, ty22, dcallee, dbuiltin, lenOk, dlen, goInt, dbin, intCmp, Enc.pies, Enc.ints, Enc.slice, dbuildRows, DV.cells, growLimit, g1, k1, g2]; refine hK1 _ _ ?_; clear hK1 K1)
    | (refine Then.stepG rfl rfl rfl (fun K1 hK1 => ?_); simp [Then1, Guarded, dfieldAddr, dload, dpart, TyI.agg, ty38, ty58, ty9, ty34, ty36, ty3, ty35, ty22, dcallee, dbuiltin, lenOk, dlen, goInt, dbin, intCmp, Enc.pies, Enc.ints, Enc.slice, dbuildRows, DV.cells, growLimit, g1, k1, g2]; refine hK1 _ _ ?_; clear hK1 K1)
    | (refine Then.stepN rfl rfl (fun K1 hK1 => ?_); simp [Then1, Guarded, dfieldAddr, dload, dpart, TyI.agg, ty38, ty58, ty9, ty34, ty36, ty3, ty35, ty22, dcallee, dbuiltin, lenOk, dlen, goInt, dbin, intCmp, Enc.pies, Enc.ints, Enc.slice, dbuildRows, DV.cells, growLimit, g1, k1, g2]; refine hK1 _ _ ?_; clear hK1 K1)
    | (refine Then.stepGN rfl rfl rfl (fun K1 hK1 => ?_); simp [Then1, Guarded, dfieldAddr, dload, dpart, TyI.agg, ty38, ty58, ty9, ty34, ty36, ty3, ty35, ty22, dcallee, dbuiltin, lenOk, dlen, goInt, dbin, intCmp, Enc.pies, Enc.ints, Enc.slice, dbuildRows, DV.cells, growLimit, g1, k1, g2]; refine hK1 _ _ ?_; clear hK1 K1))
  cases k2 : builtIn o.name with
  | true =>
    repeat (first
      | (refine Then.stepD rfl rfl (fun K1 hK1 => ?_); simp [Then1, Guarded, dfieldAddr, dload, dpart, TyI.agg, ty38, ty58, ty9, ty34, ty36, ty3, ty35, ty22, dcallee, dbuiltin, lenOk, dlen, goInt, dbin, intCmp, Enc.pies, Enc.ints, Enc.slice, dbuildRows, DV.cells, growLimit, g1, k1, g2, k2]; refine hK1 _ _ ?_; clear hK1 K1)
      | (refine Then.stepG rfl rfl rfl (fun K1 hK1 => ?_); simp [Then1, Guarded, dfieldAddr, dload, dpart, TyI.agg, ty38, ty58, ty9, ty34, ty36, ty3, ty35, ty22, dcallee, dbuiltin, lenOk, dlen, goInt, dbin, intCmp, Enc.pies, Enc.ints, Enc.slice, dbuildRows, DV.cells, growLimit, g1, k1, g2, k2]; refine hK1 _ _ ?_; clear hK1 K1)
      | (refine Then.stepN rfl rfl (fun K1 hK1 => ?_); simp [Then1, Guarded, dfieldAddr, dload, dpart, TyI.agg, ty38, ty58, ty9, ty34, ty36, ty3, ty35, ty22, dcallee, dbuiltin, lenOk, dlen, goInt, dbin, intCmp, Enc.pies, Enc.ints, Enc.slice, dbuildRows, DV.cells, growLimit, g1, k1, g2, k2]; refine hK1 _ _ ?_; clear hK1 K1)
      | (refine Then.stepGN rfl rfl rfl (fun K1 hK1 => ?_); simp [Then1, Guarded, dfieldAddr, dload, dpart, TyI.agg, ty38, ty58, ty9, ty34, ty36, ty3, ty35, ty22, dcallee, dbuiltin, lenOk, dlen, goInt, dbin, intCmp, Enc.pies, Enc.ints, Enc.slice, dbuildRows, DV.cells, growLimit, g1, k1, g2, k2]; refine hK1 _ _ ?_; clear hK1 K1))
    refine Then.done (hK _ _ (Dwp.ret ?_) rfl)
    simp [Done, dresults, dres, frz, frz1, frz2, Enc.bool, Ex.then, upd, badFun, k1, k2]
  | false =>
  repeat (first
    | (refine Then.stepD rfl rfl (fun K1 hK1 => ?_); simp [Then1, Guarded, dfieldAddr, dload, dpart, TyI.agg, ty38, ty58, ty9, ty34, ty36, ty3, ty35, ty22, dcallee, dbuiltin, lenOk, dlen, goInt, dbin, intCmp, Enc.pies, Enc.ints, Enc.slice, dbuildRows, DV.cells, growLimit, g1, k1, g2, k2, g3]; refine hK1 _ _ ?_; clear hK1 K1)
    | (refine Then.stepG rfl rfl rfl (fun K1 hK1 => ?_); simp [Then1, Guarded, dfieldAddr, dload, dpart, TyI.agg, ty38, ty58, ty9, ty34, ty36, ty3, ty35, ty22, dcallee, dbuiltin, lenOk, dlen, goInt, dbin, intCmp, Enc.pies, Enc.ints, Enc.slice, dbuildRows, DV.cells, growLimit, g1, k1, g2, k2, g3]; refine hK1 _ _ ?_; clear hK1 K1)
    | (refine Then.stepN rfl rfl (fun K1 hK1 => ?_); simp [Then1, Guarded, dfieldAddr, dload, dpart, TyI.agg, ty38, ty58, ty9, ty34, ty36, ty3, ty35, ty22, dcallee, dbuiltin, lenOk, dlen, goInt, dbin, intCmp, Enc.pies, Enc.ints, Enc.slice, dbuildRows, DV.cells, growLimit, g1, k1, g2, k2, g3]; refine hK1 _ _ ?_; clear hK1 K1)
    | (refine Then.stepGN rfl rfl rfl (fun K1 hK1 => ?_); simp [Then1, Guarded, dfieldAddr, dload, dpart, TyI.agg, ty38, ty58, ty9, ty34, ty36, ty3, ty35, ty22, dcallee, dbuiltin, lenOk, dlen, goInt, dbin, intCmp, Enc.pies, Enc.ints, Enc.slice, dbuildRows, DV.cells, growLimit, g1, k1, g2, k2, g3]; refine hK1 _ _ ?_; clear hK1 K1))
  cases k3 : okArgs b o with
  | false =>
    repeat (first
      | (refine Then.stepD rfl rfl (fun K1 hK1 => ?_); simp [Then1, Guarded, dfieldAddr, dload, dpart, TyI.agg, ty38, ty58, ty9, ty34, ty36, ty3, ty35, ty22, dcallee, dbuiltin, lenOk, dlen, goInt, dbin, intCmp, Enc.pies, Enc.ints, Enc.slice, dbuildRows, DV.cells, growLimit, g1, k1, g2, k2, g3, k3]; refine hK1 _ _ ?_; clear hK1 K1)
      | (refine Then.stepG rfl rfl rfl (fun K1 hK1 => ?_); simp [Then1, Guarded, dfieldAddr, dload, dpart, TyI.agg, ty38, ty58, ty9, ty34, ty36, ty3, ty35, ty22, dcallee, dbuiltin, lenOk, dlen, goInt, dbin, intCmp, Enc.pies, Enc.ints, Enc.slice, dbuildRows, DV.cells, growLimit, g1, k1, g2, k2, g3, k3]; refine hK1 _ _ ?_; clear hK1 K1)
      | (refine Then.stepN rfl rfl (fun K1 hK1 => ?_); simp [Then1, Guarded, dfieldAddr, dload, dpart, TyI.agg, ty38, ty58, ty9, ty34, ty36, ty3, ty35, ty22, dcallee, dbuiltin, lenOk, dlen, goInt, dbin, intCmp, Enc.pies, Enc.ints, Enc.slice, dbuildRows, DV.cells, growLimit, g1, k1, g2, k2, g3, k3]; refine hK1 _ _ ?_; clear hK1 K1)
      | (refine Then.stepGN rfl rfl rfl (fun K1 hK1 => ?_); simp [Then1, Guarded, dfieldAddr, dload, dpart, TyI.agg, ty38, ty58, ty9, ty34, ty36, ty3, ty35, ty22, dcallee, dbuiltin, lenOk, dlen, goInt, dbin, intCmp, Enc.pies, Enc.ints, Enc.slice, dbuildRows, DV.cells, growLimit, g1, k1, g2, k2, g3, k3]; refine hK1 _ _ ?_; clear hK1 K1))
    refine Then.done (hK _ _ (Dwp.ret ?_) rfl)
    simp [Done, dresults, dres, frz, frz1, frz2, Enc.bool, Ex.then, upd, badFun, k1, k2, k3]
  | true =>
  repeat (first
    | (refine Then.stepD rfl rfl (fun K1 hK1 => ?_); simp [Then1, Guarded, dfieldAddr, dload, dpart, TyI.agg, ty38, ty58, ty9, ty34, ty36, ty3, ty35, ty22, dcallee, dbuiltin, lenOk, dlen, goInt, dbin, intCmp, Enc.pies, Enc.ints, Enc.slice, dbuildRows, DV.cells, growLimit, g1, k1, g2, k2, g3, k3, g4]; refine hK1 _ _ ?_; clear hK1 K1)
    | (refine Then.stepG rfl rfl rfl (fun K1 hK1 => ?_); simp [Then1, Guarded, dfieldAddr, dload, dpart, TyI.agg, ty38, ty58, ty9, ty34, ty36, ty3, ty35, ty22, dcallee, dbuiltin, lenOk, dlen, goInt, dbin, intCmp, Enc.pies, Enc.ints, Enc.slice, dbuildRows, DV.cells, growLimit, g1, k1, g2, k2, g3, k3, g4]; refine hK1 _ _ ?_; clear hK1 K1)
    | (refine Then.stepN rfl rfl (fun K1 hK1 => ?_); simp [Then1, Guarded, dfieldAddr, dload, dpart, TyI.agg, ty38, ty58, ty9, ty34, ty36, ty3, ty35, ty22, dcallee, dbuiltin, lenOk, dlen, goInt, dbin, intCmp, Enc.pies, Enc.ints, Enc.slice, dbuildRows, DV.cells, growLimit, g1, k1, g2, k2, g3, k3, g4]; refine hK1 _ _ ?_; clear hK1 K1)
    | (refine Then.stepGN rfl rfl rfl (fun K1 hK1 => ?_); simp [Then1, Guarded, dfieldAddr, dload, dpart, TyI.agg, ty38, ty58, ty9, ty34, ty36, ty3, ty35, ty22, dcallee, dbuiltin, lenOk, dlen, goInt, dbin, intCmp, Enc.pies, Enc.ints, Enc.slice, dbuildRows, DV.cells, growLimit, g1, k1, g2, k2, g3, k3, g4]; refine hK1 _ _ ?_; clear hK1 K1))
  cases k4 : b.has o.sort with
  | false =>
    repeat (first
      | (refine Then.stepD rfl rfl (fun K1 hK1 => ?_); simp [Then1, Guarded, dfieldAddr, dload, dpart, TyI.agg, ty38, ty58, ty9, ty34, ty36, ty3, ty35, ty22, dcallee, dbuiltin, lenOk, dlen, goInt, dbin, intCmp, Enc.pies, Enc.ints, Enc.slice, dbuildRows, DV.cells, growLimit, g1, k1, g2, k2, g3, k3, g4, k4]; refine hK1 _ _ ?_; clear hK1 K1)
      | (refine Then.stepG rfl rfl rfl (fun K1 hK1 => ?_); simp [Then1, Guarded, dfieldAddr, dload, dpart, TyI.agg, ty38, ty58, ty9, ty34, ty36, ty3, ty35, ty22, dcallee, dbuiltin, lenOk, dlen, goInt, dbin, intCmp, Enc.pies, Enc.ints, Enc.slice, dbuildRows, DV.cells, growLimit, g1, k1, g2, k2, g3, k3, g4, k4]; refine hK1 _ _ ?_; clear hK1 K1)
      | (refine Then.stepN rfl rfl (fun K1 hK1 => ?_); simp [Then1, Guarded, dfieldAddr, dload, dpart, TyI.agg, ty38, ty58, ty9, ty34, ty36, ty3, ty35, ty22, dcallee, dbuiltin, lenOk, dlen, goInt, dbin, intCmp, Enc.pies, Enc.ints, Enc.slice, dbuildRows, DV.cells, growLimit, g1, k1, g2, k2, g3, k3, g4, k4]; refine hK1 _ _ ?_; clear hK1 K1)
      | (refine Then.stepGN rfl rfl rfl (fun K1 hK1 => ?_); simp [Then1, Guarded, dfieldAddr, dload, dpart, TyI.agg, ty38, ty58, ty9, ty34, ty36, ty3, ty35, ty22, dcallee, dbuiltin, lenOk, dlen, goInt, dbin, intCmp, Enc.pies, Enc.ints, Enc.slice, dbuildRows, DV.cells, growLimit, g1, k1, g2, k2, g3, k3, g4, k4]; refine hK1 _ _ ?_; clear hK1 K1))
    refine Then.done (hK _ _ (Dwp.ret ?_) rfl)
    simp [Done, dresults, dres, frz, frz1, frz2, Enc.bool, Ex.then, upd, badFun, k1, k2, k3, k4]
  | true =>
  repeat (first
    | (refine Then.stepD rfl rfl (fun K1 hK1 => ?_); simp [Then1, Guarded, dfieldAddr, dload, dpart, TyI.agg, ty38, ty58, ty9, ty34, ty36, ty3, ty35, ty22, dcallee, dbuiltin, lenOk, dlen, goInt, dbin, intCmp, Enc.pies, Enc.ints, Enc.slice, dbuildRows, DV.cells, growLimit, g1, k1, g2, k2, g3, k3, g4, k4]; refine hK1 _ _ ?_; clear hK1 K1)
    | (refine Then.stepG rfl rfl rfl (fun K1 hK1 => ?_); simp [Then1, Guarded, dfieldAddr, dload, dpart, TyI.agg, ty38, ty58, ty9, ty34, ty36, ty3, ty35, ty22, dcallee, dbuiltin, lenOk, dlen, goInt, dbin, intCmp, Enc.pies, Enc.ints, Enc.slice, dbuildRows, DV.cells, growLimit, g1, k1, g2, k2, g3, k3, g4, k4]; refine hK1 _ _ ?_; clear hK1 K1)
    | (refine Then.stepN rfl rfl (fun K1 hK1 => ?_); simp [Then1, Guarded, dfieldAddr, dload, dpart, TyI.agg, ty38, ty58, ty9, ty34, ty36, ty3, ty35, ty22, dcallee, dbuiltin, lenOk, dlen, goInt, dbin, intCmp, Enc.pies, Enc.ints, Enc.slice, dbuildRows, DV.cells, growLimit, g1, k1, g2, k2, g3, k3, g4, k4]; refine hK1 _ _ ?_; clear hK1 K1)
    | (refine Then.stepGN rfl rfl rfl (fun K1 hK1 => ?_); simp [Then1, Guarded, dfieldAddr, dload, dpart, TyI.agg, ty38, ty58, ty9, ty34, ty36, ty3, ty35, ty22, dcallee, dbuiltin, lenOk, dlen, goInt, dbin, intCmp, Enc.pies, Enc.ints, Enc.slice, dbuildRows, DV.cells, growLimit, g1, k1, g2, k2, g3, k3, g4, k4]; refine hK1 _ _ ?_; clear hK1 K1))
  by_cases k5 : o.pieces = []
  case neg =>
    have m1 : 0 < o.pieces.length := by cases h : o.pieces with | nil => exact absurd h k5 | cons _ _ => simp
    repeat (first
      | (refine Then.stepD rfl rfl (fun K1 hK1 => ?_); simp [Then1, Guarded, dfieldAddr, dload, dpart, TyI.agg, ty38, ty58, ty9, ty34, ty36, ty3, ty35, ty22, dcallee, dbuiltin, lenOk, dlen, goInt, dbin, intCmp, Enc.pies, Enc.ints, Enc.slice, dbuildRows, DV.cells, growLimit, g1, k1, g2, k2, g3, k3, g4, k4, k5, m1]; refine hK1 _ _ ?_; clear hK1 K1)
      | (refine Then.stepG rfl rfl rfl (fun K1 hK1 => ?_); simp [Then1, Guarded, dfieldAddr, dload, dpart, TyI.agg, ty38, ty58, ty9, ty34, ty36, ty3, ty35, ty22, dcallee, dbuiltin, lenOk, dlen, goInt, dbin, intCmp, Enc.pies, Enc.ints, Enc.slice, dbuildRows, DV.cells, growLimit, g1, k1, g2, k2, g3, k3, g4, k4, k5, m1]; refine hK1 _ _ ?_; clear hK1 K1)
      | (refine Then.stepN rfl rfl (fun K1 hK1 => ?_); simp [Then1, Guarded, dfieldAddr, dload, dpart, TyI.agg, ty38, ty58, ty9, ty34, ty36, ty3, ty35, ty22, dcallee, dbuiltin, lenOk, dlen, goInt, dbin, intCmp, Enc.pies, Enc.ints, Enc.slice, dbuildRows, DV.cells, growLimit, g1, k1, g2, k2, g3, k3, g4, k4, k5, m1]; refine hK1 _ _ ?_; clear hK1 K1)
      | (refine Then.stepGN rfl rfl rfl (fun K1 hK1 => ?_); simp [Then1, Guarded, dfieldAddr, dload, dpart, TyI.agg, ty38, ty58, ty9, ty34, ty36, ty3, ty35, ty22, dcallee, dbuiltin, lenOk, dlen, goInt, dbin, intCmp, Enc.pies, Enc.ints, Enc.slice, dbuildRows, DV.cells, growLimit, g1, k1, g2, k2, g3, k3, g4, k4, k5, m1]; refine hK1 _ _ ?_; clear hK1 K1))
    refine Then.done (hK _ _ (Dwp.ret ?_) rfl)
    simp [Done, dresults, dres, frz, frz1, frz2, Enc.bool, Ex.then, upd, badFun, k1, k2, k3, k4, k5, m1]
  repeat (first
    | (refine Then.stepD rfl rfl (fun K1 hK1 => ?_); simp [Then1, Guarded, dfieldAddr, dload, dpart, TyI.agg, ty38, ty58, ty9, ty34, ty36, ty3, ty35, ty22, dcallee, dbuiltin, lenOk, dlen, goInt, dbin, intCmp, Enc.pies, Enc.ints, Enc.slice, dbuildRows, DV.cells, growLimit, g1, k1, g2, k2, g3, k3, g4, k4, k5]; refine hK1 _ _ ?_; clear hK1 K1)
    | (refine Then.stepG rfl rfl rfl (fun K1 hK1 => ?_); simp [Then1, Guarded, dfieldAddr, dload, dpart, TyI.agg, ty38, ty58, ty9, ty34, ty36, ty3, ty35, ty22, dcallee, dbuiltin, lenOk, dlen, goInt, dbin, intCmp, Enc.pies, Enc.ints, Enc.slice, dbuildRows, DV.cells, growLimit, g1, k1, g2, k2, g3, k3, g4, k4, k5]; refine hK1 _ _ ?_; clear hK1 K1)
    | (refine Then.stepN rfl rfl (fun K1 hK1 => ?_); simp [Then1, Guarded, dfieldAddr, dload, dpart, TyI.agg, ty38, ty58, ty9, ty34, ty36, ty3, ty35, ty22, dcallee, dbuiltin, lenOk, dlen, goInt, dbin, intCmp, Enc.pies, Enc.ints, Enc.slice, dbuildRows, DV.cells, growLimit, g1, k1, g2, k2, g3, k3, g4, k4, k5]; refine hK1 _ _ ?_; clear hK1 K1)
    | (refine Then.stepGN rfl rfl rfl (fun K1 hK1 => ?_); simp [Then1, Guarded, dfieldAddr, dload, dpart, TyI.agg, ty38, ty58, ty9, ty34, ty36, ty3, ty35, ty22, dcallee, dbuiltin, lenOk, dlen, goInt, dbin, intCmp, Enc.pies, Enc.ints, Enc.slice, dbuildRows, DV.cells, growLimit, g1, k1, g2, k2, g3, k3, g4, k4, k5]; refine hK1 _ _ ?_; clear hK1 K1))
  by_cases k6 : o.prec = 0
  case neg =>
    have m1 : (o.prec == 0) = false := by simp [k6]
    have m2 : (o.prec != 0) = true := by simp [k6]
    repeat (first
      | (refine Then.stepD rfl rfl (fun K1 hK1 => ?_); simp [Then1, Guarded, dfieldAddr, dload, dpart, TyI.agg, ty38, ty58, ty9, ty34, ty36, ty3, ty35, ty22, dcallee, dbuiltin, lenOk, dlen, goInt, dbin, intCmp, Enc.pies, Enc.ints, Enc.slice, dbuildRows, DV.cells, growLimit, g1, k1, g2, k2, g3, k3, g4, k4, k5, k6, m1, m2]; refine hK1 _ _ ?_; clear hK1 K1)
      | (refine Then.stepG rfl rfl rfl (fun K1 hK1 => ?_); simp [Then1, Guarded, dfieldAddr, dload, dpart, TyI.agg, ty38, ty58, ty9, ty34, ty36, ty3, ty35, ty22, dcallee, dbuiltin, lenOk, dlen, goInt, dbin, intCmp, Enc.pies, Enc.ints, Enc.slice, dbuildRows, DV.cells, growLimit, g1, k1, g2, k2, g3, k3, g4, k4, k5, k6, m1, m2]; refine hK1 _ _ ?_; clear hK1 K1)
      | (refine Then.stepN rfl rfl (fun K1 hK1 => ?_); simp [Then1, Guarded, dfieldAddr, dload, dpart, TyI.agg, ty38, ty58, ty9, ty34, ty36, ty3, ty35, ty22, dcallee, dbuiltin, lenOk, dlen, goInt, dbin, intCmp, Enc.pies, Enc.ints, Enc.slice, dbuildRows, DV.cells, growLimit, g1, k1, g2, k2, g3, k3, g4, k4, k5, k6, m1, m2]; refine hK1 _ _ ?_; clear hK1 K1)
      | (refine Then.stepGN rfl rfl rfl (fun K1 hK1 => ?_); simp [Then1, Guarded, dfieldAddr, dload, dpart, TyI.agg, ty38, ty58, ty9, ty34, ty36, ty3, ty35, ty22, dcallee, dbuiltin, lenOk, dlen, goInt, dbin, intCmp, Enc.pies, Enc.ints, Enc.slice, dbuildRows, DV.cells, growLimit, g1, k1, g2, k2, g3, k3, g4, k4, k5, k6, m1, m2]; refine hK1 _ _ ?_; clear hK1 K1))
    refine Then.done (hK _ _ (Dwp.ret ?_) rfl)
    simp [Done, dresults, dres, frz, frz1, frz2, Enc.bool, Ex.then, upd, badFun, k1, k2, k3, k4, k5, k6, m1, m2]
  repeat (first
    | (refine Then.stepD rfl rfl (fun K1 hK1 => ?_); simp [Then1, Guarded, dfieldAddr, dload, dpart, TyI.agg, ty38, ty58, ty9, ty34, ty36, ty3, ty35, ty22, dcallee, dbuiltin, lenOk, dlen, goInt, dbin, intCmp, Enc.pies, Enc.ints, Enc.slice, dbuildRows, DV.cells, growLimit, g1, k1, g2, k2, g3, k3, g4, k4, k5, k6]; refine hK1 _ _ ?_; clear hK1 K1)
    | (refine Then.stepG rfl rfl rfl (fun K1 hK1 => ?_); simp [Then1, Guarded, dfieldAddr, dload, dpart, TyI.agg, ty38, ty58, ty9, ty34, ty36, ty3, ty35, ty22, dcallee, dbuiltin, lenOk, dlen, goInt, dbin, intCmp, Enc.pies, Enc.ints, Enc.slice, dbuildRows, DV.cells, growLimit, g1, k1, g2, k2, g3, k3, g4, k4, k5, k6]; refine hK1 _ _ ?_; clear hK1 K1)
    | (refine Then.stepN rfl rfl (fun K1 hK1 => ?_); simp [Then1, Guarded, dfieldAddr, dload, dpart, TyI.agg, ty38, ty58, ty9, ty34, ty36, ty3, ty35, ty22, dcallee, dbuiltin, lenOk, dlen, goInt, dbin, intCmp, Enc.pies, Enc.ints, Enc.slice, dbuildRows, DV.cells, growLimit, g1, k1, g2, k2, g3, k3, g4, k4, k5, k6]; refine hK1 _ _ ?_; clear hK1 K1)
    | (refine Then.stepGN rfl rfl rfl (fun K1 hK1 => ?_); simp [Then1, Guarded, dfieldAddr, dload, dpart, TyI.agg, ty38, ty58, ty9, ty34, ty36, ty3, ty35, ty22, dcallee, dbuiltin, lenOk, dlen, goInt, dbin, intCmp, Enc.pies, Enc.ints, Enc.slice, dbuildRows, DV.cells, growLimit, g1, k1, g2, k2, g3, k3, g4, k4, k5, k6]; refine hK1 _ _ ?_; clear hK1 K1))
  by_cases k7 : o.assoc = 0
  case neg =>
    have m1 : (o.assoc == 0) = false := by simp [k7]
    have m2 : (o.assoc != 0) = true := by simp [k7]
    repeat (first
      | (refine Then.stepD rfl rfl (fun K1 hK1 => ?_); simp [Then1, Guarded, dfieldAddr, dload, dpart, TyI.agg, ty38, ty58, ty9, ty34, ty36, ty3, ty35, ty22, dcallee, dbuiltin, lenOk, dlen, goInt, dbin, intCmp, Enc.pies, Enc.ints, Enc.slice, dbuildRows, DV.cells, growLimit, g1, k1, g2, k2, g3, k3, g4, k4, k5, k6, k7, m1, m2]; refine hK1 _ _ ?_; clear hK1 K1)
      | (refine Then.stepG rfl rfl rfl (fun K1 hK1 => ?_); simp [Then1, Guarded, dfieldAddr, dload, dpart, TyI.agg, ty38, ty58, ty9, ty34, ty36, ty3, ty35, ty22, dcallee, dbuiltin, lenOk, dlen, goInt, dbin, intCmp, Enc.pies, Enc.ints, Enc.slice, dbuildRows, DV.cells, growLimit, g1, k1, g2, k2, g3, k3, g4, k4, k5, k6, k7, m1, m2]; refine hK1 _ _ ?_; clear hK1 K1)
      | (refine Then.stepN rfl rfl (fun K1 hK1 => ?_); simp [Then1, Guarded, dfieldAddr, dload, dpart, TyI.agg, ty38, ty58, ty9, ty34, ty36, ty3, ty35, ty22, dcallee, dbuiltin, lenOk, dlen, goInt, dbin, intCmp, Enc.pies, Enc.ints, Enc.slice, dbuildRows, DV.cells, growLimit, g1, k1, g2, k2, g3, k3, g4, k4, k5, k6, k7, m1, m2]; refine hK1 _ _ ?_; clear hK1 K1)
      | (refine Then.stepGN rfl rfl rfl (fun K1 hK1 => ?_); simp [Then1, Guarded, dfieldAddr, dload, dpart, TyI.agg, ty38, ty58, ty9, ty34, ty36, ty3, ty35, ty22, dcallee, dbuiltin, lenOk, dlen, goInt, dbin, intCmp, Enc.pies, Enc.ints, Enc.slice, dbuildRows, DV.cells, growLimit, g1, k1, g2, k2, g3, k3, g4, k4, k5, k6, k7, m1, m2]; refine hK1 _ _ ?_; clear hK1 K1))
    refine Then.done (hK _ _ (Dwp.ret ?_) rfl)
    simp [Done, dresults, dres, frz, frz1, frz2, Enc.bool, Ex.then, upd, badFun, k1, k2, k3, k4, k5, k6, k7, m1, m2]
  repeat (first
    | (refine Then.stepD rfl rfl (fun K1 hK1 => ?_); simp [Then1, Guarded, dfieldAddr, dload, dpart, TyI.agg, ty38, ty58, ty9, ty34, ty36, ty3, ty35, ty22, dcallee, dbuiltin, lenOk, dlen, goInt, dbin, intCmp, Enc.pies, Enc.ints, Enc.slice, dbuildRows, DV.cells, growLimit, g1, k1, g2, k2, g3, k3, g4, k4, k5, k6, k7]; refine hK1 _ _ ?_; clear hK1 K1)
    | (refine Then.stepG rfl rfl rfl (fun K1 hK1 => ?_); simp [Then1, Guarded, dfieldAddr, dload, dpart, TyI.agg, ty38, ty58, ty9, ty34, ty36, ty3, ty35, ty22, dcallee, dbuiltin, lenOk, dlen, goInt, dbin, intCmp, Enc.pies, Enc.ints, Enc.slice, dbuildRows, DV.cells, growLimit, g1, k1, g2, k2, g3, k3, g4, k4, k5, k6, k7]; refine hK1 _ _ ?_; clear hK1 K1)
    | (refine Then.stepN rfl rfl (fun K1 hK1 => ?_); simp [Then1, Guarded, dfieldAddr, dload, dpart, TyI.agg, ty38, ty58, ty9, ty34, ty36, ty3, ty35, ty22, dcallee, dbuiltin, lenOk, dlen, goInt, dbin, intCmp, Enc.pies, Enc.ints, Enc.slice, dbuildRows, DV.cells, growLimit, g1, k1, g2, k2, g3, k3, g4, k4, k5, k6, k7]; refine hK1 _ _ ?_; clear hK1 K1)
    | (refine Then.stepGN rfl rfl rfl (fun K1 hK1 => ?_); simp [Then1, Guarded, dfieldAddr, dload, dpart, TyI.agg, ty38, ty58, ty9, ty34, ty36, ty3, ty35, ty22, dcallee, dbuiltin, lenOk, dlen, goInt, dbin, intCmp, Enc.pies, Enc.ints, Enc.slice, dbuildRows, DV.cells, growLimit, g1, k1, g2, k2, g3, k3, g4, k4, k5, k6, k7]; refine hK1 _ _ ?_; clear hK1 K1))
  by_cases k8 : o.strict = []
  case neg =>
    have m1 : 0 < o.strict.length := by cases h : o.strict with | nil => exact absurd h k8 | cons _ _ => simp
    repeat (first
      | (refine Then.stepD rfl rfl (fun K1 hK1 => ?_); simp [Then1, Guarded, dfieldAddr, dload, dpart, TyI.agg, ty38, ty58, ty9, ty34, ty36, ty3, ty35, ty22, dcallee, dbuiltin, lenOk, dlen, goInt, dbin, intCmp, Enc.pies, Enc.ints, Enc.slice, dbuildRows, DV.cells, growLimit, g1, k1, g2, k2, g3, k3, g4, k4, k5, k6, k7, k8, m1]; refine hK1 _ _ ?_; clear hK1 K1)
      | (refine Then.stepG rfl rfl rfl (fun K1 hK1 => ?_); simp [Then1, Guarded, dfieldAddr, dload, dpart, TyI.agg, ty38, ty58, ty9, ty34, ty36, ty3, ty35, ty22, dcallee, dbuiltin, lenOk, dlen, goInt, dbin, intCmp, Enc.pies, Enc.ints, Enc.slice, dbuildRows, DV.cells, growLimit, g1, k1, g2, k2, g3, k3, g4, k4, k5, k6, k7, k8, m1]; refine hK1 _ _ ?_; clear hK1 K1)
      | (refine Then.stepN rfl rfl (fun K1 hK1 => ?_); simp [Then1, Guarded, dfieldAddr, dload, dpart, TyI.agg, ty38, ty58, ty9, ty34, ty36, ty3, ty35, ty22, dcallee, dbuiltin, lenOk, dlen, goInt, dbin, intCmp, Enc.pies, Enc.ints, Enc.slice, dbuildRows, DV.cells, growLimit, g1, k1, g2, k2, g3, k3, g4, k4, k5, k6, k7, k8, m1]; refine hK1 _ _ ?_; clear hK1 K1)
      | (refine Then.stepGN rfl rfl rfl (fun K1 hK1 => ?_); simp [Then1, Guarded, dfieldAddr, dload, dpart, TyI.agg, ty38, ty58, ty9, ty34, ty36, ty3, ty35, ty22, dcallee, dbuiltin, lenOk, dlen, goInt, dbin, intCmp, Enc.pies, Enc.ints, Enc.slice, dbuildRows, DV.cells, growLimit, g1, k1, g2, k2, g3, k3, g4, k4, k5, k6, k7, k8, m1]; refine hK1 _ _ ?_; clear hK1 K1))
    refine Then.done (hK _ _ (Dwp.ret ?_) rfl)
    simp [Done, dresults, dres, frz, frz1, frz2, Enc.bool, Ex.then, upd, badFun, k1, k2, k3, k4, k5, k6, k7, k8, m1]
  repeat (first
    | (refine Then.stepD rfl rfl (fun K1 hK1 => ?_); simp [Then1, Guarded, dfieldAddr, dload, dpart, TyI.agg, ty38, ty58, ty9, ty34, ty36, ty3, ty35, ty22, dcallee, dbuiltin, lenOk, dlen, goInt, dbin, intCmp, Enc.pies, Enc.ints, Enc.slice, dbuildRows, DV.cells, growLimit, g1, k1, g2, k2, g3, k3, g4, k4, k5, k6, k7, k8]; refine hK1 _ _ ?_; clear hK1 K1)
    | (refine Then.stepG rfl rfl rfl (fun K1 hK1 => ?_); simp [Then1, Guarded, dfieldAddr, dload, dpart, TyI.agg, ty38, ty58, ty9, ty34, ty36, ty3, ty35, ty22, dcallee, dbuiltin, lenOk, dlen, goInt, dbin, intCmp, Enc.pies, Enc.ints, Enc.slice, dbuildRows, DV.cells, growLimit, g1, k1, g2, k2, g3, k3, g4, k4, k5, k6, k7, k8]; refine hK1 _ _ ?_; clear hK1 K1)
    | (refine Then.stepN rfl rfl (fun K1 hK1 => ?_); simp [Then1, Guarded, dfieldAddr, dload, dpart, TyI.agg, ty38, ty58, ty9, ty34, ty36, ty3, ty35, ty22, dcallee, dbuiltin, lenOk, dlen, goInt, dbin, intCmp, Enc.pies, Enc.ints, Enc.slice, dbuildRows, DV.cells, growLimit, g1, k1, g2, k2, g3, k3, g4, k4, k5, k6, k7, k8]; refine hK1 _ _ ?_; clear hK1 K1)
    | (refine Then.stepGN rfl rfl rfl (fun K1 hK1 => ?_); simp [Then1, Guarded, dfieldAddr, dload, dpart, TyI.agg, ty38, ty58, ty9, ty34, ty36, ty3, ty35, ty22, dcallee, dbuiltin, lenOk, dlen, goInt, dbin, intCmp, Enc.pies, Enc.ints, Enc.slice, dbuildRows, DV.cells, growLimit, g1, k1, g2, k2, g3, k3, g4, k4, k5, k6, k7, k8]; refine hK1 _ _ ?_; clear hK1 K1))
  refine Then.done (hK _ _ (Dwp.ret ?_) rfl)
  simp [Done, dresults, dres, frz, frz1, frz2, Enc.bool, Ex.then, upd, badFun, k1, k2, k3, k4, k5, k6, k7, k8]
theorem e117 : Go.FA.Good Tryz.prog (117, s117) := ⟨c117, Tryz.f117, _, Tryz.func117, rfl, by decide⟩
end Go.Proofs.Yt
namespace Go.Proofs.Yt
open Go Go.FA Go.Proofs
set_option linter.unusedVariables false
set_option linter.unusedSimpArgs false
set_option maxRecDepth 100000

theorem dcall1 {α β : Type} {A : Enc α} {B : Enc β} {g : α → Option β} {T : Tab} {f : FuncId} {x : α} {z : β} (hT : T f = some (sp (arg1 A) B g)) (hg : g x = some z) : dcall T f [A.enc x] = some (B.enc z) := by
  simp [dcall, hT, sp, arg1, EncR.one, A.de, hg]
theorem dcall2 {α β γ : Type} {A : Enc α} {B : Enc β} {C : Enc γ} {g : α × β → Option γ} {T : Tab} {f : FuncId} {x : α} {y : β} {z : γ} (hT : T f = some (sp (arg2 A B) C g)) (hg : g (x, y) = some z) : dcall T f [A.enc x, B.enc y] = some (C.enc z) := by
  simp [dcall, hT, sp, arg2, EncR.and, EncR.one, A.de, B.de, hg]
theorem dcall3 {α β γ δ : Type} {A : Enc α} {B : Enc β} {C : Enc γ} {D : Enc δ} {g : α × β × γ → Option δ} {T : Tab} {f : FuncId} {x : α} {y : β} {u : γ} {z : δ} (hT : T f = some (sp (arg3 A B C) D g)) (hg : g (x, y, u) = some z) : dcall T f [A.enc x, B.enc y, C.enc u] = some (D.enc z) := by
  simp [dcall, hT, sp, arg3, EncR.and, EncR.one, A.de, B.de, C.de, hg]

/-- slices.IndexFunc -/
def idxF {α : Type} (q : α → Bool) : List α → Nat → Int
  | [], _ => -1
  | x :: l, i => if q x then i else idxF q l (i + 1)
theorem idxF_drop {α : Type} (q : α → Bool) (l : List α) (i : Nat) (h : i < l.length) : idxF q (l.drop i) i = if q l[i] then (i : Int) else idxF q (l.drop (i + 1)) (i + 1) := by
  rw [List.drop_eq_getElem_cons h]; rfl
theorem idxF_any {α : Type} (q : α → Bool) : ∀ (l : List α) (i : Nat), decide (0 ≤ idxF q l i) = l.any q
  | [], i => by simp [idxF]
  | x :: l, i => by
    simp only [idxF, List.any_cons]
    by_cases h : q x
    · simp [h]
    · simp [h, idxF_any q l (i + 1)]

/-- the methods badOp (false) and badFun (true) of a book -/
def Enc.pred : Enc (Bool × Book) where
  enc p := .func (.func (if p.1 then 117 else 116)) [Enc.book.enc p.2] []
  dec d := match d with
    | .func (.func f) [x] [] => match Enc.book.dec x with
      | some b => if f = 117 then some (true, b) else if f = 116 then some (false, b) else none
      | none => none
    | _ => none
  le d x h := by
    intro C w v hv
    split at h
    · split at h
      · next b hb =>
        simp only [VRel] at hv ⊢
        obtain ⟨f', c', h1, h2, h3⟩ := hv
        split at h
        · next e => simp at h; subst h; subst e; exact ⟨f', c', h1, LRel_le (.cons (Enc.book.le _ _ hb) .nil) h2, h3⟩
        · split at h
          · next e => simp at h; subst h; subst e; exact ⟨f', c', h1, LRel_le (.cons (Enc.book.le _ _ hb) .nil) h2, h3⟩
          · simp at h
      · simp at h
    · simp at h
  pure p := by simp [pureB, pureL, Enc.book.pure]
  de p := by
    obtain ⟨b, k⟩ := p
    cases b <;> simp [Enc.book.de]
def predB (p : Bool × Book) (o : OpD) : Bool := if p.1 then badFun p.2 o else badOp p.2 o
def s131 : Sp := sp (arg2 Enc.ops Enc.pred) Enc.i64 (fun x => if x.1.length ≤ lim ∧ (∀ o ∈ x.1, o.small) then some (idxF (predB x.2) x.1 0) else none)
def inv131 (l : List OpD) (p : Bool × Book) : Nat → (Nat → DV) → St → Prop := fun k a σ => ∃ i, i ≤ l.length ∧ k = l.length - i ∧ idxF (predB p) l 0 = idxF (predB p) (l.drop i) i ∧
  a 0 = .slice 7 .none (l.map EncR.opd.enc) ∧ a 1 = Enc.pred.enc p ∧ a 7 = .lit (.int .i64 l.length) ∧ a 8 = .lit (.int .i64 i)
abbrev T131 : Tab := tabOf [(116, s116), (117, s117)]
theorem callPred (p : Bool × Book) (o : OpD) (ho : o.small) : dcall T131 (if p.1 then 117 else 116) [Enc.book.enc p.2, .agg (EncR.opd.enc o)] = some (.lit (.bool (predB p o))) := by
  obtain ⟨b, k⟩ := p
  cases b <;> simp [dcall, tabOf, s116, s117, sp, arg2, EncR.and, EncR.one, Enc.opd, Enc.agg, EncR.opd.de, Enc.book.de, Enc.bool, predB, ho]
attribute [local simp] drunL drunO dwanted dopS own plainOf dop dput eval ofVal Then Ex.then Ex.inBlock upd dbin Tag.isNN nilTest intCmp dload dpart TyI.agg dfieldAddr dfield dindexAddr dindex dlen lenOk dlookup mapOf keyFits dmapUpdate dcallee dbuiltin dstore DV.cells dslice dboundOk dappend appTag rowsOf elemOk growLimit dbuildCells dbuildCells.go structOk fieldsOk dbuildRows goInt
theorem c131 : CallSound Tryz.prog 131 s131 := by
  have t131 : TabOk Tryz.prog T131 := .cons e116 (.cons e117 .nil)
  refine CallSound.of_sp (T := T131) Tryz.func131 rfl (Nat.le_of_ble_eq_true rfl) fun E x y hy => ?_
  obtain ⟨l, p⟩ := x
  by_cases hlim : l.length ≤ lim ∧ (∀ o ∈ l, o.small)
  case neg => simp only [hlim, if_false] at hy; cases hy
  rw [if_pos ⟨hlim.1, hlim.2⟩] at hy
  cases hy
  obtain ⟨hlim, hsm⟩ := hlim
  unfold lim at hlim
  refine Dwp.step t131 rfl fun K hK => ?_
  simp [dcall, tabOf, setAt]
  refine hK _ _ ?_ rfl; clear hK K
  refine Dwp.seq ?_
  refine Dwp.step t131 rfl fun K hK => ?_
  simp [dcall, tabOf, setAt, init, arg2, EncR.and, EncR.one, Enc.ops, Enc.slice, ty24]
  refine hK _ _ ?_ rfl; clear hK K
  refine Dwp.block (Dwp.loop (inv131 l p) l.length ⟨0, by simp, by simp, by simp, by simp [upd, init, Enc.ops, Enc.slice], by simp [upd, init], by simp [upd], by simp [upd]⟩ ?_)
  rintro k a σ ⟨i, hi, rfl, hidx, h0, h1, h7, h8⟩
  refine Dwp.step t131 rfl fun K hK => ?_
  simp [dcall, tabOf, setAt, h7, h8]
  refine hK _ _ ?_ rfl; clear hK K
  by_cases hlt : i < l.length
  · refine Dwp.seq (Dwp.condT (by simp [eval, upd, hlt]) (Dwp.skip ?_))
    refine Dwp.seq (Dwp.block ?_)
    refine Dwp.step t131 rfl fun K hK => ?_
    simp [dcall, tabOf, setAt, h8]
    refine hK _ _ ?_ rfl; clear hK K
    refine Dwp.step t131 rfl fun K hK => ?_
    have g := callPred p l[i] (hsm _ (List.getElem_mem hlt))
    simp [drunL, dwanted, dopS, own, dop, dput, eval, ofVal, Then, upd, h0, h1, ty24, ty38, dindexAddr, dload, dpart, TyI.agg, hlt, dcallee, Enc.pred, g]
    refine hK _ _ ?_ rfl; clear hK K
    have hd := idxF_drop (predB p) l i hlt
    cases hp : predB p l[i] with
    | true =>
      rw [hp] at hd
      refine Dwp.condT (by simp [eval, upd, hp]) ?_
      refine Dwp.step t131 rfl fun K hK => ?_
      simp [dcall, tabOf, setAt]
      refine hK _ _ (Dwp.ret ?_) rfl
      have : idxF (predB p) l 0 = i := by rw [hidx, hd]; rfl
      simp [Done, dresults, dres, frz, frz1, frz2, Enc.i64, Enc.int, Ex.then, Ex.inBlock, upd, this]
    | false =>
      rw [hp] at hd
      refine Dwp.condF (by simp [eval, upd, hp]) (Dwp.skip ?_)
      refine Dwp.reg t131 rfl fun K hK => ?_
      simp [dcall, tabOf, setAt, h8]
      refine hK _ _ ?_ rfl; clear hK K
      exact ⟨l.length - (i + 1), by omega, i + 1, by omega, rfl, by rw [hidx, hd]; rfl, by simp [upd, h0], by simp [upd, h1], by simp [upd, h7], by simp [upd, wrap_small (n := (i : Int) + 1) (by omega) (by omega)]⟩
  · refine Dwp.seq (Dwp.condF (by simp [eval, upd, hlt]) (Dwp.exit ?_))
    refine Dwp.step t131 rfl fun K hK => ?_
    simp [dcall, tabOf, setAt]
    refine hK _ _ (Dwp.ret ?_) rfl
    have : idxF (predB p) l 0 = -1 := by rw [hidx, List.drop_eq_nil_of_le (by omega)]; rfl
    simp [Done, dresults, dres, frz, frz1, frz2, Enc.i64, Enc.int, upd, this]

def s115 : Sp := sp (arg2 Enc.ops Enc.pred) Enc.bool (fun x => if x.1.length ≤ lim ∧ (∀ o ∈ x.1, o.small) then some (x.1.any (predB x.2)) else none)
theorem c115 : CallSound Tryz.prog 115 s115 := by
  have e131 : Go.FA.Good Tryz.prog (131, s131) := ⟨c131, Tryz.f131, _, Tryz.func131, rfl, by decide⟩
  have t115 : TabOk Tryz.prog (tabOf [(131, s131)]) := .cons e131 .nil
  refine CallSound.of_sp (T := tabOf [(131, s131)]) Tryz.func115 rfl (Nat.le_of_ble_eq_true rfl) fun E x y hy => ?_
  obtain ⟨l, p⟩ := x
  by_cases hlim : l.length ≤ lim ∧ (∀ o ∈ l, o.small)
  case neg => simp only [hlim, if_false] at hy; cases hy
  rw [if_pos ⟨hlim.1, hlim.2⟩] at hy
  cases hy
  have g : dcall (tabOf [(131, s131)]) 131 [Enc.ops.enc l, Enc.pred.enc p] = some (.lit (.int .i64 (idxF (predB p) l 0))) :=
    dcall2 (B := Enc.pred) (C := Enc.i64) (x := l) (y := p) (z := idxF (predB p) l 0) rfl (if_pos ⟨hlim.1, hlim.2⟩)
  refine Dwp.step t115 rfl fun K hK => ?_
  simp [dcall, tabOf, setAt]
  refine hK _ _ ?_ rfl; clear hK K
  refine Dwp.step t115 rfl fun K hK => ?_
  simp [drunL, dwanted, dopS, own, dop, dput, eval, ofVal, Then, upd, init, arg2, EncR.and, EncR.one, dcallee, g, dbin, intCmp]
  refine hK _ _ (Dwp.ret ?_) rfl
  have := idxF_any (predB p) l 0
  simp [Done, dresults, dres, frz, frz1, frz2, Enc.bool, upd, this]
theorem e115 : Go.FA.Good Tryz.prog (115, s115) := ⟨c115, Tryz.f115, _, Tryz.func115, rfl, by decide⟩
end Go.Proofs.Yt
namespace Go.Proofs.Yt
open Go Go.FA Go.Proofs
set_option linter.unusedVariables false
set_option linter.unusedSimpArgs false
set_option maxRecDepth 100000

def Enc.tru : Enc Unit where
  enc _ := .lit (.bool true)
  dec d := match d with | .lit (.bool true) => some () | _ => none
  le d x h := by split at h <;> simp_all [DLe.refl]
  pure _ := rfl
  de _ := rfl
/-- a set of strings: a map whose values are true -/
def Enc.set : Enc (List ByteArray) where
  enc l := .fmap (l.map .string) (l.map fun _ => .lit (.bool true))
  dec d := ((Enc.map Enc.tru).dec d).map (·.map (·.1))
  le d x h := by
    obtain ⟨l, h1, rfl⟩ := Option.map_eq_some_iff.1 h
    have h2 := (Enc.map Enc.tru).le _ _ h1
    have h3 : (Enc.map Enc.tru).enc l = .fmap ((l.map (·.1)).map .string) ((l.map (·.1)).map fun _ => .lit (.bool true)) := by
      simp only [Enc.map, List.map_map]; rfl
    rw [h3] at h2; exact h2
  pure l := by
    simp only [pureB]
    induction l with
    | nil => rfl
    | cons x l ih => simp [pureL, pureB, ih]
  de l := by
    have h := (Enc.map Enc.tru).de (l.map fun s => (s, ()))
    have h3 : (Enc.map Enc.tru).enc (l.map fun s => (s, ())) = .fmap (l.map .string) (l.map fun _ => .lit (.bool true)) := by
      simp only [Enc.map, List.map_map]; rfl
    rw [h3] at h
    rw [h]; simp [List.map_map, Function.comp_def]
theorem set_enc_dec (l : List ByteArray) : Enc.set.dec (.fmap (l.map .string) (l.map fun _ => .lit (.bool true))) = some l := Enc.set.de l
theorem keyStr (x y : ByteArray) : eqKey (.string x) (.string y) = some (decide (x = y)) := rfl

def Book.highsOf (b : Book) (s : ByteArray) : List ByteArray := (mget s b.highs).getD []
def overF (b : Book) : Nat → List ByteArray → List ByteArray → Option (List ByteArray)
  | 0, _, _ => none
  | _ + 1, [], seen => some seen
  | n + 1, x :: rest, seen => if x ∈ seen then overF b n rest seen else if rest.length + (b.highsOf x).length ≤ 16777216 then overF b n (rest ++ b.highsOf x) (seen ++ [x]) else none
def Book.over (b : Book) (s : ByteArray) : Option (List ByteArray) := if (b.highsOf s).length ≤ 1048576 then overF b 1000000 (b.highsOf s) [] else none
def s94 : Sp := sp (arg2 Enc.book Enc.str) Enc.set (fun x => x.1.over x.2)
@[simp] theorem book0 (b : Book) : (EncR.book.enc b)[0]? = some (.fmap (b.highs.map fun p => .string p.1) (b.highs.map fun p => Enc.strs.enc p.2)) := rfl

@[simp] theorem take_len_map {α β : Type} (l : List α) (f : α → β) : (l.map f).take l.length = l.map f := by rw [List.take_of_length_le (by simp)]
theorem rowsOf_strs (l : List ByteArray) : rowsOf 1 (Enc.strs.enc l) = some (l.map fun s => [DV.lit (.string s)]) := rfl
def inv94 (b : Book) (res : List ByteArray) : Nat → (Nat → DV) → St → Prop := fun k a σ => ∃ (todo seen : List ByteArray) (tk g : Nat), overF b k todo seen = some res ∧
  a 2 = .row (EncR.book.enc b) 0 ∧ a 5 = .map 2 ∧ σ.objs 2 = some (.map (seen.map .string) (seen.map fun _ => .lit (.bool true))) ∧
  a 6 = .slice 1 (.tok tk g) (todo.map fun s => [DV.lit (.string s)]) ∧ σ.toks tk = some g
theorem t94 : TabOk Tryz.prog (tabOf [(120, s120o)]) := .cons e120o .nil
theorem call120o (T : Tab) (hT : T 120 = some s120o) (d : DV) (l : List ByteArray) (hd : Enc.strs.dec d = some l) (hl : l.length ≤ 1048576) : dcall T 120 [d] = some (.slice 1 (.tok 0 0) (l.map fun s => [DV.lit (.string s)])) := by
  simp [dcall, hT, s120o, spOwn, arg1, EncR.one, hd, hl, Enc.str]
def Code.tl : Code → Code
  | .seq _ y => y
  | c => c
attribute [local simp] drunL drunO dwanted dopS own plainOf dop dput eval ofVal Then Ex.then Ex.inBlock upd dbin Tag.isNN nilTest intCmp dload dpart TyI.agg dfieldAddr dfield dindexAddr dindex dlen lenOk dlookup mapOf keyFits dmapUpdate dcallee dbuiltin dstore DV.cells dslice dboundOk dappend appTag rowsOf elemOk growLimit dbuildCells dbuildCells.go structOk fieldsOk dbuildRows goInt
theorem tail94 (b : Book) (res : List ByteArray) (E : Entry) (n : Nat) (a : Nat → DV) (σ : St) (h0 : inv94 b res n a σ) :
    ∀ c, Tryz.f94.body.map (fun c => Code.tl (Code.tl (Code.tl c))) = some c → Dwp Tryz.prog (tabOf [(120, s120o)]) E Tryz.f94.ntmps c (Done Tryz.prog Tryz.f94.results Enc.set res) a σ := by
  intro c hc
  cases hc
  refine Dwp.seq ?_
  refine Dwp.block (Dwp.loop (inv94 b res) n h0 ?_)
  rintro k a σ ⟨todo, seen, tk, g, hov, h2, h5, hobj, h6, htk⟩
  refine Dwp.seq ?_
  refine Dwp.step t94 rfl fun K hK => ?_
  cases k with
  | zero => simp [overF] at hov
  | succ k =>
  cases todo with
  | nil =>
    simp [dcall, tabOf, setAt, h6, ty22]
    refine hK _ _ ?_ rfl; clear hK K
    refine Dwp.condF (by simp [eval, upd]) (Dwp.exit ?_)
    simp [overF] at hov; subst hov
    refine Dwp.step t94 rfl fun K hK => ?_
    simp [dcall, tabOf, setAt, h5]
    refine hK _ _ (Dwp.ret ?_) rfl
    have := set_enc_dec seen
    simp [Done, dresults, dres, frz, frz1, frz2, upd, hobj]
    exact this
  | cons x rest =>
    have hpos : (0 : Int) < (rest.length : Int) + 1 := by omega
    simp [dcall, tabOf, setAt, h6, ty22, hpos]
    refine hK _ _ ?_ rfl; clear hK K
    refine Dwp.condT (by simp [eval, upd]) (Dwp.skip ?_)
    refine Dwp.block ?_
    refine Dwp.step t94 rfl fun K hK => ?_
    simp [dcall, tabOf, setAt, h6, ty22, ty9]
    refine hK _ _ ?_ rfl; clear hK K
    refine Dwp.step t94 rfl fun K hK => ?_
    have h1le : (1 : Int) ≤ (rest.length : Int) + 1 := by omega
    simp [dcall, tabOf, setAt, h6, ty22, ty9, h1le]
    refine hK _ _ ?_ rfl; clear hK K
    simp only [overF] at hov
    have hA := assoc_keys _ keyStr x seen
    refine Dwp.step t94 rfl fun K hK => ?_
    by_cases hx : x ∈ seen
    · rw [if_pos hx] at hov
      simp [dcall, tabOf, setAt, h5, hobj, ty94, ty9, ty4, hA, hx]
      refine hK _ _ ?_ rfl; clear hK K
      refine Dwp.condF (by simp [eval, upd]) (Dwp.skip ?_)
      exact ⟨k, Nat.lt_succ_self _, rest, seen, tk, g, hov, by simp [upd, h2], by simp [upd, h5], by simp [upd, hobj], by simp [upd], by simp [upd, htk]⟩
    · rw [if_neg hx] at hov
      split at hov
      case isFalse => cases hov
      next hroom =>
      simp [dcall, tabOf, setAt, h5, hobj, ty94, ty9, ty4, hA, hx]
      refine hK _ _ ?_ rfl; clear hK K
      refine Dwp.condT (by simp [eval, upd]) ?_
      have hP := putKey_keys _ keyStr x (.lit (.bool true)) seen (seen.map fun _ => .lit (.bool true)) hx (by simp)
      refine Dwp.step t94 rfl fun K hK => ?_
      simp [dcall, tabOf, setAt, h5, hobj, ty94, ty9, hP]
      refine hK _ _ ?_ rfl; clear hK K
      have hass := assoc_enc Enc.strs x b.highs
      refine Dwp.reg t94 rfl fun K hK => ?_
      unfold Book.highsOf at hroom hov
      cases hm : mget x b.highs with
      | none =>
        rw [hm] at hass hroom hov
        simp at hroom
        simp [dcall, tabOf, setAt, h2, htk, ty58, ty55, ty9, ty22, hass, hroom]
        refine hK _ _ ?_ rfl; clear hK K
        refine ⟨k, Nat.lt_succ_self _, rest, seen ++ [x], tk, g + 1, by simpa using hov, by simp [upd, h2], by simp [upd, h5], by simp [upd], by simp [upd], by simp [upd]⟩
      | some l =>
        rw [hm] at hass hroom hov
        simp at hroom
        simp [Enc.strs, Enc.slice, EncR.one, Enc.str] at hass
        simp [dcall, tabOf, setAt, h2, htk, ty58, ty55, ty9, ty22, Enc.strs, Enc.slice, EncR.one, Enc.str, hass, hroom]
        refine hK _ _ ?_ rfl; clear hK K
        refine ⟨k, Nat.lt_succ_self _, rest ++ l, seen ++ [x], tk, g + 1, by simpa using hov, by simp [upd, h2], by simp [upd, h5], by simp [upd], by simp [upd], by simp [upd]⟩
theorem c94 : CallSound Tryz.prog 94 s94 := by
  refine CallSound.of_sp (T := tabOf [(120, s120o)]) Tryz.func94 rfl (Nat.le_of_ble_eq_true rfl) fun E x res hy => ?_
  obtain ⟨b, s⟩ := x
  unfold Book.over at hy
  split at hy
  case isFalse => cases hy
  next hlen =>
  refine Dwp.step t94 rfl fun K hK => ?_
  simp [dcall, tabOf, setAt, init, arg1, arg2, arg3, EncR.one, EncR.and, Enc.bool, Enc.int, Enc.str, Enc.strs, Enc.slice, Enc.agg, Enc.tup, Enc.err, Enc.fn, Enc.book]
  refine hK _ _ ?_ rfl; clear hK K
  refine Dwp.step t94 rfl fun K hK => ?_
  simp [dcall, tabOf, setAt]
  refine hK _ _ ?_ rfl; clear hK K
  refine Dwp.step t94 rfl fun K hK => ?_
  -- what the map holds
  have hass := assoc_enc Enc.strs s b.highs
  have hget : ∃ d, (match (mget s b.highs).map Enc.strs.enc with | some v => v | none => .lit (.slice none 0 0)) = d ∧ Enc.strs.dec d = some (b.highsOf s) := by
    unfold Book.highsOf
    cases mget s b.highs with
    | none => exact ⟨_, rfl, rfl⟩
    | some l => exact ⟨_, rfl, Enc.strs.de l⟩
  obtain ⟨d, hd1, hd2⟩ := hget
  have g := call120o (tabOf [(120, s120o)]) rfl d (b.highsOf s) hd2 hlen
  cases hm : mget s b.highs with
  | none =>
    rw [hm] at hass hd1
    simp only [Option.map_none] at hass hd1
    subst hd1
    simp [drunL, dwanted, dopS, own, plainOf, dop, dput, eval, ofVal, Then, upd, init, arg2, EncR.and, EncR.one, Enc.str, dfieldAddr, dload, dpart, TyI.agg, ty58, ty55, ty9, ty22, dlookup, mapOf, keyFits, hass, dcallee, g]
    refine hK _ _ ?_ rfl; clear hK K
    exact tail94 b res E 1000000 _ _ ⟨_, [], _, _, hy, by simp [upd], by simp [upd, σ0], by simp [upd, σ0], by simp [upd]; exact ⟨rfl, rfl⟩, by simp [upd, σ0]⟩ _ rfl
  | some l0 =>
    rw [hm] at hass hd1
    simp only [Option.map_some] at hass hd1
    subst hd1
    have hlc : (Enc.strs.enc l0).cells = some [Enc.strs.enc l0] := rfl
    simp [drunL, dwanted, dopS, own, plainOf, dop, dput, eval, ofVal, Then, upd, init, arg2, EncR.and, EncR.one, Enc.str, dfieldAddr, dload, dpart, TyI.agg, ty58, ty55, ty9, ty22, dlookup, mapOf, keyFits, hass, dcallee, g]
    refine hK _ _ ?_ rfl; clear hK K
    exact tail94 b res E 1000000 _ _ ⟨_, [], _, _, hy, by simp [upd], by simp [upd, σ0], by simp [upd, σ0], by simp [upd]; exact ⟨rfl, rfl⟩, by simp [upd, σ0]⟩ _ rfl
theorem e94 : Go.FA.Good Tryz.prog (94, s94) := ⟨c94, Tryz.f94, _, Tryz.func94, rfl, by decide⟩
end Go.Proofs.Yt
namespace Go.Proofs.Yt
open Go Go.FA Go.Proofs
set_option linter.unusedVariables false
set_option linter.unusedSimpArgs false
set_option maxRecDepth 100000

def anyS : ByteArray := ⟨#[65, 110, 121]⟩
def Book.atMost (b : Book) (lo hi : ByteArray) : Option Bool := if hi = anyS then some true else if lo = hi then some true else (b.over lo).map fun l => decide (hi ∈ l)
def s50 : Sp := sp (arg3 Enc.book Enc.str Enc.str) Enc.bool (fun x => x.1.atMost x.2.1 x.2.2)
theorem t50 : TabOk Tryz.prog (tabOf [(94, s94)]) := .cons e94 .nil
attribute [local simp] drunL drunO dwanted dopS own plainOf dop dput eval ofVal Then Ex.then Ex.inBlock upd dbin Tag.isNN nilTest intCmp dload dpart TyI.agg dfieldAddr dfield dindexAddr dindex dlen lenOk dlookup mapOf keyFits dmapUpdate dcallee dbuiltin dstore DV.cells dslice dboundOk dappend appTag rowsOf elemOk growLimit dbuildCells dbuildCells.go structOk fieldsOk dbuildRows goInt
theorem c50 : CallSound Tryz.prog 50 s50 := by
  refine CallSound.of_sp (T := tabOf [(94, s94)]) Tryz.func50 rfl (Nat.le_of_ble_eq_true rfl) fun E x y hy => ?_
  obtain ⟨b, lo, hi⟩ := x
  simp only [Book.atMost] at hy
  refine Dwp.step t50 rfl fun K hK => ?_
  simp [dcall, tabOf, setAt, init, arg3, EncR.and, EncR.one, Enc.str, Enc.book, Enc.agg]
  refine hK _ _ ?_ rfl; clear hK K
  refine Dwp.step t50 rfl fun K hK => ?_
  by_cases h1 : hi = anyS
  · rw [if_pos h1] at hy; cases hy
    unfold anyS at h1
    simp [dcall, tabOf, setAt, init, arg3, EncR.and, EncR.one, Enc.str, h1]
    refine hK _ _ (Dwp.ret ?_) rfl
    simp [Done, dresults, dres, frz, frz1, frz2, Enc.bool, upd]
  rw [if_neg h1] at hy
  by_cases h2 : lo = hi
  · rw [if_pos h2] at hy; cases hy
    unfold anyS at h1
    simp [dcall, tabOf, setAt, init, arg3, EncR.and, EncR.one, Enc.str, h1, h2]
    refine hK _ _ (Dwp.ret ?_) rfl
    simp [Done, dresults, dres, frz, frz1, frz2, Enc.bool, upd]
  rw [if_neg h2] at hy
  obtain ⟨l, ho, rfl⟩ := Option.map_eq_some_iff.1 hy
  have g : dcall (tabOf [(94, s94)]) 94 [Enc.book.enc b, Enc.str.enc lo] = some (Enc.set.enc l) := dcall2 (B := Enc.str) rfl ho
  have hA := assoc_keys _ keyStr hi l
  unfold anyS at h1
  simp [dcall, tabOf, Enc.book, Enc.str, Enc.agg, Enc.set] at g
  by_cases hm : hi ∈ l
  · rw [if_pos hm] at hA
    simp [dcall, tabOf, setAt, init, arg3, EncR.and, EncR.one, Enc.str, h1, h2, ty58, ty94, ty9, ty4, g, hA]
    refine hK _ _ (Dwp.ret ?_) rfl
    simp [Done, dresults, dres, frz, frz1, frz2, Enc.bool, upd, hm]
  · rw [if_neg hm] at hA
    simp [dcall, tabOf, setAt, init, arg3, EncR.and, EncR.one, Enc.str, h1, h2, ty58, ty94, ty9, ty4, g, hA]
    refine hK _ _ (Dwp.ret ?_) rfl
    simp [Done, dresults, dres, frz, frz1, frz2, Enc.bool, upd, hm]
theorem e50 : Go.FA.Good Tryz.prog (50, s50) := ⟨c50, Tryz.f50, _, Tryz.func50, rfl, by decide⟩
end Go.Proofs.Yt
namespace Go.Proofs.Yt
open Go Go.FA Go.Proofs
set_option linter.unusedVariables false
set_option linter.unusedSimpArgs false
set_option maxRecDepth 100000

/-- how many entries a range over a map has left -/
def left (len : Nat) (seen : List Nat) : Nat := ((List.range len).filter fun i => !decide (i ∈ seen)).length
theorem left_lt {len j : Nat} {seen : List Nat} (hj : j < len) (hn : j ∉ seen) : left len (seen ++ [j]) < left len seen := by
  have h : ((List.range len).filter fun i => !decide (i ∈ seen ++ [j])) = ((List.range len).filter fun i => !decide (i ∈ seen)).filter fun i => decide (i ≠ j) := by
    rw [List.filter_filter]
    apply List.filter_congr
    intro i _
    by_cases h1 : i ∈ seen <;> by_cases h2 : i = j <;> simp [h1, h2]
  unfold left
  rw [h]
  exact List.length_filter_lt_length_iff_exists.2 ⟨j, by simp [hj, hn], by simp⟩

def Book.circ (b : Book) (s : ByteArray) : Bool := match b.over s with | some l => decide (s ∈ l) | none => false
def Book.circle (b : Book) : Bool := b.highs.any fun p => b.circ p.1
def s129 : Sp := sp (arg1 Enc.book) Enc.bool (fun b => if b.highs.all fun p => (b.over p.1).isSome then some b.circle else none)
def inv129 (b : Book) : Nat → (Nat → DV) → St → Prop := fun k a σ => ∃ seen, k = left b.highs.length seen ∧ (∀ j ∈ seen, ∀ p, b.highs[j]? = some p → b.circ p.1 = false) ∧
  a 1 = .row (EncR.book.enc b) 0 ∧ a 6 = .ptr 4 0 ∧ σ.objs 4 = some (.mapIter (b.highs.map fun p => .string p.1) (b.highs.map fun p => Enc.strs.enc p.2) seen)
theorem t129 : TabOk Tryz.prog (tabOf [(94, s94)]) := .cons e94 .nil
attribute [local simp] drunL drunO dwanted dopS own plainOf dop dput eval ofVal Then Ex.then Ex.inBlock upd dbin Tag.isNN nilTest intCmp dload dpart TyI.agg dfieldAddr dfield dindexAddr dindex dlen lenOk dlookup mapOf keyFits dmapUpdate dcallee dbuiltin dstore DV.cells dslice dboundOk dappend appTag rowsOf elemOk growLimit dbuildCells dbuildCells.go structOk fieldsOk dbuildRows goInt
theorem c129 : CallSound Tryz.prog 129 s129 := by
  refine CallSound.of_sp (T := tabOf [(94, s94)]) Tryz.func129 rfl (Nat.le_of_ble_eq_true rfl) fun E b y hy => ?_
  split at hy
  case isFalse => cases hy
  next hall =>
  cases hy
  refine Dwp.step t129 rfl fun K hK => ?_
  simp [dcall, tabOf, setAt, init, arg1, EncR.one, Enc.book, Enc.agg]
  refine hK _ _ ?_ rfl; clear hK K
  refine Dwp.seq ?_
  refine Dwp.step t129 rfl fun K hK => ?_
  simp [dcall, tabOf, setAt, ty58, ty55]
  refine hK _ _ ?_ rfl; clear hK K
  refine Dwp.block (Dwp.loop (inv129 b) (left b.highs.length []) ⟨[], rfl, by simp, by simp [upd], by simp [upd, σ0], by simp [upd, σ0]⟩ ?_)
  rintro k a σ ⟨seen, rfl, hno, h1, h6, hobj⟩
  refine Dwp.seq (Dwp.next t129 rfl rfl rfl rfl h6 hobj ?_ ?_)
  · intro hend K hK
    simp [dcall, tabOf, setAt]
    refine hK _ _ ?_ rfl; clear hK K
    refine Dwp.seq (Dwp.condF (by simp [eval, upd]) (Dwp.exit ?_))
    refine Dwp.step t129 rfl fun K hK => ?_
    simp [dcall, tabOf, setAt]
    refine hK _ _ (Dwp.ret ?_) rfl
    have : b.circle = false := by
      unfold Book.circle
      rw [List.any_eq_false]
      intro p hp
      obtain ⟨j, hj, rfl⟩ := List.getElem_of_mem hp
      rw [hno j (hend j (by simpa using hj)) _ (List.getElem?_eq_getElem hj)]
      simp
    simp [Done, dresults, dres, frz, frz1, frz2, Enc.bool, upd, this]
  · intro j kk x hns hk hx K hK
    obtain ⟨p, hp, rfl⟩ : ∃ p, b.highs[j]? = some p ∧ Value.string p.1 = kk := by
      rw [List.getElem?_map, Option.map_eq_some_iff] at hk; exact hk
    have hjl : j < b.highs.length := by
      rcases Nat.lt_or_ge j b.highs.length with q | q
      · exact q
      · rw [List.getElem?_eq_none q] at hp; cases hp
    have hov := List.all_eq_true.1 hall p (List.mem_of_getElem? hp)
    obtain ⟨l, hl⟩ := Option.isSome_iff_exists.1 hov
    have g : dcall (tabOf [(94, s94)]) 94 [Enc.book.enc b, Enc.str.enc p.1] = some (Enc.set.enc l) := dcall2 (B := Enc.str) rfl hl
    have hA := assoc_keys _ keyStr p.1 l
    simp [dcall, tabOf, setAt]
    refine hK _ _ ?_ rfl; clear hK K
    refine Dwp.seq (Dwp.condT (by simp [eval, upd]) (Dwp.skip ?_))
    refine Dwp.block ?_
    refine Dwp.step t129 rfl fun K hK => ?_
    simp [dcall, tabOf, setAt, h6, upd, dentry, hk, hx]
    refine hK _ _ ?_ rfl; clear hK K
    refine Dwp.step t129 rfl fun K hK => ?_
    simp [dcall, tabOf, Enc.book, Enc.str, Enc.agg, Enc.set] at g
    by_cases hm : p.1 ∈ l
    · rw [if_pos hm] at hA
      simp [dcall, tabOf, setAt, h1, ty58, ty94, ty9, ty4, g, hA]
      refine hK _ _ ?_ rfl; clear hK K
      refine Dwp.condT (by simp [eval, upd]) ?_
      refine Dwp.step t129 rfl fun K hK => ?_
      simp [dcall, tabOf, setAt]
      refine hK _ _ (Dwp.ret ?_) rfl
      have : b.circle = true := by
        unfold Book.circle
        rw [List.any_eq_true]
        exact ⟨p, List.mem_of_getElem? hp, by simp [Book.circ, hl, hm]⟩
      simp [Done, dresults, dres, frz, frz1, frz2, Enc.bool, Ex.then, Ex.inBlock, upd, this]
    · rw [if_neg hm] at hA
      simp [dcall, tabOf, setAt, h1, ty58, ty94, ty9, ty4, g, hA]
      refine hK _ _ ?_ rfl; clear hK K
      refine Dwp.condF (by simp [eval, upd]) (Dwp.skip ?_)
      refine ⟨_, left_lt hjl hns, seen ++ [j], rfl, ?_, by simp [upd, h1], by simp [upd, h6], by simp [upd]⟩
      intro i hi q hq
      rcases List.mem_append.1 hi with hi | hi
      · exact hno i hi q hq
      · simp at hi; subst hi
        rw [hp] at hq; cases hq
        simp [Book.circ, hl, hm]
theorem e129 : Go.FA.Good Tryz.prog (129, s129) := ⟨c129, Tryz.f129, _, Tryz.func129, rfl, by decide⟩
end Go.Proofs.Yt
namespace Go.Proofs.Yt
open Go Go.FA Go.Proofs
set_option linter.unusedVariables false
set_option linter.unusedSimpArgs false
set_option maxRecDepth 100000

def Bel.val (b : Bel) : Value := .agg #[.string b.low, .string b.high]
theorem sk78 (x y : ByteArray) : structKey Tryz.prog 78 [.string x, .string y] = true := by kernel_rfl
theorem eqBel (x y : Bel) : eqKey x.val y.val = some (decide (x = y)) := by
  obtain ⟨a, b⟩ := x
  obtain ⟨c, d⟩ := y
  simp only [Bel.val, eqKey, eqVals, Option.map_some, Bel.mk.injEq]
  by_cases h1 : a = c <;> by_cases h2 : b = d <;> simp [h1, h2]
theorem assocBel (k : Bel) : ∀ (l : List Bel), assoc k.val (l.map Bel.val) (l.map fun _ => .lit (.bool true)) = some (if k ∈ l then some (.lit (.bool true)) else none)
  | [] => rfl
  | x :: l => by
    simp only [List.map_cons, assoc, eqBel, assocBel k l]
    by_cases h : k = x
    · simp [h]
    · simp [h]
theorem putBel (k : Bel) (x : DV) : ∀ (l : List Bel) (vs : List DV), k ∉ l → vs.length = l.length → putKey k.val x (l.map Bel.val) vs = some (l.map Bel.val ++ [k.val], vs ++ [x])
  | [], [], _, _ => rfl
  | [], _ :: _, _, h => by simp at h
  | _ :: _, [], _, h => by simp at h
  | y :: l, v :: vs, hn, h => by
    have h1 : k ≠ y := fun e => hn (by simp [e])
    have h2 : k ∉ l := fun e => hn (by simp [e])
    simp [putKey, eqBel, h1, putBel k x l vs h2 (by simpa using h)]
def s128 : Sp := sp (arg1 Enc.bels) Enc.bool (fun l => if l.length ≤ lim then some (decide l.Nodup) else none)
def inv128 (l : List Bel) : Nat → (Nat → DV) → St → Prop := fun k a σ => ∃ i, i ≤ l.length ∧ k = l.length - i ∧ (l.take i).Nodup ∧ a 3 = .map 1 ∧ a 7 = .slice 2 .none (l.map EncR.bel.enc) ∧
    a 8 = .lit (.int .i64 l.length) ∧ a 9 = .lit (.int .i64 i) ∧ 1 < σ.n ∧ σ.objs 1 = some (.map ((l.take i).map Bel.val) ((l.take i).map fun _ => .lit (.bool true)))

attribute [local simp] drunL drunO dwanted dopS own plainOf dop dput eval ofVal Then Ex.then Ex.inBlock upd dbin Tag.isNN nilTest intCmp dload dpart TyI.agg dfieldAddr dfield dindexAddr dindex dlen lenOk dlookup mapOf keyFits dmapUpdate dcallee dbuiltin dstore DV.cells dslice dboundOk dappend appTag rowsOf elemOk growLimit dbuildCells dbuildCells.go structOk fieldsOk dbuildRows goInt
theorem c128 : CallSound Tryz.prog 128 s128 := by
  refine CallSound.of_sp (T := tabOf []) Tryz.func128 rfl (Nat.le_of_ble_eq_true rfl) fun E l y hy => ?_
  by_cases hlim : l.length ≤ lim <;> simp [hlim] at hy
  subst hy
  unfold lim at hlim
  refine Dwp.step tab0 rfl fun K hK => ?_
  simp [dcall, tabOf, setAt]
  refine hK _ _ ?_ rfl; clear hK K
  refine Dwp.step tab0 rfl fun K hK => ?_
  simp [dcall, tabOf, setAt]
  refine hK _ _ ?_ rfl; clear hK K
  refine Dwp.seq ?_
  refine Dwp.step tab0 rfl fun K hK => ?_
  simp [dcall, tabOf, setAt, init, arg1, EncR.one, Enc.bels, Enc.slice, ty23]
  refine hK _ _ ?_ rfl; clear hK K
  refine Dwp.block (Dwp.loop (inv128 l) l.length ⟨0, by simp, by simp, by simp, by simp [upd, σ0], by simp [upd], by simp [upd], by simp [upd], by simp [σ0], by simp [upd, σ0]⟩ ?_)
  rintro k a σ ⟨i, hi, rfl, hnd, h3, h7, h8, h9, hn, hobj⟩
  refine Dwp.step tab0 rfl fun K hK => ?_
  simp [dcall, tabOf, setAt, h8, h9]
  refine hK _ _ ?_ rfl; clear hK K
  by_cases hlt : i < l.length
  · refine Dwp.seq (Dwp.condT (by simp [eval, upd, hlt]) (Dwp.skip ?_))
    refine Dwp.seq (Dwp.block ?_)
    refine Dwp.step tab0 rfl fun K hK => ?_
    have hq : (2 : Nat) ≤ (EncR.bel.enc l[i]).length := Nat.le_refl _
    have hst : setAt [DV.lit (.string ⟨#[]⟩), .lit (.string ⟨#[]⟩)] 0 [DV.lit (.string l[i].low), .lit (.string l[i].high)] = [DV.lit (.string l[i].low), .lit (.string l[i].high)] := rfl
    simp [dcall, tabOf, setAt, h7, h9, ty23, ty78, hlt, EncR.bel]
    refine hK _ _ ?_ rfl; clear hK K
    have hA := assocBel l[i] (l.take i)
    simp only [List.map_take, Bel.val] at hA
    refine Dwp.seq ?_
    refine Dwp.step tab0 rfl fun K hK => ?_
    have hn1 : ¬ (1 = σ.n + 1 + 2) := by omega
    have hobj' : upd σ.objs (σ.n + 1 + 2) (some (.cells 78 [.lit (.string l[i].low), .lit (.string l[i].high)])) 1 = σ.objs 1 := by simp [upd, hn1]
    by_cases hm : l[i] ∈ l.take i
    · simp [dcall, tabOf, setAt, h3, hobj, ty137, ty78, ty4, hA, hm, sk78, hn1]
      refine hK _ _ ?_ rfl; clear hK K
      refine Dwp.condT (by simp [eval, upd]) ?_
      refine Dwp.step tab0 rfl fun K hK => ?_
      simp [dcall, tabOf, setAt]
      refine hK _ _ (Dwp.ret ?_) rfl
      have hno : ¬ l.Nodup := by
        intro hn
        have h1 : l.take (i + 1) = l.take i ++ [l[i]] := by rw [List.take_succ_eq_append_getElem hlt]
        have h2 : (l.take (i + 1)).Nodup := List.Nodup.sublist (List.take_sublist _ _) hn
        rw [h1, List.nodup_append] at h2
        exact h2.2.2 _ hm _ (by simp) rfl
      simp [Done, dresults, dres, frz, frz1, frz2, init, arg1, arg2, arg3, EncR.one, EncR.and, Enc.bool, Enc.int, Enc.str, Enc.strs, Enc.slice, Enc.agg, Enc.tup, Enc.err, Enc.fn, Ex.then, Ex.inBlock, upd, hno]
    · simp [dcall, tabOf, setAt, h3, hobj, ty137, ty78, ty4, hA, hm, sk78, hn1]
      refine hK _ _ ?_ rfl; clear hK K
      refine Dwp.condF (by simp [eval, upd]) (Dwp.skip ?_)
      refine Dwp.reg tab0 rfl fun K hK => ?_
      have hP := putBel l[i] (.lit (.bool true)) (l.take i) ((l.take i).map fun _ => .lit (.bool true)) hm (by simp)
      simp only [List.map_take, Bel.val] at hP
      simp [dcall, tabOf, setAt, h3, hobj, ty137, ty78, hP, sk78, hn1]
      refine hK _ _ ?_ rfl; clear hK K
      refine Dwp.reg tab0 rfl fun K hK => ?_
      simp [dcall, tabOf, setAt, h9]
      refine hK _ _ ?_ rfl; clear hK K
      refine ⟨l.length - (i + 1), by omega, i + 1, by omega, rfl, ?_, by simp [upd, h3], by simp [upd, h7], by simp [upd, h8], ?_, by simp <;> omega, ?_⟩
      · rw [List.take_succ_eq_append_getElem hlt, List.nodup_append]
        exact ⟨hnd, by simp, fun a ha b hb e => by simp at hb; subst hb; subst e; exact hm ha⟩
      · simp [upd, wrap_small (n := (i : Int) + 1) (by omega) (by omega)]
      · rw [List.take_succ_eq_append_getElem hlt]; simp [upd]; constructor <;> (rw [List.take_succ_eq_append_getElem (by simpa using hlt)]; simp [Bel.val])
  · refine Dwp.seq (Dwp.condF (by simp [eval, upd, hlt]) (Dwp.exit ?_))
    refine Dwp.step tab0 rfl fun K hK => ?_
    simp [dcall, tabOf, setAt]
    refine hK _ _ (Dwp.ret ?_) rfl
    have : l.take i = l := List.take_of_length_le (by omega)
    rw [this] at hnd
    simp [Done, dresults, dres, frz, frz1, frz2, init, arg1, arg2, arg3, EncR.one, EncR.and, Enc.bool, Enc.int, Enc.str, Enc.strs, Enc.slice, Enc.agg, Enc.tup, Enc.err, Enc.fn, upd, hnd]
theorem e128 : Go.FA.Good Tryz.prog (128, s128) := ⟨c128, Tryz.f128, _, Tryz.func128, rfl, by decide⟩
end Go.Proofs.Yt
namespace Go.Proofs.Yt
open Go Go.FA Go.Proofs
set_option linter.unusedVariables false
set_option linter.unusedSimpArgs false
set_option maxRecDepth 100000

def SigD.within (s : SigD) : Bool := decide (s.sorts.length ≤ 40) && decide (s.below.length ≤ 200) && decide (s.ops.length + s.funs.length ≤ 200)
def s86 : Sp := sp (arg1 Enc.sigd) Enc.bool (fun s => if s.ops.length ≤ lim ∧ s.funs.length ≤ lim then some s.within else none)
attribute [local simp] drunL drunO dwanted dopS own plainOf dop dput eval ofVal Then Ex.then Ex.inBlock upd dbin Tag.isNN nilTest intCmp dload dpart TyI.agg dfieldAddr dfield dindexAddr dindex dlen lenOk dlookup mapOf keyFits dmapUpdate dcallee dbuiltin dstore DV.cells dslice dboundOk dappend appTag rowsOf elemOk growLimit dbuildCells dbuildCells.go structOk fieldsOk dbuildRows goInt
theorem c86 : CallSound Tryz.prog 86 s86 := by
  refine CallSound.of_sp (T := tabOf []) Tryz.func86 rfl (Nat.le_of_ble_eq_true rfl) fun E s y hy => ?_
  split at hy
  case isFalse => cases hy
  next hlim =>
  cases hy
  obtain ⟨hl1, hl2⟩ := hlim
  unfold lim at hl1 hl2
  refine Dwp.step tab0 rfl fun K hK => ?_
  simp [dcall, tabOf, setAt, init, arg1, EncR.one, Enc.sigd, Enc.agg]
  refine hK _ _ ?_ rfl; clear hK K
  refine Dwp.step tab0 rfl fun K hK => ?_
  have hw := wrap_small (n := (s.ops.length : Int) + s.funs.length) (by omega) (by omega)
  by_cases h1 : s.sorts.length ≤ 40
  · have h1' : (s.sorts.length : Int) ≤ 40 := by omega
    by_cases h2 : s.below.length ≤ 200
    · have h2' : (s.below.length : Int) ≤ 200 := by omega
      simp [dcall, tabOf, setAt, ty26, ty22, ty23, ty24, Enc.strs, Enc.bels, Enc.ops, Enc.slice, h1', h2', hw]
      refine hK _ _ (Dwp.ret ?_) rfl
      simp [Done, dresults, dres, frz, frz1, frz2, Enc.bool, upd, SigD.within, h1, h2]
      omega
    · have h2' : ¬ (s.below.length : Int) ≤ 200 := by omega
      simp [dcall, tabOf, setAt, ty26, ty22, ty23, ty24, Enc.strs, Enc.bels, Enc.ops, Enc.slice, h1', h2']
      refine hK _ _ (Dwp.ret ?_) rfl
      simp [Done, dresults, dres, frz, frz1, frz2, Enc.bool, upd, SigD.within, h1, h2]
  · have h1' : ¬ (s.sorts.length : Int) ≤ 40 := by omega
    simp [dcall, tabOf, setAt, ty26, ty22, ty23, ty24, Enc.strs, Enc.bels, Enc.ops, Enc.slice, h1']
    refine hK _ _ (Dwp.ret ?_) rfl
    simp [Done, dresults, dres, frz, frz1, frz2, Enc.bool, upd, SigD.within, h1]
theorem e86 : Go.FA.Good Tryz.prog (86, s86) := ⟨c86, Tryz.f86, _, Tryz.func86, rfl, by decide⟩

/-- differ of declarations that a sort is below another one -/
def okBel (b : Book) (x : Bel) : Bool := b.has x.low && !decide (x.low = anyS) && b.decl x.high
def okBelow (b : Book) (l : List Bel) : Option Bool := if l.length ≤ lim then (if l.all (okBel b) then (if decide l.Nodup then (if b.highs.all fun p => (b.over p.1).isSome then some (!b.circle) else none) else some false) else some false) else none
def s112 : Sp := sp (arg2 Enc.book Enc.bels) Enc.bool (fun x => okBelow x.1 x.2)
def inv112 (b : Book) (l : List Bel) : Nat → (Nat → DV) → St → Prop := fun k a σ => ∃ i, i ≤ l.length ∧ k = l.length - i ∧ (l.take i).all (okBel b) = true ∧
  a 1 = Enc.bels.enc l ∧ a 2 = .row (EncR.book.enc b) 0 ∧ a 7 = .slice 2 .none (l.map EncR.bel.enc) ∧ a 8 = .lit (.int .i64 l.length) ∧ a 9 = .lit (.int .i64 i)
abbrev T112 : Tab := tabOf [(54, s54), (99, s99), (128, s128), (129, s129)]
theorem c112 (e128 : Go.FA.Good Tryz.prog (128, s128)) : CallSound Tryz.prog 112 s112 := by
  have t112 : TabOk Tryz.prog T112 := .cons e54 (.cons e99 (.cons e128 (.cons e129 .nil)))
  refine CallSound.of_sp (T := T112) Tryz.func112 rfl (Nat.le_of_ble_eq_true rfl) fun E x y hy => ?_
  obtain ⟨b, l⟩ := x
  simp only [okBelow] at hy
  split at hy
  case isFalse => cases hy
  next hlim =>
  have hlim' := hlim
  unfold lim at hlim
  refine Dwp.step t112 rfl fun K hK => ?_
  simp [dcall, tabOf, setAt, init, arg2, EncR.and, EncR.one, Enc.book, Enc.agg]
  refine hK _ _ ?_ rfl; clear hK K
  refine Dwp.seq ?_
  refine Dwp.step t112 rfl fun K hK => ?_
  simp [dcall, tabOf, setAt, init, arg2, EncR.and, EncR.one, Enc.bels, Enc.slice, ty23]
  refine hK _ _ ?_ rfl; clear hK K
  refine Dwp.block (Dwp.loop (inv112 b l) l.length ⟨0, by simp, by simp, by simp, by simp [upd, init, Enc.bels, Enc.slice], by simp [upd, init], by simp [upd, init], by simp [upd], by simp [upd]⟩ ?_)
  rintro k a σ ⟨i, hi, rfl, hall, h1, h2, h7, h8, h9⟩
  refine Dwp.step t112 rfl fun K hK => ?_
  simp [dcall, tabOf, setAt, h8, h9]
  refine hK _ _ ?_ rfl; clear hK K
  by_cases hlt : i < l.length
  · refine Dwp.seq (Dwp.condT (by simp [eval, upd, hlt]) (Dwp.skip ?_))
    refine Dwp.seq (Dwp.block ?_)
    refine Dwp.step t112 rfl fun K hK => ?_
    simp [dcall, tabOf, setAt, h7, h9, ty23, ty78, hlt, EncR.bel]
    refine hK _ _ ?_ rfl; clear hK K
    refine Dwp.step t112 rfl fun K hK => ?_
    have g1 := call54 T112 rfl b (.slice 1 .full [[.lit (.string l[i].low)]]) [l[i].low] rfl (by unfold Go.FA.lim; simp)
    simp only [List.all_cons, List.all_nil, Bool.and_true] at g1
    have g2 := call99 T112 rfl b l[i].high
    cases k1 : b.has l[i].low with
    | false =>
      simp [drunL, dwanted, dopS, own, plainOf, dop, dput, eval, ofVal, Then, upd, dfieldAddr, dload, dpart, TyI.agg, ty78, ty58, ty9, ty22, dcallee, dbuildRows, DV.cells, growLimit, h2, g1, k1]
      refine hK _ _ ?_ rfl; clear hK K
      refine Dwp.condT (by simp [eval, upd]) ?_
      refine Dwp.step t112 rfl fun K hK => ?_
      simp [dcall, tabOf, setAt]
      refine hK _ _ (Dwp.ret ?_) rfl
      have hf : okBel b l[i] = false := by simp [okBel, k1]
      have := all_false hlt hf
      simp only [this] at hy; cases hy
      simp [Done, dresults, dres, frz, frz1, frz2, Enc.bool, Ex.then, Ex.inBlock, upd]
    | true =>
    by_cases k2 : l[i].low = anyS
    · have k2' : l[i].low = ⟨#[65, 110, 121]⟩ := k2
      simp [drunL, dwanted, dopS, own, plainOf, dop, dput, eval, ofVal, Then, upd, dfieldAddr, dload, dpart, TyI.agg, ty78, ty58, ty9, ty22, dcallee, dbuildRows, DV.cells, growLimit, dbin, h2, k2'] at g1 k1
      simp [drunL, dwanted, dopS, own, plainOf, dop, dput, eval, ofVal, Then, upd, dfieldAddr, dload, dpart, TyI.agg, ty78, ty58, ty9, ty22, dcallee, dbuildRows, DV.cells, growLimit, dbin, h2, g1, k1, k2']
      refine hK _ _ ?_ rfl; clear hK K
      refine Dwp.condT (by simp [eval, upd]) ?_
      refine Dwp.step t112 rfl fun K hK => ?_
      simp [dcall, tabOf, setAt]
      refine hK _ _ (Dwp.ret ?_) rfl
      have hf : okBel b l[i] = false := by simp [okBel, k2]
      have := all_false hlt hf
      simp only [this] at hy; cases hy
      simp [Done, dresults, dres, frz, frz1, frz2, Enc.bool, Ex.then, Ex.inBlock, upd]
    · have k2' : ¬ l[i].low = ⟨#[65, 110, 121]⟩ := k2
      cases k3 : b.decl l[i].high with
      | false =>
        simp [drunL, dwanted, dopS, own, plainOf, dop, dput, eval, ofVal, Then, upd, dfieldAddr, dload, dpart, TyI.agg, ty78, ty58, ty9, ty22, dcallee, dbuildRows, DV.cells, growLimit, dbin, h2, g1, k1, k2', g2, k3]
        refine hK _ _ ?_ rfl; clear hK K
        refine Dwp.condT (by simp [eval, upd]) ?_
        refine Dwp.step t112 rfl fun K hK => ?_
        simp [dcall, tabOf, setAt]
        refine hK _ _ (Dwp.ret ?_) rfl
        have hf : okBel b l[i] = false := by simp [okBel, k3]
        have := all_false hlt hf
        simp only [this] at hy; cases hy
        simp [Done, dresults, dres, frz, frz1, frz2, Enc.bool, Ex.then, Ex.inBlock, upd]
      | true =>
        simp [drunL, dwanted, dopS, own, plainOf, dop, dput, eval, ofVal, Then, upd, dfieldAddr, dload, dpart, TyI.agg, ty78, ty58, ty9, ty22, dcallee, dbuildRows, DV.cells, growLimit, dbin, h2, g1, k1, k2', g2, k3]
        refine hK _ _ ?_ rfl; clear hK K
        refine Dwp.condF (by simp [eval, upd]) (Dwp.skip ?_)
        refine Dwp.reg t112 rfl fun K hK => ?_
        simp [dcall, tabOf, setAt, h9]
        refine hK _ _ ?_ rfl; clear hK K
        exact ⟨l.length - (i + 1), by omega, i + 1, by omega, rfl, all_take hlt hall (by simp [okBel, k1, k2, k3]), by simp [upd, h1], by simp [upd, h2], by simp [upd, h7], by simp [upd, h8], by simp [upd, wrap_small (n := (i : Int) + 1) (by omega) (by omega)]⟩
  · refine Dwp.seq (Dwp.condF (by simp [eval, upd, hlt]) (Dwp.exit ?_))
    rw [List.take_of_length_le (by omega)] at hall
    simp only [hall, if_true] at hy
    have g3 : dcall T112 128 [Enc.bels.enc l] = some (Enc.bool.enc (decide l.Nodup)) := dcall1 (A := Enc.bels) (B := Enc.bool) rfl (if_pos hlim')
    refine Dwp.step t112 rfl fun K hK => ?_
    by_cases k1 : l.Nodup
    · simp only [k1, decide_true, if_true] at hy
      split at hy
      case isFalse => cases hy
      next hov =>
      cases hy
      have g4 : dcall T112 129 [Enc.book.enc b] = some (Enc.bool.enc b.circle) := dcall1 (A := Enc.book) (B := Enc.bool) rfl (if_pos hov)
      simp only [Enc.bool] at g3 g4
      simp only [Enc.book, Enc.agg] at g4
      simp [drunL, dwanted, dopS, own, plainOf, dop, dput, eval, ofVal, Then, upd, dload, dpart, TyI.agg, ty58, dcallee, h1, h2, g3, g4, k1]
      refine hK _ _ (Dwp.ret ?_) rfl
      simp [Done, dresults, dres, frz, frz1, frz2, Enc.bool, upd]
    · simp only [k1, decide_false, Bool.false_eq_true, if_false] at hy
      cases hy
      simp only [Enc.bool] at g3
      simp [drunL, dwanted, dopS, own, plainOf, dop, dput, eval, ofVal, Then, upd, dload, dpart, TyI.agg, ty58, dcallee, h1, h2, g3, k1]
      refine hK _ _ (Dwp.ret ?_) rfl
      simp [Done, dresults, dres, frz, frz1, frz2, Enc.bool, upd]
end Go.Proofs.Yt
namespace Go.Proofs.Yt
open Go Go.FA Go.Proofs
set_option linter.unusedVariables false
set_option linter.unusedSimpArgs false
set_option maxRecDepth 100000

def SigD.sizes (s : SigD) : Prop := s.sorts.length ≤ 1000000 ∧ s.ops.length + s.funs.length ≤ 1048576 ∧ s.values.length ≤ lim ∧ (∀ o ∈ s.ops, o.small) ∧ (∀ o ∈ s.funs, o.small)
instance (s : SigD) : Decidable s.sizes := by unfold SigD.sizes; infer_instance
def validB (b : Book) (s : SigD) : Option Bool :=
  if s.sizes then (if okSorts s.sorts then (match okBelow b s.below with
    | none => none
    | some false => some false
    | some true => some (decide (opNames s).Nodup && !(s.ops.any (predB (false, b))) && !(s.funs.any (predB (true, b))) && s.values.all b.has && decide s.values.Nodup)) else some false) else none
def s88 : Sp := sp (arg2 Enc.book Enc.sigd) Enc.bool (fun x => validB x.1 x.2)
abbrev T88 : Tab := tabOf [(111, s111), (112, s112), (114, s114), (113, s113), (115, s115), (54, s54)]
theorem c88 (e112 : Go.FA.Good Tryz.prog (112, s112)) : CallSound Tryz.prog 88 s88 := by
  have t88 : TabOk Tryz.prog T88 := .cons e111 (.cons e112 (.cons e114 (.cons e113 (.cons e115 (.cons e54 .nil)))))
  refine CallSound.of_sp (T := T88) Tryz.func88 rfl (Nat.le_of_ble_eq_true rfl) fun E x y hy => ?_
  obtain ⟨b, s⟩ := x
  simp only [validB] at hy
  split at hy
  case isFalse => cases hy
  next hsz =>
  obtain ⟨z1, z2, z3, z4, z5⟩ := hsz
  have zo : s.ops.length ≤ lim := by unfold lim; omega
  have zf : s.funs.length ≤ lim := by unfold lim; omega
  have zn : (opNames s).length ≤ lim := by unfold opNames lim; simp; omega
  have g1 : dcall T88 111 [Enc.strs.enc s.sorts] = some (Enc.bool.enc (okSorts s.sorts)) := dcall1 (A := Enc.strs) (B := Enc.bool) rfl (if_pos z1)
  have g3 : dcall T88 114 [Enc.sigd.enc s] = some (Enc.strs.enc (opNames s)) := dcall1 (A := Enc.sigd) (B := Enc.strs) rfl (if_pos z2)
  have g4 := call113 T88 rfl (opNames s) zn
  have g5 : dcall T88 115 [Enc.ops.enc s.ops, Enc.pred.enc (false, b)] = some (Enc.bool.enc (s.ops.any (predB (false, b)))) := dcall2 (B := Enc.pred) (C := Enc.bool) (y := (false, b)) rfl (if_pos ⟨zo, z4⟩)
  have g6 : dcall T88 115 [Enc.ops.enc s.funs, Enc.pred.enc (true, b)] = some (Enc.bool.enc (s.funs.any (predB (true, b)))) := dcall2 (B := Enc.pred) (C := Enc.bool) (y := (true, b)) rfl (if_pos ⟨zf, z5⟩)
  have g7 := call54 T88 rfl b (Enc.strs.enc s.values) s.values (Enc.strs.de _) z3
  have g8 := call113 T88 rfl s.values z3
  simp only [Enc.bool, Enc.sigd, Enc.agg, Enc.pred, Enc.book, Bool.false_eq_true, if_true, if_false] at g1 g3 g5 g6
  have hTT : T88 112 = some s112 := rfl
  refine Dwp.step t88 rfl fun K hK => ?_
  simp [drunL, drunO, dwanted, dopS, own, plainOf, dop, dput, eval, ofVal, Then, Ex.then, Ex.inBlock, upd, dbin, Tag.isNN, nilTest, intCmp, dload, dpart, TyI.agg, dfieldAddr, dfield, dindexAddr, dindex, dlen, lenOk, dlookup, mapOf, keyFits, dmapUpdate, dcallee, dcall, tabOf, dbuiltin, dstore, DV.cells, setAt, dslice, dboundOk, dappend, appTag, rowsOf, elemOk, growLimit, dbuildCells, dbuildCells.go, structOk, fieldsOk, dbuildRows, goInt, init, arg2, EncR.and, EncR.one, Enc.book, Enc.sigd, Enc.agg]
  refine hK _ _ ?_ rfl; clear hK K
  refine Dwp.step t88 rfl fun K hK => ?_
  generalize T88 = T at *
  repeat (first
    | (refine Then.stepD rfl rfl (fun K1 hK1 => ?_); simp [Then1, Guarded, dopS, dop, eval, ofVal, upd, dfieldAddr, dload, dpart, TyI.agg, ty26, ty58, ty22, ty23, ty24, dcallee, g1]; refine hK1 _ _ ?_; clear hK1 K1)
    | (refine Then.stepG rfl rfl rfl (fun K1 hK1 => ?_); simp [Then1, Guarded, dopS, dop, eval, ofVal, upd, dfieldAddr, dload, dpart, TyI.agg, ty26, ty58, ty22, ty23, ty24, dcallee, g1]; refine hK1 _ _ ?_; clear hK1 K1)
    | (refine Then.stepN rfl rfl (fun K1 hK1 => ?_); simp [Then1, Guarded, dopS, dop, eval, ofVal, upd, dfieldAddr, dload, dpart, TyI.agg, ty26, ty58, ty22, ty23, ty24, dcallee, g1]; refine hK1 _ _ ?_; clear hK1 K1)
    | (refine Then.stepGN rfl rfl rfl (fun K1 hK1 => ?_); simp [Then1, Guarded, dopS, dop, eval, ofVal, upd, dfieldAddr, dload, dpart, TyI.agg, ty26, ty58, ty22, ty23, ty24, dcallee, g1]; refine hK1 _ _ ?_; clear hK1 K1))
  cases k1 : okSorts s.sorts with
  | false =>
    simp only [k1, Bool.false_eq_true, if_false] at hy
    cases hy
    repeat (first
      | (refine Then.stepD rfl rfl (fun K1 hK1 => ?_); simp [Then1, Guarded, dopS, dop, eval, ofVal, upd, dfieldAddr, dload, dpart, TyI.agg, ty26, ty58, ty22, ty23, ty24, dcallee, g1, k1]; refine hK1 _ _ ?_; clear hK1 K1)
      | (refine Then.stepG rfl rfl rfl (fun K1 hK1 => ?_); simp [Then1, Guarded, dopS, dop, eval, ofVal, upd, dfieldAddr, dload, dpart, TyI.agg, ty26, ty58, ty22, ty23, ty24, dcallee, g1, k1]; refine hK1 _ _ ?_; clear hK1 K1)
      | (refine Then.stepN rfl rfl (fun K1 hK1 => ?_); simp [Then1, Guarded, dopS, dop, eval, ofVal, upd, dfieldAddr, dload, dpart, TyI.agg, ty26, ty58, ty22, ty23, ty24, dcallee, g1, k1]; refine hK1 _ _ ?_; clear hK1 K1)
      | (refine Then.stepGN rfl rfl rfl (fun K1 hK1 => ?_); simp [Then1, Guarded, dopS, dop, eval, ofVal, upd, dfieldAddr, dload, dpart, TyI.agg, ty26, ty58, ty22, ty23, ty24, dcallee, g1, k1]; refine hK1 _ _ ?_; clear hK1 K1))
    refine Then.done (hK _ _ (Dwp.ret ?_) rfl)
    simp [Done, dresults, dres, frz, frz1, frz2, Enc.bool, Ex.then, upd]
  | true =>
  simp only [k1, if_true] at hy
  cases k2 : okBelow b s.below with
  | none => rw [k2] at hy; cases hy
  | some r =>
  have g2 : dcall T 112 [Enc.book.enc b, Enc.bels.enc s.below] = some (Enc.bool.enc r) := dcall2 (B := Enc.bels) (C := Enc.bool) (y := s.below) hTT k2
  simp only [Enc.book, Enc.agg, Enc.bool] at g2
  rw [k2] at hy
  repeat (first
    | (refine Then.stepD rfl rfl (fun K1 hK1 => ?_); simp [Then1, Guarded, dopS, dop, eval, ofVal, upd, dfieldAddr, dload, dpart, TyI.agg, ty26, ty58, ty22, ty23, ty24, dcallee, g1, k1, g2]; refine hK1 _ _ ?_; clear hK1 K1)
    | (refine Then.stepG rfl rfl rfl (fun K1 hK1 => ?_); simp [Then1, Guarded, dopS, dop, eval, ofVal, upd, dfieldAddr, dload, dpart, TyI.agg, ty26, ty58, ty22, ty23, ty24, dcallee, g1, k1, g2]; refine hK1 _ _ ?_; clear hK1 K1)
    | (refine Then.stepN rfl rfl (fun K1 hK1 => ?_); simp [Then1, Guarded, dopS, dop, eval, ofVal, upd, dfieldAddr, dload, dpart, TyI.agg, ty26, ty58, ty22, ty23, ty24, dcallee, g1, k1, g2]; refine hK1 _ _ ?_; clear hK1 K1)
    | (refine Then.stepGN rfl rfl rfl (fun K1 hK1 => ?_); simp [Then1, Guarded, dopS, dop, eval, ofVal, upd, dfieldAddr, dload, dpart, TyI.agg, ty26, ty58, ty22, ty23, ty24, dcallee, g1, k1, g2]; refine hK1 _ _ ?_; clear hK1 K1))
  cases r with
  | false =>
    cases hy
    repeat (first
      | (refine Then.stepD rfl rfl (fun K1 hK1 => ?_); simp [Then1, Guarded, dopS, dop, eval, ofVal, upd, dfieldAddr, dload, dpart, TyI.agg, ty26, ty58, ty22, ty23, ty24, dcallee, g1, k1, g2]; refine hK1 _ _ ?_; clear hK1 K1)
      | (refine Then.stepG rfl rfl rfl (fun K1 hK1 => ?_); simp [Then1, Guarded, dopS, dop, eval, ofVal, upd, dfieldAddr, dload, dpart, TyI.agg, ty26, ty58, ty22, ty23, ty24, dcallee, g1, k1, g2]; refine hK1 _ _ ?_; clear hK1 K1)
      | (refine Then.stepN rfl rfl (fun K1 hK1 => ?_); simp [Then1, Guarded, dopS, dop, eval, ofVal, upd, dfieldAddr, dload, dpart, TyI.agg, ty26, ty58, ty22, ty23, ty24, dcallee, g1, k1, g2]; refine hK1 _ _ ?_; clear hK1 K1)
      | (refine Then.stepGN rfl rfl rfl (fun K1 hK1 => ?_); simp [Then1, Guarded, dopS, dop, eval, ofVal, upd, dfieldAddr, dload, dpart, TyI.agg, ty26, ty58, ty22, ty23, ty24, dcallee, g1, k1, g2]; refine hK1 _ _ ?_; clear hK1 K1))
    refine Then.done (hK _ _ (Dwp.ret ?_) rfl)
    simp [Done, dresults, dres, frz, frz1, frz2, Enc.bool, Ex.then, upd]
  | true =>
  simp only [Option.some.injEq] at hy
  subst hy
  generalize decide (opNames s).Nodup = q3 at *
  generalize s.ops.any (predB (false, b)) = q4 at *
  generalize s.funs.any (predB (true, b)) = q5 at *
  generalize s.values.all b.has = q6 at *
  generalize decide s.values.Nodup = q7 at *
  repeat (first
    | (refine Then.stepD rfl rfl (fun K1 hK1 => ?_); simp [Then1, Guarded, dopS, dop, eval, ofVal, upd, dfieldAddr, dload, dpart, TyI.agg, ty26, ty58, ty22, ty23, ty24, dcallee, g1, k1, g2, g3, g4]; refine hK1 _ _ ?_; clear hK1 K1)
    | (refine Then.stepG rfl rfl rfl (fun K1 hK1 => ?_); simp [Then1, Guarded, dopS, dop, eval, ofVal, upd, dfieldAddr, dload, dpart, TyI.agg, ty26, ty58, ty22, ty23, ty24, dcallee, g1, k1, g2, g3, g4]; refine hK1 _ _ ?_; clear hK1 K1)
    | (refine Then.stepN rfl rfl (fun K1 hK1 => ?_); simp [Then1, Guarded, dopS, dop, eval, ofVal, upd, dfieldAddr, dload, dpart, TyI.agg, ty26, ty58, ty22, ty23, ty24, dcallee, g1, k1, g2, g3, g4]; refine hK1 _ _ ?_; clear hK1 K1)
    | (refine Then.stepGN rfl rfl rfl (fun K1 hK1 => ?_); simp [Then1, Guarded, dopS, dop, eval, ofVal, upd, dfieldAddr, dload, dpart, TyI.agg, ty26, ty58, ty22, ty23, ty24, dcallee, g1, k1, g2, g3, g4]; refine hK1 _ _ ?_; clear hK1 K1))
  cases q3 with
  | false =>
    repeat (first
      | (refine Then.stepD rfl rfl (fun K1 hK1 => ?_); simp [Then1, Guarded, dopS, dop, eval, ofVal, upd, dfieldAddr, dload, dpart, TyI.agg, ty26, ty58, ty22, ty23, ty24, dcallee, g1, k1, g2, g3, g4]; refine hK1 _ _ ?_; clear hK1 K1)
      | (refine Then.stepG rfl rfl rfl (fun K1 hK1 => ?_); simp [Then1, Guarded, dopS, dop, eval, ofVal, upd, dfieldAddr, dload, dpart, TyI.agg, ty26, ty58, ty22, ty23, ty24, dcallee, g1, k1, g2, g3, g4]; refine hK1 _ _ ?_; clear hK1 K1)
      | (refine Then.stepN rfl rfl (fun K1 hK1 => ?_); simp [Then1, Guarded, dopS, dop, eval, ofVal, upd, dfieldAddr, dload, dpart, TyI.agg, ty26, ty58, ty22, ty23, ty24, dcallee, g1, k1, g2, g3, g4]; refine hK1 _ _ ?_; clear hK1 K1)
      | (refine Then.stepGN rfl rfl rfl (fun K1 hK1 => ?_); simp [Then1, Guarded, dopS, dop, eval, ofVal, upd, dfieldAddr, dload, dpart, TyI.agg, ty26, ty58, ty22, ty23, ty24, dcallee, g1, k1, g2, g3, g4]; refine hK1 _ _ ?_; clear hK1 K1))
    refine Then.done (hK _ _ (Dwp.ret ?_) rfl)
    simp [Done, dresults, dres, frz, frz1, frz2, Enc.bool, Ex.then, upd]
  | true =>
  repeat (first
    | (refine Then.stepD rfl rfl (fun K1 hK1 => ?_); simp [Then1, Guarded, dopS, dop, eval, ofVal, upd, dfieldAddr, dload, dpart, TyI.agg, ty26, ty58, ty22, ty23, ty24, dcallee, g1, k1, g2, g3, g4, g5]; refine hK1 _ _ ?_; clear hK1 K1)
    | (refine Then.stepG rfl rfl rfl (fun K1 hK1 => ?_); simp [Then1, Guarded, dopS, dop, eval, ofVal, upd, dfieldAddr, dload, dpart, TyI.agg, ty26, ty58, ty22, ty23, ty24, dcallee, g1, k1, g2, g3, g4, g5]; refine hK1 _ _ ?_; clear hK1 K1)
    | (refine Then.stepN rfl rfl (fun K1 hK1 => ?_); simp [Then1, Guarded, dopS, dop, eval, ofVal, upd, dfieldAddr, dload, dpart, TyI.agg, ty26, ty58, ty22, ty23, ty24, dcallee, g1, k1, g2, g3, g4, g5]; refine hK1 _ _ ?_; clear hK1 K1)
    | (refine Then.stepGN rfl rfl rfl (fun K1 hK1 => ?_); simp [Then1, Guarded, dopS, dop, eval, ofVal, upd, dfieldAddr, dload, dpart, TyI.agg, ty26, ty58, ty22, ty23, ty24, dcallee, g1, k1, g2, g3, g4, g5]; refine hK1 _ _ ?_; clear hK1 K1))
  cases q4 with
  | true =>
    repeat (first
      | (refine Then.stepD rfl rfl (fun K1 hK1 => ?_); simp [Then1, Guarded, dopS, dop, eval, ofVal, upd, dfieldAddr, dload, dpart, TyI.agg, ty26, ty58, ty22, ty23, ty24, dcallee, g1, k1, g2, g3, g4, g5]; refine hK1 _ _ ?_; clear hK1 K1)
      | (refine Then.stepG rfl rfl rfl (fun K1 hK1 => ?_); simp [Then1, Guarded, dopS, dop, eval, ofVal, upd, dfieldAddr, dload, dpart, TyI.agg, ty26, ty58, ty22, ty23, ty24, dcallee, g1, k1, g2, g3, g4, g5]; refine hK1 _ _ ?_; clear hK1 K1)
      | (refine Then.stepN rfl rfl (fun K1 hK1 => ?_); simp [Then1, Guarded, dopS, dop, eval, ofVal, upd, dfieldAddr, dload, dpart, TyI.agg, ty26, ty58, ty22, ty23, ty24, dcallee, g1, k1, g2, g3, g4, g5]; refine hK1 _ _ ?_; clear hK1 K1)
      | (refine Then.stepGN rfl rfl rfl (fun K1 hK1 => ?_); simp [Then1, Guarded, dopS, dop, eval, ofVal, upd, dfieldAddr, dload, dpart, TyI.agg, ty26, ty58, ty22, ty23, ty24, dcallee, g1, k1, g2, g3, g4, g5]; refine hK1 _ _ ?_; clear hK1 K1))
    refine Then.done (hK _ _ (Dwp.ret ?_) rfl)
    simp [Done, dresults, dres, frz, frz1, frz2, Enc.bool, Ex.then, upd]
  | false =>
  repeat (first
    | (refine Then.stepD rfl rfl (fun K1 hK1 => ?_); simp [Then1, Guarded, dopS, dop, eval, ofVal, upd, dfieldAddr, dload, dpart, TyI.agg, ty26, ty58, ty22, ty23, ty24, dcallee, g1, k1, g2, g3, g4, g5, g6]; refine hK1 _ _ ?_; clear hK1 K1)
    | (refine Then.stepG rfl rfl rfl (fun K1 hK1 => ?_); simp [Then1, Guarded, dopS, dop, eval, ofVal, upd, dfieldAddr, dload, dpart, TyI.agg, ty26, ty58, ty22, ty23, ty24, dcallee, g1, k1, g2, g3, g4, g5, g6]; refine hK1 _ _ ?_; clear hK1 K1)
    | (refine Then.stepN rfl rfl (fun K1 hK1 => ?_); simp [Then1, Guarded, dopS, dop, eval, ofVal, upd, dfieldAddr, dload, dpart, TyI.agg, ty26, ty58, ty22, ty23, ty24, dcallee, g1, k1, g2, g3, g4, g5, g6]; refine hK1 _ _ ?_; clear hK1 K1)
    | (refine Then.stepGN rfl rfl rfl (fun K1 hK1 => ?_); simp [Then1, Guarded, dopS, dop, eval, ofVal, upd, dfieldAddr, dload, dpart, TyI.agg, ty26, ty58, ty22, ty23, ty24, dcallee, g1, k1, g2, g3, g4, g5, g6]; refine hK1 _ _ ?_; clear hK1 K1))
  cases q5 with
  | true =>
    repeat (first
      | (refine Then.stepD rfl rfl (fun K1 hK1 => ?_); simp [Then1, Guarded, dopS, dop, eval, ofVal, upd, dfieldAddr, dload, dpart, TyI.agg, ty26, ty58, ty22, ty23, ty24, dcallee, g1, k1, g2, g3, g4, g5, g6]; refine hK1 _ _ ?_; clear hK1 K1)
      | (refine Then.stepG rfl rfl rfl (fun K1 hK1 => ?_); simp [Then1, Guarded, dopS, dop, eval, ofVal, upd, dfieldAddr, dload, dpart, TyI.agg, ty26, ty58, ty22, ty23, ty24, dcallee, g1, k1, g2, g3, g4, g5, g6]; refine hK1 _ _ ?_; clear hK1 K1)
      | (refine Then.stepN rfl rfl (fun K1 hK1 => ?_); simp [Then1, Guarded, dopS, dop, eval, ofVal, upd, dfieldAddr, dload, dpart, TyI.agg, ty26, ty58, ty22, ty23, ty24, dcallee, g1, k1, g2, g3, g4, g5, g6]; refine hK1 _ _ ?_; clear hK1 K1)
      | (refine Then.stepGN rfl rfl rfl (fun K1 hK1 => ?_); simp [Then1, Guarded, dopS, dop, eval, ofVal, upd, dfieldAddr, dload, dpart, TyI.agg, ty26, ty58, ty22, ty23, ty24, dcallee, g1, k1, g2, g3, g4, g5, g6]; refine hK1 _ _ ?_; clear hK1 K1))
    refine Then.done (hK _ _ (Dwp.ret ?_) rfl)
    simp [Done, dresults, dres, frz, frz1, frz2, Enc.bool, Ex.then, upd]
  | false =>
  repeat (first
    | (refine Then.stepD rfl rfl (fun K1 hK1 => ?_); simp [Then1, Guarded, dopS, dop, eval, ofVal, upd, dfieldAddr, dload, dpart, TyI.agg, ty26, ty58, ty22, ty23, ty24, dcallee, g1, k1, g2, g3, g4, g5, g6, g7]; refine hK1 _ _ ?_; clear hK1 K1)
    | (refine Then.stepG rfl rfl rfl (fun K1 hK1 => ?_); simp [Then1, Guarded, dopS, dop, eval, ofVal, upd, dfieldAddr, dload, dpart, TyI.agg, ty26, ty58, ty22, ty23, ty24, dcallee, g1, k1, g2, g3, g4, g5, g6, g7]; refine hK1 _ _ ?_; clear hK1 K1)
    | (refine Then.stepN rfl rfl (fun K1 hK1 => ?_); simp [Then1, Guarded, dopS, dop, eval, ofVal, upd, dfieldAddr, dload, dpart, TyI.agg, ty26, ty58, ty22, ty23, ty24, dcallee, g1, k1, g2, g3, g4, g5, g6, g7]; refine hK1 _ _ ?_; clear hK1 K1)
    | (refine Then.stepGN rfl rfl rfl (fun K1 hK1 => ?_); simp [Then1, Guarded, dopS, dop, eval, ofVal, upd, dfieldAddr, dload, dpart, TyI.agg, ty26, ty58, ty22, ty23, ty24, dcallee, g1, k1, g2, g3, g4, g5, g6, g7]; refine hK1 _ _ ?_; clear hK1 K1))
  cases q6 with
  | false =>
    repeat (first
      | (refine Then.stepD rfl rfl (fun K1 hK1 => ?_); simp [Then1, Guarded, dopS, dop, eval, ofVal, upd, dfieldAddr, dload, dpart, TyI.agg, ty26, ty58, ty22, ty23, ty24, dcallee, g1, k1, g2, g3, g4, g5, g6, g7]; refine hK1 _ _ ?_; clear hK1 K1)
      | (refine Then.stepG rfl rfl rfl (fun K1 hK1 => ?_); simp [Then1, Guarded, dopS, dop, eval, ofVal, upd, dfieldAddr, dload, dpart, TyI.agg, ty26, ty58, ty22, ty23, ty24, dcallee, g1, k1, g2, g3, g4, g5, g6, g7]; refine hK1 _ _ ?_; clear hK1 K1)
      | (refine Then.stepN rfl rfl (fun K1 hK1 => ?_); simp [Then1, Guarded, dopS, dop, eval, ofVal, upd, dfieldAddr, dload, dpart, TyI.agg, ty26, ty58, ty22, ty23, ty24, dcallee, g1, k1, g2, g3, g4, g5, g6, g7]; refine hK1 _ _ ?_; clear hK1 K1)
      | (refine Then.stepGN rfl rfl rfl (fun K1 hK1 => ?_); simp [Then1, Guarded, dopS, dop, eval, ofVal, upd, dfieldAddr, dload, dpart, TyI.agg, ty26, ty58, ty22, ty23, ty24, dcallee, g1, k1, g2, g3, g4, g5, g6, g7]; refine hK1 _ _ ?_; clear hK1 K1))
    refine Then.done (hK _ _ (Dwp.ret ?_) rfl)
    simp [Done, dresults, dres, frz, frz1, frz2, Enc.bool, Ex.then, upd]
  | true =>
  repeat (first
    | (refine Then.stepD rfl rfl (fun K1 hK1 => ?_); simp [Then1, Guarded, dopS, dop, eval, ofVal, upd, dfieldAddr, dload, dpart, TyI.agg, ty26, ty58, ty22, ty23, ty24, dcallee, g1, k1, g2, g3, g4, g5, g6, g7, g8]; refine hK1 _ _ ?_; clear hK1 K1)
    | (refine Then.stepG rfl rfl rfl (fun K1 hK1 => ?_); simp [Then1, Guarded, dopS, dop, eval, ofVal, upd, dfieldAddr, dload, dpart, TyI.agg, ty26, ty58, ty22, ty23, ty24, dcallee, g1, k1, g2, g3, g4, g5, g6, g7, g8]; refine hK1 _ _ ?_; clear hK1 K1)
    | (refine Then.stepN rfl rfl (fun K1 hK1 => ?_); simp [Then1, Guarded, dopS, dop, eval, ofVal, upd, dfieldAddr, dload, dpart, TyI.agg, ty26, ty58, ty22, ty23, ty24, dcallee, g1, k1, g2, g3, g4, g5, g6, g7, g8]; refine hK1 _ _ ?_; clear hK1 K1)
    | (refine Then.stepGN rfl rfl rfl (fun K1 hK1 => ?_); simp [Then1, Guarded, dopS, dop, eval, ofVal, upd, dfieldAddr, dload, dpart, TyI.agg, ty26, ty58, ty22, ty23, ty24, dcallee, g1, k1, g2, g3, g4, g5, g6, g7, g8]; refine hK1 _ _ ?_; clear hK1 K1))
  refine Then.done (hK _ _ (Dwp.ret ?_) rfl)
  simp [Done, dresults, dres, frz, frz1, frz2, Enc.bool, Ex.then, upd]
end Go.Proofs.Yt
namespace Go.Proofs.Yt
open Go Go.FA Go.Proofs
set_option linter.unusedVariables false
set_option linter.unusedSimpArgs false
set_option maxRecDepth 100000

/-- an entry of a map set -/
def mput {α : Type} (k : ByteArray) (v : α) : List (ByteArray × α) → List (ByteArray × α)
  | [] => [(k, v)]
  | p :: l => if k = p.1 then (k, v) :: l else p :: mput k v l
theorem putKey_enc {α : Type} (A : Enc α) (k : ByteArray) (v : α) : ∀ l : List (ByteArray × α),
    putKey (.string k) (A.enc v) (l.map fun p => .string p.1) (l.map fun p => A.enc p.2) = some ((mput k v l).map (fun p => .string p.1), (mput k v l).map fun p => A.enc p.2)
  | [] => rfl
  | p :: l => by
    simp only [List.map_cons, putKey, eqKey, mput]
    by_cases h : k = p.1
    · simp [h]
    · simp [h, putKey_enc A k v l]
theorem setOpd (o : OpD) : setAt [.lit (.string ⟨#[]⟩), .lit (.slice none 0 0), .lit (.string ⟨#[]⟩), .lit (.slice none 0 0), .lit (.int .i64 0), .lit (.int .i64 0), .lit (.slice none 0 0)] 0 (EncR.opd.enc o) = EncR.opd.enc o := rfl
def byName (l : List OpD) : List (ByteArray × OpD) := l.foldl (fun m o => mput o.name o m) []
theorem byName_take {l : List OpD} {i : Nat} (h : i < l.length) : byName (l.take (i + 1)) = mput l[i].name l[i] (byName (l.take i)) := by
  unfold byName
  rw [List.take_succ_eq_append_getElem h, List.foldl_append]; rfl
def s108 : Sp := sp (arg1 Enc.ops) (Enc.map Enc.opd) (fun l => if l.length ≤ lim then some (byName l) else none)
def inv108 (l : List OpD) : Nat → (Nat → DV) → St → Prop := fun k a σ => ∃ i, i ≤ l.length ∧ k = l.length - i ∧ a 3 = .map 1 ∧
  σ.objs 1 = some (.map ((byName (l.take i)).map fun p => .string p.1) ((byName (l.take i)).map fun p => .agg (EncR.opd.enc p.2))) ∧
  a 7 = .slice 7 .none (l.map EncR.opd.enc) ∧ a 8 = .lit (.int .i64 l.length) ∧ a 9 = .lit (.int .i64 i) ∧ 1 < σ.n
attribute [local simp] drunL drunO dwanted dopS own plainOf dop dput eval ofVal Then Ex.then Ex.inBlock upd dbin Tag.isNN nilTest intCmp dload dpart TyI.agg dfieldAddr dfield dindexAddr dindex dlen lenOk dlookup mapOf keyFits dmapUpdate dcallee dbuiltin dstore DV.cells dslice dboundOk dappend appTag rowsOf elemOk growLimit dbuildCells dbuildCells.go structOk fieldsOk dbuildRows goInt
theorem c108 : CallSound Tryz.prog 108 s108 := by
  refine CallSound.of_sp (T := tabOf []) Tryz.func108 rfl (Nat.le_of_ble_eq_true rfl) fun E l y hy => ?_
  by_cases hlim : l.length ≤ lim <;> simp [hlim] at hy
  subst hy
  unfold lim at hlim
  refine Dwp.step tab0 rfl fun K hK => ?_
  simp [dcall, tabOf, setAt]
  refine hK _ _ ?_ rfl; clear hK K
  refine Dwp.step tab0 rfl fun K hK => ?_
  simp [dcall, tabOf, setAt]
  refine hK _ _ ?_ rfl; clear hK K
  refine Dwp.seq ?_
  refine Dwp.step tab0 rfl fun K hK => ?_
  simp [dcall, tabOf, setAt, init, arg1, EncR.one, Enc.ops, Enc.slice, ty24]
  refine hK _ _ ?_ rfl; clear hK K
  refine Dwp.block (Dwp.loop (inv108 l) l.length ⟨0, by simp, by simp, by simp [upd, σ0], by simp [upd, σ0, byName], by simp [upd], by simp [upd], by simp [upd], by simp [σ0]⟩ ?_)
  rintro k a σ ⟨i, hi, rfl, h3, hobj, h7, h8, h9, hn⟩
  refine Dwp.step tab0 rfl fun K hK => ?_
  simp [dcall, tabOf, setAt, h8, h9]
  refine hK _ _ ?_ rfl; clear hK K
  by_cases hlt : i < l.length
  · refine Dwp.seq (Dwp.condT (by simp [eval, upd, hlt]) (Dwp.skip ?_))
    refine Dwp.seq (Dwp.block ?_)
    have hne : (1 : Nat) ≠ σ.n + 1 + 2 := by omega
    refine Dwp.step tab0 rfl fun K hK => ?_
    simp [dcall, tabOf, setAt, h7, h9, ty24, ty38, hlt, setOpd]
    refine hK _ _ ?_ rfl; clear hK K
    refine Dwp.reg tab0 rfl fun K hK => ?_
    have hP := putKey_enc Enc.opd l[i].name l[i] (byName (l.take i))
    simp only [Enc.opd, Enc.agg] at hP
    simp [dcall, tabOf, setAt, h3, hobj, hne, ty38, ty9, ty56, hP]
    refine hK _ _ ?_ rfl; clear hK K
    refine Dwp.reg tab0 rfl fun K hK => ?_
    simp [dcall, tabOf, setAt, h9]
    refine hK _ _ ?_ rfl; clear hK K
    have hbt := byName_take hlt
    exact ⟨l.length - (i + 1), by omega, i + 1, by omega, rfl, by simp [upd, h3], by simp [upd, hbt], by simp [upd, h7], by simp [upd, h8], by simp [upd, wrap_small (n := (i : Int) + 1) (by omega) (by omega)], by simp <;> omega⟩
  · refine Dwp.seq (Dwp.condF (by simp [eval, upd, hlt]) (Dwp.exit ?_))
    rw [List.take_of_length_le (by omega)] at hobj
    refine Dwp.step tab0 rfl fun K hK => ?_
    simp [dcall, tabOf, setAt, h3]
    refine hK _ _ (Dwp.ret ?_) rfl
    have hd := decMap_enc Enc.opd (byName l)
    simp [Done, dresults, dres, frz, frz1, frz2, upd, hobj, Enc.map]
    exact hd
theorem e108 : Go.FA.Good Tryz.prog (108, s108) := ⟨c108, Tryz.f108, _, Tryz.func108, rfl, by decide⟩
end Go.Proofs.Yt
namespace Go.Proofs.Yt
open Go Go.FA Go.Proofs
set_option linter.unusedVariables false
set_option linter.unusedSimpArgs false
set_option maxRecDepth 100000

def addBel (m : List (ByteArray × List ByteArray)) (x : Bel) : List (ByteArray × List ByteArray) := match mget x.low m with | some l => mput x.low (l ++ [x.high]) m | none => m
def newBook (s : SigD) : Book := ⟨s.below.foldl addBel ((given ++ s.sorts).foldl (fun m n => mput n [] m) []), byName s.ops, byName s.funs⟩
def s87 : Sp := sp (arg1 Enc.sigd) Enc.book (fun s => if s.within then some (newBook s) else none)

def noBook : DV := .agg [.lit (.map none), .lit (.map none), .lit (.map none)]
/-- a book, or the empty one, and an error's number -/
def Enc.opened : Enc (Option Book × Int) where
  enc x := .tuple [(match x.1 with | some b => Enc.book.enc b | none => noBook), .lit (.int .i64 x.2)]
  dec d := match d with
    | .tuple [x, .lit (.int .i64 e)] => match x with
      | .agg [.lit (.map none), .lit (.map none), .lit (.map none)] => some (none, e)
      | x => (Enc.book.dec x).map fun b => (some b, e)
    | _ => none
  le d x h := by
    split at h
    · intro C w v hv
      simp only [VRel] at hv ⊢
      obtain ⟨ys, h1, h2⟩ := hv
      split at h
      · simp at h; subst h; exact ⟨ys, h1, h2⟩
      · obtain ⟨b, hb, rfl⟩ := Option.map_eq_some_iff.1 h
        exact ⟨ys, h1, LRel_le (.cons (Enc.book.le _ _ hb) (.cons (DLe.refl _) .nil)) h2⟩
    · simp at h
  pure x := by
    obtain ⟨o, e⟩ := x
    cases o <;> simp [pureB, pureL, noBook, Enc.book.pure]
  de x := by
    obtain ⟨o, e⟩ := x
    cases o with
    | none => rfl
    | some b => simp [Enc.book, Enc.agg, EncR.book, Enc.map]; exact EncR.book.de b
def openF (s : SigD) (names : List ByteArray) : Option (Option Book × Int) :=
  if s.ops.length ≤ lim ∧ s.funs.length ≤ lim ∧ names.length ≤ lim then
    (if s.within then (match validB (newBook s) s with
      | none => none
      | some false => some (none, 2)
      | some true => if names.all (newBook s).has then some (some (newBook s), 0) else some (none, 13)) else some (none, 2)) else none
def s44 : Sp := sp (arg2 Enc.sigd Enc.strs) Enc.opened (fun x => openF x.1 x.2)
abbrev T44 : Tab := tabOf [(86, s86), (87, s87), (88, s88), (54, s54)]
theorem frzBook (σ : St) (b : Book) : (EncR.book.enc b).map (frz1 σ) = EncR.book.enc b := rfl
theorem setBook (b : Book) : setAt [.lit (.map none), .lit (.map none), .lit (.map none)] 0 (EncR.book.enc b) = EncR.book.enc b := rfl
attribute [local simp] drunL drunO dwanted dopS own plainOf dop dput eval ofVal Then Ex.then Ex.inBlock upd dbin Tag.isNN nilTest intCmp dload dpart TyI.agg dfieldAddr dfield dindexAddr dindex dlen lenOk dlookup mapOf keyFits dmapUpdate dcallee dbuiltin dstore DV.cells dslice dboundOk dappend appTag rowsOf elemOk growLimit dbuildCells dbuildCells.go structOk fieldsOk dbuildRows goInt
theorem c44 (e87 : Go.FA.Good Tryz.prog (87, s87)) (e88 : Go.FA.Good Tryz.prog (88, s88)) : CallSound Tryz.prog 44 s44 := by
  have t44 : TabOk Tryz.prog T44 := .cons e86 (.cons e87 (.cons e88 (.cons e54 .nil)))
  refine CallSound.of_sp (T := T44) Tryz.func44 rfl (Nat.le_of_ble_eq_true rfl) fun E x y hy => ?_
  obtain ⟨s, names⟩ := x
  simp only [openF] at hy
  split at hy
  case isFalse => cases hy
  next hsz =>
  obtain ⟨z1, z2, z3⟩ := hsz
  have g1 : dcall T44 86 [Enc.sigd.enc s] = some (Enc.bool.enc s.within) := dcall1 (A := Enc.sigd) (B := Enc.bool) rfl (if_pos ⟨z1, z2⟩)
  simp only [Enc.bool, Enc.sigd, Enc.agg] at g1
  refine Dwp.step t44 rfl fun K hK => ?_
  simp [dcall, tabOf, setAt, init, arg2, EncR.and, EncR.one, Enc.sigd, Enc.agg, ty58]
  refine hK _ _ ?_ rfl; clear hK K
  refine Dwp.seq ?_
  refine Dwp.step t44 rfl fun K hK => ?_
  cases k1 : s.within with
  | false =>
    simp only [k1, Bool.false_eq_true, if_false] at hy
    cases hy
    repeat (first
      | (refine Then.stepD rfl rfl (fun K1 hK1 => ?_); simp [Then1, Guarded, dload, dpart, TyI.agg, ty26, dcallee, g1, k1]; refine hK1 _ _ ?_; clear hK1 K1)
      | (refine Then.stepG rfl rfl rfl (fun K1 hK1 => ?_); simp [Then1, Guarded, dload, dpart, TyI.agg, ty26, dcallee, g1, k1]; refine hK1 _ _ ?_; clear hK1 K1)
      | (refine Then.stepN rfl rfl (fun K1 hK1 => ?_); simp [Then1, Guarded, dload, dpart, TyI.agg, ty26, dcallee, g1, k1]; refine hK1 _ _ ?_; clear hK1 K1)
      | (refine Then.stepGN rfl rfl rfl (fun K1 hK1 => ?_); simp [Then1, Guarded, dload, dpart, TyI.agg, ty26, dcallee, g1, k1]; refine hK1 _ _ ?_; clear hK1 K1))
    refine Then.done ?_
    refine hK _ _ ?_ rfl; clear hK K
    refine Dwp.condT (by simp [eval, upd]) ?_
    refine Dwp.step t44 rfl fun K hK => ?_
    simp [dcall, tabOf, setAt, ty58, ty55, ty56]
    refine hK _ _ (Dwp.ret ?_) rfl
    simp [Done, dresults, dres, frz, frz1, frz2, Ex.then, upd, dload, dpart, TyI.agg, ty58, Enc.opened]
  | true =>
  simp only [k1, if_true] at hy
  repeat (first
    | (refine Then.stepD rfl rfl (fun K1 hK1 => ?_); simp [Then1, Guarded, dload, dpart, TyI.agg, ty26, dcallee, g1, k1]; refine hK1 _ _ ?_; clear hK1 K1)
    | (refine Then.stepG rfl rfl rfl (fun K1 hK1 => ?_); simp [Then1, Guarded, dload, dpart, TyI.agg, ty26, dcallee, g1, k1]; refine hK1 _ _ ?_; clear hK1 K1)
    | (refine Then.stepN rfl rfl (fun K1 hK1 => ?_); simp [Then1, Guarded, dload, dpart, TyI.agg, ty26, dcallee, g1, k1]; refine hK1 _ _ ?_; clear hK1 K1)
    | (refine Then.stepGN rfl rfl rfl (fun K1 hK1 => ?_); simp [Then1, Guarded, dload, dpart, TyI.agg, ty26, dcallee, g1, k1]; refine hK1 _ _ ?_; clear hK1 K1))
  refine Then.done ?_
  refine hK _ _ ?_ rfl; clear hK K
  refine Dwp.condF (by simp [eval, upd]) (Dwp.skip ?_)
  have g2 : dcall T44 87 [Enc.sigd.enc s] = some (Enc.book.enc (newBook s)) := dcall1 (A := Enc.sigd) (B := Enc.book) rfl (if_pos k1)
  simp only [Enc.book, Enc.sigd, Enc.agg] at g2
  have h88 : T44 88 = some s88 := rfl
  have h54 : T44 54 = some s54 := rfl
  generalize newBook s = b at *
  refine Dwp.step t44 rfl fun K hK => ?_
  simp [drunL, dwanted, dopS, own, dop, dput, eval, ofVal, Then, upd, dload, dpart, TyI.agg, ty26, ty58, dcallee, g2, DV.cells, dstore, setBook]
  refine hK _ _ ?_ rfl; clear hK K
  refine Dwp.seq ?_
  cases k2 : validB b s with
  | none => rw [k2] at hy; cases hy
  | some r =>
  rw [k2] at hy
  have g3 : dcall T44 88 [Enc.book.enc b, Enc.sigd.enc s] = some (Enc.bool.enc r) := dcall2 (B := Enc.sigd) (C := Enc.bool) (y := s) h88 k2
  simp only [Enc.book, Enc.sigd, Enc.agg, Enc.bool] at g3
  refine Dwp.step t44 rfl fun K hK => ?_
  cases r with
  | false =>
    cases hy
    simp [drunL, dwanted, dopS, own, dop, dput, eval, ofVal, Then, upd, dload, dpart, TyI.agg, ty26, ty58, dcallee, g3]
    refine hK _ _ ?_ rfl; clear hK K
    refine Dwp.condT (by simp [eval, upd]) ?_
    refine Dwp.step t44 rfl fun K hK => ?_
    simp [dcall, tabOf, setAt, ty58, ty55, ty56]
    refine hK _ _ (Dwp.ret ?_) rfl
    simp [Done, dresults, dres, frz, frz1, frz2, Ex.then, upd, dload, dpart, TyI.agg, ty58, Enc.opened]
  | true =>
    simp [drunL, dwanted, dopS, own, dop, dput, eval, ofVal, Then, upd, dload, dpart, TyI.agg, ty26, ty58, dcallee, g3]
    refine hK _ _ ?_ rfl; clear hK K
    refine Dwp.condF (by simp [eval, upd]) (Dwp.skip ?_)
    refine Dwp.seq ?_
    have g4 := call54 T44 h54 b (Enc.strs.enc names) names (Enc.strs.de _) z3
    refine Dwp.step t44 rfl fun K hK => ?_
    cases k3 : names.all b.has with
    | false =>
      simp only [k3, Bool.false_eq_true, if_false] at hy
      cases hy
      rw [k3] at g4
      simp [drunL, dwanted, dopS, own, dop, dput, eval, ofVal, Then, upd, init, arg2, EncR.and, EncR.one, dload, dpart, TyI.agg, ty26, ty58, dcallee, g4]
      refine hK _ _ ?_ rfl; clear hK K
      refine Dwp.condT (by simp [eval, upd]) ?_
      refine Dwp.step t44 rfl fun K hK => ?_
      simp [dcall, tabOf, setAt, ty58, ty55, ty56]
      refine hK _ _ (Dwp.ret ?_) rfl
      simp [Done, dresults, dres, frz, frz1, frz2, Ex.then, upd, dload, dpart, TyI.agg, ty58, Enc.opened]
    | true =>
      simp only [k3, if_true] at hy
      cases hy
      rw [k3] at g4
      simp [drunL, dwanted, dopS, own, dop, dput, eval, ofVal, Then, upd, init, arg2, EncR.and, EncR.one, dload, dpart, TyI.agg, ty26, ty58, dcallee, g4]
      refine hK _ _ ?_ rfl; clear hK K
      refine Dwp.condF (by simp [eval, upd]) (Dwp.skip ?_)
      refine Dwp.step t44 rfl fun K hK => ?_
      simp [drunL, dwanted, dopS, own, dop, dput, eval, ofVal, Then, upd, dload, dpart, TyI.agg, ty58, DV.cells, dstore, setBook]
      refine hK _ _ (Dwp.ret ?_) rfl
      have := Enc.opened.de (some b, 0)
      simp [Done, dresults, dres, frz, frz1, frz2, upd, dload, dpart, TyI.agg, ty58, frzBook]
      exact this
end Go.Proofs.Yt
namespace Go.Proofs.Yt
open Go Go.FA Go.Proofs
set_option linter.unusedVariables false
set_option linter.unusedSimpArgs false
set_option maxRecDepth 100000

theorem call44 (T : Tab) (hT : T 44 = some s44) (s : SigD) (d : DV) (names : List ByteArray) (r : Option Book × Int) (hd : Enc.strs.dec d = some names) (hr : openF s names = some r) : dcall T 44 [.agg (EncR.sigd.enc s), d] = some (Enc.opened.enc r) := by
  simp [dcall, hT, s44, sp, arg2, EncR.and, EncR.one, Enc.sigd, Enc.agg, EncR.sigd.de, hd, hr]
theorem setNo : setAt [DV.lit (.map none), .lit (.map none), .lit (.map none)] 0 [DV.lit (.map none), .lit (.map none), .lit (.map none)] = [DV.lit (.map none), .lit (.map none), .lit (.map none)] := rfl
def s12 : Sp := sp (arg1 Enc.sigd) Enc.bool (fun s => (openF s []).map fun r => decide (r.2 = 0))
attribute [local simp] drunL drunO dwanted dopS own plainOf dop dput eval ofVal Then Ex.then Ex.inBlock upd dbin Tag.isNN nilTest intCmp dload dpart TyI.agg dfieldAddr dfield dindexAddr dindex dlen lenOk dlookup mapOf keyFits dmapUpdate dcallee dbuiltin dstore DV.cells dslice dboundOk dappend appTag rowsOf elemOk growLimit dbuildCells dbuildCells.go structOk fieldsOk dbuildRows goInt
theorem c12 (e44 : Go.FA.Good Tryz.prog (44, s44)) : CallSound Tryz.prog 12 s12 := by
  have t12 : TabOk Tryz.prog (tabOf [(44, s44)]) := .cons e44 .nil
  refine CallSound.of_sp (T := tabOf [(44, s44)]) Tryz.func12 rfl (Nat.le_of_ble_eq_true rfl) fun E s y hy => ?_
  obtain ⟨⟨o, e⟩, hr, rfl⟩ := Option.map_eq_some_iff.1 hy
  have g := call44 (tabOf [(44, s44)]) rfl s (.lit (.slice none 0 0)) [] _ rfl hr
  refine Dwp.step t12 rfl fun K hK => ?_
  simp [dcall, tabOf, setAt, init, arg1, EncR.one, Enc.sigd, Enc.agg]
  refine hK _ _ ?_ rfl; clear hK K
  refine Dwp.step t12 rfl fun K hK => ?_
  generalize tabOf [(44, s44)] = T at *
  have h2 : (e == 0) = decide (e = 0) := rfl
  cases o with
  | none =>
    simp only [Enc.opened, noBook] at g
    simp [drunL, dwanted, dopS, own, dop, dput, eval, ofVal, Then, upd, dload, dpart, TyI.agg, ty26, ty58, dcallee, g, DV.cells, dstore, setNo]
    refine hK _ _ ?_ rfl; clear hK K
    refine Dwp.step t12 rfl fun K hK => ?_
    simp [drunL, dwanted, dopS, own, dop, dput, eval, ofVal, Then, upd, dbin, intCmp]
    refine hK _ _ (Dwp.ret ?_) rfl
    simp [Done, dresults, dres, frz, frz1, frz2, Enc.bool, upd, h2]
  | some b =>
    simp only [Enc.opened, Enc.book, Enc.agg] at g
    simp [drunL, dwanted, dopS, own, dop, dput, eval, ofVal, Then, upd, dload, dpart, TyI.agg, ty26, ty58, dcallee, g, DV.cells, dstore, setBook]
    refine hK _ _ ?_ rfl; clear hK K
    refine Dwp.step t12 rfl fun K hK => ?_
    simp [drunL, dwanted, dopS, own, dop, dput, eval, ofVal, Then, upd, dbin, intCmp]
    refine hK _ _ (Dwp.ret ?_) rfl
    simp [Done, dresults, dres, frz, frz1, frz2, Enc.bool, upd, h2]
end Go.Proofs.Yt
namespace Go.Proofs.Yt
open Go Go.FA Go.Proofs
set_option linter.unusedVariables false
set_option linter.unusedSimpArgs false
set_option maxRecDepth 100000

def Enc.boolErr : Enc (Bool × Int) := Enc.tup (arg2 Enc.bool Enc.i64)
/-- an answer with a book that was opened, or the error -/
def withBook {β : Type} (r : Option (Option Book × Int)) (no : β) (f : Book → Option β) : Option (β × Int) := match r with
  | some (some b, e) => if e = 0 then (f b).map (·, 0) else none
  | some (none, e) => if e = 0 then none else some (no, e)
  | none => none
def s14 : Sp := sp (arg3 Enc.sigd Enc.str Enc.str) Enc.boolErr (fun x => withBook (openF x.1 [x.2.1, x.2.2]) false fun b => b.atMost x.2.1 x.2.2)
abbrev T14 : Tab := tabOf [(44, s44), (50, s50)]
attribute [local simp] drunL drunO dwanted dopS own plainOf dop dput eval ofVal Then Ex.then Ex.inBlock upd dbin Tag.isNN nilTest intCmp dload dpart TyI.agg dfieldAddr dfield dindexAddr dindex dlen lenOk dlookup mapOf keyFits dmapUpdate dcallee dbuiltin dstore DV.cells dslice dboundOk dappend appTag rowsOf elemOk growLimit dbuildCells dbuildCells.go structOk fieldsOk dbuildRows goInt
theorem c14 (e44 : Go.FA.Good Tryz.prog (44, s44)) : CallSound Tryz.prog 14 s14 := by
  have t14 : TabOk Tryz.prog T14 := .cons e44 (.cons e50 .nil)
  refine CallSound.of_sp (T := T14) Tryz.func14 rfl (Nat.le_of_ble_eq_true rfl) fun E x y hy => ?_
  obtain ⟨s, lo, hi⟩ := x
  simp only [withBook] at hy
  cases hr : openF s [lo, hi] with
  | none => rw [hr] at hy; cases hy
  | some r =>
  rw [hr] at hy
  have g := call44 T14 rfl s (.slice 1 .full [[.lit (.string lo)], [.lit (.string hi)]]) [lo, hi] r rfl hr
  have h50 : T14 50 = some s50 := rfl
  refine Dwp.step t14 rfl fun K hK => ?_
  simp [dcall, tabOf, setAt, init, arg3, EncR.and, EncR.one, Enc.sigd, Enc.agg]
  refine hK _ _ ?_ rfl; clear hK K
  refine Dwp.step t14 rfl fun K hK => ?_
  generalize T14 = T at *
  obtain ⟨o, e⟩ := r
  cases o with
  | none =>
    simp only [Enc.opened, noBook] at g
    simp only [] at hy
    split at hy
    case isTrue => cases hy
    next he =>
    cases hy
    have he' : (e != 0) = true := by simp [he]
    simp [drunL, dwanted, dopS, own, dop, dput, eval, ofVal, Then, upd, init, arg3, EncR.and, EncR.one, Enc.str, dload, dpart, TyI.agg, ty26, ty58, ty22, ty9, dbuildRows, growLimit, dcallee, g, DV.cells, dstore, setNo]
    refine hK _ _ ?_ rfl; clear hK K
    refine Dwp.seq ?_
    refine Dwp.step t14 rfl fun K hK => ?_
    simp [drunL, dwanted, dopS, own, dop, dput, eval, ofVal, Then, upd, dbin, intCmp, he']
    refine hK _ _ ?_ rfl; clear hK K
    refine Dwp.condT (by simp [eval, upd]) ?_
    refine Dwp.step t14 rfl fun K hK => ?_
    simp [dcall, tabOf, setAt]
    refine hK _ _ (Dwp.ret ?_) rfl
    simp [Done, dresults, dres, frz, frz1, frz2, Ex.then, upd, Enc.boolErr, Enc.tup, arg2, EncR.and, EncR.one, Enc.bool, Enc.i64, Enc.int]
  | some b =>
    simp only [Enc.opened, Enc.book, Enc.agg] at g
    simp only [] at hy
    split at hy
    case isFalse => cases hy
    next he =>
    subst he
    obtain ⟨v, hv, rfl⟩ := Option.map_eq_some_iff.1 hy
    have g2 : dcall T 50 [Enc.book.enc b, Enc.str.enc lo, Enc.str.enc hi] = some (Enc.bool.enc v) := dcall3 (B := Enc.str) (C := Enc.str) (D := Enc.bool) h50 hv
    simp only [Enc.book, Enc.agg, Enc.str, Enc.bool] at g2
    simp [drunL, dwanted, dopS, own, dop, dput, eval, ofVal, Then, upd, init, arg3, EncR.and, EncR.one, Enc.str, dload, dpart, TyI.agg, ty26, ty58, ty22, ty9, dbuildRows, growLimit, dcallee, g, DV.cells, dstore, setBook]
    refine hK _ _ ?_ rfl; clear hK K
    refine Dwp.seq ?_
    refine Dwp.step t14 rfl fun K hK => ?_
    simp [drunL, dwanted, dopS, own, dop, dput, eval, ofVal, Then, upd, dbin, intCmp]
    refine hK _ _ ?_ rfl; clear hK K
    refine Dwp.condF (by simp [eval, upd]) (Dwp.skip ?_)
    refine Dwp.step t14 rfl fun K hK => ?_
    simp [drunL, dwanted, dopS, own, dop, dput, eval, ofVal, Then, upd, init, arg3, EncR.and, EncR.one, Enc.str, dload, dpart, TyI.agg, ty58, dcallee, g2]
    refine hK _ _ (Dwp.ret ?_) rfl
    simp [Done, dresults, dres, frz, frz1, frz2, Ex.then, upd, Enc.boolErr, Enc.tup, arg2, EncR.and, EncR.one, Enc.bool, Enc.i64, Enc.int]
end Go.Proofs.Yt
namespace Go.Proofs.Yt
open Go Go.FA Go.Proofs
set_option linter.unusedVariables false
set_option linter.unusedSimpArgs false
set_option maxRecDepth 100000

/-- one at most the other -/
def Book.meet (b : Book) (lo hi : ByteArray) : Option Bool := match b.atMost lo hi with
  | some true => some true
  | some false => b.atMost hi lo
  | none => none
def s16 : Sp := sp (arg3 Enc.sigd Enc.str Enc.str) Enc.boolErr (fun x => withBook (openF x.1 [x.2.1, x.2.2]) false fun b => b.meet x.2.1 x.2.2)
abbrev T16 : Tab := tabOf [(44, s44), (50, s50)]
attribute [local simp] drunL drunO dwanted dopS own plainOf dop dput eval ofVal Then Ex.then Ex.inBlock upd dbin Tag.isNN nilTest intCmp dload dpart TyI.agg dfieldAddr dfield dindexAddr dindex dlen lenOk dlookup mapOf keyFits dmapUpdate dcallee dbuiltin dstore DV.cells dslice dboundOk dappend appTag rowsOf elemOk growLimit dbuildCells dbuildCells.go structOk fieldsOk dbuildRows goInt
theorem c16 (e44 : Go.FA.Good Tryz.prog (44, s44)) : CallSound Tryz.prog 16 s16 := by
  have t16 : TabOk Tryz.prog T16 := .cons e44 (.cons e50 .nil)
  refine CallSound.of_sp (T := T16) Tryz.func16 rfl (Nat.le_of_ble_eq_true rfl) fun E x y hy => ?_
  obtain ⟨s, lo, hi⟩ := x
  simp only [withBook] at hy
  cases hr : openF s [lo, hi] with
  | none => rw [hr] at hy; cases hy
  | some r =>
  rw [hr] at hy
  have g := call44 T16 rfl s (.slice 1 .full [[.lit (.string lo)], [.lit (.string hi)]]) [lo, hi] r rfl hr
  have h50 : T16 50 = some s50 := rfl
  refine Dwp.step t16 rfl fun K hK => ?_
  simp [dcall, tabOf, setAt, init, arg3, EncR.and, EncR.one, Enc.sigd, Enc.agg]
  refine hK _ _ ?_ rfl; clear hK K
  refine Dwp.step t16 rfl fun K hK => ?_
  generalize T16 = T at *
  obtain ⟨o, e⟩ := r
  cases o with
  | none =>
    simp only [Enc.opened, noBook] at g
    simp only [] at hy
    split at hy
    case isTrue => cases hy
    next he =>
    cases hy
    have he' : (e != 0) = true := by simp [he]
    simp [drunL, dwanted, dopS, own, dop, dput, eval, ofVal, Then, upd, init, arg3, EncR.and, EncR.one, Enc.str, dload, dpart, TyI.agg, ty26, ty58, ty22, ty9, dbuildRows, growLimit, dcallee, g, DV.cells, dstore, setNo]
    refine hK _ _ ?_ rfl; clear hK K
    refine Dwp.seq ?_
    refine Dwp.step t16 rfl fun K hK => ?_
    simp [drunL, dwanted, dopS, own, dop, dput, eval, ofVal, Then, upd, dbin, intCmp, he']
    refine hK _ _ ?_ rfl; clear hK K
    refine Dwp.condT (by simp [eval, upd]) ?_
    refine Dwp.step t16 rfl fun K hK => ?_
    simp [dcall, tabOf, setAt]
    refine hK _ _ (Dwp.ret ?_) rfl
    simp [Done, dresults, dres, frz, frz1, frz2, Ex.then, upd, Enc.boolErr, Enc.tup, arg2, EncR.and, EncR.one, Enc.bool, Enc.i64, Enc.int]
  | some b =>
    simp only [Enc.opened, Enc.book, Enc.agg] at g
    simp only [] at hy
    split at hy
    case isFalse => cases hy
    next he =>
    subst he
    obtain ⟨v, hv, rfl⟩ := Option.map_eq_some_iff.1 hy
    simp [drunL, dwanted, dopS, own, dop, dput, eval, ofVal, Then, upd, init, arg3, EncR.and, EncR.one, Enc.str, dload, dpart, TyI.agg, ty26, ty58, ty22, ty9, dbuildRows, growLimit, dcallee, g, DV.cells, dstore, setBook]
    refine hK _ _ ?_ rfl; clear hK K
    refine Dwp.seq ?_
    refine Dwp.step t16 rfl fun K hK => ?_
    simp [drunL, dwanted, dopS, own, dop, dput, eval, ofVal, Then, upd, dbin, intCmp]
    refine hK _ _ ?_ rfl; clear hK K
    refine Dwp.condF (by simp [eval, upd]) (Dwp.skip ?_)
    refine Dwp.step t16 rfl fun K hK => ?_
    unfold Book.meet at hv
    cases h1 : b.atMost lo hi with
    | none => rw [h1] at hv; cases hv
    | some v1 =>
    rw [h1] at hv
    have g2 : dcall T 50 [Enc.book.enc b, Enc.str.enc lo, Enc.str.enc hi] = some (Enc.bool.enc v1) := dcall3 (B := Enc.str) (C := Enc.str) (D := Enc.bool) h50 h1
    simp only [Enc.book, Enc.agg, Enc.str, Enc.bool] at g2
    cases v1 with
    | true =>
      cases hv
      repeat (first
        | (refine Then.stepD rfl rfl (fun K1 hK1 => ?_); simp [Then1, Guarded, init, arg3, EncR.and, EncR.one, Enc.str, dload, dpart, TyI.agg, ty58, dcallee, g2]; refine hK1 _ _ ?_; clear hK1 K1)
        | (refine Then.stepG rfl rfl rfl (fun K1 hK1 => ?_); simp [Then1, Guarded, init, arg3, EncR.and, EncR.one, Enc.str, dload, dpart, TyI.agg, ty58, dcallee, g2]; refine hK1 _ _ ?_; clear hK1 K1)
        | (refine Then.stepN rfl rfl (fun K1 hK1 => ?_); simp [Then1, Guarded, init, arg3, EncR.and, EncR.one, Enc.str, dload, dpart, TyI.agg, ty58, dcallee, g2]; refine hK1 _ _ ?_; clear hK1 K1)
        | (refine Then.stepGN rfl rfl rfl (fun K1 hK1 => ?_); simp [Then1, Guarded, init, arg3, EncR.and, EncR.one, Enc.str, dload, dpart, TyI.agg, ty58, dcallee, g2]; refine hK1 _ _ ?_; clear hK1 K1))
      refine Then.done (hK _ _ (Dwp.ret ?_) rfl)
      simp [Done, dresults, dres, frz, frz1, frz2, Ex.then, upd, Enc.boolErr, Enc.tup, arg2, EncR.and, EncR.one, Enc.bool, Enc.i64, Enc.int]
    | false =>
      have g3 : dcall T 50 [Enc.book.enc b, Enc.str.enc hi, Enc.str.enc lo] = some (Enc.bool.enc v) := dcall3 (B := Enc.str) (C := Enc.str) (D := Enc.bool) h50 hv
      simp only [Enc.book, Enc.agg, Enc.str, Enc.bool] at g3
      repeat (first
        | (refine Then.stepD rfl rfl (fun K1 hK1 => ?_); simp [Then1, Guarded, init, arg3, EncR.and, EncR.one, Enc.str, dload, dpart, TyI.agg, ty58, dcallee, g2, g3]; refine hK1 _ _ ?_; clear hK1 K1)
        | (refine Then.stepG rfl rfl rfl (fun K1 hK1 => ?_); simp [Then1, Guarded, init, arg3, EncR.and, EncR.one, Enc.str, dload, dpart, TyI.agg, ty58, dcallee, g2, g3]; refine hK1 _ _ ?_; clear hK1 K1)
        | (refine Then.stepN rfl rfl (fun K1 hK1 => ?_); simp [Then1, Guarded, init, arg3, EncR.and, EncR.one, Enc.str, dload, dpart, TyI.agg, ty58, dcallee, g2, g3]; refine hK1 _ _ ?_; clear hK1 K1)
        | (refine Then.stepGN rfl rfl rfl (fun K1 hK1 => ?_); simp [Then1, Guarded, init, arg3, EncR.and, EncR.one, Enc.str, dload, dpart, TyI.agg, ty58, dcallee, g2, g3]; refine hK1 _ _ ?_; clear hK1 K1))
      refine Then.done (hK _ _ (Dwp.ret ?_) rfl)
      simp [Done, dresults, dres, frz, frz1, frz2, Ex.then, upd, Enc.boolErr, Enc.tup, arg2, EncR.and, EncR.one, Enc.bool, Enc.i64, Enc.int]
end Go.Proofs.Yt
namespace Go.Proofs.Yt
open Go Go.FA Go.Proofs
set_option linter.unusedVariables false
set_option linter.unusedSimpArgs false
set_option maxRecDepth 100000

def atMostF (s : SigD) (lo hi : ByteArray) : Option (Bool × Int) := withBook (openF s [lo, hi]) false fun b => b.atMost lo hi
/-- the law's own: AtMost is true and there is no error -/
def s40 : Sp := sp (arg3 Enc.sigd Enc.str Enc.str) Enc.bool (fun x => (atMostF x.1 x.2.1 x.2.2).map fun r => r.1 && decide (r.2 = 0))
attribute [local simp] drunL drunO dwanted dopS own plainOf dop dput eval ofVal Then Ex.then Ex.inBlock upd dbin Tag.isNN nilTest intCmp dload dpart TyI.agg dfieldAddr dfield dindexAddr dindex dlen lenOk dlookup mapOf keyFits dmapUpdate dcallee dbuiltin dstore DV.cells dslice dboundOk dappend appTag rowsOf elemOk growLimit dbuildCells dbuildCells.go structOk fieldsOk dbuildRows goInt
theorem c40 (e14 : Go.FA.Good Tryz.prog (14, s14)) : CallSound Tryz.prog 40 s40 := by
  have t40 : TabOk Tryz.prog (tabOf [(14, s14)]) := .cons e14 .nil
  refine CallSound.of_sp (T := tabOf [(14, s14)]) Tryz.func40 rfl (Nat.le_of_ble_eq_true rfl) fun E x y hy => ?_
  obtain ⟨s, lo, hi⟩ := x
  obtain ⟨⟨v, e⟩, hr, rfl⟩ := Option.map_eq_some_iff.1 hy
  have g : dcall (tabOf [(14, s14)]) 14 [Enc.sigd.enc s, Enc.str.enc lo, Enc.str.enc hi] = some (Enc.boolErr.enc (v, e)) := dcall3 (A := Enc.sigd) (B := Enc.str) (C := Enc.str) (D := Enc.boolErr) rfl hr
  simp only [Enc.sigd, Enc.agg, Enc.str, Enc.boolErr, Enc.tup, arg2, EncR.and, EncR.one, Enc.bool, Enc.i64, Enc.int] at g
  refine Dwp.step t40 rfl fun K hK => ?_
  simp [dcall, tabOf, setAt, init, arg3, EncR.and, EncR.one, Enc.sigd, Enc.agg]
  refine hK _ _ ?_ rfl; clear hK K
  refine Dwp.step t40 rfl fun K hK => ?_
  generalize tabOf [(14, s14)] = T at *
  simp at g
  repeat (first
    | (refine Then.stepD rfl rfl (fun K1 hK1 => ?_); simp [Then1, Guarded, init, arg3, EncR.and, EncR.one, Enc.str, dload, dpart, TyI.agg, ty26, dcallee, g]; refine hK1 _ _ ?_; clear hK1 K1)
    | (refine Then.stepG rfl rfl rfl (fun K1 hK1 => ?_); simp [Then1, Guarded, init, arg3, EncR.and, EncR.one, Enc.str, dload, dpart, TyI.agg, ty26, dcallee, g]; refine hK1 _ _ ?_; clear hK1 K1)
    | (refine Then.stepN rfl rfl (fun K1 hK1 => ?_); simp [Then1, Guarded, init, arg3, EncR.and, EncR.one, Enc.str, dload, dpart, TyI.agg, ty26, dcallee, g]; refine hK1 _ _ ?_; clear hK1 K1)
    | (refine Then.stepGN rfl rfl rfl (fun K1 hK1 => ?_); simp [Then1, Guarded, init, arg3, EncR.and, EncR.one, Enc.str, dload, dpart, TyI.agg, ty26, dcallee, g]; refine hK1 _ _ ?_; clear hK1 K1))
  refine Then.done ?_
  refine hK _ _ ?_ rfl; clear hK K
  refine Dwp.step t40 rfl fun K hK => ?_
  have h2 : (e == 0) = decide (e = 0) := rfl
  cases v with
  | true =>
    repeat (first
      | (refine Then.stepD rfl rfl (fun K1 hK1 => ?_); simp [Then1, Guarded, dbin, intCmp, h2]; refine hK1 _ _ ?_; clear hK1 K1)
      | (refine Then.stepG rfl rfl rfl (fun K1 hK1 => ?_); simp [Then1, Guarded, dbin, intCmp, h2]; refine hK1 _ _ ?_; clear hK1 K1)
      | (refine Then.stepN rfl rfl (fun K1 hK1 => ?_); simp [Then1, Guarded, dbin, intCmp, h2]; refine hK1 _ _ ?_; clear hK1 K1)
      | (refine Then.stepGN rfl rfl rfl (fun K1 hK1 => ?_); simp [Then1, Guarded, dbin, intCmp, h2]; refine hK1 _ _ ?_; clear hK1 K1))
    refine Then.done (hK _ _ (Dwp.ret ?_) rfl)
    simp [Done, dresults, dres, frz, frz1, frz2, Enc.bool, upd]
  | false =>
    repeat (first
      | (refine Then.stepD rfl rfl (fun K1 hK1 => ?_); simp [Then1, Guarded, dbin, intCmp, h2]; refine hK1 _ _ ?_; clear hK1 K1)
      | (refine Then.stepG rfl rfl rfl (fun K1 hK1 => ?_); simp [Then1, Guarded, dbin, intCmp, h2]; refine hK1 _ _ ?_; clear hK1 K1)
      | (refine Then.stepN rfl rfl (fun K1 hK1 => ?_); simp [Then1, Guarded, dbin, intCmp, h2]; refine hK1 _ _ ?_; clear hK1 K1)
      | (refine Then.stepGN rfl rfl rfl (fun K1 hK1 => ?_); simp [Then1, Guarded, dbin, intCmp, h2]; refine hK1 _ _ ?_; clear hK1 K1))
    refine Then.done (hK _ _ (Dwp.ret ?_) rfl)
    simp [Done, dresults, dres, frz, frz1, frz2, Enc.bool, upd]
end Go.Proofs.Yt
namespace Go.Proofs.Yt
open Go Go.FA Go.Proofs
set_option linter.unusedVariables false
set_option linter.unusedSimpArgs false
set_option maxRecDepth 100000

/-! a map under way whose values are slices that are appended to: each has its own token -/
abbrev Tk := List ByteArray × Option (Nat × Nat)
def Tk.dv (v : Tk) : DV := match v.2 with
  | some (t, g) => .slice 1 (.tok t g) (v.1.map fun s => [DV.lit (.string s)])
  | none => .lit (.slice none 0 0)
def tkl (m : List (ByteArray × Tk)) : List Nat := m.filterMap fun p => p.2.2.map (·.1)
def TkOk (toks : Nat → Option Nat) (n : Nat) : List (ByteArray × Tk) → Prop
  | [] => True
  | p :: m => (match p.2.2 with | none => p.2.1 = [] | some (t, g) => toks t = some g ∧ t < n ∧ t ∉ tkl m) ∧ TkOk toks n m
def strip (m : List (ByteArray × Tk)) : List (ByteArray × List ByteArray) := m.map fun p => (p.1, p.2.1)

theorem assoc_dv {α : Type} (f : α → DV) (k : ByteArray) : ∀ m : List (ByteArray × α), assoc (.string k) (m.map fun p => .string p.1) (m.map fun p => f p.2) = some ((mget k m).map f)
  | [] => rfl
  | p :: m => by
    simp only [List.map_cons, assoc, eqKey, mget, assoc_dv f k m]
    by_cases h : k = p.1
    · simp [h]
    · simp [h]
theorem putKey_dv {α : Type} (f : α → DV) (k : ByteArray) (v : α) : ∀ m : List (ByteArray × α),
    putKey (.string k) (f v) (m.map fun p => .string p.1) (m.map fun p => f p.2) = some ((mput k v m).map (fun p => .string p.1), (mput k v m).map fun p => f p.2)
  | [] => rfl
  | p :: m => by
    simp only [List.map_cons, putKey, eqKey, mput]
    by_cases h : k = p.1
    · simp [h]
    · simp [h, putKey_dv f k v m]
theorem strip_put (k : ByteArray) (v : Tk) : ∀ m, strip (mput k v m) = mput k v.1 (strip m)
  | [] => rfl
  | p :: m => by
    simp only [mput, strip, List.map_cons]
    by_cases h : k = p.1
    · simp [h]
    · simp only [h, if_false, List.map_cons]
      congr 1
      exact strip_put k v m
theorem strip_get (k : ByteArray) : ∀ m, mget k (strip m) = (mget k m).map (·.1)
  | [] => rfl
  | p :: m => by
    simp only [mget, strip, List.map_cons]
    by_cases h : k = p.1
    · simp [h]
    · simp only [h, if_false]
      exact strip_get k m
theorem tkl_lt {toks : Nat → Option Nat} {n : Nat} : ∀ {m}, TkOk toks n m → ∀ t ∈ tkl m, t < n
  | [], _, t, ht => by simp [tkl] at ht
  | p :: m, h, t, ht => by
    obtain ⟨h1, h2⟩ := h
    obtain ⟨k, l, o⟩ := p
    cases o with
    | none => exact tkl_lt h2 t (by simpa [tkl] using ht)
    | some x =>
      simp only [tkl, List.filterMap_cons, Option.map_some, List.mem_cons] at ht
      rcases ht with rfl | ht
      · exact h1.2.1
      · exact tkl_lt h2 t ht
theorem TkOk.other {toks : Nat → Option Nat} {n n' t : Nat} {x : Option Nat} (hn : n ≤ n') : ∀ {m}, TkOk toks n m → t ∉ tkl m → TkOk (upd toks t x) n' m
  | [], _, _ => trivial
  | p :: m, h, ht => by
    obtain ⟨h1, h2⟩ := h
    obtain ⟨k, l, o⟩ := p
    cases o with
    | none => exact ⟨h1, TkOk.other hn h2 (by simpa [tkl] using ht)⟩
    | some y =>
      simp only [tkl, List.filterMap_cons, Option.map_some, List.mem_cons, not_or] at ht
      refine ⟨⟨?_, by have := h1.2.1; omega, h1.2.2⟩, TkOk.other hn h2 ht.2⟩
      have : ¬ y.1 = t := fun e => ht.1 e.symm
      simp only [upd, this, if_false]; exact h1.1
theorem TkOk.grow {toks : Nat → Option Nat} {n n' : Nat} (hn : n ≤ n') : ∀ {m}, TkOk toks n m → TkOk toks n' m
  | [], _ => trivial
  | p :: m, h => by
    obtain ⟨h1, h2⟩ := h
    refine ⟨?_, TkOk.grow hn h2⟩
    split at h1
    · exact h1
    · exact ⟨h1.1, by have := h1.2.1; omega, h1.2.2⟩
theorem mem_tkl {k : ByteArray} {l : List ByteArray} {t g : Nat} : ∀ {m}, mget k m = some (l, some (t, g)) → t ∈ tkl m
  | [], h => by simp [mget] at h
  | p :: m, h => by
    simp only [mget] at h
    split at h
    · simp only [Option.some.injEq] at h; simp [tkl, h]
    · have := mem_tkl h
      simp only [tkl, List.filterMap_cons]
      split
      · exact this
      · exact List.mem_cons_of_mem _ this
theorem tkl_put {k : ByteArray} {l' : List ByteArray} {t g : Nat} : ∀ {m} {x}, x ∈ tkl (mput k (l', some (t, g)) m) → x = t ∨ x ∈ tkl m
  | [], x, h => by simp [mput, tkl] at h; exact .inl h
  | p :: m, x, h => by
    simp only [mput] at h
    split at h
    · simp only [tkl, List.filterMap_cons, Option.map_some, List.mem_cons] at h
      rcases h with h | h
      · exact .inl h
      · right; simp only [tkl, List.filterMap_cons]; split
        · exact h
        · exact List.mem_cons_of_mem _ h
    · simp only [tkl, List.filterMap_cons] at h ⊢
      split at h
      · exact tkl_put h
      · rcases List.mem_cons.1 h with h | h
        · right; rw [h]; exact List.mem_cons_self
        · rcases tkl_put h with h | h
          · exact .inl h
          · exact .inr (List.mem_cons_of_mem _ h)
theorem TkOk.put {toks : Nat → Option Nat} {n n' t g' : Nat} {k : ByteArray} {l l' : List ByteArray} {o : Option (Nat × Nat)} (hn : n ≤ n') (ht : t < n') (ho : match o with | none => n ≤ t | some x => t = x.1) :
    ∀ {m}, TkOk toks n m → mget k m = some (l, o) → TkOk (upd toks t (some g')) n' (mput k (l', some (t, g')) m)
  | [], _, h => by simp [mget] at h
  | p :: m, h, hg => by
    obtain ⟨h1, h2⟩ := h
    simp only [mget] at hg
    simp only [mput]
    split at hg
    · next hk =>
      rw [if_pos hk]
      simp only [Option.some.injEq] at hg
      have hnm : t ∉ tkl m := by
        cases o with
        | none => intro hm; have := tkl_lt h2 t hm; omega
        | some x => simp only [hg] at h1; rw [ho]; exact h1.2.2
      exact ⟨⟨by simp [upd], ht, hnm⟩, h2.other hn hnm⟩
    · next hk =>
      rw [if_neg hk]
      refine ⟨?_, TkOk.put hn ht ho h2 hg⟩
      split at h1
      · exact h1
      · next y z e =>
        have hne : ¬ y = t := by
          cases o with
          | none => intro e; have := h1.2.1; omega
          | some x => intro e; subst e; exact h1.2.2 (by rw [ho]; exact mem_tkl (g := x.2) hg)
        refine ⟨by simp only [upd, hne, if_false]; exact h1.1, by have := h1.2.1; omega, fun hm => ?_⟩
        rcases tkl_put hm with q | q
        · exact hne q
        · exact h1.2.2 q
theorem dec_tk {toks : Nat → Option Nat} {n : Nat} : ∀ {m}, TkOk toks n m → decMap Enc.strs (m.map fun p => .string p.1) (m.map fun p => Tk.dv p.2) = some (strip m)
  | [], _ => rfl
  | p :: m, h => by
    obtain ⟨h1, h2⟩ := h
    have hd : Enc.strs.dec (Tk.dv p.2) = some p.2.1 := by
      obtain ⟨k, l, o⟩ := p
      cases o with
      | none => simp only at h1; subst h1; rfl
      | some x =>
        have := decRows_enc (EncR.one Enc.str) l
        simp only [EncR.one, Enc.str] at this
        simp [Tk.dv, Enc.strs, Enc.slice, EncR.one, Enc.str]; exact this
    simp only [List.map_cons, decMap, hd, dec_tk h2]
    rfl
def names0 (l : List ByteArray) : List (ByteArray × Tk) := l.foldl (fun m n => mput n ([], none) m) []
theorem names0_take {l : List ByteArray} {i : Nat} (h : i < l.length) : names0 (l.take (i + 1)) = mput l[i] ([], none) (names0 (l.take i)) := by
  unfold names0; rw [List.take_succ_eq_append_getElem h, List.foldl_append]; rfl
theorem tkl_none {k : ByteArray} {t : Nat} : ∀ {m}, t ∉ tkl m → t ∉ tkl (mput k ([], none) m)
  | [], _ => by simp [mput, tkl]
  | p :: m, h => by
    have h2 : t ∉ tkl m := by
      intro hm; apply h
      simp only [tkl, List.filterMap_cons]; split
      · exact hm
      · exact List.mem_cons_of_mem _ hm
    simp only [mput]
    split
    · simpa [tkl] using h2
    · simp only [tkl, List.filterMap_cons] at h ⊢
      split
      · exact tkl_none h2
      · next y e =>
        rw [e] at h
        intro hm
        rcases List.mem_cons.1 hm with q | q
        · exact h (by rw [q]; exact List.mem_cons_self)
        · exact tkl_none h2 q
theorem TkOk.blank {toks : Nat → Option Nat} {n : Nat} {k : ByteArray} : ∀ {m}, TkOk toks n m → TkOk toks n (mput k ([], none) m)
  | [], _ => ⟨rfl, trivial⟩
  | p :: m, h => by
    obtain ⟨h1, h2⟩ := h
    simp only [mput]
    split
    · exact ⟨rfl, h2⟩
    · refine ⟨?_, TkOk.blank h2⟩
      split at h1
      · exact h1
      · exact ⟨h1.1, h1.2.1, tkl_none h1.2.2⟩
theorem TkOk.names (toks : Nat → Option Nat) (n : Nat) (l : List ByteArray) : TkOk toks n (names0 l) := by
  unfold names0
  have : ∀ (l : List ByteArray) (m : List (ByteArray × Tk)), TkOk toks n m → TkOk toks n (l.foldl (fun m n => mput n ([], none) m) m) := by
    intro l
    induction l with
    | nil => exact fun m h => h
    | cons x l ih => exact fun m h => ih _ h.blank
  exact this l [] trivial
theorem strip_names (l : List ByteArray) : strip (names0 l) = l.foldl (fun m n => mput n [] m) [] := by
  unfold names0
  have : ∀ (l : List ByteArray) (m : List (ByteArray × Tk)), strip (l.foldl (fun m n => mput n ([], none) m) m) = l.foldl (fun m n => mput n [] m) (strip m) := by
    intro l
    induction l with
    | nil => exact fun m => rfl
    | cons x l ih => intro m; simp only [List.foldl_cons, ih, strip_put]
  exact this l []
theorem foldBel_take {l : List Bel} {i : Nat} (h : i < l.length) (m : List (ByteArray × List ByteArray)) : (l.take (i + 1)).foldl addBel m = addBel ((l.take i).foldl addBel m) l[i] := by
  rw [List.take_succ_eq_append_getElem h, List.foldl_append]; rfl
end Go.Proofs.Yt
namespace Go.Proofs.Yt
open Go Go.FA Go.Proofs
set_option linter.unusedVariables false
set_option linter.unusedSimpArgs false
set_option maxRecDepth 100000

def key1 (m : List (ByteArray × Tk)) : List Value := m.map fun p => .string p.1
def val1 (m : List (ByteArray × Tk)) : List DV := m.map fun p => Tk.dv p.2
def mapD (m : List (ByteArray × OpD)) : DV := .fmap (m.map fun p => .string p.1) (m.map fun p => .agg (EncR.opd.enc p.2))
theorem callByName (T : Tab) (hT : T 108 = some s108) (l : List OpD) (h : l.length ≤ lim) : dcall T 108 [Enc.ops.enc l] = some (mapD (byName l)) := by
  have : dcall T 108 [Enc.ops.enc l] = some ((Enc.map Enc.opd).enc (byName l)) := dcall1 (A := Enc.ops) (B := Enc.map Enc.opd) hT (if_pos h)
  exact this
def base87 (s : SigD) (L : List ByteArray) (a : Nat → DV) (σ : St) : Prop :=
  a 1 = .row (EncR.sigd.enc s) 0 ∧ a 2 = .ptr 1 0 ∧ a 3 = .ptr 10 0 ∧ 12 ≤ σ.n ∧
  σ.objs 10 = some (.cells 58 [.map 2, mapD (byName s.ops), mapD (byName s.funs)]) ∧ σ.objs 1 = some (.cells 58 [.lit (.map none), .lit (.map none), .lit (.map none)])
def inv87a (s : SigD) (L : List ByteArray) : Nat → (Nat → DV) → St → Prop := fun k a σ => ∃ i, i ≤ L.length ∧ k = L.length - i ∧ base87 s L a σ ∧
  a 20 = .slice 1 .none (L.map fun s => [DV.lit (.string s)]) ∧ a 21 = .lit (.int .i64 L.length) ∧ a 22 = .lit (.int .i64 i) ∧
  σ.objs 2 = some (.map (key1 (names0 (L.take i))) (val1 (names0 (L.take i))))
def LenOk (n : Nat) (m : List (ByteArray × Tk)) : Prop := ∀ p ∈ m, p.2.1.length ≤ n
def inv87b (s : SigD) (L : List ByteArray) : Nat → (Nat → DV) → St → Prop := fun k a σ => ∃ i m, i ≤ s.below.length ∧ k = s.below.length - i ∧ base87 s L a σ ∧
  a 31 = .slice 2 .none (s.below.map EncR.bel.enc) ∧ a 32 = .lit (.int .i64 s.below.length) ∧ a 33 = .lit (.int .i64 i) ∧
  σ.objs 2 = some (.map (key1 m) (val1 m)) ∧ TkOk σ.toks σ.n m ∧ LenOk i m ∧ strip m = (s.below.take i).foldl addBel (L.foldl (fun m n => mput n [] m) [])
abbrev T87 : Tab := tabOf [(108, s108), (110, s110), (109, s109), (54, s54)]
theorem t87 : TabOk Tryz.prog T87 := .cons e108 (.cons e110 (.cons e109 (.cons e54 .nil)))
theorem strsC (l : List ByteArray) : Enc.strs.enc l = .slice 1 .none (l.map fun s => [DV.lit (.string s)]) := rfl
theorem put1 (k : ByteArray) (v : Tk) (m : List (ByteArray × Tk)) : putKey (.string k) (Tk.dv v) (key1 m) (val1 m) = some (key1 (mput k v m), val1 (mput k v m)) := putKey_dv Tk.dv k v m
theorem get1 (k : ByteArray) (m : List (ByteArray × Tk)) : assoc (.string k) (key1 m) (val1 m) = some ((mget k m).map Tk.dv) := assoc_dv Tk.dv k m
theorem set3 (x y z : DV) : setAt [DV.lit (.map none), .lit (.map none), .lit (.map none)] 0 [x, y, z] = [x, y, z] := rfl
theorem set2 (x y : DV) : setAt [DV.lit (.string ⟨#[]⟩), .lit (.string ⟨#[]⟩)] 0 [x, y] = [x, y] := rfl
theorem mem_mput {α : Type} {k : ByteArray} {v : α} {p : ByteArray × α} : ∀ {m : List (ByteArray × α)}, p ∈ mput k v m → p = (k, v) ∨ p ∈ m
  | [], h => by simp [mput] at h; exact .inl h
  | q :: m, h => by
    simp only [mput] at h
    split at h
    · rcases List.mem_cons.1 h with h | h
      · exact .inl h
      · exact .inr (List.mem_cons_of_mem _ h)
    · rcases List.mem_cons.1 h with h | h
      · exact .inr (by rw [h]; exact List.mem_cons_self)
      · rcases mem_mput h with h | h
        · exact .inl h
        · exact .inr (List.mem_cons_of_mem _ h)
theorem mget_mem {α : Type} {k : ByteArray} {v : α} : ∀ {m : List (ByteArray × α)}, mget k m = some v → (k, v) ∈ m
  | [], h => by simp [mget] at h
  | p :: m, h => by
    simp only [mget] at h
    split at h
    · next hk => simp at h; rw [← h, hk]; exact List.mem_cons_self
    · exact List.mem_cons_of_mem _ (mget_mem h)
theorem LenOk.names (l : List ByteArray) : LenOk 0 (names0 l) := by
  unfold names0
  have : ∀ (l : List ByteArray) (m : List (ByteArray × Tk)), LenOk 0 m → LenOk 0 (l.foldl (fun m n => mput n ([], none) m) m) := by
    intro l
    induction l with
    | nil => exact fun m h => h
    | cons x l ih =>
      refine fun m h => ih _ fun p hp => ?_
      rcases mem_mput hp with rfl | hp
      · simp
      · exact h p hp
  exact this l [] (fun p hp => by simp at hp)
@[simp] theorem frz1_mapD (σ : St) (m : List (ByteArray × OpD)) : frz1 σ (mapD m) = mapD m := rfl
theorem has87 (T : Tab) (hT : T 54 = some s54) {toks : Nat → Option Nat} {n : Nat} {m : List (ByteArray × Tk)} (h : TkOk toks n m) (A B : List (ByteArray × OpD)) (k : ByteArray) :
    dcall T 54 [.agg [.fmap (key1 m) (val1 m), mapD A, mapD B], .slice 1 .full [[.lit (.string k)]]] = some (.lit (.bool (mget k (strip m)).isSome)) ∧
    dcall T 54 [.agg [.map 2, mapD A, mapD B], .slice 1 .full [[.lit (.string k)]]] = none := by
  have h1 : (Enc.map Enc.strs).dec (.fmap (key1 m) (val1 m)) = some (strip m) := dec_tk h
  have h2 : ∀ A, (Enc.map Enc.opd).dec (mapD A) = some A := fun A => (Enc.map Enc.opd).de A
  have h3 : Enc.strs.dec (.slice 1 .full [[.lit (.string k)]]) = some [k] := rfl
  have h4 : (Enc.map Enc.strs).dec (.map 2) = none := rfl
  constructor
  · simp [dcall, hT, s54, sp, arg2, EncR.and, EncR.one, Enc.book, Enc.agg, EncR.book, h1, h2, h3, Enc.bool, Book.has, lim]
  · simp [dcall, hT, s54, sp, arg2, EncR.and, EncR.one, Enc.book, Enc.agg, EncR.book, h4]
theorem TkOk.nil {toks : Nat → Option Nat} {n : Nat} {k : ByteArray} {l : List ByteArray} : ∀ {m}, TkOk toks n m → mget k m = some (l, none) → l = []
  | [], _, h => by simp [mget] at h
  | p :: m, h, hg => by
    obtain ⟨h1, h2⟩ := h
    simp only [mget] at hg
    split at hg
    · simp only [Option.some.injEq] at hg; rw [hg] at h1; exact h1
    · exact h2.nil hg
theorem TkOk.get {toks : Nat → Option Nat} {n : Nat} {k : ByteArray} {l : List ByteArray} {t g : Nat} : ∀ {m}, TkOk toks n m → mget k m = some (l, some (t, g)) → toks t = some g ∧ t < n
  | [], _, h => by simp [mget] at h
  | p :: m, h, hg => by
    obtain ⟨h1, h2⟩ := h
    simp only [mget] at hg
    split at hg
    · simp only [Option.some.injEq] at hg; rw [hg] at h1; exact ⟨h1.1, h1.2.1⟩
    · exact h2.get hg
theorem LenOk.put {n : Nat} {m : List (ByteArray × Tk)} (h : LenOk n m) {k : ByteArray} {v : Tk} (hv : v.1.length ≤ n + 1) : LenOk (n + 1) (mput k v m) := fun p hp => by
  rcases mem_mput hp with rfl | hp
  · exact hv
  · have := h p hp; omega
attribute [local simp] drunL drunO dwanted dopS own plainOf dop dput eval ofVal Then Ex.then Ex.inBlock upd dbin Tag.isNN nilTest intCmp dload dpart TyI.agg dfieldAddr dfield dindexAddr dindex dlen lenOk dlookup mapOf keyFits dmapUpdate dcallee dbuiltin dstore DV.cells dslice dboundOk dappend appTag rowsOf elemOk growLimit dbuildCells dbuildCells.go structOk fieldsOk dbuildRows goInt
theorem c87 : CallSound Tryz.prog 87 s87 := by
  refine CallSound.of_sp (T := T87) Tryz.func87 rfl (Nat.le_of_ble_eq_true rfl) fun E s y hy => ?_
  by_cases hw : s.within = true <;> simp [hw] at hy
  subst hy
  have hw' := hw
  simp only [SigD.within, Bool.and_eq_true, decide_eq_true_eq] at hw'
  obtain ⟨⟨w1, w2⟩, w3⟩ := hw'
  have hL : (given ++ s.sorts).length ≤ 47 := by simp [given]; omega
  have g1 := callByName T87 rfl s.ops (by unfold lim; omega)
  have g2 := callByName T87 rfl s.funs (by unfold lim; omega)
  have g3 := call110 T87 rfl
  have g4 := call109 T87 rfl given s.sorts (by simp [given]; omega)
  simp only [strsC] at g3 g4
  have g5 : T87 54 = some s54 := rfl
  refine Dwp.step t87 rfl fun K hK => ?_
  simp [dcall, tabOf, setAt, init, arg1, EncR.one, Enc.sigd, Enc.agg, ty58]
  refine hK _ _ ?_ rfl; clear hK K
  refine Dwp.drawStep [.newobj, .none, .none, .none, .none, .none, .none, .none, .newobj, .wobj] mixed t87 rfl (by decide) fun K hK => ?_
  obtain ⟨L, hLe⟩ : ∃ L, L = given ++ s.sorts := ⟨_, rfl⟩
  rw [← hLe] at hL g4
  have tT := t87
  generalize T87 = T at *
  simp [drunT, touch, touchP, setAt, init, arg1, EncR.one, Enc.sigd, Enc.agg, ty26, ty24, ty58, ty55, ty56, g1, g2, mapD, set3]
  refine hK _ _ ?_ rfl; clear hK K
  refine Dwp.seq ?_
  refine Dwp.drawStep [] mixed tT rfl (by decide) fun K hK => ?_
  simp [drunT, touch, touchP, setAt, ty26, ty22, ty119, g3, g4, strsC]
  refine hK _ _ ?_ rfl; clear hK K
  refine (Dwp.block (Dwp.loop (inv87a s L) L.length ⟨0, by simp, by simp, ⟨by simp [upd], by simp [upd, σ0], by simp [upd, σ0], by simp, by simp [upd, σ0, mapD], by simp [upd, σ0]⟩, by simp [upd], by simp [upd], by simp [upd], by simp [upd, σ0, names0, key1, val1]⟩ ?_))
  rintro k a σ ⟨i, hi, rfl, ⟨h1, h2, h3, hn, ho3, ho2⟩, h20, h21, h22, hobj⟩
  refine Dwp.step tT rfl fun K hK => ?_
  simp [dcall, tabOf, setAt, h21, h22]
  refine hK _ _ ?_ rfl; clear hK K
  by_cases hlt : i < L.length
  · refine Dwp.seq (Dwp.condT (by simp [eval, upd, hlt]) (Dwp.skip ?_))
    refine Dwp.seq (Dwp.block ?_)
    refine Dwp.step tT rfl fun K hK => ?_
    simp [dcall, tabOf, setAt, h20, h22, ty22, ty9, hlt]
    refine hK _ _ ?_ rfl; clear hK K
    refine Dwp.reg tT rfl fun K hK => ?_
    have hP := put1 L[i] ([], none) (names0 (L.take i))
    simp only [Tk.dv] at hP
    simp [dcall, tabOf, setAt, h3, ho3, hobj, ty58, ty55, ty9, ty22, hP]
    refine hK _ _ ?_ rfl; clear hK K
    refine Dwp.reg tT rfl fun K hK => ?_
    simp [dcall, tabOf, setAt, h22]
    refine hK _ _ ?_ rfl; clear hK K
    have hnt := names0_take hlt
    refine ⟨L.length - (i + 1), by omega, i + 1, by omega, rfl, ⟨by simp [upd, h1], by simp [upd, h2], by simp [upd, h3], by simp <;> omega, by simp [upd, ho3], by simp [upd, ho2]⟩, by simp [upd, h20], by simp [upd, h21], by simp [upd, wrap_small (n := (i : Int) + 1) (by omega) (by omega)], ?_⟩
    rw [hnt]
    simp [upd]
  refine Dwp.seq (Dwp.condF (by simp [eval, upd, hlt]) (Dwp.exit ?_))
  simp only [Ex.then, Ex.inBlock, if_true]
  rw [List.take_of_length_le (by omega)] at hobj
  have hbase : base87 s L a σ := ⟨h1, h2, h3, hn, ho3, ho2⟩
  refine Dwp.seq ?_
  refine Dwp.step tT rfl fun K hK => ?_
  simp [setAt, h1, ty26, ty23, Enc.bels, Enc.slice]
  refine hK _ _ ?_ rfl; clear hK K
  refine (Dwp.block (Dwp.loop (inv87b s L) s.below.length ⟨0, names0 L, by simp, by simp, ⟨by simp [upd, h1], by simp [upd, h2], by simp [upd, h3], by simp <;> omega, by simp [ho3], by simp [ho2]⟩, by simp [upd], by simp [upd], by simp [upd], by simpa using hobj, TkOk.names _ _ _, LenOk.names _, by simp [strip_names]⟩ ?_))
  clear hobj hbase h1 h2 h3 hn ho3 ho2
  rintro k a σ ⟨i, m, hi, rfl, ⟨h1, h2, h3, hn, ho3, ho2⟩, h31, h32, h33, hobj, htk, hlen, hst⟩
  refine Dwp.step tT rfl fun K hK => ?_
  simp [dcall, tabOf, setAt, h32, h33]
  refine hK _ _ ?_ rfl; clear hK K
  by_cases hlt : i < s.below.length
  · refine Dwp.seq (Dwp.condT (by simp [eval, upd, hlt]) (Dwp.skip ?_))
    refine Dwp.seq (Dwp.block ?_)
    refine Dwp.step tT rfl fun K hK => ?_
    simp [dcall, tabOf, setAt, h31, h33, ty23, ty78, hlt, EncR.bel, set2]
    refine hK _ _ ?_ rfl; clear hK K
    have hf := foldBel_take hlt (L.foldl (fun m n => mput n [] m) [])
    generalize s.below[i] = b at *
    obtain ⟨g6, g7⟩ := has87 T g5 htk (byName s.ops) (byName s.funs) b.low
    simp only [mapD] at g6 g7 ho3
    have hn10 : ¬ (10 = σ.n + 1 + 2) := by omega
    have hn2 : ¬ (2 = σ.n + 1 + 2) := by omega
    have hn1 : ¬ (1 = σ.n + 1 + 2) := by omega
    refine Dwp.step tT rfl fun K hK => ?_
    simp [drunL, dwanted, dopS, own, plainOf, dop, dput, eval, ofVal, Then, upd, dload, dpart, TyI.agg, dfieldAddr, dcallee, dbuildRows, growLimit, DV.cells, h3, ho3, hobj, hn10, hn2, hn1, ty58, ty78, ty9, ty22, g7, frz2, frz1, g6, mapD]
    refine hK _ _ ?_ rfl; clear hK K
    have hfin : ∀ (m' : List (ByteArray × Tk)) (a' : Nat → DV) (σ' : St), base87 s L a' σ' → a' 31 = a 31 → a' 32 = a 32 → a' 33 = .lit (.int .i64 ((i : Int) + 1)) → σ'.objs 2 = some (.map (key1 m') (val1 m')) → TkOk σ'.toks σ'.n m' → LenOk (i + 1) m' →
        strip m' = addBel ((s.below.take i).foldl addBel (L.foldl (fun m n => mput n [] m) [])) b → ∃ k', k' < s.below.length - i ∧ inv87b s L k' a' σ' := by
      intro m' a' σ' hb e31 e32 e33 ho' ht' hl' hs'
      exact ⟨s.below.length - (i + 1), by omega, i + 1, m', by omega, rfl, hb, by rw [e31, h31], by rw [e32, h32], by rw [e33]; simp, ho', ht', hl', by rw [hf, hs']⟩
    have hwi : IntKind.i64.wrap ((i : Int) + 1) = (i : Int) + 1 := wrap_small (n := (i : Int) + 1) (by omega) (by omega)
    have hg := strip_get b.low m
    cases hm : mget b.low m with
    | none =>
      rw [hm] at hg
      rw [hg]
      refine Dwp.condF (by simp [eval, upd]) (Dwp.skip ?_)
      refine Dwp.reg tT rfl fun K hK => ?_
      simp [dcall, tabOf, setAt, h33, hwi]
      refine hK _ _ ?_ rfl; clear hK K
      refine hfin m _ _ ⟨by simp [upd, h1], by simp [upd, h2], by simp [upd, h3], by simp <;> omega, by simp [upd, hn10, ho3, mapD], by simp [upd, hn1, ho2]⟩ (by simp [upd]) (by simp [upd]) (by simp [upd]) (by simp [upd, hn2, hobj]) (htk.grow (by simp <;> omega)) (fun p hp => by have := hlen p hp; omega) ?_
      rw [← hst, addBel, hg]; rfl
    | some v =>
      obtain ⟨l, o⟩ := v
      rw [hm] at hg
      rw [hg]
      refine Dwp.condT (by simp [eval, upd]) ?_
      refine Dwp.draw [.none, .robj, .none, .robj, .none, .robj, .none, .robj, .robj, .none, .robj, .none, .tok, .wobj] mixed tT rfl (by decide) fun K hK => ?_
      have hga := get1 b.low m
      rw [hm] at hga
      cases o with
      | none =>
        have hpu := put1 b.low (l ++ [b.high], some (σ.n + 1 + 4 + 5 + 12, 0)) m
        have hl0 : l = [] := htk.nil hm
        subst hl0
        simp only [Option.map_some, Tk.dv, List.nil_append, List.map_cons, List.map_nil] at hga hpu
        simp [drunT, touch, touchP, setAt, h3, ho3, hobj, hn10, hn2, hn1, ty58, ty78, ty9, ty22, ty55, hga, hpu]
        refine hK _ _ ?_ rfl; clear hK K
        refine Dwp.reg tT rfl fun K hK => ?_
        simp [dcall, tabOf, setAt, h33, hwi]
        refine hK _ _ ?_ rfl; clear hK K
        refine hfin (mput b.low ([b.high], some (σ.n + 1 + 4 + 5 + 12, 0)) m) _ _ ⟨by simp [upd, h1], by simp [upd, h2], by simp [upd, h3], by simp <;> omega, by simp [upd, hn10, ho3, mapD], by simp [upd, hn1, ho2]⟩ (by simp [upd]) (by simp [upd]) (by simp [upd]) (by simp [upd]) (TkOk.put (by simp <;> omega) (by simp <;> omega) (by simp <;> omega) htk hm) (hlen.put (by simp)) ?_
        rw [← hst, addBel, hg, strip_put]; rfl
      | some x =>
        obtain ⟨t, g⟩ := x
        obtain ⟨q1, q2⟩ := htk.get hm
        have hlb : l.length ≤ i := hlen _ (mget_mem hm)
        have hlb2 : l.length + 1 ≤ 16777216 := by omega
        have hpu := put1 b.low (l ++ [b.high], some (t, g + 1)) m
        simp only [Option.map_some, Tk.dv, List.map_append, List.map_cons, List.map_nil] at hga hpu
        simp [drunT, touch, touchP, setAt, h3, ho3, hobj, hn10, hn2, hn1, ty58, ty78, ty9, ty22, ty55, hga, hpu, q1, hlb2]
        refine hK _ _ ?_ rfl; clear hK K
        refine Dwp.reg tT rfl fun K hK => ?_
        simp [dcall, tabOf, setAt, h33, hwi]
        refine hK _ _ ?_ rfl; clear hK K
        refine hfin (mput b.low (l ++ [b.high], some (t, g + 1)) m) _ _ ⟨by simp [upd, h1], by simp [upd, h2], by simp [upd, h3], by simp <;> omega, by simp [upd, hn10, ho3, mapD], by simp [upd, hn1, ho2]⟩ (by simp [upd]) (by simp [upd]) (by simp [upd]) (by simp [upd]) (TkOk.put (by simp <;> omega) (by simp <;> omega) rfl htk hm) (hlen.put (by simp <;> omega)) ?_
        rw [← hst, addBel, hg, strip_put]; rfl
  refine Dwp.seq (Dwp.condF (by simp [eval, upd, hlt]) (Dwp.exit ?_))
  simp only [Ex.then, Ex.inBlock, if_true]
  rw [List.take_of_length_le (by omega)] at hst
  refine Dwp.step tT rfl fun K hK => ?_
  simp only [mapD] at ho3
  simp [dcall, tabOf, setAt, h2, h3, ho3, ho2, ty58, set3]
  refine hK _ _ (Dwp.ret ?_) rfl
  have hd1 := dec_tk htk
  have hd2 := fun A => decMap_enc Enc.opd A
  simp only [Enc.opd, Enc.agg] at hd2
  simp [Done, dresults, dres, frz, frz1, frz2, upd, h2, hobj, ty58, dload, dpart, TyI.agg]
  have e1 : (Enc.map Enc.strs).dec (.fmap (key1 m) (val1 m)) = some (strip m) := hd1
  have e2 : ∀ A, (Enc.map Enc.opd).dec (mapD A) = some A := fun A => (Enc.map Enc.opd).de A
  simp only [mapD] at e2
  simp only [Enc.book, Enc.agg, EncR.book, e1, e2, hst, newBook, hLe]
theorem e87 : Go.FA.Good Tryz.prog (87, s87) := ⟨c87, Tryz.f87, _, Tryz.func87, rfl, by decide⟩
theorem e112 : Go.FA.Good Tryz.prog (112, s112) := ⟨c112 e128, Tryz.f112, _, Tryz.func112, rfl, by decide⟩
theorem e88 : Go.FA.Good Tryz.prog (88, s88) := ⟨c88 e112, Tryz.f88, _, Tryz.func88, rfl, by decide⟩
theorem e44 : Go.FA.Good Tryz.prog (44, s44) := ⟨c44 e87 e88, Tryz.f44, _, Tryz.func44, rfl, by decide⟩
end Go.Proofs.Yt
namespace Go.Proofs.Yt
open Go Go.FA Go.Proofs Go.Shelf
set_option maxRecDepth 100000
def ren190 : Go.Shelf.Ren := ⟨fun n => if n = 190 then 98 else if n = 125 then 124 else if n = 258 then 123 else if n = 128 then 146 else if n = 129 then 147 else if n = 302 then 137 else if n = 303 then 138 else if n = 304 then 139 else if n = 305 then 140 else if n = 306 then 141 else if n = 307 then 142 else if n = 308 then 143 else if n = 309 then 144 else if n = 310 then 145 else if n = 333 then 153 else if n = 329 then 154 else if n = 330 then 155 else if n = 334 then 156 else if n = 335 then 157 else if n = 336 then 158 else if n = 344 then 164 else n, fun n => if n = 31 then 22 else if n = 9 then 9 else if n = 3 then 3 else if n = 46 then 118 else if n = 0 then 0 else if n = 51 then 132 else if n = 53 then 134 else if n = 4 then 4 else if n = 183 then 125 else if n = 182 then 124 else if n = 131 then 129 else if n = 5 then 5 else if n = 218 then 141 else if n = 222 then 145 else if n = 228 then 150 else if n = 229 then 151 else n, fun n => n⟩
theorem lays190 : Lays.n190 Tryz.prog ren190 :=
{ mixed := Eq.refl true, f125 := Eq.trans Tryz.func124 (congrArg some (Eq.refl (Body.n125 ren190))),
  f128 := Eq.trans Tryz.func146 (congrArg some (Eq.refl (Body.n128 ren190))),
  f129 := Eq.trans Tryz.func147 (congrArg some (Eq.refl (Body.n129 ren190))),
  f190 := Eq.trans Tryz.func98 (congrArg some (Eq.refl (Body.n190 ren190))),
  f258 := Eq.trans Tryz.func123 (congrArg some (Eq.refl (Body.n258 ren190))),
  f302 := Eq.trans Tryz.func137 (congrArg some (Eq.refl (Body.n302 ren190))),
  f303 := Eq.trans Tryz.func138 (congrArg some (Eq.refl (Body.n303 ren190))),
  f304 := Eq.trans Tryz.func139 (congrArg some (Eq.refl (Body.n304 ren190))),
  f305 := Eq.trans Tryz.func140 (congrArg some (Eq.refl (Body.n305 ren190))),
  f306 := Eq.trans Tryz.func141 (congrArg some (Eq.refl (Body.n306 ren190))),
  f307 := Eq.trans Tryz.func142 (congrArg some (Eq.refl (Body.n307 ren190))),
  f308 := Eq.trans Tryz.func143 (congrArg some (Eq.refl (Body.n308 ren190))),
  f309 := Eq.trans Tryz.func144 (congrArg some (Eq.refl (Body.n309 ren190))),
  f310 := Eq.trans Tryz.func145 (congrArg some (Eq.refl (Body.n310 ren190))),
  f329 := Eq.trans Tryz.func154 (congrArg some (Eq.refl (Body.n329 ren190))),
  f330 := Eq.trans Tryz.func155 (congrArg some (Eq.refl (Body.n330 ren190))),
  f333 := Eq.trans Tryz.func153 (congrArg some (Eq.refl (Body.n333 ren190))),
  f334 := Eq.trans Tryz.func156 (congrArg some (Eq.refl (Body.n334 ren190))),
  f335 := Eq.trans Tryz.func157 (congrArg some (Eq.refl (Body.n335 ren190))),
  f336 := Eq.trans Tryz.func158 (congrArg some (Eq.refl (Body.n336 ren190))),
  f344 := Eq.trans Tryz.func164 (congrArg some (Eq.refl (Body.n344 ren190))), t0 := Tryz.underlying0,
  a0 := Tryz.isAgg0, z0 := Tryz.sizeOf0, v0 := Tryz.zeroValue0, t3 := Tryz.underlying3, a3 := Tryz.isAgg3,
  z3 := Tryz.sizeOf3, v3 := Tryz.zeroValue3, t4 := Tryz.underlying4, a4 := Tryz.isAgg4, z4 := Tryz.sizeOf4,
  v4 := Tryz.zeroValue4, t5 := Tryz.underlying5, a5 := Tryz.isAgg5, z5 := Tryz.sizeOf5, v5 := Tryz.zeroValue5,
  t9 := Tryz.underlying9, a9 := Tryz.isAgg9, z9 := Tryz.sizeOf9, v9 := Tryz.zeroValue9, t31 := Tryz.underlying22,
  a31 := Tryz.isAgg22, z31 := Tryz.sizeOf22, v31 := Tryz.zeroValue22, t46 := Tryz.underlying118, a46 := Tryz.isAgg118,
  z46 := Tryz.sizeOf118, v46 := Tryz.zeroValue118, t51 := Tryz.underlying132, a51 := Tryz.isAgg132,
  z51 := Tryz.sizeOf132, v51 := Tryz.zeroValue132, t53 := Tryz.underlying134, a53 := Tryz.isAgg134,
  z53 := Tryz.sizeOf134, v53 := Tryz.zeroValue134, t131 := Tryz.underlying129, a131 := Tryz.isAgg129,
  z131 := Tryz.sizeOf129, v131 := Tryz.zeroValue129, t182 := Tryz.underlying124, a182 := Tryz.isAgg124,
  z182 := Tryz.sizeOf124, v182 := Tryz.zeroValue124, t183 := Tryz.underlying125, a183 := Tryz.isAgg125,
  z183 := Tryz.sizeOf125, v183 := Tryz.zeroValue125, t218 := Tryz.underlying141, a218 := Tryz.isAgg141,
  z218 := Tryz.sizeOf141, v218 := Tryz.zeroValue141, t222 := Tryz.underlying145, a222 := Tryz.isAgg145,
  z222 := Tryz.sizeOf145, v222 := Tryz.zeroValue145, t228 := Tryz.underlying150, a228 := Tryz.isAgg150,
  z228 := Tryz.sizeOf150, v228 := Tryz.zeroValue150, t229 := Tryz.underlying151, a229 := Tryz.isAgg151,
  z229 := Tryz.sizeOf151, v229 := Tryz.zeroValue151 }
end Go.Proofs.Yt
namespace Go.FA
open Go.RowKit
set_option linter.unusedVariables false
set_option linter.unusedSimpArgs false
variable {P : Program} {T : Tab} {E : Entry} {F : Nat → Prop} {C : Ctx} {w : World} {σ : St} {n : Nat} {Q : Ex → (Nat → DV) → St → Prop} {a : Nat → DV}

theorem box_obj_sound {t : TypeId} {x : DV} {v : Value} {cs : List DV} {id : Nat} (hc : x.cells = some cs) (hv : VRel C w x v) (hs : SRel E F C w σ) (hF : F id) :
    ∃ u w', (Instr.box t v).run P w = .ok u w' ∧ Res E (fun j => F j ∧ j ≠ id) C w { σ with objs := upd σ.objs id (some (.cells t cs)) } (.ptr id 0) u w' := by
  obtain ⟨vs, h1, h2, h3⟩ := cells_rel hc hv
  obtain ⟨C', hle, hst, hob, _, _, _, hs'⟩ := hs.new_obj (id := id) (ob := .cells vs.toArray t) (o := .cells t cs) hF (fun C' hle hst =>
    ⟨vs, heap_alloc_new w _, LRel_mono hle hst _ _ h2, h3⟩)
  refine ⟨.pointer (some ⟨w.heap.size, 0, none⟩), w.alloc (.cells vs.toArray t), ?_, C', hle, hst, ?_, hs'⟩
  · simp [Instr.box, newVar, newRow, h1]
  · simp only [VRel]; exact ⟨_, hob, rfl⟩

/-- a region whose first operation puts a value into a variable that is written later -/
theorem Dwp.boxed {rid : Nat} {ops : Array Oper} {o0 : Oper} {rest : List Oper} {t : TypeId} {x : Operand} {cs : List DV}
    (hT : TabOk P T) (hd : dstsOk n ops = true) (hops : ops.toList = o0 :: rest) (h0 : o0.op = .box t x) (hg : o0.guard = none) (hx : (eval a x).cells = some cs)
    (h1 : ∀ K : (Nat → DV) → St → Prop, (∀ a' σ', Q .normal a' { σ' with n := σ.n + ops.size } → σ'.n = σ.n → K a' σ') →
      Then (drunL P T ops σ.n 1 rest (dput a o0.dst (.ptr σ.n 0)) { σ with objs := upd σ.objs σ.n (some (.cells t cs)) }) K) :
    Dwp P T E n (.region rid ops false) Q a σ := by
  refine ⟨fun ca w ds hok => wp_region ?_⟩
  obtain ⟨hn, C, hf, hs⟩ := hok
  have hsz : ops.size = rest.length + 1 := by have := congrArg List.length hops; simpa using this
  have ho0 : ops[0]? = some o0 := by
    have : ops.toList[0]? = some o0 := by rw [hops]; rfl
    simpa using this
  have hrest : ∀ j, rest[j]? = ops[1 + j]? := fun j => by
    have : ops.toList[j + 1]? = rest[j]? := by rw [hops]; simp
    rw [← this, Nat.add_comm]; simp
  have hrange : List.range ops.size = 0 :: List.range' 1 rest.length := by
    rw [List.range_eq_range', hsz, List.range'_succ]
  rw [hrange]
  simp only [wpOps, ho0]
  rw [if_pos (by unfold Region.wanted; rw [hg])]
  left
  have hdst : ∀ t, o0.dst = some t → t < ca.size := by
    intro t ht
    have hm : o0 ∈ ops.toList := by rw [hops]; simp
    have := List.all_eq_true.1 hd o0 hm
    rw [ht] at this; rw [hn]; simpa using this
  have hop : (execOp (Act.eval ⟨ca, ds⟩) o0) = (do pure (.value (← Instr.box t (Act.eval ⟨ca, ds⟩ x)))) := by
    simp only [execOp, h0]
  obtain ⟨u, w', hrun, C', hle, hst, hv, hS⟩ := box_obj_sound (P := P) (t := t) (id := σ.n) hx (eval_rel (ds := ds) hf x) hs (Nat.le_refl _)
  unfold Oper.wp Oper.upon
  have hr : (execOp (Act.eval ⟨ca, ds⟩) o0).run P w = .ok (.value u) w' := by rw [hop]; simp only [Sem.run_bind, hrun, Result.andThen_ok, Sem.run_pure]
  rw [hr]
  have hK1 := h1 _ fun _ _ q1 q2 => And.intro q1 q2
  unfold Then at hK1
  split at hK1
  · next a' σ' heq =>
    rw [drunL_eq P T ops σ.n rest 1 _ _ hrest] at heq
    simp only []
    rw [put_eq]
    refine drunO_sound (E := E) hT hd (List.range' 1 rest.length) _ _ _ _ _ _ List.nodup_range' (fun i hi => by rw [List.mem_range'] at hi; omega) heq
      ⟨by rw [put_size]; exact hn, C', (hf.mono hle hst).put hv hdst, hS.fewer fun i hi => ?_⟩ fun ca' w'' hok' => ?_
    · rcases hi with ⟨j, hj, rfl⟩ | hi
      · rw [List.mem_range'] at hj
        obtain ⟨i, hi1, rfl⟩ := hj
        constructor <;> omega
      · constructor <;> omega
    · obtain ⟨hn', C'', hf', hs'⟩ := hok'
      refine ⟨rfl, .normal, a', _, rfl, hK1.1, hn', C'', hf', ?_⟩
      exact ⟨hs'.lo, hs'.below, hs'.bsize, hs'.pB, hs'.mB, hs'.psup, hs'.msup, hs'.psub, hs'.msub, hs'.obj, hs'.inj, hs'.tok, hs'.tinj, hs'.tobj, fun i hi => hs'.fresh i (.inr (by rw [hK1.2] at *; exact hi))⟩
  · exact hK1.elim
end Go.FA
namespace Go.FA
open Go.RowKit Go.Sort Go.Proofs
set_option linter.unusedVariables false
set_option linter.unusedSimpArgs false
variable {P : Program} {T : Tab} {E : Entry} {F : Nat → Prop} {C : Ctx} {w : World} {σ : St} {n : Nat} {Q : Ex → (Nat → DV) → St → Prop} {a : Nat → DV}

/-- the contract of the library's sort of strings -/
structure SortsS (P : Program) (f : FuncId) : Prop where
  some : ∀ (blk off cap : Nat) (ss : List (List UInt8)) (w : World), Holds encStr w blk off ss.toArray → blk < w.heap.size → ss.length < 4611686018427387904 →
    Calls P f #[.slice (some ⟨blk, off, none⟩) ss.length cap] w fun e w' => e = .returned (.tuple #[]) ∧ ∃ n os, w' = grow (putRow encStr (Sort.ahead w n) blk off (ss.mergeSort fun x y => decide (x ≤ y)).toArray) os
  none : ∀ (p : Option Addr) (cap : Nat) (w : World), Calls P f #[.slice p 0 cap] w fun e w' => e = .returned (.tuple #[]) ∧ w' = w

def bl (s : ByteArray) : List UInt8 := s.data.toList
def lb (l : List UInt8) : ByteArray := ⟨l.toArray⟩
theorem lb_bl (s : ByteArray) : lb (bl s) = s := rfl
theorem bl_lb (l : List UInt8) : bl (lb l) = l := rfl
/-- strings in order -/
def sortB (l : List ByteArray) : List ByteArray := ((l.map bl).mergeSort fun x y => decide (x ≤ y)).map lb
theorem length_sortB (l : List ByteArray) : (sortB l).length = l.length := by simp [sortB]
def rowsS (l : List ByteArray) : List (List DV) := l.map fun x => [DV.lit (.string x)]

theorem rows_cells {b : Nat} : ∀ (l : List ByteArray) (o : Nat), RRel C w 1 b o (rowsS l) → ∀ j x, l[j]? = some x → w.cell? ⟨b, o + j, none⟩ = some (.string x)
  | [], o, h, j, x, hx => by simp at hx
  | y :: l, o, h, j, x, hx => by
    simp only [rowsS, List.map_cons, RRel] at h
    cases j with
    | zero =>
      simp at hx; subst hx
      have := h.2.1
      simp only [CRel, VRel] at this
      obtain ⟨⟨_, v, h1, _, h2⟩, _⟩ := this
      rw [h2] at h1; exact h1
    | succ j =>
      have := rows_cells l (o + 1) h.2.2 j x (by simpa using hx)
      rwa [show o + 1 + j = o + (j + 1) by omega] at this
theorem cells_rows {b : Nat} : ∀ (l : List ByteArray) (o : Nat), (∀ j x, l[j]? = some x → C.pc b (o + j) ∧ w.cell? ⟨b, o + j, none⟩ = some (.string x)) → RRel C w 1 b o (rowsS l)
  | [], o, h => by simp [rowsS, RRel]
  | y :: l, o, h => by
    simp only [rowsS, List.map_cons, RRel, CRel, VRel]
    have h0 := h 0 y rfl
    refine ⟨rfl, ⟨⟨h0.1, _, h0.2, rfl, rfl⟩, trivial⟩, cells_rows l (o + 1) fun j x hx => ?_⟩
    have := h (j + 1) x (by simpa using hx)
    rwa [show o + (j + 1) = o + 1 + j by omega] at this

theorem Dwp.sortS {f : FuncId} (hs : SortsS P f) (hfn : ∃ fn c, P.funcs[f]? = some fn ∧ fn.body = some c ∧ fn.name ≠ "runtime.NumGoroutine") {rid : Nat} {ops : Array Oper} {o0 o1 : Oper} {s d0 : Tmp} {tys : Array TypeId}
    (hops : ops = #[o0, o1]) (h0 : o0.op = .move (.tmp s)) (hd0 : o0.dst = some d0) (hg0 : o0.guard = none) (h1 : o1.op = .call ⟨.value (.func f), #[.tmp d0], tys⟩) (hg1 : o1.guard = none) (hne : s ≠ d0) (hd1 : o1.dst ≠ some s)
    (hd : dstsOk n ops = true) (l : List ByteArray) (ha : (a s = .lit (.slice none 0 0) ∧ l = []) ∨ ∃ t g, a s = .slice 1 (.tok t g) (rowsS l)) (hl : l.length < 1099511627776)
    (h : Q .normal (fun t => if t = s then .slice 1 .none (rowsS (sortB l)) else .junk) { n := σ.n + ops.size, objs := fun _ => none, toks := fun _ => none }) :
    Dwp P T E n (.region rid ops false) Q a σ := by
  subst hops
  refine ⟨fun ca w ds hok => wp_region ?_⟩
  obtain ⟨hn, C, hf, hS⟩ := hok
  have hb0 : d0 < ca.size := by
    have := List.all_eq_true.1 hd o0 (by simp)
    rw [hd0] at this; rw [hn]; simpa using this
  have hr : List.range (#[o0, o1] : Array Oper).size = [0, 1] := rfl
  rw [hr]
  simp only [wpOps, List.getElem?_toArray, List.getElem?_cons_zero, List.getElem?_cons_succ]
  rw [if_pos (by unfold Region.wanted; rw [hg0])]
  left
  have e0 : (execOp (Act.eval ⟨ca, ds⟩) o0).run P w = .ok (.value (ca.getD s undef)) w := by simp only [execOp, h0]; rfl
  unfold Oper.wp
  rw [e0]
  show (if Region.wanted o1 _ = true then _ else _)
  rw [if_pos (by unfold Region.wanted; rw [hg1])]
  left
  generalize hca : (Act.put ⟨ca, ds⟩ o0.dst (ca.getD s undef)) = act1
  have hact : act1 = ⟨ca.setIfInBounds d0 (ca.getD s undef), ds⟩ := by
    rw [← hca, hd0]; simp [Act.put]
  have hev : Act.eval act1 (.tmp d0) = ca.getD s undef := by
    rw [hact]; simp [Act.eval, hb0]
  have e1 : (execOp (Act.eval act1) o1).run P w = .ok (.enter f #[ca.getD s undef]) w := by
    obtain ⟨fn, c, q1, q2, q3⟩ := hfn
    have : Act.eval act1 (.func f) = .func (.func f) #[] #[] := rfl
    simp only [execOp, h1, resolve, this, Deferred.ofValue, Sem.run_bind, Sem.run_pure, Result.andThen_ok, invoke, callFunc, run_program, q1]
    simp [q2, q3, hev]
  rw [e1]
  unfold Oper.upon
  have hv := hf s
  generalize hvv : ca.getD s undef = v at *
  -- what is left behind
  have fin : ∀ (C' : Ctx) (w' : World) (r : Value), SRel E (fun i => σ.n + 2 ≤ i) C' w' { n := σ.n + 2, objs := fun _ => none, toks := fun _ => none } → VRel C' w' (.slice 1 .none (rowsS (sortB l))) v →
      Post E n ds Q .normal (act1.put o1.dst r) w' := by
    intro C' w' r hS' hv'
    rw [hact, put_eq]
    refine ⟨rfl, .normal, _, _, rfl, h, ?_, C', ?_, hS'⟩
    · rw [put_size]; simp [hn]
    · intro t
      by_cases ht : t = s
      · subst ht
        simp only [if_true]
        have hg : (Act.put ⟨ca.setIfInBounds d0 v, ds⟩ o1.dst r).tmps.getD t undef = v := by
          unfold Act.put
          cases hdd : o1.dst with
          | none => simp [Array.getD_eq_getD_getElem?, Array.getElem?_setIfInBounds, Ne.symm hne]; simpa [Array.getD_eq_getD_getElem?] using hvv
          | some d => 
            have hdt : d ≠ t := fun e => hd1 (by rw [hdd, e])
            simp [Array.getD_eq_getD_getElem?, Array.getElem?_setIfInBounds, Ne.symm hne, hdt]; simpa [Array.getD_eq_getD_getElem?] using hvv
        rw [hg]; exact hv'
      · simp only [ht, if_false, VRel]
  have lone : ∀ (w' : World) (C' : Ctx), C'.lo = E.B → Below E.B w w' → (∀ b o, E.P0 b o → C'.pc b o) → (∀ b, E.M0 b → C'.pm b) → (∀ b o, C'.pc b o → E.P0 b o ∨ (E.B ≤ b ∧ b < w'.heap.size)) → (∀ b, C'.pm b → E.M0 b) →
      (∀ i, C'.obj i = none ∧ C'.tk i = none) → SRel E (fun i => σ.n + 2 ≤ i) C' w' { n := σ.n + 2, objs := fun _ => none, toks := fun _ => none } := by
    intro w' C' q0 q1 q2 q3 q4 q5 q6
    exact ⟨q0, hS.below.trans q1, Nat.le_trans hS.bsize q1.size, hS.pB, hS.mB, q2, q3, q4, fun b p => .inl (q5 b p), fun i o hi => by simp at hi, fun i j oi oj b hi => by simp at hi, fun t g ht => by simp at ht, fun t t' g g' x x' ht => by simp at ht, fun t g x i o ht => by simp at ht, fun i _ => q6 i⟩
  have empty : ∀ ad : Option Addr, v = .slice ad 0 0 → l = [] → Calls P f #[v] w fun e w' => e = .returned (.tuple #[]) ∧ Post E n ds Q .normal (act1.put o1.dst (.tuple #[])) w' := by
    intro ad hve hle
    rw [hve]
    refine (hs.none ad 0 w).mono ?_
    rintro e w' ⟨rfl, rfl⟩
    refine ⟨rfl, fin ⟨fun _ => none, fun _ => none, E.P0, E.M0, E.B⟩ w' _ (lone w' _ rfl (Below.refl _ _) (fun _ _ p => p) (fun _ p => p) (fun _ _ p => .inl p) (fun _ p => p) fun _ => ⟨rfl, rfl⟩) ?_⟩
    subst hle
    simp only [VRel]
    exact .inr ⟨ad, hve, by simp [sortB, rowsS], trivial⟩
  rcases ha with ⟨ha, hle⟩ | ⟨t, g, ha⟩
  · rw [ha] at hv
    simp only [VRel] at hv
    refine (empty _ hv hle).mono ?_
    rintro e w' ⟨rfl, hp⟩; exact hp
  · rw [ha] at hv
    simp only [VRel] at hv
    rcases hv with ⟨b, o, cap, hve, hcap, hR, _, how, c, e, hc⟩ | ⟨ad, hve, hle, _⟩
    · have hlt : b < w.heap.size := by
        rcases Nat.lt_or_ge b w.heap.size with r | r
        · exact r
        · simp [Array.getElem?_eq_none r] at hc
      have hlen : (rowsS l).length = (l.map bl).length := by simp [rowsS]
      have hH : Holds encStr w b o (l.map bl).toArray := by
        intro j hj
        have hjl : j < l.length := by simpa using hj
        refine ⟨?_, ?_⟩
        · have := rows_cells l o hR j l[j] (by simp [hjl])
          rw [this]
          simp [hjl, encStr, bl]
        · simp [World.frozen?, hc]
      rw [hve, hlen]
      refine (hs.some b o cap (l.map bl) w hH hlt (by simp; omega)).mono ?_
      rintro e w' ⟨rfl, m, os, rfl⟩
      obtain ⟨ls, hls⟩ : ∃ ls, ls = (l.map bl).mergeSort fun x y => decide (x ≤ y) := ⟨_, rfl⟩
      have hlsl : ls.length = l.length := by rw [hls]; simp
      rw [← hls]
      have hsz : (putRow encStr (Sort.ahead w m) b o ls.toArray).heap.size = w.heap.size := by simp
      have hcell : ∀ (j : Nat) (x : ByteArray), (sortB l)[j]? = some x → (grow (putRow encStr (Sort.ahead w m) b o ls.toArray) os).cell? ⟨b, o + j, none⟩ = some (.string x) := by
        intro j x hx
        have hjl : j < ls.length := by
          have : j < (sortB l).length := by
            rcases Nat.lt_or_ge j (sortB l).length with q | q
            · exact q
            · simp [List.getElem?_eq_none q] at hx
          rw [length_sortB] at this; omega
        rw [cell?_grow _ _ _ (by rw [hsz]; exact hlt), cell?_putRow encStr (Sort.ahead w m) b o (l.map bl).toArray ls.toArray (holds_ahead _ _ _ _ _ _ hH) (by simp [hlsl]) j (by simpa using hjl)]
        simp only [sortB, ← hls, List.getElem?_map, List.getElem?_eq_getElem hjl, Option.map_some, Option.some.injEq] at hx
        rw [← hx]
        simp [hjl, encStr, lb]
      have hbel : Below E.B w (grow (putRow encStr (Sort.ahead w m) b o ls.toArray) os) := by
        refine ⟨rfl, rfl, rfl, by rw [size_grow, hsz]; omega, fun k hk => ?_⟩
        have hkb : k ≠ b := by have := hS.lo; omega
        have hks : k < w.heap.size := by have := hS.bsize; omega
        rw [heap_grow_old _ _ (by rw [hsz]; exact hks)]
        simp [putRow, mapBlock, Array.getElem?_modify, Ne.symm hkb]
      refine fin ⟨fun _ => none, fun _ => none, fun k j => E.P0 k j ∨ (k = b ∧ o ≤ j), E.M0, E.B⟩ _ _ (lone _ _ rfl hbel (fun _ _ p => .inl p) (fun _ p => p) (fun k j p => p.imp (fun q => q) fun q => by rw [q.1, size_grow, hsz]; exact ⟨by have := hS.lo; omega, by omega⟩) (fun _ p => p) fun _ => ⟨rfl, rfl⟩) ?_
      have hls2 : (rowsS (sortB l)).length = (rowsS l).length := by simp [rowsS, length_sortB]
      simp only [VRel]
      refine .inl ⟨b, o, cap, by rw [hve, hls2], by rw [hls2]; exact hcap, cells_rows _ _ fun j x hx => ⟨.inr ⟨rfl, by omega⟩, hcell j x hx⟩, trivial⟩
    · refine (empty ad hve (by simpa [rowsS] using hle)).mono ?_
      rintro e w' ⟨rfl, hp⟩; exact hp
end Go.FA
namespace Go.Proofs.Yt
open Go Go.FA Go.Proofs
set_option linter.unusedVariables false
set_option linter.unusedSimpArgs false
set_option maxRecDepth 100000

theorem e12 : Go.FA.Good Tryz.prog (12, s12) := ⟨c12 e44, Tryz.f12, _, Tryz.func12, rfl, by decide⟩
theorem e14 : Go.FA.Good Tryz.prog (14, s14) := ⟨c14 e44, Tryz.f14, _, Tryz.func14, rfl, by decide⟩
theorem e16 : Go.FA.Good Tryz.prog (16, s16) := ⟨c16 e44, Tryz.f16, _, Tryz.func16, rfl, by decide⟩
theorem e40 : Go.FA.Good Tryz.prog (40, s40) := ⟨c40 e14, Tryz.f40, _, Tryz.func40, rfl, by decide⟩
theorem sorts98 : SortsS Tryz.prog 98 := ⟨fun blk off cap ss w h1 h2 h3 => Any.slices_Sort_string lays190 blk off cap ss w h1 h2 h3, fun p cap w => Any.slices_Sort_string_none lays190 p cap w⟩

def OpD.fits (o : OpD) : Prop := o.args.length ≤ 1048576 ∧ o.pieces.length ≤ 1048576 ∧ o.strict.length ≤ 1048576
instance (o : OpD) : Decidable o.fits := by unfold OpD.fits; infer_instance
def s96 : Sp := sp (arg1 Enc.opd) Enc.opd (fun o => if o.fits then some o else none)
abbrev T96 : Tab := tabOf [(120, s120), (121, s121), (122, s122)]
theorem t96 : TabOk Tryz.prog T96 := .cons e120 (.cons e121 (.cons e122 .nil))
theorem piesC (l : List Pie) : Enc.pies.enc l = .slice 2 .none (l.map EncR.pie.enc) := rfl
theorem intsC (l : List Int) : Enc.ints.enc l = .slice 1 .none (l.map fun n => [DV.lit (.int .i64 n)]) := rfl
theorem setA1 (o : OpD) : setAt (EncR.opd.enc o) 1 [.slice 1 .none (o.args.map fun s => [DV.lit (.string s)])] = EncR.opd.enc o := rfl
theorem setA3 (o : OpD) : setAt (EncR.opd.enc o) 3 [.slice 2 .none (o.pieces.map EncR.pie.enc)] = EncR.opd.enc o := rfl
theorem setA6 (o : OpD) : setAt (EncR.opd.enc o) 6 [.slice 1 .none (o.strict.map fun n => [DV.lit (.int .i64 n)])] = EncR.opd.enc o := rfl
theorem frzOpd (σ : St) (o : OpD) : (EncR.opd.enc o).map (frz1 σ) = EncR.opd.enc o := rfl
attribute [local simp] drunL drunO dwanted dopS own plainOf dop dput eval ofVal Then Ex.then Ex.inBlock upd dbin Tag.isNN nilTest intCmp dload dpart TyI.agg dfieldAddr dfield dindexAddr dindex dlen lenOk dlookup mapOf keyFits dmapUpdate dcallee dbuiltin dstore DV.cells dslice dboundOk dappend appTag rowsOf elemOk growLimit dbuildCells dbuildCells.go structOk fieldsOk dbuildRows goInt
theorem c96 : CallSound Tryz.prog 96 s96 := by
  refine CallSound.of_sp (T := T96) Tryz.func96 rfl (Nat.le_of_ble_eq_true rfl) fun E o y hy => ?_
  by_cases hfit : o.fits <;> simp [hfit] at hy
  subst hy
  obtain ⟨f1, f2, f3⟩ := hfit
  have g1 : dcall T96 120 [Enc.strs.enc o.args] = some (Enc.strs.enc o.args) := dcall1 (A := Enc.strs) (B := Enc.strs) rfl (by simp [f1])
  have g2 : dcall T96 121 [Enc.pies.enc o.pieces] = some (Enc.pies.enc o.pieces) := dcall1 (A := Enc.pies) (B := Enc.pies) rfl (by simp [f2])
  have g3 : dcall T96 122 [Enc.ints.enc o.strict] = some (Enc.ints.enc o.strict) := dcall1 (A := Enc.ints) (B := Enc.ints) rfl (by simp [f3])
  simp only [strsC, piesC, intsC] at g1 g2 g3
  have tT := t96
  generalize T96 = T at *
  refine Dwp.seq (Dwp.boxed (cs := EncR.opd.enc o) tT rfl rfl rfl rfl rfl fun K hK => ?_)
  simp [setAt, ty38]
  refine hK _ _ ?_ rfl; clear hK K
  refine Dwp.step tT rfl fun K hK => ?_
  simp [ty38, ty22, strsC, g1, setA1]
  refine hK _ _ ?_ rfl; clear hK K
  refine Dwp.step tT rfl fun K hK => ?_
  simp [ty38, ty34, piesC, g2, setA3]
  refine hK _ _ ?_ rfl; clear hK K
  refine Dwp.step tT rfl fun K hK => ?_
  simp [ty38, ty36, intsC, g3, setA6]
  refine hK _ _ ?_ rfl; clear hK K
  refine Dwp.step tT rfl fun K hK => ?_
  simp [ty38, setOpd]
  refine hK _ _ (Dwp.ret ?_) rfl
  have := EncR.opd.de o
  simp [Done, dresults, dres, frz, frz1, frz2, upd, dload, dpart, TyI.agg, ty38, Enc.opd, Enc.agg, frzOpd, this]
theorem e96 : Go.FA.Good Tryz.prog (96, s96) := ⟨c96, Tryz.f96, _, Tryz.func96, rfl, by decide⟩

/-- an operator and an error's number -/
def Enc.opErr : Enc (OpD × Int) := Enc.tup (arg2 Enc.opd Enc.i64)
def noOp : OpD := ⟨⟨#[]⟩, [], ⟨#[]⟩, [], 0, 0, []⟩
def noOpD : List DV := [.lit (.string ⟨#[]⟩), .lit (.slice none 0 0), .lit (.string ⟨#[]⟩), .lit (.slice none 0 0), .lit (.int .i64 0), .lit (.int .i64 0), .lit (.slice none 0 0)]
theorem decNo : EncR.opd.dec noOpD = some noOp := rfl
def lookF (m : List (ByteArray × OpD)) (k : ByteArray) : Option (OpD × Int) := match mget k m with
  | some o => if o.fits then some (o, 0) else none
  | none => some (noOp, 4)
def s58 : Sp := sp (arg2 (Enc.map Enc.opd) Enc.str) Enc.opErr (fun x => lookF x.1 x.2)
theorem setO (o : OpD) : setAt noOpD 0 (EncR.opd.enc o) = EncR.opd.enc o := rfl
theorem setN : setAt noOpD 0 noOpD = noOpD := rfl
abbrev T58 : Tab := tabOf [(96, s96)]
theorem c58 : CallSound Tryz.prog 58 s58 := by
  have t58 : TabOk Tryz.prog T58 := .cons e96 .nil
  refine CallSound.of_sp (T := T58) Tryz.func58 rfl (Nat.le_of_ble_eq_true rfl) fun E x y hy => ?_
  obtain ⟨m, k⟩ := x
  simp only [lookF] at hy
  have hA := assoc_enc Enc.opd k m
  have setO' := setO
  have setN' := setN
  have decNo' := decNo
  simp only [noOpD] at setO' setN' decNo'
  cases hm : mget k m with
  | none =>
    rw [hm] at hy hA
    cases hy
    refine Dwp.step t58 rfl fun K hK => ?_
    simp [dcall, tabOf, setAt, ty38]
    refine hK _ _ ?_ rfl; clear hK K
    refine Dwp.step t58 rfl fun K hK => ?_
    simp [init, arg2, EncR.and, EncR.one, Enc.map, Enc.str, ty56, ty9, ty38, hA, setN']
    refine hK _ _ ?_ rfl; clear hK K
    refine Dwp.seq ?_
    refine Dwp.step t58 rfl fun K hK => ?_
    simp [dcall, tabOf, setAt]
    refine hK _ _ ?_ rfl; clear hK K
    refine Dwp.condT (by simp [eval, upd]) ?_
    refine Dwp.step t58 rfl fun K hK => ?_
    simp [ty38, setN']
    refine hK _ _ (Dwp.ret ?_) rfl
    simp [Done, dresults, dres, frz, frz1, frz2, Ex.then, upd, dload, dpart, TyI.agg, ty38, Enc.opErr, Enc.tup, arg2, EncR.and, EncR.one, Enc.opd, Enc.agg, Enc.i64, Enc.int, setN', decNo']
  | some o =>
    rw [hm] at hy hA
    simp only [] at hy
    split at hy
    case isFalse => cases hy
    next hf =>
    cases hy
    simp only [Enc.opd, Enc.agg, Option.map_some] at hA
    have g : dcall T58 96 [.agg (EncR.opd.enc o)] = some (.agg (EncR.opd.enc o)) := dcall1 (A := Enc.opd) (B := Enc.opd) rfl (if_pos hf)
    refine Dwp.step t58 rfl fun K hK => ?_
    simp [dcall, tabOf, setAt, ty38]
    refine hK _ _ ?_ rfl; clear hK K
    refine Dwp.step t58 rfl fun K hK => ?_
    simp [init, arg2, EncR.and, EncR.one, Enc.map, Enc.str, ty56, ty9, ty38, hA, Enc.opd, Enc.agg, setO']
    refine hK _ _ ?_ rfl; clear hK K
    refine Dwp.seq ?_
    refine Dwp.step t58 rfl fun K hK => ?_
    simp [dcall, tabOf, setAt]
    refine hK _ _ ?_ rfl; clear hK K
    refine Dwp.condF (by simp [eval, upd]) (Dwp.skip ?_)
    refine Dwp.step t58 rfl fun K hK => ?_
    generalize T58 = T at *
    simp [ty38, g, setO']
    refine hK _ _ (Dwp.ret ?_) rfl
    have := EncR.opd.de o
    simp [Done, dresults, dres, frz, frz1, frz2, Ex.then, upd, dload, dpart, TyI.agg, ty38, Enc.opErr, Enc.tup, arg2, EncR.and, EncR.one, Enc.opd, Enc.agg, Enc.i64, Enc.int, setO', frzOpd, this]
theorem e58 : Go.FA.Good Tryz.prog (58, s58) := ⟨c58, Tryz.f58, _, Tryz.func58, rfl, by decide⟩
end Go.Proofs.Yt
namespace Go.Proofs.Yt
open Go Go.FA Go.Proofs
set_option linter.unusedVariables false
set_option linter.unusedSimpArgs false
set_option maxRecDepth 100000
abbrev T22 : Tab := tabOf [(44, s44), (58, s58)]

def findF22 (s : SigD) (k : ByteArray) : Option (OpD × Int) := match openF s [] with
  | some (some b, e) => if e = 0 then lookF b.ops k else none
  | some (none, e) => if e = 0 then none else some (noOp, e)
  | none => none
def s22 : Sp := sp (arg2 Enc.sigd Enc.str) Enc.opErr (fun x => findF22 x.1 x.2)
attribute [local simp] drunL drunO dwanted dopS own plainOf dop dput eval ofVal Then Ex.then Ex.inBlock upd dbin Tag.isNN nilTest intCmp dload dpart TyI.agg dfieldAddr dfield dindexAddr dindex dlen lenOk dlookup mapOf keyFits dmapUpdate dcallee dbuiltin dstore DV.cells dslice dboundOk dappend appTag rowsOf elemOk growLimit dbuildCells dbuildCells.go structOk fieldsOk dbuildRows goInt
theorem c22 : CallSound Tryz.prog 22 s22 := by
  have tt : TabOk Tryz.prog T22 := .cons e44 (.cons e58 .nil)
  refine CallSound.of_sp (T := T22) Tryz.func22 rfl (Nat.le_of_ble_eq_true rfl) fun E x y hy => ?_
  obtain ⟨s, k⟩ := x
  have setO' := setO
  have setN' := setN
  have decNo' := decNo
  simp only [noOpD] at setO' setN' decNo'
  simp only [findF22] at hy
  cases hr : openF s [] with
  | none => rw [hr] at hy; cases hy
  | some r =>
  rw [hr] at hy
  have g := call44 T22 rfl s (.lit (.slice none 0 0)) [] r rfl hr
  have g2 : T22 58 = some s58 := rfl
  generalize T22 = T at *
  refine Dwp.step tt rfl fun K hK => ?_
  simp [setAt, init, arg2, EncR.and, EncR.one, Enc.sigd, Enc.agg, ty38]
  refine hK _ _ ?_ rfl; clear hK K
  refine Dwp.step tt rfl fun K hK => ?_
  obtain ⟨o, e⟩ := r
  cases o with
  | none =>
    simp only [Enc.opened, noBook] at g
    simp only [] at hy
    split at hy
    case isTrue => cases hy
    next he =>
    cases hy
    have he' : (e != 0) = true := by simp [he]
    simp [drunL, dwanted, dopS, own, dop, dput, eval, ofVal, Then, upd, dload, dpart, TyI.agg, ty26, ty58, dcallee, g, DV.cells, dstore, setNo]
    refine hK _ _ ?_ rfl; clear hK K
    refine Dwp.seq ?_
    refine Dwp.step tt rfl fun K hK => ?_
    simp [drunL, dwanted, dopS, own, dop, dput, eval, ofVal, Then, upd, dbin, intCmp, he']
    refine hK _ _ ?_ rfl; clear hK K
    refine Dwp.condT (by simp [eval, upd]) ?_
    refine Dwp.step tt rfl fun K hK => ?_
    simp [ty38, setN']
    refine hK _ _ (Dwp.ret ?_) rfl
    simp [Done, dresults, dres, frz, frz1, frz2, Ex.then, upd, dload, dpart, TyI.agg, ty38, Enc.opErr, Enc.tup, arg2, EncR.and, EncR.one, Enc.opd, Enc.agg, Enc.i64, Enc.int, setN', decNo']
  | some b =>
    simp only [Enc.opened, Enc.book, Enc.agg] at g
    simp only [] at hy
    split at hy
    case isFalse => cases hy
    next he =>
    subst he
    simp [drunL, dwanted, dopS, own, dop, dput, eval, ofVal, Then, upd, dload, dpart, TyI.agg, ty26, ty58, dcallee, g, DV.cells, dstore, setBook]
    refine hK _ _ ?_ rfl; clear hK K
    refine Dwp.seq ?_
    refine Dwp.step tt rfl fun K hK => ?_
    simp [drunL, dwanted, dopS, own, dop, dput, eval, ofVal, Then, upd, dbin, intCmp]
    refine hK _ _ ?_ rfl; clear hK K
    refine Dwp.condF (by simp [eval, upd]) (Dwp.skip ?_)
    obtain ⟨o, e⟩ := y
    have g3 : dcall T 58 [(Enc.map Enc.opd).enc b.ops, .lit (.string k)] = some (Enc.opErr.enc (o, e)) := dcall2 (A := Enc.map Enc.opd) (B := Enc.str) (C := Enc.opErr) g2 hy
    simp only [Enc.map, Enc.opErr, Enc.tup, Enc.opd, Enc.agg, arg2, EncR.and, EncR.one, Enc.i64, Enc.int] at g3
    refine Dwp.step tt rfl fun K hK => ?_
    simp [init, arg2, EncR.and, EncR.one, Enc.str, EncR.book, Enc.map, ty58, ty56, ty38, Enc.opd, Enc.agg, g3, setO']
    refine hK _ _ (Dwp.ret ?_) rfl
    have := EncR.opd.de o
    simp [Done, dresults, dres, frz, frz1, frz2, Ex.then, upd, dload, dpart, TyI.agg, ty38, Enc.opErr, Enc.tup, arg2, EncR.and, EncR.one, Enc.opd, Enc.agg, Enc.i64, Enc.int, setO', frzOpd, this]
theorem e22 : Go.FA.Good Tryz.prog (22, s22) := ⟨c22, Tryz.f22, _, Tryz.func22, rfl, by decide⟩

def findF25 (s : SigD) (k : ByteArray) : Option (OpD × Int) := match openF s [] with
  | some (some b, e) => if e = 0 then lookF b.funs k else none
  | some (none, e) => if e = 0 then none else some (noOp, e)
  | none => none
def s25 : Sp := sp (arg2 Enc.sigd Enc.str) Enc.opErr (fun x => findF25 x.1 x.2)
theorem c25 : CallSound Tryz.prog 25 s25 := by
  have tt : TabOk Tryz.prog T22 := .cons e44 (.cons e58 .nil)
  refine CallSound.of_sp (T := T22) Tryz.func25 rfl (Nat.le_of_ble_eq_true rfl) fun E x y hy => ?_
  obtain ⟨s, k⟩ := x
  have setO' := setO
  have setN' := setN
  have decNo' := decNo
  simp only [noOpD] at setO' setN' decNo'
  simp only [findF25] at hy
  cases hr : openF s [] with
  | none => rw [hr] at hy; cases hy
  | some r =>
  rw [hr] at hy
  have g := call44 T22 rfl s (.lit (.slice none 0 0)) [] r rfl hr
  have g2 : T22 58 = some s58 := rfl
  generalize T22 = T at *
  refine Dwp.step tt rfl fun K hK => ?_
  simp [setAt, init, arg2, EncR.and, EncR.one, Enc.sigd, Enc.agg, ty38]
  refine hK _ _ ?_ rfl; clear hK K
  refine Dwp.step tt rfl fun K hK => ?_
  obtain ⟨o, e⟩ := r
  cases o with
  | none =>
    simp only [Enc.opened, noBook] at g
    simp only [] at hy
    split at hy
    case isTrue => cases hy
    next he =>
    cases hy
    have he' : (e != 0) = true := by simp [he]
    simp [drunL, dwanted, dopS, own, dop, dput, eval, ofVal, Then, upd, dload, dpart, TyI.agg, ty26, ty58, dcallee, g, DV.cells, dstore, setNo]
    refine hK _ _ ?_ rfl; clear hK K
    refine Dwp.seq ?_
    refine Dwp.step tt rfl fun K hK => ?_
    simp [drunL, dwanted, dopS, own, dop, dput, eval, ofVal, Then, upd, dbin, intCmp, he']
    refine hK _ _ ?_ rfl; clear hK K
    refine Dwp.condT (by simp [eval, upd]) ?_
    refine Dwp.step tt rfl fun K hK => ?_
    simp [ty38, setN']
    refine hK _ _ (Dwp.ret ?_) rfl
    simp [Done, dresults, dres, frz, frz1, frz2, Ex.then, upd, dload, dpart, TyI.agg, ty38, Enc.opErr, Enc.tup, arg2, EncR.and, EncR.one, Enc.opd, Enc.agg, Enc.i64, Enc.int, setN', decNo']
  | some b =>
    simp only [Enc.opened, Enc.book, Enc.agg] at g
    simp only [] at hy
    split at hy
    case isFalse => cases hy
    next he =>
    subst he
    simp [drunL, dwanted, dopS, own, dop, dput, eval, ofVal, Then, upd, dload, dpart, TyI.agg, ty26, ty58, dcallee, g, DV.cells, dstore, setBook]
    refine hK _ _ ?_ rfl; clear hK K
    refine Dwp.seq ?_
    refine Dwp.step tt rfl fun K hK => ?_
    simp [drunL, dwanted, dopS, own, dop, dput, eval, ofVal, Then, upd, dbin, intCmp]
    refine hK _ _ ?_ rfl; clear hK K
    refine Dwp.condF (by simp [eval, upd]) (Dwp.skip ?_)
    obtain ⟨o, e⟩ := y
    have g3 : dcall T 58 [(Enc.map Enc.opd).enc b.funs, .lit (.string k)] = some (Enc.opErr.enc (o, e)) := dcall2 (A := Enc.map Enc.opd) (B := Enc.str) (C := Enc.opErr) g2 hy
    simp only [Enc.map, Enc.opErr, Enc.tup, Enc.opd, Enc.agg, arg2, EncR.and, EncR.one, Enc.i64, Enc.int] at g3
    refine Dwp.step tt rfl fun K hK => ?_
    simp [init, arg2, EncR.and, EncR.one, Enc.str, EncR.book, Enc.map, ty58, ty56, ty38, Enc.opd, Enc.agg, g3, setO']
    refine hK _ _ (Dwp.ret ?_) rfl
    have := EncR.opd.de o
    simp [Done, dresults, dres, frz, frz1, frz2, Ex.then, upd, dload, dpart, TyI.agg, ty38, Enc.opErr, Enc.tup, arg2, EncR.and, EncR.one, Enc.opd, Enc.agg, Enc.i64, Enc.int, setO', frzOpd, this]
theorem e25 : Go.FA.Good Tryz.prog (25, s25) := ⟨c25, Tryz.f25, _, Tryz.func25, rfl, by decide⟩
end Go.Proofs.Yt
namespace Go.Proofs.Yt
open Go Go.FA Go.Proofs
set_option linter.unusedVariables false
set_option linter.unusedSimpArgs false
set_option maxRecDepth 100000

/-- a variable that a closure shares, and nobody writes any more -/
def Enc.boxed {α : Type} (A : EncR α) : Enc α where
  enc x := .row (A.enc x) 0
  dec d := match d with | .row cells 0 => A.dec cells | _ => none
  le d x h := by
    split at h
    · intro C w v hv
      simp only [VRel] at hv ⊢
      obtain ⟨b, o, h1, h2⟩ := hv
      exact ⟨b, o, h1, CRel_le (A.le _ _ h) h2⟩
    · simp at h
  pure x := by simp [pureB, A.pure]
  de x := A.de x
/-- a closure over a book and a sort -/
def Enc.clo : Enc (Nat × Book × ByteArray) where
  enc p := .func (.func p.1) [] [.row (EncR.book.enc p.2.1) 0, .row [.lit (.string p.2.2)] 0]
  dec d := match d with
    | .func (.func f) [] [x, y] => match (Enc.boxed EncR.book).dec x, (Enc.boxed (EncR.one Enc.str)).dec y with
      | some b, some s => some (f, b, s)
      | _, _ => none
    | _ => none
  le d x h := by
    intro C w v hv
    split at h
    · split at h
      · next b s hb hs =>
        simp at h; subst h
        simp only [VRel] at hv ⊢
        obtain ⟨f', c', h1, h2, h3⟩ := hv
        exact ⟨f', c', h1, h2, LRel_le (.cons ((Enc.boxed EncR.book).le _ _ hb) (.cons ((Enc.boxed (EncR.one Enc.str)).le _ _ hs) .nil)) h3⟩
      · simp at h
    · simp at h
  pure p := by
    have h1 := (Enc.boxed EncR.book).pure p.2.1
    have h2 := (Enc.boxed (EncR.one Enc.str)).pure p.2.2
    simp only [Enc.boxed, EncR.one, Enc.str] at h1 h2
    simp [pureB, pureL, h1] at h2 ⊢
    simpa [pureB] using h1
  de p := by
    have h1 := (Enc.boxed EncR.book).de p.2.1
    have h2 := (Enc.boxed (EncR.one Enc.str)).de p.2.2
    simp only [Enc.boxed] at h1 h2
    simp only [EncR.one, Enc.str] at h2
    simp [Enc.boxed, EncR.one, Enc.str, h1]
def Book.clo (b : Book) (f : Nat) (x y : ByteArray) : Option Bool := if f = 65 then b.atMost y x else if f = 56 ∨ f = 62 then b.atMost x y else none
def sclo (f : Nat) : Sp := sp (arg3 Enc.str (Enc.boxed EncR.book) (Enc.boxed (EncR.one Enc.str))) Enc.bool (fun x => x.2.1.clo f x.2.2 x.1)
theorem cclo (f : Nat) (fn : Func) (c : Code) (hf : Tryz.prog.funcs[f]? = some fn) : True := trivial
theorem t50c : TabOk Tryz.prog (tabOf [(50, s50)]) := .cons e50 .nil
attribute [local simp] drunL drunO dwanted dopS own plainOf dop dput eval ofVal Then Ex.then Ex.inBlock upd dbin Tag.isNN nilTest intCmp dload dpart TyI.agg dfieldAddr dfield dindexAddr dindex dlen lenOk dlookup mapOf keyFits dmapUpdate dcallee dbuiltin dstore DV.cells dslice dboundOk dappend appTag rowsOf elemOk growLimit dbuildCells dbuildCells.go structOk fieldsOk dbuildRows goInt
theorem c56 : CallSound Tryz.prog 56 (sclo 56) := by
  refine CallSound.of_sp (T := tabOf [(50, s50)]) Tryz.func56 rfl (Nat.le_of_ble_eq_true rfl) fun E x y hy => ?_
  obtain ⟨z, b, x⟩ := x
  have g : dcall (tabOf [(50, s50)]) 50 [Enc.book.enc b, Enc.str.enc x, Enc.str.enc z] = some (Enc.bool.enc y) := dcall3 (B := Enc.str) (C := Enc.str) (D := Enc.bool) rfl hy
  have tT := t50c
  simp only [Enc.book, Enc.agg, Enc.str, Enc.bool] at g
  generalize tabOf [(50, s50)] = T at *
  refine Dwp.step tT rfl fun K hK => ?_
  simp [dcall, tabOf, setAt]
  refine hK _ _ ?_ rfl; clear hK K
  refine Dwp.step tT rfl fun K hK => ?_
  simp [setAt, init, arg3, EncR.and, EncR.one, Enc.boxed, Enc.str, ty58, ty9, g]
  refine hK _ _ (Dwp.ret ?_) rfl
  simp [Done, dresults, dres, frz, frz1, frz2, Enc.bool, upd]
theorem c62 : CallSound Tryz.prog 62 (sclo 62) := by
  refine CallSound.of_sp (T := tabOf [(50, s50)]) Tryz.func62 rfl (Nat.le_of_ble_eq_true rfl) fun E x y hy => ?_
  obtain ⟨z, b, x⟩ := x
  have g : dcall (tabOf [(50, s50)]) 50 [Enc.book.enc b, Enc.str.enc x, Enc.str.enc z] = some (Enc.bool.enc y) := dcall3 (B := Enc.str) (C := Enc.str) (D := Enc.bool) rfl hy
  have tT := t50c
  simp only [Enc.book, Enc.agg, Enc.str, Enc.bool] at g
  generalize tabOf [(50, s50)] = T at *
  refine Dwp.step tT rfl fun K hK => ?_
  simp [dcall, tabOf, setAt]
  refine hK _ _ ?_ rfl; clear hK K
  refine Dwp.step tT rfl fun K hK => ?_
  simp [setAt, init, arg3, EncR.and, EncR.one, Enc.boxed, Enc.str, ty58, ty9, g]
  refine hK _ _ (Dwp.ret ?_) rfl
  simp [Done, dresults, dres, frz, frz1, frz2, Enc.bool, upd]
theorem c65 : CallSound Tryz.prog 65 (sclo 65) := by
  refine CallSound.of_sp (T := tabOf [(50, s50)]) Tryz.func65 rfl (Nat.le_of_ble_eq_true rfl) fun E x y hy => ?_
  obtain ⟨z, b, x⟩ := x
  have g : dcall (tabOf [(50, s50)]) 50 [Enc.book.enc b, Enc.str.enc z, Enc.str.enc x] = some (Enc.bool.enc y) := dcall3 (B := Enc.str) (C := Enc.str) (D := Enc.bool) rfl hy
  have tT := t50c
  simp only [Enc.book, Enc.agg, Enc.str, Enc.bool] at g
  generalize tabOf [(50, s50)] = T at *
  refine Dwp.step tT rfl fun K hK => ?_
  simp [dcall, tabOf, setAt]
  refine hK _ _ ?_ rfl; clear hK K
  refine Dwp.step tT rfl fun K hK => ?_
  simp [setAt, init, arg3, EncR.and, EncR.one, Enc.boxed, Enc.str, ty58, ty9, g]
  refine hK _ _ (Dwp.ret ?_) rfl
  simp [Done, dresults, dres, frz, frz1, frz2, Enc.bool, upd]
theorem e56 : Go.FA.Good Tryz.prog (56, sclo 56) := ⟨c56, Tryz.f56, _, Tryz.func56, rfl, by decide⟩
theorem e62 : Go.FA.Good Tryz.prog (62, sclo 62) := ⟨c62, Tryz.f62, _, Tryz.func62, rfl, by decide⟩
theorem e65 : Go.FA.Good Tryz.prog (65, sclo 65) := ⟨c65, Tryz.f65, _, Tryz.func65, rfl, by decide⟩
theorem callClo (T : Tab) (f : Nat) (hT : T f = some (sclo f)) (b : Book) (x y : ByteArray) (r : Bool) (h : b.clo f x y = some r) :
    dcall T f [.lit (.string y), .row (EncR.book.enc b) 0, .row [.lit (.string x)] 0] = some (.lit (.bool r)) :=
  dcall3 (A := Enc.str) (B := Enc.boxed EncR.book) (C := Enc.boxed (EncR.one Enc.str)) (D := Enc.bool) hT h
end Go.Proofs.Yt
namespace Go.Proofs.Yt
open Go Go.FA Go.Proofs
set_option linter.unusedVariables false
set_option linter.unusedSimpArgs false
set_option maxRecDepth 100000

def cloB (b : Book) (f : Nat) (x y : ByteArray) : Bool := (b.clo f x y).getD false
def s95 : Sp := sp (arg2 Enc.strs Enc.clo) Enc.i64 (fun x => if x.1.length ≤ lim ∧ x.2.1 = 56 ∧ (x.1.all fun y => (x.2.2.1.clo x.2.1 x.2.2.2 y).isSome) = true then some (idxF (cloB x.2.2.1 x.2.1 x.2.2.2) x.1 0) else none)
def inv95 (l : List ByteArray) (b : Book) (s : ByteArray) : Nat → (Nat → DV) → St → Prop := fun k a σ => ∃ i, i ≤ l.length ∧ k = l.length - i ∧ idxF (cloB b 56 s) l 0 = idxF (cloB b 56 s) (l.drop i) i ∧
  a 0 = .slice 1 .none (l.map fun s => [DV.lit (.string s)]) ∧ a 1 = .func (.func 56) [] [.row (EncR.book.enc b) 0, .row [.lit (.string s)] 0] ∧ a 7 = .lit (.int .i64 l.length) ∧ a 8 = .lit (.int .i64 i)
abbrev T95 : Tab := tabOf [(56, sclo 56)]
attribute [local simp] drunL drunO dwanted dopS own plainOf dop dput eval ofVal Then Ex.then Ex.inBlock upd dbin Tag.isNN nilTest intCmp dload dpart TyI.agg dfieldAddr dfield dindexAddr dindex dlen lenOk dlookup mapOf keyFits dmapUpdate dcallee dbuiltin dstore DV.cells dslice dboundOk dappend appTag rowsOf elemOk growLimit dbuildCells dbuildCells.go structOk fieldsOk dbuildRows goInt
theorem c95 : CallSound Tryz.prog 95 s95 := by
  have tT : TabOk Tryz.prog T95 := .cons e56 .nil
  refine CallSound.of_sp (T := T95) Tryz.func95 rfl (Nat.le_of_ble_eq_true rfl) fun E x y hy => ?_
  obtain ⟨l, f, b, s⟩ := x
  by_cases hc : l.length ≤ lim ∧ f = 56 ∧ (l.all fun y => (b.clo f s y).isSome) = true
  case neg => simp only [] at hy; rw [if_neg hc] at hy; cases hy
  simp only [] at hy
  rw [if_pos hc] at hy
  cases hy
  obtain ⟨hlim, rfl, hall⟩ := hc
  unfold lim at hlim
  have hT : T95 56 = some (sclo 56) := rfl
  generalize T95 = T at *
  refine Dwp.step tT rfl fun K hK => ?_
  simp [dcall, tabOf, setAt]
  refine hK _ _ ?_ rfl; clear hK K
  refine Dwp.seq ?_
  refine Dwp.step tT rfl fun K hK => ?_
  simp [dcall, tabOf, setAt, init, arg2, EncR.and, EncR.one, Enc.strs, Enc.slice, ty22]
  refine hK _ _ ?_ rfl; clear hK K
  refine Dwp.block (Dwp.loop (inv95 l b s) l.length ⟨0, by simp, by simp, by simp, by simp [upd, init, Enc.strs, Enc.slice, EncR.one, Enc.str], by simp [upd, init, Enc.clo], by simp [upd], by simp [upd]⟩ ?_)
  rintro k a σ ⟨i, hi, rfl, hidx, h0, h1, h7, h8⟩
  refine Dwp.step tT rfl fun K hK => ?_
  simp [dcall, tabOf, setAt, h7, h8]
  refine hK _ _ ?_ rfl; clear hK K
  by_cases hlt : i < l.length
  · refine Dwp.seq (Dwp.condT (by simp [eval, upd, hlt]) (Dwp.skip ?_))
    refine Dwp.seq (Dwp.block ?_)
    refine Dwp.step tT rfl fun K hK => ?_
    simp [dcall, tabOf, setAt, h8]
    refine hK _ _ ?_ rfl; clear hK K
    refine Dwp.step tT rfl fun K hK => ?_
    have hsome := List.all_eq_true.1 hall l[i] (List.getElem_mem hlt)
    obtain ⟨r, hr⟩ := Option.isSome_iff_exists.1 hsome
    have g := callClo T 56 hT b s l[i] r hr
    simp [drunL, dwanted, dopS, own, dop, dput, eval, ofVal, Then, upd, h0, h1, ty22, ty9, dindexAddr, dload, dpart, TyI.agg, hlt, dcallee, g]
    refine hK _ _ ?_ rfl; clear hK K
    have hd := idxF_drop (cloB b 56 s) l i hlt
    have hp : cloB b 56 s l[i] = r := by simp [cloB, hr]
    cases r with
    | true =>
      rw [hp] at hd
      refine Dwp.condT (by simp [eval, upd]) ?_
      refine Dwp.step tT rfl fun K hK => ?_
      simp [dcall, tabOf, setAt]
      refine hK _ _ (Dwp.ret ?_) rfl
      have : idxF (cloB b 56 s) l 0 = i := by rw [hidx, hd]; rfl
      simp [Done, dresults, dres, frz, frz1, frz2, Enc.i64, Enc.int, Ex.then, Ex.inBlock, upd, this]
    | false =>
      rw [hp] at hd
      refine Dwp.condF (by simp [eval, upd]) (Dwp.skip ?_)
      refine Dwp.reg tT rfl fun K hK => ?_
      simp [dcall, tabOf, setAt, h8]
      refine hK _ _ ?_ rfl; clear hK K
      exact ⟨l.length - (i + 1), by omega, i + 1, by omega, rfl, by rw [hidx, hd]; rfl, by simp [upd, h0], by simp [upd, h1], by simp [upd, h7], by simp [upd, wrap_small (n := (i : Int) + 1) (by omega) (by omega)]⟩
  · refine Dwp.seq (Dwp.condF (by simp [eval, upd, hlt]) (Dwp.exit ?_))
    refine Dwp.step tT rfl fun K hK => ?_
    simp [dcall, tabOf, setAt]
    refine hK _ _ (Dwp.ret ?_) rfl
    have : idxF (cloB b 56 s) l 0 = -1 := by rw [hidx, List.drop_eq_nil_of_le (by omega)]; rfl
    simp [Done, dresults, dres, frz, frz1, frz2, Enc.i64, Enc.int, upd, this]
theorem e95 : Go.FA.Good Tryz.prog (95, s95) := ⟨c95, Tryz.f95, _, Tryz.func95, rfl, by decide⟩
def s55 : Sp := sp (arg2 Enc.strs Enc.clo) Enc.bool (fun x => if x.1.length ≤ lim ∧ x.2.1 = 56 ∧ (x.1.all fun y => (x.2.2.1.clo x.2.1 x.2.2.2 y).isSome) = true then some (x.1.any (cloB x.2.2.1 x.2.1 x.2.2.2)) else none)
theorem c55 : CallSound Tryz.prog 55 s55 := by
  have tT : TabOk Tryz.prog (tabOf [(95, s95)]) := .cons e95 .nil
  refine CallSound.of_sp (T := tabOf [(95, s95)]) Tryz.func55 rfl (Nat.le_of_ble_eq_true rfl) fun E x y hy => ?_
  obtain ⟨l, p⟩ := x
  by_cases hc : l.length ≤ lim ∧ p.1 = 56 ∧ (l.all fun y => (p.2.1.clo p.1 p.2.2 y).isSome) = true
  case neg => simp only [] at hy; rw [if_neg hc] at hy; cases hy
  simp only [] at hy
  rw [if_pos hc] at hy
  cases hy
  have g : dcall (tabOf [(95, s95)]) 95 [Enc.strs.enc l, Enc.clo.enc p] = some (Enc.i64.enc (idxF (cloB p.2.1 p.1 p.2.2) l 0)) := dcall2 (A := Enc.strs) (B := Enc.clo) (C := Enc.i64) rfl (if_pos hc)
  simp only [Enc.i64, Enc.int] at g
  generalize tabOf [(95, s95)] = T at *
  refine Dwp.step tT rfl fun K hK => ?_
  simp [dcall, tabOf, setAt]
  refine hK _ _ ?_ rfl; clear hK K
  refine Dwp.step tT rfl fun K hK => ?_
  have ha := idxF_any (cloB p.2.1 p.1 p.2.2) l 0
  simp [setAt, init, arg2, EncR.and, EncR.one, g]
  refine hK _ _ (Dwp.ret ?_) rfl
  simp [Done, dresults, dres, frz, frz1, frz2, Enc.bool, upd, ha]
theorem e55 : Go.FA.Good Tryz.prog (55, s55) := ⟨c55, Tryz.f55, _, Tryz.func55, rfl, by decide⟩
end Go.Proofs.Yt
namespace Go.Proofs.Yt
open Go Go.FA Go.Proofs
set_option linter.unusedVariables false
set_option linter.unusedSimpArgs false
set_option maxRecDepth 100000

theorem sortB_perm {l m : List ByteArray} (h : l.Perm m) : sortB l = sortB m := by
  unfold sortB
  congr 1
  have tr : ∀ (a b c : List UInt8), decide (a ≤ b) = true → decide (b ≤ c) = true → decide (a ≤ c) = true := fun a b c h1 h2 => by
    simp only [decide_eq_true_eq] at *; exact List.le_trans h1 h2
  have to : ∀ (a b : List UInt8), (decide (a ≤ b) || decide (b ≤ a)) = true := fun a b => by
    simp only [Bool.or_eq_true, decide_eq_true_eq]; exact List.le_total a b
  refine List.Perm.eq_of_pairwise (le := fun a b => decide (a ≤ b) = true) (fun a b _ _ h1 h2 => ?_) (List.pairwise_mergeSort tr to _) (List.pairwise_mergeSort tr to _) ?_
  · simp only [decide_eq_true_eq] at h1 h2; exact List.le_antisymm h1 h2
  · exact (List.mergeSort_perm _ _).trans ((h.map bl).trans (List.mergeSort_perm _ _).symm)

theorem range_get {α β : Type} (g : α → β) : ∀ (m : List α), (List.range m.length).filterMap (fun j => (m[j]?).map g) = m.map g := by
  intro m
  induction m with
  | nil => rfl
  | cons x m ih =>
    rw [List.length_cons, List.range_succ_eq_map, List.filterMap_cons]
    simp only [List.getElem?_cons_zero, Option.map_some, List.map_cons, List.cons.injEq, true_and]
    rw [List.filterMap_map]
    rw [← ih]
    congr 1

def thatF (k : Book) (f : Nat) (b : Book) (x : ByteArray) : Option (List ByteArray) :=
  if k.highs.length ≤ 1000 ∧ (f = 62 ∨ f = 65) ∧ (k.highs.all fun p => (b.clo f x p.1).isSome) = true then some (sortB ((k.highs.map (·.1)).filter (cloB b f x))) else none
def s61 : Sp := sp (arg2 Enc.book Enc.clo) Enc.strs (fun x => thatF x.1 x.2.1 x.2.2.1 x.2.2.2)
def picked (m : List (ByteArray × List ByteArray)) (q : ByteArray → Bool) (seen : List Nat) : List ByteArray := (seen.filterMap fun j => (m[j]?).map (·.1)).filter q
theorem picked_all {m : List (ByteArray × List ByteArray)} {q : ByteArray → Bool} {seen : List Nat} (hn : seen.Nodup) (hl : ∀ j ∈ seen, j < m.length) (ha : ∀ j, j < m.length → j ∈ seen) : (picked m q seen).Perm ((m.map (·.1)).filter q) := by
  unfold picked
  refine List.Perm.filter q ?_
  have hp : seen.Perm (List.range m.length) := (List.perm_ext_iff_of_nodup hn List.nodup_range).2 fun j => ⟨fun h => by simpa using hl j h, fun h => ha j (by simpa using h)⟩
  refine (hp.filterMap _).trans (List.Perm.of_eq ?_)
  exact range_get (·.1) m
theorem picked_len {m : List (ByteArray × List ByteArray)} {q : ByteArray → Bool} {seen : List Nat} : (picked m q seen).length ≤ seen.length :=
  Nat.le_trans (List.length_filter_le _ _) (List.length_filterMap_le _ _)
theorem picked_app {m : List (ByteArray × List ByteArray)} {q : ByteArray → Bool} {seen : List Nat} {j : Nat} {p : ByteArray × List ByteArray} (h : m[j]? = some p) : picked m q (seen ++ [j]) = picked m q seen ++ (if q p.1 then [p.1] else []) := by
  unfold picked
  rw [List.filterMap_append, List.filter_append]
  simp only [List.filterMap_cons, List.filterMap_nil, h, Option.map_some, List.filter_cons, List.filter_nil]
theorem seen_len {seen : List Nat} {n : Nat} (hn : seen.Nodup) (hl : ∀ j ∈ seen, j < n) : seen.length ≤ n := by
  have := List.Nodup.length_le_of_subset hn (l₂ := List.range n) (fun j h => by simpa using hl j h)
  simpa using this
def inv61 (k : Book) (f : Nat) (b : Book) (x : ByteArray) : Nat → (Nat → DV) → St → Prop := fun m a σ => ∃ seen, m = left k.highs.length seen ∧ seen.Nodup ∧ (∀ j ∈ seen, j < k.highs.length) ∧
  a 1 = .func (.func f) [] [.row (EncR.book.enc b) 0, .row [.lit (.string x)] 0] ∧ a 9 = .ptr 5 0 ∧ 5 < σ.n ∧ Acc σ 1 (rowsS (picked k.highs (cloB b f x) seen)) (a 5) ∧ (∀ t g r, a 5 = .slice 1 (.tok t g) r → t < σ.n) ∧
  σ.objs 5 = some (.mapIter (k.highs.map fun p => .string p.1) (k.highs.map fun p => Enc.strs.enc p.2) seen)
abbrev T61 : Tab := tabOf [(62, sclo 62), (65, sclo 65)]
attribute [local simp] drunL drunO dwanted dopS own plainOf dop dput eval ofVal Then Ex.then Ex.inBlock upd dbin Tag.isNN nilTest intCmp dload dpart TyI.agg dfieldAddr dfield dindexAddr dindex dlen lenOk dlookup mapOf keyFits dmapUpdate dcallee dbuiltin dstore DV.cells dslice dboundOk dappend appTag rowsOf elemOk growLimit dbuildCells dbuildCells.go structOk fieldsOk dbuildRows goInt
theorem c61 : CallSound Tryz.prog 61 s61 := by
  have tT : TabOk Tryz.prog T61 := .cons e62 (.cons e65 .nil)
  refine CallSound.of_sp (T := T61) Tryz.func61 rfl (Nat.le_of_ble_eq_true rfl) fun E xx y hy => ?_
  obtain ⟨k, f, b, x⟩ := xx
  simp only [thatF] at hy
  split at hy
  case isFalse => cases hy
  next hc =>
  cases hy
  obtain ⟨hlim, hf, hall⟩ := hc
  have hT : T61 f = some (sclo f) := by rcases hf with rfl | rfl <;> rfl
  generalize T61 = T at *
  refine Dwp.step tT rfl fun K hK => ?_
  simp [dcall, tabOf, setAt, init, arg2, EncR.and, EncR.one, Enc.book, Enc.agg]
  refine hK _ _ ?_ rfl; clear hK K
  refine Dwp.step tT rfl fun K hK => ?_
  simp [dcall, tabOf, setAt]
  refine hK _ _ ?_ rfl; clear hK K
  refine Dwp.seq ?_
  refine Dwp.step tT rfl fun K hK => ?_
  simp [dcall, tabOf, setAt, ty58, ty55]
  refine hK _ _ ?_ rfl; clear hK K
  refine (Dwp.block (Dwp.loop (inv61 k f b x) (left k.highs.length []) ⟨[], rfl, by simp, by simp, by simp [upd, init, Enc.clo], by simp [upd, σ0], by simp [σ0], .inl ⟨by simp [picked, rowsS], by simp [upd]⟩, by simp [upd], by simp [upd, σ0]⟩ ?_))
  rintro m a σ ⟨seen, rfl, hnd, hlt, h1, h9, hn, hacc, htn, hobj⟩
  refine Dwp.seq (Dwp.next tT rfl rfl rfl rfl h9 hobj ?_ ?_)
  · intro hend K hK
    simp [dcall, tabOf, setAt]
    refine hK _ _ ?_ rfl; clear hK K
    refine Dwp.seq (Dwp.condF (by simp [eval, upd]) (Dwp.exit ?_))
    simp only [Ex.then, Ex.inBlock, if_true]
    have hperm := picked_all (q := cloB b f x) hnd hlt (fun j hj => hend j (by simpa using hj))
    have hsl := seen_len hnd hlt
    have hpl := picked_len (m := k.highs) (q := cloB b f x) (seen := seen)
    refine Dwp.seq (Dwp.sortS sorts98 ⟨Tryz.f98, _, Tryz.func98, rfl, by decide⟩ rfl rfl rfl rfl rfl rfl (by decide) (by decide) rfl (picked k.highs (cloB b f x) seen) ?_ (by omega) ?_)
    · rcases hacc with ⟨q1, q2⟩ | ⟨t, g, q1, _⟩
      · exact .inl ⟨by simpa [upd] using q2, by simpa [rowsS] using q1⟩
      · exact .inr ⟨t, g, by simpa [upd] using q1⟩
    simp only [Ex.then]
    refine Dwp.step tT rfl fun K hK => ?_
    simp [dcall, tabOf, setAt]
    refine hK _ _ (Dwp.ret ?_) rfl
    rw [sortB_perm hperm]
    have := decRows_enc (EncR.one Enc.str) (sortB (List.filter (cloB b f x) (List.map (·.1) k.highs)))
    simp only [EncR.one, Enc.str] at this
    simp [Done, dresults, dres, frz, frz1, frz2, Enc.strs, Enc.slice, EncR.one, Enc.str, upd, rowsS, this]
  · intro j kk v hns hk hx K hK
    obtain ⟨p, hp, rfl⟩ : ∃ p, k.highs[j]? = some p ∧ Value.string p.1 = kk := by
      rw [List.getElem?_map, Option.map_eq_some_iff] at hk; exact hk
    have hjl : j < k.highs.length := by
      rcases Nat.lt_or_ge j k.highs.length with q | q
      · exact q
      · rw [List.getElem?_eq_none q] at hp; cases hp
    obtain ⟨r, hr⟩ := Option.isSome_iff_exists.1 (List.all_eq_true.1 hall p (List.mem_of_getElem? hp))
    have g := callClo T f hT b x p.1 r hr
    have hq : cloB b f x p.1 = r := by simp [cloB, hr]
    have happ := picked_app (q := cloB b f x) (seen := seen) hp
    rw [hq] at happ
    have hnd' : (seen ++ [j]).Nodup := by rw [List.nodup_append]; exact ⟨hnd, by simp, fun a ha b hb e => by simp at hb; subst hb; subst e; exact hns ha⟩
    have hlt' : ∀ i ∈ seen ++ [j], i < k.highs.length := fun i hi => by
      rcases List.mem_append.1 hi with h | h
      · exact hlt i h
      · simp at h; subst h; exact hjl
    simp [dcall, tabOf, setAt]
    refine hK _ _ ?_ rfl; clear hK K
    refine Dwp.seq (Dwp.condT (by simp [eval, upd]) (Dwp.skip ?_))
    refine Dwp.block ?_
    refine Dwp.step tT rfl fun K hK => ?_
    simp [dcall, tabOf, setAt, h9, upd, dentry, hk, hx]
    refine hK _ _ ?_ rfl; clear hK K
    refine Dwp.step tT rfl fun K hK => ?_
    simp [drunL, dwanted, dopS, own, dop, dput, eval, ofVal, Then, upd, h1, dcallee, g]
    refine hK _ _ ?_ rfl; clear hK K
    cases r with
    | false =>
      refine Dwp.condF (by simp [eval, upd]) (Dwp.skip ?_)
      simp only [Bool.false_eq_true, if_false, List.append_nil] at happ
      refine ⟨_, left_lt hjl hns, seen ++ [j], rfl, hnd', hlt', by simp [upd, h1], by simp [upd, h9], by simp <;> omega, ?_, ?_, by simp [upd]⟩
      · rw [happ]; simpa [Acc, upd] using hacc
      · intro t g' r h; have := htn t g' r (by simpa [upd] using h); simp; omega
    | true =>
      refine Dwp.condT (by simp [eval, upd]) ?_
      simp only [if_true] at happ
      refine Dwp.reg tT rfl fun K hK => ?_
      rcases hacc with ⟨q1, q2⟩ | ⟨t, gg, q1, q3⟩
      · have q0 : picked k.highs (cloB b f x) seen = [] := by simpa [rowsS] using q1
        simp [dcall, tabOf, setAt, q2, ty22, ty9]
        refine hK _ _ ?_ rfl; clear hK K
        refine ⟨_, left_lt hjl hns, seen ++ [j], rfl, hnd', hlt', by simp [upd, h1], by simp [upd, h9], by simp <;> omega, ?_, ?_, by simp [upd]⟩
        · rw [happ, q0]; exact .inr ⟨_, 0, by simp [upd, rowsS]; rfl, by simp [upd]⟩
        · intro t g' r h
          simp [upd] at h
          simp; omega
      · have hl1 := seen_len hnd hlt
        have hl2 := picked_len (m := k.highs) (q := cloB b f x) (seen := seen)
        have hl3 : (rowsS (picked k.highs (cloB b f x) seen)).length + 1 ≤ 16777216 := by simp [rowsS]; omega
        simp [dcall, tabOf, setAt, q1, q3, ty22, ty9, hl3]
        refine hK _ _ ?_ rfl; clear hK K
        refine ⟨_, left_lt hjl hns, seen ++ [j], rfl, hnd', hlt', by simp [upd, h1], by simp [upd, h9], by simp <;> omega, ?_, ?_, by simp [upd]⟩
        · rw [happ]; exact .inr ⟨t, gg + 1, by simp [upd, rowsS], by simp [upd]⟩
        · intro t' g' r h
          simp [upd] at h
          have := htn t gg _ q1
          simp; omega
theorem e61 : Go.FA.Good Tryz.prog (61, s61) := ⟨c61, Tryz.f61, _, Tryz.func61, rfl, by decide⟩
end Go.Proofs.Yt
namespace Go.Proofs.Yt
open Go Go.FA Go.Proofs
set_option linter.unusedVariables false
set_option linter.unusedSimpArgs false
set_option maxRecDepth 100000

def Enc.strsErr : Enc (List ByteArray × Int) := Enc.tup (arg2 Enc.strs Enc.i64)
abbrev T27 : Tab := tabOf [(44, s44), (61, s61), (55, s55), (54, s54)]
theorem t27 : TabOk Tryz.prog T27 := .cons e44 (.cons e61 (.cons e55 (.cons e54 .nil)))

def thatErr27 (s : SigD) (x : ByteArray) : Option (List ByteArray × Int) := withBook (openF s [x]) [] fun b => thatF b 62 b x
def s27 : Sp := sp (arg2 Enc.sigd Enc.str) Enc.strsErr (fun x => withBook (openF x.1 [x.2]) [] fun b => thatF b 62 b x.2)
attribute [local simp] drunL drunO dwanted dopS own plainOf dop dput eval ofVal Then Ex.then Ex.inBlock upd dbin Tag.isNN nilTest intCmp dload dpart TyI.agg dfieldAddr dfield dindexAddr dindex dlen lenOk dlookup mapOf keyFits dmapUpdate dcallee dbuiltin dstore DV.cells dslice dboundOk dappend appTag rowsOf elemOk growLimit dbuildCells dbuildCells.go structOk fieldsOk dbuildRows goInt
theorem c27 : CallSound Tryz.prog 27 s27 := by
  refine CallSound.of_sp (T := T27) Tryz.func27 rfl (Nat.le_of_ble_eq_true rfl) fun E xx y hy => ?_
  obtain ⟨s, x⟩ := xx
  simp only [withBook] at hy
  cases hr : openF s [x] with
  | none => rw [hr] at hy; cases hy
  | some r =>
  rw [hr] at hy
  have g := call44 T27 rfl s (.slice 1 .full [[.lit (.string x)]]) [x] r rfl hr
  have h61 : T27 61 = some s61 := rfl
  have h55 : T27 55 = some s55 := rfl
  have tT := t27
  generalize T27 = T at *
  refine Dwp.step tT rfl fun K hK => ?_
  simp [setAt, init, arg2, EncR.and, EncR.one, Enc.sigd, Enc.agg, Enc.str]
  refine hK _ _ ?_ rfl; clear hK K
  refine Dwp.step tT rfl fun K hK => ?_
  obtain ⟨o, e⟩ := r
  cases o with
  | none =>
    simp only [Enc.opened, noBook] at g
    simp only [] at hy
    split at hy
    case isTrue => cases hy
    next he =>
    cases hy
    have he' : (e != 0) = true := by simp [he]
    simp [drunL, dwanted, dopS, own, dop, dput, eval, ofVal, Then, upd, dload, dpart, TyI.agg, ty26, ty58, ty22, ty9, dbuildRows, growLimit, dcallee, g, DV.cells, dstore, setNo]
    refine hK _ _ ?_ rfl; clear hK K
    refine Dwp.seq ?_
    refine Dwp.step tT rfl fun K hK => ?_
    simp [drunL, dwanted, dopS, own, dop, dput, eval, ofVal, Then, upd, dbin, intCmp, he']
    refine hK _ _ ?_ rfl; clear hK K
    refine Dwp.condT (by simp [eval, upd]) ?_
    refine Dwp.step tT rfl fun K hK => ?_
    simp [dcall, tabOf, setAt]
    refine hK _ _ (Dwp.ret ?_) rfl
    simp [Done, dresults, dres, frz, frz1, frz2, Ex.then, upd, Enc.strsErr, Enc.tup, arg2, EncR.and, EncR.one, Enc.strs, Enc.slice, Enc.str, Enc.i64, Enc.int]
  | some b =>
    simp only [Enc.opened, Enc.book, Enc.agg] at g
    simp only [] at hy
    split at hy
    case isFalse => cases hy
    next he =>
    subst he
    obtain ⟨v, hv, rfl⟩ := Option.map_eq_some_iff.1 hy
    simp [drunL, dwanted, dopS, own, dop, dput, eval, ofVal, Then, upd, dload, dpart, TyI.agg, ty26, ty58, ty22, ty9, dbuildRows, growLimit, dcallee, g, DV.cells, dstore, setBook]
    refine hK _ _ ?_ rfl; clear hK K
    refine Dwp.seq ?_
    refine Dwp.step tT rfl fun K hK => ?_
    simp [drunL, dwanted, dopS, own, dop, dput, eval, ofVal, Then, upd, dbin, intCmp]
    refine hK _ _ ?_ rfl; clear hK K
    refine Dwp.condF (by simp [eval, upd]) (Dwp.skip ?_)
    refine Dwp.freeze 11 (o := .cells 58 (EncR.book.enc b)) (fun t => if t = 6 then .row (EncR.book.enc b) 0 else if t = 2 then .row (EncR.sigd.enc s) 0 else if t = 3 then .row [.lit (.string x)] 0 else .junk) (by simp [upd, σ0]) (fun t => ?_) ?_
    · by_cases h6 : t = 6
      · subst h6; simp [upd]; exact .box (t := 58) 0 (by simp [upd, σ0])
      by_cases h2 : t = 2
      · subst h2; simp [upd]; exact .keep _
      by_cases h3 : t = 3
      · subst h3; simp [upd]; exact .keep _
      simp [h6, h2, h3]; exact .junk _
    have g2 : dcall T 61 [Enc.book.enc b, Enc.clo.enc (62, b, x)] = some (Enc.strs.enc v) := dcall2 (A := Enc.book) (B := Enc.clo) (C := Enc.strs) h61 hv
    simp only [Enc.book, Enc.agg, Enc.clo, strsC] at g2
    refine Dwp.step tT rfl fun K hK => ?_
    simp [setAt, ty58, g2]
    refine hK _ _ (Dwp.ret ?_) rfl
    have := decRows_enc (EncR.one Enc.str) v
    simp only [EncR.one, Enc.str] at this
    simp [Done, dresults, dres, frz, frz1, frz2, Ex.then, upd, Enc.strsErr, Enc.tup, arg2, EncR.and, EncR.one, Enc.strs, Enc.slice, Enc.str, Enc.i64, Enc.int, this]
theorem e27 : Go.FA.Good Tryz.prog (27, s27) := ⟨c27, Tryz.f27, _, Tryz.func27, rfl, by decide⟩

def thatErr30 (s : SigD) (x : ByteArray) : Option (List ByteArray × Int) := withBook (openF s [x]) [] fun b => thatF b 65 b x
def s30 : Sp := sp (arg2 Enc.sigd Enc.str) Enc.strsErr (fun x => withBook (openF x.1 [x.2]) [] fun b => thatF b 65 b x.2)
theorem c30 : CallSound Tryz.prog 30 s30 := by
  refine CallSound.of_sp (T := T27) Tryz.func30 rfl (Nat.le_of_ble_eq_true rfl) fun E xx y hy => ?_
  obtain ⟨s, x⟩ := xx
  simp only [withBook] at hy
  cases hr : openF s [x] with
  | none => rw [hr] at hy; cases hy
  | some r =>
  rw [hr] at hy
  have g := call44 T27 rfl s (.slice 1 .full [[.lit (.string x)]]) [x] r rfl hr
  have h61 : T27 61 = some s61 := rfl
  have h55 : T27 55 = some s55 := rfl
  have tT := t27
  generalize T27 = T at *
  refine Dwp.step tT rfl fun K hK => ?_
  simp [setAt, init, arg2, EncR.and, EncR.one, Enc.sigd, Enc.agg, Enc.str]
  refine hK _ _ ?_ rfl; clear hK K
  refine Dwp.step tT rfl fun K hK => ?_
  obtain ⟨o, e⟩ := r
  cases o with
  | none =>
    simp only [Enc.opened, noBook] at g
    simp only [] at hy
    split at hy
    case isTrue => cases hy
    next he =>
    cases hy
    have he' : (e != 0) = true := by simp [he]
    simp [drunL, dwanted, dopS, own, dop, dput, eval, ofVal, Then, upd, dload, dpart, TyI.agg, ty26, ty58, ty22, ty9, dbuildRows, growLimit, dcallee, g, DV.cells, dstore, setNo]
    refine hK _ _ ?_ rfl; clear hK K
    refine Dwp.seq ?_
    refine Dwp.step tT rfl fun K hK => ?_
    simp [drunL, dwanted, dopS, own, dop, dput, eval, ofVal, Then, upd, dbin, intCmp, he']
    refine hK _ _ ?_ rfl; clear hK K
    refine Dwp.condT (by simp [eval, upd]) ?_
    refine Dwp.step tT rfl fun K hK => ?_
    simp [dcall, tabOf, setAt]
    refine hK _ _ (Dwp.ret ?_) rfl
    simp [Done, dresults, dres, frz, frz1, frz2, Ex.then, upd, Enc.strsErr, Enc.tup, arg2, EncR.and, EncR.one, Enc.strs, Enc.slice, Enc.str, Enc.i64, Enc.int]
  | some b =>
    simp only [Enc.opened, Enc.book, Enc.agg] at g
    simp only [] at hy
    split at hy
    case isFalse => cases hy
    next he =>
    subst he
    obtain ⟨v, hv, rfl⟩ := Option.map_eq_some_iff.1 hy
    simp [drunL, dwanted, dopS, own, dop, dput, eval, ofVal, Then, upd, dload, dpart, TyI.agg, ty26, ty58, ty22, ty9, dbuildRows, growLimit, dcallee, g, DV.cells, dstore, setBook]
    refine hK _ _ ?_ rfl; clear hK K
    refine Dwp.seq ?_
    refine Dwp.step tT rfl fun K hK => ?_
    simp [drunL, dwanted, dopS, own, dop, dput, eval, ofVal, Then, upd, dbin, intCmp]
    refine hK _ _ ?_ rfl; clear hK K
    refine Dwp.condF (by simp [eval, upd]) (Dwp.skip ?_)
    refine Dwp.freeze 11 (o := .cells 58 (EncR.book.enc b)) (fun t => if t = 6 then .row (EncR.book.enc b) 0 else if t = 2 then .row (EncR.sigd.enc s) 0 else if t = 3 then .row [.lit (.string x)] 0 else .junk) (by simp [upd, σ0]) (fun t => ?_) ?_
    · by_cases h6 : t = 6
      · subst h6; simp [upd]; exact .box (t := 58) 0 (by simp [upd, σ0])
      by_cases h2 : t = 2
      · subst h2; simp [upd]; exact .keep _
      by_cases h3 : t = 3
      · subst h3; simp [upd]; exact .keep _
      simp [h6, h2, h3]; exact .junk _
    have g2 : dcall T 61 [Enc.book.enc b, Enc.clo.enc (65, b, x)] = some (Enc.strs.enc v) := dcall2 (A := Enc.book) (B := Enc.clo) (C := Enc.strs) h61 hv
    simp only [Enc.book, Enc.agg, Enc.clo, strsC] at g2
    refine Dwp.step tT rfl fun K hK => ?_
    simp [setAt, ty58, g2]
    refine hK _ _ (Dwp.ret ?_) rfl
    have := decRows_enc (EncR.one Enc.str) v
    simp only [EncR.one, Enc.str] at this
    simp [Done, dresults, dres, frz, frz1, frz2, Ex.then, upd, Enc.strsErr, Enc.tup, arg2, EncR.and, EncR.one, Enc.strs, Enc.slice, Enc.str, Enc.i64, Enc.int, this]
theorem e30 : Go.FA.Good Tryz.prog (30, s30) := ⟨c30, Tryz.f30, _, Tryz.func30, rfl, by decide⟩

def valueB (s : SigD) (b : Book) (x : ByteArray) : Option Bool := if s.values.length ≤ lim ∧ (s.values.all fun y => (b.clo 56 x y).isSome) = true then some (s.values.any (cloB b 56 x)) else none
def s20 : Sp := sp (arg2 Enc.sigd Enc.str) Enc.boolErr (fun x => withBook (openF x.1 [x.2]) false fun b => valueB x.1 b x.2)
theorem c20 : CallSound Tryz.prog 20 s20 := by
  refine CallSound.of_sp (T := T27) Tryz.func20 rfl (Nat.le_of_ble_eq_true rfl) fun E xx y hy => ?_
  obtain ⟨s, x⟩ := xx
  simp only [withBook] at hy
  cases hr : openF s [x] with
  | none => rw [hr] at hy; cases hy
  | some r =>
  rw [hr] at hy
  have g := call44 T27 rfl s (.slice 1 .full [[.lit (.string x)]]) [x] r rfl hr
  have h61 : T27 61 = some s61 := rfl
  have h55 : T27 55 = some s55 := rfl
  have tT := t27
  generalize T27 = T at *
  refine Dwp.step tT rfl fun K hK => ?_
  simp [setAt, init, arg2, EncR.and, EncR.one, Enc.sigd, Enc.agg, Enc.str]
  refine hK _ _ ?_ rfl; clear hK K
  refine Dwp.step tT rfl fun K hK => ?_
  obtain ⟨o, e⟩ := r
  cases o with
  | none =>
    simp only [Enc.opened, noBook] at g
    simp only [] at hy
    split at hy
    case isTrue => cases hy
    next he =>
    cases hy
    have he' : (e != 0) = true := by simp [he]
    simp [drunL, dwanted, dopS, own, dop, dput, eval, ofVal, Then, upd, dload, dpart, TyI.agg, ty26, ty58, ty22, ty9, dbuildRows, growLimit, dcallee, g, DV.cells, dstore, setNo]
    refine hK _ _ ?_ rfl; clear hK K
    refine Dwp.seq ?_
    refine Dwp.step tT rfl fun K hK => ?_
    simp [drunL, dwanted, dopS, own, dop, dput, eval, ofVal, Then, upd, dbin, intCmp, he']
    refine hK _ _ ?_ rfl; clear hK K
    refine Dwp.condT (by simp [eval, upd]) ?_
    refine Dwp.step tT rfl fun K hK => ?_
    simp [dcall, tabOf, setAt]
    refine hK _ _ (Dwp.ret ?_) rfl
    simp [Done, dresults, dres, frz, frz1, frz2, Ex.then, upd, Enc.boolErr, Enc.tup, arg2, EncR.and, EncR.one, Enc.bool, Enc.i64, Enc.int]
  | some b =>
    simp only [Enc.opened, Enc.book, Enc.agg] at g
    simp only [] at hy
    split at hy
    case isFalse => cases hy
    next he =>
    subst he
    obtain ⟨v, hv, rfl⟩ := Option.map_eq_some_iff.1 hy
    simp [drunL, dwanted, dopS, own, dop, dput, eval, ofVal, Then, upd, dload, dpart, TyI.agg, ty26, ty58, ty22, ty9, dbuildRows, growLimit, dcallee, g, DV.cells, dstore, setBook]
    refine hK _ _ ?_ rfl; clear hK K
    refine Dwp.seq ?_
    refine Dwp.step tT rfl fun K hK => ?_
    simp [drunL, dwanted, dopS, own, dop, dput, eval, ofVal, Then, upd, dbin, intCmp]
    refine hK _ _ ?_ rfl; clear hK K
    refine Dwp.condF (by simp [eval, upd]) (Dwp.skip ?_)
    refine Dwp.freeze 11 (o := .cells 58 (EncR.book.enc b)) (fun t => if t = 6 then .row (EncR.book.enc b) 0 else if t = 2 then .row (EncR.sigd.enc s) 0 else if t = 3 then .row [.lit (.string x)] 0 else .junk) (by simp [upd, σ0]) (fun t => ?_) ?_
    · by_cases h6 : t = 6
      · subst h6; simp [upd]; exact .box (t := 58) 0 (by simp [upd, σ0])
      by_cases h2 : t = 2
      · subst h2; simp [upd]; exact .keep _
      by_cases h3 : t = 3
      · subst h3; simp [upd]; exact .keep _
      simp [h6, h2, h3]; exact .junk _
    simp only [valueB] at hv
    split at hv
    case isFalse => cases hv
    next hc =>
    cases hv
    have g2 : dcall T 55 [Enc.strs.enc s.values, Enc.clo.enc (56, b, x)] = some (Enc.bool.enc (s.values.any (cloB b 56 x))) := dcall2 (A := Enc.strs) (B := Enc.clo) (C := Enc.bool) h55 (if_pos ⟨hc.1, rfl, hc.2⟩)
    simp only [Enc.bool, Enc.clo, strsC] at g2
    refine Dwp.step tT rfl fun K hK => ?_
    simp [setAt, ty26, ty22, strsC, g2]
    refine hK _ _ (Dwp.ret ?_) rfl
    simp [Done, dresults, dres, frz, frz1, frz2, Ex.then, upd, Enc.boolErr, Enc.tup, arg2, EncR.and, EncR.one, Enc.bool, Enc.i64, Enc.int]
theorem e20 : Go.FA.Good Tryz.prog (20, s20) := ⟨c20, Tryz.f20, _, Tryz.func20, rfl, by decide⟩
end Go.Proofs.Yt
