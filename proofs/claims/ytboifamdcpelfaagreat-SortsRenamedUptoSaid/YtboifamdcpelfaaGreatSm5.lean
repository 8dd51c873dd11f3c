/- Contracts of functions of the program, by a machine over abstract values; part 6. No condition beyond those of each theorem. -/
import Derived.Test.YtboifamdcpelfaaGreatSm4
namespace Go.Proofs.Yt
open Go Go.FA Go.Proofs
set_option linter.unusedVariables false
set_option linter.unusedSimpArgs false
set_option maxRecDepth 100000

theorem call32 (T : Tab) (hT : T 32 = some s32) (s : SigD) (a b : ByteArray) {r : SigD} {e : Int} (h : renameF s a b = some (r, e)) : dcall T 32 [.agg (EncR.sigd.enc s), .lit (.string a), .lit (.string b)] = some (.tuple [.agg (EncR.sigd.enc r), .lit (.int .i64 e)]) := by
  have := dcall3 (T := T) (A := Enc.sigd) (B := Enc.str) (C := Enc.str) (D := Enc.sigErr) hT h
  simpa [Enc.sigd, Enc.agg, Enc.str, Enc.sigErr, Enc.tup, arg2, EncR.and, EncR.one, Enc.i64, Enc.int] using this
theorem call34 (T : Tab) (hT : T 34 = some s34) (s t : SigD) (h : s.ok) (h' : t.ok) : dcall T 34 [.agg (EncR.sigd.enc s), .agg (EncR.sigd.enc t)] = some (.lit (.bool (decide (s = t)))) := by
  have := dcall2 (T := T) (A := Enc.sigd) (B := Enc.sigd) (C := Enc.bool) (x := s) (y := t) hT (if_pos ⟨h, h'⟩)
  refine Eq.trans this ?_
  simp only [Enc.bool]
theorem setSig (s : SigD) : setAt zsig 0 (EncR.sigd.enc s) = EncR.sigd.enc s := rfl
open Classical in
noncomputable def s9 : Sp := sp (arg3 Enc.sigd Enc.str Enc.str) Enc.bool (fun x => if x.1.ok then some true else none)
abbrev T9 : Tab := tabOf [(10, s10), (11, s11), (12, s12), (32, s32), (34, s34), (40, s40)]
theorem t9 : TabOk Tryz.prog T9 := .cons e10 (.cons e11 (.cons e12 (.cons e32 (.cons e34 (.cons e40 .nil)))))
theorem c9 : CallSound Tryz.prog 9 s9 := by
  refine CallSound.of_sp (T := T9) Tryz.func9 rfl (Nat.le_of_ble_eq_true rfl) fun E xx y hy => ?_
  obtain ⟨s, x, z⟩ := xx
  simp only [] at hy
  split at hy
  case isFalse => cases hy
  next hok =>
  cases hy
  have g10 := call10 T9 rfl hok
  have g11 := call11 T9 rfl
  have g40 := fun (t : SigD) (h : t.ok) => call40 T9 rfl h
  have g12 := fun (t : SigD) (h : t.ok) => call12 T9 rfl h
  have g34 := fun (t u : SigD) (h : t.ok) (h' : u.ok) => call34 T9 rfl t u h h'
  obtain ⟨r, e, r1, r2, r3, r4⟩ := rename_some hok x z
  have g32 := call32 T9 rfl s x z r1
  have g32' := fun (t r : SigD) (e : Int) (h : renameF t x z = some (r, e)) => call32 T9 rfl t x z h
  have setS := setSig
  simp only [zsig] at setS
  have tT := t9
  generalize T9 = T at *
  have fin : ∀ (a : Nat → DV) (σ : St), a 6 = .lit (.bool true) → Done Tryz.prog Tryz.f9.results Enc.bool true Ex.ret a σ := by
    intro a σ h2
    refine ⟨.inr rfl, .lit (.bool true), ?_, rfl⟩
    show dresults Tryz.prog σ a [ResultVar.tmp 6] = _
    simp [dresults, dres, h2]
  refine Dwp.step tT rfl fun K hK => ?_
  simp [drunL, drunO, dwanted, dopS, own, plainOf, dop, dput, eval, ofVal, Then, Ex.then, Ex.inBlock, upd, dbin, Tag.isNN, nilTest, intCmp, dload, dpart, TyI.agg, dfieldAddr, dfield, dindexAddr, dindex, dlen, lenOk, dlookup, mapOf, keyFits, dmapUpdate, dcallee, dbuiltin, dstore, DV.cells, dslice, dboundOk, dappend, appTag, rowsOf, elemOk, growLimit, dbuildCells, dbuildCells.go, structOk, fieldsOk, dbuildRows, goInt, init, arg3, EncR.and, EncR.one, Enc.sigd, Enc.agg, Enc.str]
  refine hK _ _ ?_ rfl; clear hK K
  refine Dwp.seq ?_
  refine Dwp.step tT rfl fun K hK => ?_
  by_cases hf : few s = true
  case neg =>
    have hf' : few s = false := by simpa using hf
    simp [drunL, drunO, dwanted, dopS, own, plainOf, dop, dput, eval, ofVal, Then, Ex.then, Ex.inBlock, upd, dbin, Tag.isNN, nilTest, intCmp, dload, dpart, TyI.agg, dfieldAddr, dfield, dindexAddr, dindex, dlen, lenOk, dlookup, mapOf, keyFits, dmapUpdate, dcallee, dbuiltin, dstore, DV.cells, dslice, dboundOk, dappend, appTag, rowsOf, elemOk, growLimit, dbuildCells, dbuildCells.go, structOk, fieldsOk, dbuildRows, goInt, ty26, g10, hf']
    refine hK _ _ ?_ rfl; clear hK K
    refine Dwp.condT (by simp [eval, upd]) ?_
    refine Dwp.step tT rfl fun K hK => ?_
    simp [drunL, drunO, dwanted, dopS, own, plainOf, dop, dput, eval, ofVal, Then, Ex.then, Ex.inBlock, upd, dbin, Tag.isNN, nilTest, intCmp, dload, dpart, TyI.agg, dfieldAddr, dfield, dindexAddr, dindex, dlen, lenOk, dlookup, mapOf, keyFits, dmapUpdate, dcallee, dbuiltin, dstore, DV.cells, dslice, dboundOk, dappend, appTag, rowsOf, elemOk, growLimit, dbuildCells, dbuildCells.go, structOk, fieldsOk, dbuildRows, goInt, g11]
    refine hK _ _ (Dwp.ret ?_) rfl
    exact fin _ _ (by simp [upd])
  simp [drunL, drunO, dwanted, dopS, own, plainOf, dop, dput, eval, ofVal, Then, Ex.then, Ex.inBlock, upd, dbin, Tag.isNN, nilTest, intCmp, dload, dpart, TyI.agg, dfieldAddr, dfield, dindexAddr, dindex, dlen, lenOk, dlookup, mapOf, keyFits, dmapUpdate, dcallee, dbuiltin, dstore, DV.cells, dslice, dboundOk, dappend, appTag, rowsOf, elemOk, growLimit, dbuildCells, dbuildCells.go, structOk, fieldsOk, dbuildRows, goInt, ty26, g10, hf]
  refine hK _ _ ?_ rfl; clear hK K
  refine Dwp.condF (by simp [eval, upd]) (Dwp.skip ?_)
  refine Dwp.step tT rfl fun K hK => ?_
  simp [drunL, drunO, dwanted, dopS, own, plainOf, dop, dput, eval, ofVal, Then, Ex.then, Ex.inBlock, upd, dbin, Tag.isNN, nilTest, intCmp, dload, dpart, TyI.agg, dfieldAddr, dfield, dindexAddr, dindex, dlen, lenOk, dlookup, mapOf, keyFits, dmapUpdate, dcallee, dbuiltin, dstore, DV.cells, dslice, dboundOk, dappend, appTag, rowsOf, elemOk, growLimit, dbuildCells, dbuildCells.go, structOk, fieldsOk, dbuildRows, goInt, ty26, init, g32, setS]
  refine hK _ _ ?_ rfl; clear hK K
  by_cases he : e = 0
  case neg =>
    refine Dwp.seq ?_
    refine Dwp.step tT rfl fun K hK => ?_
    have hne : (e != 0) = true := by simpa using he
    simp [drunL, drunO, dwanted, dopS, own, plainOf, dop, dput, eval, ofVal, Then, Ex.then, Ex.inBlock, upd, dbin, Tag.isNN, nilTest, intCmp, dload, dpart, TyI.agg, dfieldAddr, dfield, dindexAddr, dindex, dlen, lenOk, dlookup, mapOf, keyFits, dmapUpdate, dcallee, dbuiltin, dstore, DV.cells, dslice, dboundOk, dappend, appTag, rowsOf, elemOk, growLimit, dbuildCells, dbuildCells.go, structOk, fieldsOk, dbuildRows, goInt, hne]
    refine hK _ _ ?_ rfl; clear hK K
    refine Dwp.condT (by simp [eval, upd]) ?_
    refine Dwp.step tT rfl fun K hK => ?_
    rcases r3 he with rfl | rfl <;> simp [drunL, drunO, dwanted, dopS, own, plainOf, dop, dput, eval, ofVal, Then, Ex.then, Ex.inBlock, upd, dbin, Tag.isNN, nilTest, intCmp, dload, dpart, TyI.agg, dfieldAddr, dfield, dindexAddr, dindex, dlen, lenOk, dlookup, mapOf, keyFits, dmapUpdate, dcallee, dbuiltin, dstore, DV.cells, dslice, dboundOk, dappend, appTag, rowsOf, elemOk, growLimit, dbuildCells, dbuildCells.go, structOk, fieldsOk, dbuildRows, goInt, g11] <;> refine hK _ _ (Dwp.ret ?_) rfl <;> exact fin _ _ (by simp [upd])
  subst he
  obtain ⟨hv, hn, rfl, hrv⟩ := r2 rfl
  have hrok := ren_ok hok hv hn
  have hback := ren_back hok hv hn hrv
  obtain ⟨r', e', k1, k2, _, k4⟩ := rename_some hrok x z
  obtain rfl := k4 hrv hn (by rw [hback]; exact hv)
  obtain ⟨_, _, rfl, _⟩ := k2 rfl
  rw [hback] at k1
  have gb := g32' _ _ _ k1
  have g34s := g34 s s hok hok
  simp only [decide_true] at g34s
  have g12r := g12 _ hrok
  rw [hrv] at g12r
  refine Dwp.freeze 12 (o := .cells 26 (EncR.sigd.enc (ren s x z))) (fun t => if t = 1 then .lit (.string x) else if t = 2 then .lit (.string z) else if t = 3 then .row (EncR.sigd.enc s) 0 else if t = 7 then .row (EncR.sigd.enc (ren s x z)) 0 else if t = 8 then .lit (.int .i64 0) else .junk) (by simp [upd, σ0]) (fun t => ?_) ?_
  · by_cases h1 : t = 1
    · subst h1; simp [upd, init]; exact .keep _
    by_cases h2 : t = 2
    · subst h2; simp [upd, init]; exact .keep _
    by_cases h3 : t = 3
    · subst h3; simp [upd]; exact .keep _
    by_cases h7 : t = 7
    · subst h7; simp [upd]; exact .box (t := 26) 0 (by simp [upd, σ0])
    by_cases h8 : t = 8
    · subst h8; simp [upd]; exact .keep _
    simp [h1, h2, h3, h7, h8]; exact .junk _
  refine Dwp.seq ?_
  refine Dwp.step tT rfl fun K hK => ?_
  simp [drunL, drunO, dwanted, dopS, own, plainOf, dop, dput, eval, ofVal, Then, Ex.then, Ex.inBlock, upd, dbin, Tag.isNN, nilTest, intCmp, dload, dpart, TyI.agg, dfieldAddr, dfield, dindexAddr, dindex, dlen, lenOk, dlookup, mapOf, keyFits, dmapUpdate, dcallee, dbuiltin, dstore, DV.cells, dslice, dboundOk, dappend, appTag, rowsOf, elemOk, growLimit, dbuildCells, dbuildCells.go, structOk, fieldsOk, dbuildRows, goInt]
  refine hK _ _ ?_ rfl; clear hK K
  refine Dwp.condF (by simp [eval, upd]) (Dwp.skip ?_)
  refine Dwp.step tT rfl fun K hK => ?_
  simp [drunL, drunO, dwanted, dopS, own, plainOf, dop, dput, eval, ofVal, Then, Ex.then, Ex.inBlock, upd, dbin, Tag.isNN, nilTest, intCmp, dload, dpart, TyI.agg, dfieldAddr, dfield, dindexAddr, dindex, dlen, lenOk, dlookup, mapOf, keyFits, dmapUpdate, dcallee, dbuiltin, dstore, DV.cells, dslice, dboundOk, dappend, appTag, rowsOf, elemOk, growLimit, dbuildCells, dbuildCells.go, structOk, fieldsOk, dbuildRows, goInt, ty26, gb, setS]
  refine hK _ _ ?_ rfl; clear hK K
  refine Dwp.seq ?_
  refine Dwp.step tT rfl fun K hK => ?_
  simp [drunL, drunO, dwanted, dopS, own, plainOf, dop, dput, eval, ofVal, Then, Ex.then, Ex.inBlock, upd, dbin, Tag.isNN, nilTest, intCmp, dload, dpart, TyI.agg, dfieldAddr, dfield, dindexAddr, dindex, dlen, lenOk, dlookup, mapOf, keyFits, dmapUpdate, dcallee, dbuiltin, dstore, DV.cells, dslice, dboundOk, dappend, appTag, rowsOf, elemOk, growLimit, dbuildCells, dbuildCells.go, structOk, fieldsOk, dbuildRows, goInt, ty26, g34s, g12r]
  refine hK _ _ ?_ rfl; clear hK K
  refine Dwp.condF (by simp [eval, upd]) (Dwp.skip ?_)
  refine Dwp.seq ?_
  refine Dwp.step tT rfl fun K hK => ?_
  have hl := hok.1
  have hl' : s.sorts.length ≤ 16777216 := by omega
  have hrl : (ren s x z).sorts.length = s.sorts.length := by rw [ren_sorts]; simp
  simp [drunL, drunO, dwanted, dopS, own, plainOf, dop, dput, eval, ofVal, Then, Ex.then, Ex.inBlock, upd, dbin, Tag.isNN, nilTest, intCmp, dload, dpart, TyI.agg, dfieldAddr, dfield, dindexAddr, dindex, dlen, lenOk, dlookup, mapOf, keyFits, dmapUpdate, dcallee, dbuiltin, dstore, DV.cells, dslice, dboundOk, dappend, appTag, rowsOf, elemOk, growLimit, dbuildCells, dbuildCells.go, structOk, fieldsOk, dbuildRows, goInt, ty26, ty22, strsC]
  refine hK _ _ ?_ rfl; clear hK K
  refine Dwp.range tT s.sorts.length (fun i a σ => a 3 = .row (EncR.sigd.enc s) 0 ∧ a 7 = .row (EncR.sigd.enc (ren s x z)) 0 ∧ a 58 = .slice 1 .none (rows1 s.sorts))
    ⟨rfl, rfl, rfl⟩ ⟨rfl, rfl, rfl⟩ ⟨rfl, rfl, rfl⟩ (by decide) (by decide) (by omega) (by simp [upd]) (by simp [upd]) ⟨by simp [upd], by simp [upd], by simp [upd]⟩ ?_ ?_
  · rintro i a σ hi hidx hlen ⟨h3, h7, h58⟩
    have hir : i < (ren s x z).sorts.length := by omega
    refine Dwp.step tT rfl fun K hK => ?_
    simp [drunL, drunO, dwanted, dopS, own, plainOf, dop, dput, eval, ofVal, Then, Ex.then, Ex.inBlock, upd, dbin, Tag.isNN, nilTest, intCmp, dload, dpart, TyI.agg, dfieldAddr, dfield, dindexAddr, dindex, dlen, lenOk, dlookup, mapOf, keyFits, dmapUpdate, dcallee, dbuiltin, dstore, DV.cells, dslice, dboundOk, dappend, appTag, rowsOf, elemOk, growLimit, dbuildCells, dbuildCells.go, structOk, fieldsOk, dbuildRows, goInt, h58, hidx, ty22, ty9, hi]
    refine hK _ _ ?_ rfl; clear hK K
    refine Dwp.step tT rfl fun K hK => ?_
    simp [drunL, drunO, dwanted, dopS, own, plainOf, dop, dput, eval, ofVal, Then, Ex.then, Ex.inBlock, upd, dbin, Tag.isNN, nilTest, intCmp, dload, dpart, TyI.agg, dfieldAddr, dfield, dindexAddr, dindex, dlen, lenOk, dlookup, mapOf, keyFits, dmapUpdate, dcallee, dbuiltin, dstore, DV.cells, dslice, dboundOk, dappend, appTag, rowsOf, elemOk, growLimit, dbuildCells, dbuildCells.go, structOk, fieldsOk, dbuildRows, goInt, h3, ty26, ty22, strsC]
    refine hK _ _ ?_ rfl; clear hK K
    refine Dwp.range tT s.sorts.length (fun k a σ => a 3 = .row (EncR.sigd.enc s) 0 ∧ a 7 = .row (EncR.sigd.enc (ren s x z)) 0 ∧ a 58 = .slice 1 .none (rows1 s.sorts) ∧ a 11 = .lit (.int .i64 i) ∧ a 12 = .lit (.string s.sorts[i]) ∧ a 59 = .lit (.int .i64 s.sorts.length) ∧ a 60 = .lit (.int .i64 i) ∧ a 66 = .slice 1 .none (rows1 s.sorts))
      ⟨rfl, rfl, rfl⟩ ⟨rfl, rfl, rfl⟩ ⟨rfl, rfl, rfl⟩ (by decide) (by decide) (by omega) (by simp [upd]) (by simp [upd]) ⟨by simp [upd, h3], by simp [upd, h7], by simp [upd, h58], by simp [upd], by simp [upd], by simp [upd, hlen], by simp [upd, hidx], by simp [upd]⟩ ?_ ?_
    · rintro k a σ hk hidx hlen ⟨h3, h7, h58, h11, h12, h59, h60, h66⟩
      have hkr : k < (ren s x z).sorts.length := by omega
      refine Dwp.step tT rfl fun K hK => ?_
      simp [drunL, drunO, dwanted, dopS, own, plainOf, dop, dput, eval, ofVal, Then, Ex.then, Ex.inBlock, upd, dbin, Tag.isNN, nilTest, intCmp, dload, dpart, TyI.agg, dfieldAddr, dfield, dindexAddr, dindex, dlen, lenOk, dlookup, mapOf, keyFits, dmapUpdate, dcallee, dbuiltin, dstore, DV.cells, dslice, dboundOk, dappend, appTag, rowsOf, elemOk, growLimit, dbuildCells, dbuildCells.go, structOk, fieldsOk, dbuildRows, goInt, h66, hidx, ty22, ty9, hk]
      refine hK _ _ ?_ rfl; clear hK K
      have q1 := g40 s hok s.sorts[i] s.sorts[k]
      have q2 := g40 (ren s x z) hrok (ren s x z).sorts[i] (ren s x z).sorts[k]
      have hq : (ren s x z).at (ren s x z).sorts[i] (ren s x z).sorts[k] = s.at s.sorts[i] s.sorts[k] := by
        have := at_ren hok hv hn hrv (x := s.sorts[i]) (y := s.sorts[k]) (List.mem_append_right _ (List.getElem_mem hi)) (List.mem_append_right _ (List.getElem_mem hk))
        rw [← this]
        congr 1 <;> simp [ren_sorts]
      rw [hq] at q2
      refine Dwp.drawStep [] mixed tT rfl (by decide) fun K hK => ?_
      simp [drunT, touch, touchP, drunL, drunO, dwanted, dopS, own, plainOf, dop, dput, eval, ofVal, Then, Ex.then, Ex.inBlock, upd, dbin, Tag.isNN, nilTest, intCmp, dload, dpart, TyI.agg, dfieldAddr, dfield, dindexAddr, dindex, dlen, lenOk, dlookup, mapOf, keyFits, dmapUpdate, dcallee, dbuiltin, dstore, DV.cells, dslice, dboundOk, dappend, appTag, rowsOf, elemOk, growLimit, dbuildCells, dbuildCells.go, structOk, fieldsOk, dbuildRows, goInt, h3, h7, h11, h12, ty26, ty22, ty9, ty4, strsC, hir, hkr, q1, q2]
      refine hK _ _ ?_ rfl; clear hK K
      refine Dwp.condF (by simp [eval, upd]) (Dwp.skip ?_)
      exact ⟨by simp [upd, hidx], by simp [upd, hlen], by simp [upd, h3], by simp [upd, h7], by simp [upd, h58], by simp [upd, h11], by simp [upd, h12], by simp [upd, h59], by simp [upd, h60], by simp [upd, h66]⟩
    · rintro a σ _ _ ⟨h3, h7, h58, h11, h12, h59, h60, h66⟩
      exact ⟨by simp [upd, h60], by simp [upd, h59], by simp [upd, h3], by simp [upd, h7], by simp [upd, h58]⟩
  · rintro a σ hidx hlen ⟨h3, h7, h58⟩
    refine Dwp.step tT rfl fun K hK => ?_
    simp [drunL, drunO, dwanted, dopS, own, plainOf, dop, dput, eval, ofVal, Then, Ex.then, Ex.inBlock, upd, dbin, Tag.isNN, nilTest, intCmp, dload, dpart, TyI.agg, dfieldAddr, dfield, dindexAddr, dindex, dlen, lenOk, dlookup, mapOf, keyFits, dmapUpdate, dcallee, dbuiltin, dstore, DV.cells, dslice, dboundOk, dappend, appTag, rowsOf, elemOk, growLimit, dbuildCells, dbuildCells.go, structOk, fieldsOk, dbuildRows, goInt, g11]
    refine hK _ _ (Dwp.ret ?_) rfl
    exact fin _ _ (by simp [upd])
theorem e9 : Go.FA.Good Tryz.prog (9, s9) := ⟨c9, Tryz.f9, _, Tryz.func9, rfl, by decide⟩
end Go.Proofs.Yt
