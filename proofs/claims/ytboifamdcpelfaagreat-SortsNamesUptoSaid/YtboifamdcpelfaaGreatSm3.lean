/- Contracts of functions of the program, by a machine over abstract values; part 4. No condition beyond those of each theorem. -/
import Derived.Test.YtboifamdcpelfaaGreatSm2
import Derived.Test.YtboifamdcpelfaaGreatRows
import Derived.JoinedCond
import Derived.WideKeyArgs
import Derived.RowKit
import Derived.OpenShut
namespace Go.Proofs.Yt
open Go Go.FA Go.Proofs
set_option linter.unusedVariables false
set_option linter.unusedSimpArgs false
set_option maxRecDepth 100000

structure Ren where
  book : Book
  a : ByteArray
  b : ByteArray
def renL (r : Ren) : List DV := [.fmap (r.book.highs.map fun p => .string p.1) (r.book.highs.map fun p => Enc.strs.enc p.2), .fmap (r.book.ops.map fun p => .string p.1) (r.book.ops.map fun p => .agg (EncR.opd.enc p.2)), .fmap (r.book.funs.map fun p => .string p.1) (r.book.funs.map fun p => .agg (EncR.opd.enc p.2)), .lit (.string r.a), .lit (.string r.b)]
def EncR.ren : EncR Ren := (EncR.book.and ((EncR.one Enc.str).and (EncR.one Enc.str))).iso (fun r => (r.book, r.a, r.b)) (fun x => ⟨x.1, x.2.1, x.2.2⟩) (fun _ => rfl) (fun _ => rfl)
theorem renC (r : Ren) : EncR.ren.enc r = renL r := rfl
theorem bookC (b : Book) : EncR.book.enc b = [.fmap (b.highs.map fun p => .string p.1) (b.highs.map fun p => Enc.strs.enc p.2), .fmap (b.ops.map fun p => .string p.1) (b.ops.map fun p => .agg (EncR.opd.enc p.2)), .fmap (b.funs.map fun p => .string p.1) (b.funs.map fun p => .agg (EncR.opd.enc p.2))] := rfl
theorem renK : EncR.ren.k = 5 := rfl
@[simp] theorem ren3 (r : Ren) : (renL r)[3]? = some (.lit (.string r.a)) := rfl
@[simp] theorem ren4 (r : Ren) : (renL r)[4]? = some (.lit (.string r.b)) := rfl
@[simp] theorem renLen (r : Ren) : (renL r).length = 5 := rfl
@[simp] theorem renTake (r : Ren) : (renL r).take 5 = renL r := rfl
@[simp] theorem renTake3 (r : Ren) : (renL r).take 3 = EncR.book.enc r.book := rfl
def Enc.ren : Enc Ren := Enc.agg EncR.ren
def Enc.bel : Enc Bel := Enc.agg EncR.bel
def Enc.pie : Enc Pie := Enc.agg EncR.pie
def Ren.name (r : Ren) (s : ByteArray) : ByteArray := if s = r.a then r.b else if s = r.b then r.a else s
def Ren.sort (r : Ren) (s : ByteArray) : ByteArray := if r.book.decl s then r.name s else s
def Ren.below (r : Ren) (x : Bel) : Bel := ⟨r.sort x.low, r.sort x.high⟩
def Ren.piece (r : Ren) (x : Pie) : Pie := ⟨x.text, r.sort x.sort⟩
def s100 : Sp := sp (arg2 Enc.ren Enc.str) Enc.str (fun x => some (x.1.name x.2))
attribute [local simp] drunL drunO dwanted dopS own plainOf dop dput eval ofVal Then Ex.then Ex.inBlock upd dbin Tag.isNN nilTest intCmp dload dpart TyI.agg dfieldAddr dfield dindexAddr dindex dlen lenOk dlookup mapOf keyFits dmapUpdate dcallee dbuiltin dstore DV.cells dslice dboundOk dappend appTag rowsOf elemOk growLimit dbuildCells dbuildCells.go structOk fieldsOk dbuildRows goInt
theorem c100 : CallSound Tryz.prog 100 s100 := by
  refine CallSound.of_sp (T := tabOf []) Tryz.func100 rfl (Nat.le_of_ble_eq_true rfl) fun E xx y hy => ?_
  obtain ⟨r, s⟩ := xx
  simp only [Option.some.injEq] at hy
  subst hy
  refine Dwp.step tab0 rfl fun K hK => ?_
  simp [dcall, tabOf, setAt, init, arg2, EncR.and, EncR.one, Enc.ren, Enc.agg, Enc.str, renC]
  refine hK _ _ ?_ rfl; clear hK K
  refine Dwp.seq ?_
  refine Dwp.step tab0 rfl fun K hK => ?_
  simp [dcall, tabOf, setAt]
  refine hK _ _ ?_ rfl; clear hK K
  refine Dwp.block ?_
  refine Dwp.step tab0 rfl fun K hK => ?_
  by_cases h1 : s = r.a
  · simp [dcall, tabOf, setAt, ty73, ty9, h1]
    refine hK _ _ ?_ rfl; clear hK K
    refine Dwp.condT (by simp [eval, upd]) ?_
    refine Dwp.step tab0 rfl fun K hK => ?_
    simp [dcall, tabOf, setAt, ty73, ty9]
    refine hK _ _ (Dwp.ret ?_) rfl
    simp [Done, dresults, dres, frz, frz1, frz2, Ex.then, Ex.inBlock, Enc.str, upd, Ren.name, h1]
  · simp [dcall, tabOf, setAt, ty73, ty9, h1]
    refine hK _ _ ?_ rfl; clear hK K
    refine Dwp.condF (by simp [eval, upd, h1]) ?_
    refine Dwp.step tab0 rfl fun K hK => ?_
    by_cases h2 : s = r.b
    · simp [dcall, tabOf, setAt, ty73, ty9, h2]
      refine hK _ _ ?_ rfl; clear hK K
      refine Dwp.condT (by simp [eval, upd]) ?_
      refine Dwp.step tab0 rfl fun K hK => ?_
      simp [dcall, tabOf, setAt, ty73, ty9]
      refine hK _ _ (Dwp.ret ?_) rfl
      have h3 : ¬ r.b = r.a := fun e => h1 (h2.trans e)
      simp [Done, dresults, dres, frz, frz1, frz2, Ex.then, Ex.inBlock, Enc.str, upd, Ren.name, h2, h3]
    · simp [dcall, tabOf, setAt, ty73, ty9, h2]
      refine hK _ _ ?_ rfl; clear hK K
      refine Dwp.condF (by simp [eval, upd, h2]) (Dwp.skip ?_)
      simp only [Ex.then, Ex.inBlock]
      refine Dwp.step tab0 rfl fun K hK => ?_
      simp [dcall, tabOf, setAt, init]
      refine hK _ _ (Dwp.ret ?_) rfl
      simp [Done, dresults, dres, frz, frz1, frz2, Enc.str, upd, Ren.name, h1, h2]
theorem e100 : Go.FA.Good Tryz.prog (100, s100) := ⟨c100, Tryz.f100, _, Tryz.func100, rfl, by decide⟩
def s67 : Sp := sp (arg2 Enc.ren Enc.str) Enc.str (fun x => some (x.1.sort x.2))
abbrev T67 : Tab := tabOf [(99, s99), (100, s100)]
theorem c67 : CallSound Tryz.prog 67 s67 := by
  have tT : TabOk Tryz.prog T67 := .cons e99 (.cons e100 .nil)
  refine CallSound.of_sp (T := T67) Tryz.func67 rfl (Nat.le_of_ble_eq_true rfl) fun E xx y hy => ?_
  obtain ⟨r, s⟩ := xx
  simp only [Option.some.injEq] at hy
  subst hy
  have g1 := call99 T67 rfl r.book s
  have g2 : dcall T67 100 [Enc.ren.enc r, Enc.str.enc s] = some (Enc.str.enc (r.name s)) := dcall2 (A := Enc.ren) (B := Enc.str) (C := Enc.str) rfl rfl
  simp only [Enc.ren, Enc.agg, Enc.str, renC] at g2
  generalize T67 = T at *
  refine Dwp.step tT rfl fun K hK => ?_
  simp [dcall, tabOf, setAt, init, arg2, EncR.and, EncR.one, Enc.ren, Enc.agg, Enc.str, renC]
  refine hK _ _ ?_ rfl; clear hK K
  refine Dwp.seq ?_
  refine Dwp.step tT rfl fun K hK => ?_
  simp [setAt, init, arg2, EncR.and, EncR.one, Enc.str, ty73, ty58, g1]
  refine hK _ _ ?_ rfl; clear hK K
  cases hd : r.book.decl s with
  | false =>
    refine Dwp.condT (by simp [eval, upd, hd]) ?_
    refine Dwp.step tT rfl fun K hK => ?_
    simp [dcall, tabOf, setAt, init, arg2, EncR.and, EncR.one, Enc.str]
    refine hK _ _ (Dwp.ret ?_) rfl
    simp [Done, dresults, dres, frz, frz1, frz2, Ex.then, Enc.str, upd, Ren.sort, hd]
  | true =>
    refine Dwp.condF (by simp [eval, upd, hd]) (Dwp.skip ?_)
    refine Dwp.step tT rfl fun K hK => ?_
    simp [setAt, init, arg2, EncR.and, EncR.one, Enc.str, ty73, g2]
    refine hK _ _ (Dwp.ret ?_) rfl
    simp [Done, dresults, dres, frz, frz1, frz2, Enc.str, upd, Ren.sort, hd]
theorem e67 : Go.FA.Good Tryz.prog (67, s67) := ⟨c67, Tryz.f67, _, Tryz.func67, rfl, by decide⟩
theorem call67 (T : Tab) (hT : T 67 = some s67) (r : Ren) (s : ByteArray) : dcall T 67 [.agg (renL r), .lit (.string s)] = some (.lit (.string (r.sort s))) :=
  dcall2 (A := Enc.ren) (B := Enc.str) (C := Enc.str) hT rfl
theorem t67 : TabOk Tryz.prog (tabOf [(67, s67)]) := .cons e67 .nil
def s69 : Sp := sp (arg2 Enc.ren Enc.bel) Enc.bel (fun x => some (x.1.below x.2))
theorem c69 : CallSound Tryz.prog 69 s69 := by
  refine CallSound.of_sp (T := tabOf [(67, s67)]) Tryz.func69 rfl (Nat.le_of_ble_eq_true rfl) fun E xx y hy => ?_
  obtain ⟨r, x⟩ := xx
  simp only [Option.some.injEq] at hy
  subst hy
  have g1 := call67 (tabOf [(67, s67)]) rfl r x.low
  have g2 := call67 (tabOf [(67, s67)]) rfl r x.high
  have tT := t67
  generalize tabOf [(67, s67)] = T at *
  refine Dwp.step tT rfl fun K hK => ?_
  simp [dcall, tabOf, setAt, init, arg2, EncR.and, EncR.one, Enc.ren, Enc.bel, Enc.agg, renC, EncR.bel, ty78]
  refine hK _ _ ?_ rfl; clear hK K
  refine Dwp.drawStep [.none, .none, .none, .none, .none, .none, .none, .none, .none, .wobj] mixed tT rfl (by decide) fun K hK => ?_
  simp [drunT, touch, touchP, ty73, ty78, ty9, g1, g2, set2]
  refine hK _ _ (Dwp.ret ?_) rfl
  simp [Done, dresults, dres, frz, frz1, frz2, upd, dload, dpart, TyI.agg, ty78, setAt, Enc.bel, Enc.agg, EncR.bel, Ren.below]
theorem e69 : Go.FA.Good Tryz.prog (69, s69) := ⟨c69, Tryz.f69, _, Tryz.func69, rfl, by decide⟩
def s103 : Sp := sp (arg2 Enc.ren Enc.pie) Enc.pie (fun x => some (x.1.piece x.2))
theorem c103 : CallSound Tryz.prog 103 s103 := by
  refine CallSound.of_sp (T := tabOf [(67, s67)]) Tryz.func103 rfl (Nat.le_of_ble_eq_true rfl) fun E xx y hy => ?_
  obtain ⟨r, x⟩ := xx
  simp only [Option.some.injEq] at hy
  subst hy
  have g2 := call67 (tabOf [(67, s67)]) rfl r x.sort
  have tT := t67
  generalize tabOf [(67, s67)] = T at *
  refine Dwp.step tT rfl fun K hK => ?_
  simp [dcall, tabOf, setAt, init, arg2, EncR.and, EncR.one, Enc.ren, Enc.pie, Enc.agg, renC, EncR.pie, ty69]
  refine hK _ _ ?_ rfl; clear hK K
  refine Dwp.drawStep [.none, .none, .none, .none, .none, .none, .none, .wobj] mixed tT rfl (by decide) fun K hK => ?_
  simp [drunT, touch, touchP, ty73, ty69, ty9, g2]
  refine hK _ _ (Dwp.ret ?_) rfl
  simp [Done, dresults, dres, frz, frz1, frz2, upd, dload, dpart, TyI.agg, ty69, setAt, Enc.pie, Enc.agg, EncR.pie, Ren.piece]
theorem e103 : Go.FA.Good Tryz.prog (103, s103) := ⟨c103, Tryz.f103, _, Tryz.func103, rfl, by decide⟩
end Go.Proofs.Yt
namespace Go.Proofs.Yt
open Go Go.FA Go.Proofs
set_option linter.unusedVariables false
set_option linter.unusedSimpArgs false
set_option maxRecDepth 100000

/-- a method bound to a renamer -/
def Enc.meth : Enc (Nat × Ren) where
  enc p := .func (.func p.1) [.agg (renL p.2)] []
  dec d := match d with
    | .func (.func f) [x] [] => match Enc.ren.dec x with
      | some r => some (f, r)
      | none => none
    | _ => none
  le d x h := by
    intro C w v hv
    split at h
    · split at h
      · next r hb =>
        simp at h; subst h
        simp only [VRel] at hv ⊢
        obtain ⟨f', c', h1, h2, h3⟩ := hv
        exact ⟨f', c', h1, LRel_le (.cons (Enc.ren.le _ _ hb) .nil) h2, h3⟩
      · simp at h
    · simp at h
  pure p := by
    have : pureB (.agg (renL p.2)) = true := Enc.ren.pure p.2
    show pureB (.func _ [.agg (renL p.2)] []) = true
    simp only [pureB, pureL] at this ⊢
    simp [this]
  de p := by
    have := Enc.ren.de p.2
    simp only [Enc.ren, Enc.agg, renC] at this ⊢
    simp [this]
theorem grow1 (n : Nat) (h : n ≤ 1048576) : n + 1 ≤ 16777216 := by omega

def s66 : Sp := sp (arg2 Enc.strs Enc.meth) Enc.strs (fun x => if x.1.length ≤ 1048576 ∧ x.2.1 = 67 then some (x.1.map x.2.2.sort) else none)
def row66 (l : List ByteArray) : List (List DV) := l.map (fun x => [DV.lit (.string (x))])
theorem row66_snoc (l) (x) : row66 (l ++ [x]) = row66 l ++ [[DV.lit (.string (x))]] := by simp [row66]
def inv66 (l : List ByteArray) (r : Ren) : Nat → (Nat → DV) → St → Prop := fun k a σ => ∃ i, i ≤ l.length ∧ k = l.length - i ∧
  a 8 = .slice 1 .none (row66 l) ∧ a 1 = .func (.func 67) [.agg (renL r)] [] ∧ a 9 = .lit (.int .i64 l.length) ∧ a 10 = .lit (.int .i64 i) ∧ Acc σ 1 (row66 ((l.take i).map r.sort)) (a 5)
abbrev T66 : Tab := tabOf [(67, s67)]
attribute [local simp] drunL drunO dwanted dopS own plainOf dop dput eval ofVal Then Ex.then Ex.inBlock upd dbin Tag.isNN nilTest intCmp dload dpart TyI.agg dfieldAddr dfield dindexAddr dindex dlen lenOk dlookup mapOf keyFits dmapUpdate dcallee dbuiltin dstore DV.cells dslice dboundOk dappend appTag rowsOf elemOk growLimit dbuildCells dbuildCells.go structOk fieldsOk dbuildRows goInt
theorem c66 : CallSound Tryz.prog 66 s66 := by
  have tT : TabOk Tryz.prog T66 := .cons e67 .nil
  refine CallSound.of_sp (T := T66) Tryz.func66 rfl (Nat.le_of_ble_eq_true rfl) fun E xx y hy => ?_
  obtain ⟨l, f, r⟩ := xx
  by_cases hc : l.length ≤ 1048576 ∧ f = 67
  case neg => simp only [] at hy; rw [if_neg hc] at hy; cases hy
  simp only [] at hy
  rw [if_pos hc] at hy
  cases hy
  obtain ⟨hlim, rfl⟩ := hc
  have hT : T66 67 = some s67 := rfl
  generalize T66 = T at *
  have hrow : ∀ l, Enc.strs.enc l = .slice 1 .none (row66 l) := fun _ => rfl
  refine Dwp.step tT rfl fun K hK => ?_
  simp [dcall, tabOf, setAt]
  refine hK _ _ ?_ rfl; clear hK K
  refine Dwp.step tT rfl fun K hK => ?_
  simp [dcall, tabOf, setAt]
  refine hK _ _ ?_ rfl; clear hK K
  refine Dwp.seq ?_
  refine Dwp.step tT rfl fun K hK => ?_
  have hrl : (row66 l).length = l.length := by simp [row66]
  simp [dcall, tabOf, setAt, init, arg2, EncR.and, EncR.one, hrow, ty22, hrl]
  refine hK _ _ ?_ rfl; clear hK K
  refine Dwp.block (Dwp.loop (inv66 l r) l.length ⟨0, by simp, by simp, by simp [upd], by simp [upd, init, Enc.meth], by simp [upd], by simp [upd], .inl ⟨by simp [row66], by simp [upd]⟩⟩ ?_)
  rintro k a σ ⟨i, hi, rfl, h8, h1, h9, h10, hacc⟩
  refine Dwp.step tT rfl fun K hK => ?_
  simp [dcall, tabOf, setAt, h9, h10]
  refine hK _ _ ?_ rfl; clear hK K
  by_cases hlt : i < l.length
  · refine Dwp.seq (Dwp.condT (by simp [eval, upd, hlt]) (Dwp.skip ?_))
    refine Dwp.seq (Dwp.block ?_)
    have hri : (row66 l)[i]? = some ([DV.lit (.string (l[i]))]) := by simp [row66, hlt]
    have g : dcall T 67 [.agg (renL r), .lit (.string l[i])] = some (.lit (.string (r.sort l[i]))) := dcall2 (A := Enc.ren) (B := Enc.str) (C := Enc.str) hT rfl
    skip
    refine Dwp.step tT rfl fun K hK => ?_
    simp [h8, h10, ty22, ty9, hri]
    refine hK _ _ ?_ rfl; clear hK K
    refine Dwp.reg tT rfl fun K hK => ?_
    have htk : (l.take (i + 1)).map r.sort = (l.take i).map r.sort ++ [r.sort (l[i])] := by
      rw [List.take_succ_eq_append_getElem hlt, List.map_append]; rfl
    have hw : IntKind.i64.wrap ((i : Int) + 1) = (i : Int) + 1 := wrap_small (n := (i : Int) + 1) (by omega) (by omega)
    rcases hacc with ⟨q1, q2⟩ | ⟨t, gg, q1, q3⟩
    · simp [drunL, dwanted, dopS, own, dop, dput, eval, ofVal, Then, upd, dload, dpart, TyI.agg, dcallee, dbuildRows, growLimit, DV.cells, dbuiltin, dappend, rowsOf, appTag, elemOk, q2, h1, ty22, ty9, g]
      refine hK _ _ ?_ rfl; clear hK K
      refine Dwp.reg tT rfl fun K hK => ?_
      simp [dcall, tabOf, setAt, h10]
      refine hK _ _ ?_ rfl; clear hK K
      refine ⟨l.length - (i + 1), by omega, i + 1, by omega, rfl, by simp [upd, h8], by simp [upd, h1], by simp [upd, h9], by simp [upd, hw], ?_⟩
      rw [htk, row66_snoc, q1]; exact .inr ⟨_, 0, by simp [upd]; rfl, by simp [upd]⟩
    · have hl3 : (row66 (List.take i (List.map r.sort l))).length ≤ 16777215 := by simp [row66]; omega
      simp [drunL, dwanted, dopS, own, dop, dput, eval, ofVal, Then, upd, dload, dpart, TyI.agg, dcallee, dbuildRows, growLimit, DV.cells, dbuiltin, dappend, rowsOf, appTag, elemOk, q1, q3, h1, ty22, ty9, g, hl3]
      refine hK _ _ ?_ rfl; clear hK K
      refine Dwp.reg tT rfl fun K hK => ?_
      simp [dcall, tabOf, setAt, h10]
      refine hK _ _ ?_ rfl; clear hK K
      refine ⟨l.length - (i + 1), by omega, i + 1, by omega, rfl, by simp [upd, h8], by simp [upd, h1], by simp [upd, h9], by simp [upd, hw], ?_⟩
      rw [htk, row66_snoc]; exact .inr ⟨t, gg + 1, by simp [upd], by simp [upd]⟩
  · refine Dwp.seq (Dwp.condF (by simp [eval, upd, hlt]) (Dwp.exit ?_))
    simp only [Ex.then, Ex.inBlock, if_true]
    rw [List.take_of_length_le (by omega)] at hacc
    refine Dwp.step tT rfl fun K hK => ?_
    simp [dcall, tabOf, setAt]
    refine hK _ _ (Dwp.ret ?_) rfl
    have hd := hacc.dec (A := EncR.one Enc.str) (decRows_enc (EncR.one Enc.str) (l.map r.sort))
    rcases hacc with ⟨q1, q2⟩ | ⟨t, gg, q1, q3⟩
    · rw [q2] at hd; simp [Done, dresults, dres, frz, frz1, frz2, upd, q2]; exact hd
    · rw [q1] at hd; simp [Done, dresults, dres, frz, frz1, frz2, upd, q1]; exact hd
theorem e66 : Go.FA.Good Tryz.prog (66, s66) := ⟨c66, Tryz.f66, _, Tryz.func66, rfl, by decide⟩

def s68 : Sp := sp (arg2 Enc.bels Enc.meth) Enc.bels (fun x => if x.1.length ≤ 1048576 ∧ x.2.1 = 69 then some (x.1.map x.2.2.below) else none)
def row68 (l : List Bel) : List (List DV) := l.map (fun x => EncR.bel.enc (x))
theorem row68_snoc (l) (x) : row68 (l ++ [x]) = row68 l ++ [EncR.bel.enc (x)] := by simp [row68]
def inv68 (l : List Bel) (r : Ren) : Nat → (Nat → DV) → St → Prop := fun k a σ => ∃ i, i ≤ l.length ∧ k = l.length - i ∧
  a 8 = .slice 2 .none (row68 l) ∧ a 1 = .func (.func 69) [.agg (renL r)] [] ∧ a 9 = .lit (.int .i64 l.length) ∧ a 10 = .lit (.int .i64 i) ∧ Acc σ 2 (row68 ((l.take i).map r.below)) (a 5)
abbrev T68 : Tab := tabOf [(69, s69)]
theorem c68 : CallSound Tryz.prog 68 s68 := by
  have tT : TabOk Tryz.prog T68 := .cons e69 .nil
  refine CallSound.of_sp (T := T68) Tryz.func68 rfl (Nat.le_of_ble_eq_true rfl) fun E xx y hy => ?_
  obtain ⟨l, f, r⟩ := xx
  by_cases hc : l.length ≤ 1048576 ∧ f = 69
  case neg => simp only [] at hy; rw [if_neg hc] at hy; cases hy
  simp only [] at hy
  rw [if_pos hc] at hy
  cases hy
  obtain ⟨hlim, rfl⟩ := hc
  have hT : T68 69 = some s69 := rfl
  generalize T68 = T at *
  have hrow : ∀ l, Enc.bels.enc l = .slice 2 .none (row68 l) := fun _ => rfl
  refine Dwp.step tT rfl fun K hK => ?_
  simp [dcall, tabOf, setAt]
  refine hK _ _ ?_ rfl; clear hK K
  refine Dwp.step tT rfl fun K hK => ?_
  simp [dcall, tabOf, setAt]
  refine hK _ _ ?_ rfl; clear hK K
  refine Dwp.seq ?_
  refine Dwp.step tT rfl fun K hK => ?_
  have hrl : (row68 l).length = l.length := by simp [row68]
  simp [dcall, tabOf, setAt, init, arg2, EncR.and, EncR.one, hrow, ty23, hrl]
  refine hK _ _ ?_ rfl; clear hK K
  refine Dwp.block (Dwp.loop (inv68 l r) l.length ⟨0, by simp, by simp, by simp [upd], by simp [upd, init, Enc.meth], by simp [upd], by simp [upd], .inl ⟨by simp [row68], by simp [upd]⟩⟩ ?_)
  rintro k a σ ⟨i, hi, rfl, h8, h1, h9, h10, hacc⟩
  refine Dwp.step tT rfl fun K hK => ?_
  simp [dcall, tabOf, setAt, h9, h10]
  refine hK _ _ ?_ rfl; clear hK K
  by_cases hlt : i < l.length
  · refine Dwp.seq (Dwp.condT (by simp [eval, upd, hlt]) (Dwp.skip ?_))
    refine Dwp.seq (Dwp.block ?_)
    have hri : (row68 l)[i]? = some (EncR.bel.enc (l[i])) := by simp [row68, hlt]
    have g : dcall T 69 [.agg (renL r), .agg (EncR.bel.enc l[i])] = some (.agg (EncR.bel.enc (r.below (l[i])))) := dcall2 (A := Enc.ren) (B := Enc.bel) (C := Enc.bel) hT rfl
    simp only [EncR.bel] at g
    refine Dwp.step tT rfl fun K hK => ?_
    simp [h8, h10, ty23, ty78, hri, EncR.bel, set2]
    refine hK _ _ ?_ rfl; clear hK K
    refine Dwp.reg tT rfl fun K hK => ?_
    have htk : (l.take (i + 1)).map r.below = (l.take i).map r.below ++ [r.below (l[i])] := by
      rw [List.take_succ_eq_append_getElem hlt, List.map_append]; rfl
    have hw : IntKind.i64.wrap ((i : Int) + 1) = (i : Int) + 1 := wrap_small (n := (i : Int) + 1) (by omega) (by omega)
    rcases hacc with ⟨q1, q2⟩ | ⟨t, gg, q1, q3⟩
    · simp [drunL, dwanted, dopS, own, dop, dput, eval, ofVal, Then, upd, dload, dpart, TyI.agg, dcallee, dbuildRows, growLimit, DV.cells, dbuiltin, dappend, rowsOf, appTag, elemOk, q2, h1, ty23, ty78, g, EncR.bel, set2]
      refine hK _ _ ?_ rfl; clear hK K
      refine Dwp.reg tT rfl fun K hK => ?_
      simp [dcall, tabOf, setAt, h10]
      refine hK _ _ ?_ rfl; clear hK K
      refine ⟨l.length - (i + 1), by omega, i + 1, by omega, rfl, by simp [upd, h8], by simp [upd, h1], by simp [upd, h9], by simp [upd, hw], ?_⟩
      rw [htk, row68_snoc, q1]; exact .inr ⟨_, 0, by simp [upd, EncR.bel, set2]; rfl, by simp [upd]⟩
    · have hl3 : (row68 (List.take i (List.map r.below l))).length ≤ 16777215 := by simp [row68]; omega
      simp [drunL, dwanted, dopS, own, dop, dput, eval, ofVal, Then, upd, dload, dpart, TyI.agg, dcallee, dbuildRows, growLimit, DV.cells, dbuiltin, dappend, rowsOf, appTag, elemOk, q1, q3, h1, ty23, ty78, g, hl3, EncR.bel, set2]
      refine hK _ _ ?_ rfl; clear hK K
      refine Dwp.reg tT rfl fun K hK => ?_
      simp [dcall, tabOf, setAt, h10]
      refine hK _ _ ?_ rfl; clear hK K
      refine ⟨l.length - (i + 1), by omega, i + 1, by omega, rfl, by simp [upd, h8], by simp [upd, h1], by simp [upd, h9], by simp [upd, hw], ?_⟩
      rw [htk, row68_snoc]; exact .inr ⟨t, gg + 1, by simp [upd, EncR.bel, set2], by simp [upd]⟩
  · refine Dwp.seq (Dwp.condF (by simp [eval, upd, hlt]) (Dwp.exit ?_))
    simp only [Ex.then, Ex.inBlock, if_true]
    rw [List.take_of_length_le (by omega)] at hacc
    refine Dwp.step tT rfl fun K hK => ?_
    simp [dcall, tabOf, setAt]
    refine hK _ _ (Dwp.ret ?_) rfl
    have hd := hacc.dec (A := EncR.bel) (decRows_enc (EncR.bel) (l.map r.below))
    rcases hacc with ⟨q1, q2⟩ | ⟨t, gg, q1, q3⟩
    · rw [q2] at hd; simp [Done, dresults, dres, frz, frz1, frz2, upd, q2]; exact hd
    · rw [q1] at hd; simp [Done, dresults, dres, frz, frz1, frz2, upd, q1]; exact hd
theorem e68 : Go.FA.Good Tryz.prog (68, s68) := ⟨c68, Tryz.f68, _, Tryz.func68, rfl, by decide⟩

def s102 : Sp := sp (arg2 Enc.pies Enc.meth) Enc.pies (fun x => if x.1.length ≤ 1048576 ∧ x.2.1 = 103 then some (x.1.map x.2.2.piece) else none)
def row102 (l : List Pie) : List (List DV) := l.map (fun x => EncR.pie.enc (x))
theorem row102_snoc (l) (x) : row102 (l ++ [x]) = row102 l ++ [EncR.pie.enc (x)] := by simp [row102]
def inv102 (l : List Pie) (r : Ren) : Nat → (Nat → DV) → St → Prop := fun k a σ => ∃ i, i ≤ l.length ∧ k = l.length - i ∧
  a 8 = .slice 2 .none (row102 l) ∧ a 1 = .func (.func 103) [.agg (renL r)] [] ∧ a 9 = .lit (.int .i64 l.length) ∧ a 10 = .lit (.int .i64 i) ∧ Acc σ 2 (row102 ((l.take i).map r.piece)) (a 5)
abbrev T102 : Tab := tabOf [(103, s103)]
theorem c102 : CallSound Tryz.prog 102 s102 := by
  have tT : TabOk Tryz.prog T102 := .cons e103 .nil
  refine CallSound.of_sp (T := T102) Tryz.func102 rfl (Nat.le_of_ble_eq_true rfl) fun E xx y hy => ?_
  obtain ⟨l, f, r⟩ := xx
  by_cases hc : l.length ≤ 1048576 ∧ f = 103
  case neg => simp only [] at hy; rw [if_neg hc] at hy; cases hy
  simp only [] at hy
  rw [if_pos hc] at hy
  cases hy
  obtain ⟨hlim, rfl⟩ := hc
  have hT : T102 103 = some s103 := rfl
  generalize T102 = T at *
  have hrow : ∀ l, Enc.pies.enc l = .slice 2 .none (row102 l) := fun _ => rfl
  refine Dwp.step tT rfl fun K hK => ?_
  simp [dcall, tabOf, setAt]
  refine hK _ _ ?_ rfl; clear hK K
  refine Dwp.step tT rfl fun K hK => ?_
  simp [dcall, tabOf, setAt]
  refine hK _ _ ?_ rfl; clear hK K
  refine Dwp.seq ?_
  refine Dwp.step tT rfl fun K hK => ?_
  have hrl : (row102 l).length = l.length := by simp [row102]
  simp [dcall, tabOf, setAt, init, arg2, EncR.and, EncR.one, hrow, ty34, hrl]
  refine hK _ _ ?_ rfl; clear hK K
  refine Dwp.block (Dwp.loop (inv102 l r) l.length ⟨0, by simp, by simp, by simp [upd], by simp [upd, init, Enc.meth], by simp [upd], by simp [upd], .inl ⟨by simp [row102], by simp [upd]⟩⟩ ?_)
  rintro k a σ ⟨i, hi, rfl, h8, h1, h9, h10, hacc⟩
  refine Dwp.step tT rfl fun K hK => ?_
  simp [dcall, tabOf, setAt, h9, h10]
  refine hK _ _ ?_ rfl; clear hK K
  by_cases hlt : i < l.length
  · refine Dwp.seq (Dwp.condT (by simp [eval, upd, hlt]) (Dwp.skip ?_))
    refine Dwp.seq (Dwp.block ?_)
    have hri : (row102 l)[i]? = some (EncR.pie.enc (l[i])) := by simp [row102, hlt]
    have g : dcall T 103 [.agg (renL r), .agg (EncR.pie.enc l[i])] = some (.agg (EncR.pie.enc (r.piece (l[i])))) := dcall2 (A := Enc.ren) (B := Enc.pie) (C := Enc.pie) hT rfl
    simp only [EncR.pie] at g
    refine Dwp.step tT rfl fun K hK => ?_
    simp [h8, h10, ty34, ty69, hri, EncR.pie, set2]
    refine hK _ _ ?_ rfl; clear hK K
    refine Dwp.reg tT rfl fun K hK => ?_
    have htk : (l.take (i + 1)).map r.piece = (l.take i).map r.piece ++ [r.piece (l[i])] := by
      rw [List.take_succ_eq_append_getElem hlt, List.map_append]; rfl
    have hw : IntKind.i64.wrap ((i : Int) + 1) = (i : Int) + 1 := wrap_small (n := (i : Int) + 1) (by omega) (by omega)
    rcases hacc with ⟨q1, q2⟩ | ⟨t, gg, q1, q3⟩
    · simp [drunL, dwanted, dopS, own, dop, dput, eval, ofVal, Then, upd, dload, dpart, TyI.agg, dcallee, dbuildRows, growLimit, DV.cells, dbuiltin, dappend, rowsOf, appTag, elemOk, q2, h1, ty34, ty69, g, EncR.pie, set2]
      refine hK _ _ ?_ rfl; clear hK K
      refine Dwp.reg tT rfl fun K hK => ?_
      simp [dcall, tabOf, setAt, h10]
      refine hK _ _ ?_ rfl; clear hK K
      refine ⟨l.length - (i + 1), by omega, i + 1, by omega, rfl, by simp [upd, h8], by simp [upd, h1], by simp [upd, h9], by simp [upd, hw], ?_⟩
      rw [htk, row102_snoc, q1]; exact .inr ⟨_, 0, by simp [upd, EncR.pie, set2]; rfl, by simp [upd]⟩
    · have hl3 : (row102 (List.take i (List.map r.piece l))).length ≤ 16777215 := by simp [row102]; omega
      simp [drunL, dwanted, dopS, own, dop, dput, eval, ofVal, Then, upd, dload, dpart, TyI.agg, dcallee, dbuildRows, growLimit, DV.cells, dbuiltin, dappend, rowsOf, appTag, elemOk, q1, q3, h1, ty34, ty69, g, hl3, EncR.pie, set2]
      refine hK _ _ ?_ rfl; clear hK K
      refine Dwp.reg tT rfl fun K hK => ?_
      simp [dcall, tabOf, setAt, h10]
      refine hK _ _ ?_ rfl; clear hK K
      refine ⟨l.length - (i + 1), by omega, i + 1, by omega, rfl, by simp [upd, h8], by simp [upd, h1], by simp [upd, h9], by simp [upd, hw], ?_⟩
      rw [htk, row102_snoc]; exact .inr ⟨t, gg + 1, by simp [upd, EncR.pie, set2], by simp [upd]⟩
  · refine Dwp.seq (Dwp.condF (by simp [eval, upd, hlt]) (Dwp.exit ?_))
    simp only [Ex.then, Ex.inBlock, if_true]
    rw [List.take_of_length_le (by omega)] at hacc
    refine Dwp.step tT rfl fun K hK => ?_
    simp [dcall, tabOf, setAt]
    refine hK _ _ (Dwp.ret ?_) rfl
    have hd := hacc.dec (A := EncR.pie) (decRows_enc (EncR.pie) (l.map r.piece))
    rcases hacc with ⟨q1, q2⟩ | ⟨t, gg, q1, q3⟩
    · rw [q2] at hd; simp [Done, dresults, dres, frz, frz1, frz2, upd, q2]; exact hd
    · rw [q1] at hd; simp [Done, dresults, dres, frz, frz1, frz2, upd, q1]; exact hd
theorem e102 : Go.FA.Good Tryz.prog (102, s102) := ⟨c102, Tryz.f102, _, Tryz.func102, rfl, by decide⟩
end Go.Proofs.Yt
namespace Go.Proofs.Yt
open Go Go.FA Go.Proofs
set_option linter.unusedVariables false
set_option linter.unusedSimpArgs false
set_option maxRecDepth 100000

def opOk (r : Ren) (o : OpD) : Prop := o.fits ∧ o.name.size ≤ lim ∧ r.a.size ≤ lim ∧ r.b.size ≤ lim
instance (r : Ren) (o : OpD) : Decidable (opOk r o) := by unfold opOk; infer_instance
def Ren.opName (r : Ren) (s : ByteArray) : ByteArray := r.name (cutMark s).1 ++ s.extract (cutMark s).1.size s.size
def Ren.op (r : Ren) (o : OpD) : OpD := { o with name := r.opName o.name, args := o.args.map r.sort, sort := r.sort o.sort, pieces := o.pieces.map r.piece }
theorem cut_size (s : ByteArray) : (cutMark s).1.size ≤ s.size := by
  unfold cutMark
  split
  · simp [ByteArray.size_extract]; omega
  · exact Nat.le_refl _
theorem name_size (r : Ren) (s : ByteArray) (n : Nat) (ha : r.a.size ≤ n) (hb : r.b.size ≤ n) (hs : s.size ≤ n) : (r.name s).size ≤ n := by
  unfold Ren.name; split
  · exact hb
  · split
    · exact ha
    · exact hs
def s71 : Sp := sp (arg2 Enc.ren Enc.opd) Enc.opd (fun x => if opOk x.1 x.2 then some (x.1.op x.2) else none)
abbrev T71 : Tab := tabOf [(96, s96), (101, s126), (100, s100), (67, s67), (66, s66), (102, s102)]
theorem setF0 (o : OpD) (s : ByteArray) : setAt (EncR.opd.enc o) 0 [.lit (.string s)] = EncR.opd.enc { o with name := s } := rfl
theorem setF1 (o : OpD) (l : List ByteArray) : setAt (EncR.opd.enc o) 1 [.slice 1 .none (l.map fun s => [DV.lit (.string s)])] = EncR.opd.enc { o with args := l } := rfl
theorem setF2 (o : OpD) (s : ByteArray) : setAt (EncR.opd.enc o) 2 [.lit (.string s)] = EncR.opd.enc { o with sort := s } := rfl
theorem setF3 (o : OpD) (l : List Pie) : setAt (EncR.opd.enc o) 3 [.slice 2 .none (l.map EncR.pie.enc)] = EncR.opd.enc { o with pieces := l } := rfl
attribute [local simp] drunL drunO dwanted dopS own plainOf dop dput eval ofVal Then Ex.then Ex.inBlock upd dbin Tag.isNN nilTest intCmp dload dpart TyI.agg dfieldAddr dfield dindexAddr dindex dlen lenOk dlookup mapOf keyFits dmapUpdate dcallee dbuiltin dstore DV.cells dslice dboundOk dappend appTag rowsOf elemOk growLimit dbuildCells dbuildCells.go structOk fieldsOk dbuildRows goInt
theorem c71 : CallSound Tryz.prog 71 s71 := by
  have tT : TabOk Tryz.prog T71 := .cons e96 (.cons e101 (.cons e100 (.cons e67 (.cons e66 (.cons e102 .nil)))))
  refine CallSound.of_sp (T := T71) Tryz.func71 rfl (Nat.le_of_ble_eq_true rfl) fun E xx y hy => ?_
  obtain ⟨r, o⟩ := xx
  by_cases hok : opOk r o
  case neg => simp only [] at hy; rw [if_neg hok] at hy; cases hy
  simp only [] at hy
  rw [if_pos hok] at hy
  cases hy
  obtain ⟨hfit, z1, z2, z3⟩ := hok
  have g1 : dcall T71 96 [.agg (EncR.opd.enc o)] = some (.agg (EncR.opd.enc o)) := dcall1 (A := Enc.opd) (B := Enc.opd) rfl (if_pos hfit)
  have g2 : dcall T71 101 [.lit (.string o.name), .lit (.string ⟨#[39]⟩)] = some (Enc.cut.enc (cutMark o.name)) := dcall2 (A := Enc.str) (B := Enc.str) (C := Enc.cut) rfl (if_pos ⟨rfl, z1⟩)
  have g3 : dcall T71 100 [.agg (renL r), .lit (.string (cutMark o.name).1)] = some (.lit (.string (r.name (cutMark o.name).1))) := dcall2 (A := Enc.ren) (B := Enc.str) (C := Enc.str) rfl rfl
  have g4 : dcall T71 66 [Enc.strs.enc o.args, .func (.func 67) [.agg (renL r)] []] = some (Enc.strs.enc (o.args.map r.sort)) := dcall2 (A := Enc.strs) (B := Enc.meth) (C := Enc.strs) (x := o.args) (y := (67, r)) rfl (if_pos ⟨hfit.1, rfl⟩)
  have g5 := call67 T71 rfl r o.sort
  have g6 : dcall T71 102 [Enc.pies.enc o.pieces, .func (.func 103) [.agg (renL r)] []] = some (Enc.pies.enc (o.pieces.map r.piece)) := dcall2 (A := Enc.pies) (B := Enc.meth) (C := Enc.pies) (x := o.pieces) (y := (103, r)) rfl (if_pos ⟨hfit.2.1, rfl⟩)
  simp only [Enc.cut, Enc.tup, arg3, EncR.and, EncR.one, Enc.str, Enc.bool, strsC, piesC] at g2 g4 g6
  have hy : r.op o = { o with name := r.opName o.name, args := o.args.map r.sort, sort := r.sort o.sort, pieces := o.pieces.map r.piece } := rfl
  unfold Ren.opName at hy
  rw [hy]
  have hcs := cut_size o.name
  have hns := name_size r (cutMark o.name).1 lim z2 z3 (Nat.le_trans hcs z1)
  have hes : (o.name.extract (cutMark o.name).1.size o.name.size).size ≤ lim := by rw [ByteArray.size_extract]; omega
  unfold lim at hns hes z1
  have hadd : (r.name (cutMark o.name).1).size + (o.name.extract (cutMark o.name).1.size o.name.size).size < 4611686018427387904 := by omega
  have hcs2 : ((cutMark o.name).1.size : Int) ≤ (o.name.size : Int) := by omega
  generalize o.args.map r.sort = args' at *
  generalize o.pieces.map r.piece = pieces' at *
  generalize r.name (cutMark o.name).1 = nm at *
  generalize cutMark o.name = cm at *
  obtain ⟨c1, c2, c3⟩ := cm
  simp only [] at *
  generalize he : o.name.extract c1.size o.name.size = ex at *
  have setO' := setO
  simp only [noOpD] at setO'
  generalize T71 = T at *
  refine Dwp.step tT rfl fun K hK => ?_
  simp [dcall, tabOf, setAt, init, arg2, EncR.and, EncR.one, Enc.ren, Enc.opd, Enc.agg, renC, ty38]
  refine hK _ _ ?_ rfl; clear hK K
  refine Dwp.step tT rfl fun K hK => ?_
  simp [ty38, g1, setO']
  refine hK _ _ ?_ rfl; clear hK K
  refine Dwp.step tT rfl fun K hK => ?_
  simp [ty38, ty9, g2]
  refine hK _ _ ?_ rfl; clear hK K
  refine Dwp.drawStep [.none, .none, .none, .none, .none, .none, .none, .none, .none, .none, .wobj] mixed tT rfl (by decide) fun K hK => ?_
  have hcs3 : c1.size ≤ o.name.size := by omega
  simp [drunT, touch, touchP, ty73, ty38, ty9, g3, hcs3, he, hadd, setF0]
  refine hK _ _ ?_ rfl; clear hK K
  refine Dwp.step tT rfl fun K hK => ?_
  simp [ty73, ty38, ty22, strsC, g4, setF1]
  refine hK _ _ ?_ rfl; clear hK K
  refine Dwp.step tT rfl fun K hK => ?_
  simp [ty73, ty38, ty9, g5, setF2]
  refine hK _ _ ?_ rfl; clear hK K
  refine Dwp.step tT rfl fun K hK => ?_
  simp [ty73, ty38, ty34, piesC, g6, setF3]
  refine hK _ _ ?_ rfl; clear hK K
  refine Dwp.step tT rfl fun K hK => ?_
  simp [ty38, setO']
  refine hK _ _ (Dwp.ret ?_) rfl
  have := EncR.opd.de { o with name := nm ++ ex, args := args', sort := r.sort o.sort, pieces := pieces' }
  simp [Done, dresults, dres, frz, frz1, frz2, upd, dload, dpart, TyI.agg, ty38, setO', Enc.opd, Enc.agg, frzOpd, this]
theorem e71 : Go.FA.Good Tryz.prog (71, s71) := ⟨c71, Tryz.f71, _, Tryz.func71, rfl, by decide⟩
end Go.Proofs.Yt
namespace Go.Proofs.Yt
open Go Go.FA Go.Proofs
set_option linter.unusedVariables false
set_option linter.unusedSimpArgs false
set_option maxRecDepth 100000

def s70 : Sp := sp (arg2 Enc.ops Enc.meth) Enc.ops (fun x => if x.1.length ≤ 1048576 ∧ x.2.1 = 71 ∧ (∀ o ∈ x.1, opOk x.2.2 o) then some (x.1.map x.2.2.op) else none)
def row70 (l : List OpD) : List (List DV) := l.map (fun x => EncR.opd.enc (x))
theorem row70_snoc (l) (x) : row70 (l ++ [x]) = row70 l ++ [EncR.opd.enc (x)] := by simp [row70]
def inv70 (l : List OpD) (r : Ren) : Nat → (Nat → DV) → St → Prop := fun k a σ => ∃ i, i ≤ l.length ∧ k = l.length - i ∧
  a 8 = .slice 7 .none (row70 l) ∧ a 1 = .func (.func 71) [.agg (renL r)] [] ∧ a 9 = .lit (.int .i64 l.length) ∧ a 10 = .lit (.int .i64 i) ∧ Acc σ 7 (row70 ((l.take i).map r.op)) (a 5)
abbrev T70 : Tab := tabOf [(71, s71)]
attribute [local simp] drunL drunO dwanted dopS own plainOf dop dput eval ofVal Then Ex.then Ex.inBlock upd dbin Tag.isNN nilTest intCmp dload dpart TyI.agg dfieldAddr dfield dindexAddr dindex dlen lenOk dlookup mapOf keyFits dmapUpdate dcallee dbuiltin dstore DV.cells dslice dboundOk dappend appTag rowsOf elemOk growLimit dbuildCells dbuildCells.go structOk fieldsOk dbuildRows goInt
theorem c70 : CallSound Tryz.prog 70 s70 := by
  have tT : TabOk Tryz.prog T70 := .cons e71 .nil
  refine CallSound.of_sp (T := T70) Tryz.func70 rfl (Nat.le_of_ble_eq_true rfl) fun E xx y hy => ?_
  obtain ⟨l, f, r⟩ := xx
  by_cases hc : l.length ≤ 1048576 ∧ f = 71 ∧ (∀ o ∈ l, opOk r o)
  case neg => simp only [] at hy; rw [if_neg hc] at hy; cases hy
  simp only [] at hy
  rw [if_pos hc] at hy
  cases hy
  obtain ⟨hlim, rfl, hall⟩ := hc
  have hT : T70 71 = some s71 := rfl
  generalize T70 = T at *
  have hrow : ∀ l, Enc.ops.enc l = .slice 7 .none (row70 l) := fun _ => rfl
  refine Dwp.step tT rfl fun K hK => ?_
  simp [dcall, tabOf, setAt]
  refine hK _ _ ?_ rfl; clear hK K
  refine Dwp.step tT rfl fun K hK => ?_
  simp [dcall, tabOf, setAt]
  refine hK _ _ ?_ rfl; clear hK K
  refine Dwp.seq ?_
  refine Dwp.step tT rfl fun K hK => ?_
  have hrl : (row70 l).length = l.length := by simp [row70]
  simp [dcall, tabOf, setAt, init, arg2, EncR.and, EncR.one, hrow, ty24, hrl]
  refine hK _ _ ?_ rfl; clear hK K
  refine Dwp.block (Dwp.loop (inv70 l r) l.length ⟨0, by simp, by simp, by simp [upd], by simp [upd, init, Enc.meth], by simp [upd], by simp [upd], .inl ⟨by simp [row70], by simp [upd]⟩⟩ ?_)
  rintro k a σ ⟨i, hi, rfl, h8, h1, h9, h10, hacc⟩
  refine Dwp.step tT rfl fun K hK => ?_
  simp [dcall, tabOf, setAt, h9, h10]
  refine hK _ _ ?_ rfl; clear hK K
  by_cases hlt : i < l.length
  · refine Dwp.seq (Dwp.condT (by simp [eval, upd, hlt]) (Dwp.skip ?_))
    refine Dwp.seq (Dwp.block ?_)
    have hri : (row70 l)[i]? = some (EncR.opd.enc (l[i])) := by simp [row70, hlt]
    have g : dcall T 71 [.agg (renL r), .agg (EncR.opd.enc l[i])] = some (.agg (EncR.opd.enc (r.op (l[i])))) := dcall2 (A := Enc.ren) (B := Enc.opd) (C := Enc.opd) hT (if_pos (hall _ (List.getElem_mem hlt)))
    skip
    refine Dwp.step tT rfl fun K hK => ?_
    simp [h8, h10, ty24, ty38, hri, setOpd]
    refine hK _ _ ?_ rfl; clear hK K
    refine Dwp.reg tT rfl fun K hK => ?_
    have htk : (l.take (i + 1)).map r.op = (l.take i).map r.op ++ [r.op (l[i])] := by
      rw [List.take_succ_eq_append_getElem hlt, List.map_append]; rfl
    have hw : IntKind.i64.wrap ((i : Int) + 1) = (i : Int) + 1 := wrap_small (n := (i : Int) + 1) (by omega) (by omega)
    rcases hacc with ⟨q1, q2⟩ | ⟨t, gg, q1, q3⟩
    · simp [drunL, dwanted, dopS, own, dop, dput, eval, ofVal, Then, upd, dload, dpart, TyI.agg, dcallee, dbuildRows, growLimit, DV.cells, dbuiltin, dappend, rowsOf, appTag, elemOk, q2, h1, ty24, ty38, g, setOpd]
      refine hK _ _ ?_ rfl; clear hK K
      refine Dwp.reg tT rfl fun K hK => ?_
      simp [dcall, tabOf, setAt, h10]
      refine hK _ _ ?_ rfl; clear hK K
      refine ⟨l.length - (i + 1), by omega, i + 1, by omega, rfl, by simp [upd, h8], by simp [upd, h1], by simp [upd, h9], by simp [upd, hw], ?_⟩
      rw [htk, row70_snoc, q1]; exact .inr ⟨_, 0, by simp [upd, setOpd]; rfl, by simp [upd]⟩
    · have hl3 : (row70 (List.take i (List.map r.op l))).length ≤ 16777215 := by simp [row70]; omega
      simp [drunL, dwanted, dopS, own, dop, dput, eval, ofVal, Then, upd, dload, dpart, TyI.agg, dcallee, dbuildRows, growLimit, DV.cells, dbuiltin, dappend, rowsOf, appTag, elemOk, q1, q3, h1, ty24, ty38, g, hl3, setOpd]
      refine hK _ _ ?_ rfl; clear hK K
      refine Dwp.reg tT rfl fun K hK => ?_
      simp [dcall, tabOf, setAt, h10]
      refine hK _ _ ?_ rfl; clear hK K
      refine ⟨l.length - (i + 1), by omega, i + 1, by omega, rfl, by simp [upd, h8], by simp [upd, h1], by simp [upd, h9], by simp [upd, hw], ?_⟩
      rw [htk, row70_snoc]; exact .inr ⟨t, gg + 1, by simp [upd, setOpd], by simp [upd]⟩
  · refine Dwp.seq (Dwp.condF (by simp [eval, upd, hlt]) (Dwp.exit ?_))
    simp only [Ex.then, Ex.inBlock, if_true]
    rw [List.take_of_length_le (by omega)] at hacc
    refine Dwp.step tT rfl fun K hK => ?_
    simp [dcall, tabOf, setAt]
    refine hK _ _ (Dwp.ret ?_) rfl
    have hd := hacc.dec (A := EncR.opd) (decRows_enc (EncR.opd) (l.map r.op))
    rcases hacc with ⟨q1, q2⟩ | ⟨t, gg, q1, q3⟩
    · rw [q2] at hd; simp [Done, dresults, dres, frz, frz1, frz2, upd, q2]; exact hd
    · rw [q1] at hd; simp [Done, dresults, dres, frz, frz1, frz2, upd, q1]; exact hd
theorem e70 : Go.FA.Good Tryz.prog (70, s70) := ⟨c70, Tryz.f70, _, Tryz.func70, rfl, by decide⟩
end Go.Proofs.Yt
namespace Go.Proofs.Yt
open Go Go.FA Go.Proofs
set_option linter.unusedVariables false
set_option linter.unusedSimpArgs false
set_option maxRecDepth 100000

def sigOk (r : Ren) (s : SigD) : Prop := s.sorts.length ≤ 1048576 ∧ s.below.length ≤ 1048576 ∧ s.ops.length ≤ 1048576 ∧ s.funs.length ≤ 1048576 ∧ s.values.length ≤ 1048576 ∧ (∀ o ∈ s.ops, opOk r o) ∧ (∀ o ∈ s.funs, opOk r o)
instance (r : Ren) (s : SigD) : Decidable (sigOk r s) := by unfold sigOk; infer_instance
def Ren.sig (r : Ren) (s : SigD) : SigD := ⟨s.sorts.map r.sort, s.below.map r.below, s.ops.map r.op, s.funs.map r.op, s.values.map r.sort⟩
def noSig : SigD := ⟨[], [], [], [], []⟩
def validF (s : SigD) : Option Bool := (openF s []).map fun r => decide (r.2 = 0)
def renameF (s : SigD) (a b : ByteArray) : Option (SigD × Int) := match openF s [] with
  | some (some k, e) => if e = 0 then (if (isName a && isName b) = true then (if sigOk ⟨k, a, b⟩ s then (match validF (Ren.sig ⟨k, a, b⟩ s) with
    | some true => some (Ren.sig ⟨k, a, b⟩ s, 0)
    | some false => some (noSig, 14)
    | none => none) else none) else some (noSig, 2)) else none
  | some (none, e) => if e = 0 then none else some (noSig, e)
  | none => none
def Enc.sigErr : Enc (SigD × Int) := Enc.tup (arg2 Enc.sigd Enc.i64)
def s32 : Sp := sp (arg3 Enc.sigd Enc.str Enc.str) Enc.sigErr (fun x => renameF x.1 x.2.1 x.2.2)
theorem belsC (l : List Bel) : Enc.bels.enc l = .slice 2 .none (l.map EncR.bel.enc) := rfl
theorem opsC (l : List OpD) : Enc.ops.enc l = .slice 7 .none (l.map EncR.opd.enc) := rfl
theorem sigC (s : SigD) : EncR.sigd.enc s = [Enc.strs.enc s.sorts, Enc.bels.enc s.below, Enc.ops.enc s.ops, Enc.ops.enc s.funs, Enc.strs.enc s.values] := rfl
def zsig : List DV := [.lit (.slice none 0 0), .lit (.slice none 0 0), .lit (.slice none 0 0), .lit (.slice none 0 0), .lit (.slice none 0 0)]
theorem decZ : EncR.sigd.dec zsig = some noSig := rfl
theorem setZ : setAt zsig 0 zsig = zsig := rfl
theorem set5 (a b c d e : DV) : setAt zsig 0 [a, b, c, d, e] = [a, b, c, d, e] := rfl
abbrev T32 : Tab := tabOf [(44, s44), (38, s38), (66, s66), (68, s68), (70, s70), (12, s12)]
attribute [local simp] drunL drunO dwanted dopS own plainOf dop dput eval ofVal Then Ex.then Ex.inBlock upd dbin Tag.isNN nilTest intCmp dload dpart TyI.agg dfieldAddr dfield dindexAddr dindex dlen lenOk dlookup mapOf keyFits dmapUpdate dcallee dbuiltin dstore DV.cells dslice dboundOk dappend appTag rowsOf elemOk growLimit dbuildCells dbuildCells.go structOk fieldsOk dbuildRows goInt
theorem c32 : CallSound Tryz.prog 32 s32 := by
  have tT : TabOk Tryz.prog T32 := .cons e44 (.cons e38 (.cons e66 (.cons e68 (.cons e70 (.cons e12 .nil)))))
  refine CallSound.of_sp (T := T32) Tryz.func32 rfl (Nat.le_of_ble_eq_true rfl) fun E xx y hy => ?_
  obtain ⟨s, x, z⟩ := xx
  simp only [renameF] at hy
  cases hr : openF s [] with
  | none => rw [hr] at hy; cases hy
  | some r =>
  rw [hr] at hy
  have g := call44 T32 rfl s (.lit (.slice none 0 0)) [] r rfl hr
  have g1 : dcall T32 38 [.lit (.string x)] = some (.lit (.bool (isName x))) := dcall1 (A := Enc.str) (B := Enc.bool) rfl rfl
  have g2 : dcall T32 38 [.lit (.string z)] = some (.lit (.bool (isName z))) := dcall1 (A := Enc.str) (B := Enc.bool) rfl rfl
  have h66 : T32 66 = some s66 := rfl
  have h68 : T32 68 = some s68 := rfl
  have h70 : T32 70 = some s70 := rfl
  have h12 : T32 12 = some s12 := rfl
  have setZ' := setZ
  have decZ' := decZ
  have set5' := set5
  simp only [zsig] at setZ' decZ' set5'
  generalize T32 = T at *
  refine Dwp.step tT rfl fun K hK => ?_
  simp [setAt, init, arg3, EncR.and, EncR.one, Enc.sigd, Enc.agg, ty26]
  refine hK _ _ ?_ rfl; clear hK K
  refine Dwp.step tT rfl fun K hK => ?_
  obtain ⟨o, e⟩ := r
  cases o with
  | none =>
    simp only [Enc.opened, noBook] at g
    simp only [] at hy
    split at hy
    case isTrue => cases hy
    next he =>
    cases hy
    have he' : (e != 0) = true := by simp [he]
    simp [drunL, dwanted, dopS, own, dop, dput, eval, ofVal, Then, upd, dload, dpart, TyI.agg, ty26, ty58, dcallee, g, DV.cells, dstore, setNo]
    refine hK _ _ ?_ rfl; clear hK K
    refine Dwp.seq ?_
    refine Dwp.step tT rfl fun K hK => ?_
    simp [drunL, dwanted, dopS, own, dop, dput, eval, ofVal, Then, upd, dbin, intCmp, he']
    refine hK _ _ ?_ rfl; clear hK K
    refine Dwp.condT (by simp [eval, upd]) ?_
    refine Dwp.step tT rfl fun K hK => ?_
    simp [ty26, ty22, ty23, ty24, setZ']
    refine hK _ _ (Dwp.ret ?_) rfl
    simp [Done, dresults, dres, frz, frz1, frz2, Ex.then, upd, dload, dpart, TyI.agg, ty26, Enc.sigErr, Enc.tup, arg2, EncR.and, EncR.one, Enc.sigd, Enc.agg, Enc.i64, Enc.int, setZ', decZ']
  | some b =>
  simp only [Enc.opened, Enc.book, Enc.agg] at g
  simp only [] at hy
  split at hy
  case isFalse => cases hy
  next he =>
  subst he
  simp [drunL, dwanted, dopS, own, dop, dput, eval, ofVal, Then, upd, dload, dpart, TyI.agg, ty26, ty58, dcallee, g, DV.cells, dstore, setBook]
  refine hK _ _ ?_ rfl; clear hK K
  refine Dwp.seq ?_
  refine Dwp.step tT rfl fun K hK => ?_
  simp [drunL, dwanted, dopS, own, dop, dput, eval, ofVal, Then, upd, dbin, intCmp]
  refine hK _ _ ?_ rfl; clear hK K
  refine Dwp.condF (by simp [eval, upd]) (Dwp.skip ?_)
  refine Dwp.seq ?_
  refine Dwp.step tT rfl fun K hK => ?_
  cases k1 : isName x with
  | false =>
    rw [k1] at hy g1
    simp only [Bool.false_and, Bool.false_eq_true, if_false] at hy
    cases hy
    simp [setAt, init, arg3, EncR.and, EncR.one, Enc.str, g1, k1]
    refine hK _ _ ?_ rfl; clear hK K
    refine Dwp.condT (by simp [eval, upd]) ?_
    refine Dwp.step tT rfl fun K hK => ?_
    simp [ty26, ty22, ty23, ty24, setZ']
    refine hK _ _ (Dwp.ret ?_) rfl
    simp [Done, dresults, dres, frz, frz1, frz2, Ex.then, upd, σ0, dload, dpart, TyI.agg, ty26, Enc.sigErr, Enc.tup, arg2, EncR.and, EncR.one, Enc.sigd, Enc.agg, Enc.i64, Enc.int, setZ', decZ']
  | true =>
  rw [k1] at hy g1
  cases k2 : isName z with
  | false =>
    rw [k2] at hy g2
    simp only [Bool.and_false, Bool.false_eq_true, if_false] at hy
    cases hy
    simp [setAt, init, arg3, EncR.and, EncR.one, Enc.str, g1, g2, k1, k2]
    refine hK _ _ ?_ rfl; clear hK K
    refine Dwp.condT (by simp [eval, upd]) ?_
    refine Dwp.step tT rfl fun K hK => ?_
    simp [ty26, ty22, ty23, ty24, setZ']
    refine hK _ _ (Dwp.ret ?_) rfl
    simp [Done, dresults, dres, frz, frz1, frz2, Ex.then, upd, σ0, dload, dpart, TyI.agg, ty26, Enc.sigErr, Enc.tup, arg2, EncR.and, EncR.one, Enc.sigd, Enc.agg, Enc.i64, Enc.int, setZ', decZ']
  | true =>
  rw [k2] at hy g2
  simp only [Bool.and_self, if_true] at hy
  split at hy
  case isFalse => cases hy
  next hso =>
  obtain ⟨q1, q2, q3, q4, q5, q6, q7⟩ := hso
  simp [setAt, init, arg3, EncR.and, EncR.one, Enc.str, g1, g2, k1, k2]
  refine hK _ _ ?_ rfl; clear hK K
  refine Dwp.condF (by simp [eval, upd]) (Dwp.skip ?_)
  refine Dwp.step tT rfl fun K hK => ?_
  simp [setAt, init, arg3, EncR.and, EncR.one, Enc.str, ty58, ty73, ty9, bookC]
  refine hK _ _ ?_ rfl; clear hK K
  refine Dwp.freeze 25 (o := .cells 73 (renL ⟨b, x, z⟩)) (fun t => if t = 10 then .row (renL ⟨b, x, z⟩) 0 else if t = 3 then .row (EncR.sigd.enc s) 0 else if t = 6 then .ptr 1 0 else .junk) (by simp [upd, σ0, renL]) (fun t => ?_) ?_
  · by_cases h10 : t = 10
    · subst h10; simp [upd, σ0]; exact .box (t := 73) 0 (by simp [upd, σ0, renL])
    by_cases h3 : t = 3
    · subst h3; simp [upd, init, arg3, EncR.and, EncR.one, Enc.sigd, Enc.agg]; exact .keep _
    by_cases h6 : t = 6
    · subst h6; simp [upd, σ0]; exact .keep _
    simp [h10, h3, h6]; exact .junk _
  have m1 : dcall T 66 [Enc.strs.enc s.sorts, .func (.func 67) [.agg (renL ⟨b, x, z⟩)] []] = some (Enc.strs.enc (s.sorts.map (Ren.sort ⟨b, x, z⟩))) := dcall2 (A := Enc.strs) (B := Enc.meth) (C := Enc.strs) (x := s.sorts) (y := (67, ⟨b, x, z⟩)) h66 (if_pos ⟨q1, rfl⟩)
  have m2 : dcall T 68 [Enc.bels.enc s.below, .func (.func 69) [.agg (renL ⟨b, x, z⟩)] []] = some (Enc.bels.enc (s.below.map (Ren.below ⟨b, x, z⟩))) := dcall2 (A := Enc.bels) (B := Enc.meth) (C := Enc.bels) (x := s.below) (y := (69, ⟨b, x, z⟩)) h68 (if_pos ⟨q2, rfl⟩)
  have m3 : dcall T 70 [Enc.ops.enc s.ops, .func (.func 71) [.agg (renL ⟨b, x, z⟩)] []] = some (Enc.ops.enc (s.ops.map (Ren.op ⟨b, x, z⟩))) := dcall2 (A := Enc.ops) (B := Enc.meth) (C := Enc.ops) (x := s.ops) (y := (71, ⟨b, x, z⟩)) h70 (if_pos ⟨q3, rfl, q6⟩)
  have m4 : dcall T 70 [Enc.ops.enc s.funs, .func (.func 71) [.agg (renL ⟨b, x, z⟩)] []] = some (Enc.ops.enc (s.funs.map (Ren.op ⟨b, x, z⟩))) := dcall2 (A := Enc.ops) (B := Enc.meth) (C := Enc.ops) (x := s.funs) (y := (71, ⟨b, x, z⟩)) h70 (if_pos ⟨q4, rfl, q7⟩)
  have m5 : dcall T 66 [Enc.strs.enc s.values, .func (.func 67) [.agg (renL ⟨b, x, z⟩)] []] = some (Enc.strs.enc (s.values.map (Ren.sort ⟨b, x, z⟩))) := dcall2 (A := Enc.strs) (B := Enc.meth) (C := Enc.strs) (x := s.values) (y := (67, ⟨b, x, z⟩)) h66 (if_pos ⟨q5, rfl⟩)
  have hsig : Ren.sig ⟨b, x, z⟩ s = ⟨s.sorts.map (Ren.sort ⟨b, x, z⟩), s.below.map (Ren.below ⟨b, x, z⟩), s.ops.map (Ren.op ⟨b, x, z⟩), s.funs.map (Ren.op ⟨b, x, z⟩), s.values.map (Ren.sort ⟨b, x, z⟩)⟩ := rfl
  rw [hsig] at hy
  simp only [strsC, belsC, opsC] at m1 m2 m3 m4 m5
  generalize s.sorts.map (Ren.sort ⟨b, x, z⟩) = n1 at *
  generalize s.below.map (Ren.below ⟨b, x, z⟩) = n2 at *
  generalize s.ops.map (Ren.op ⟨b, x, z⟩) = n3 at *
  generalize s.funs.map (Ren.op ⟨b, x, z⟩) = n4 at *
  generalize s.values.map (Ren.sort ⟨b, x, z⟩) = n5 at *
  refine Dwp.drawStep [.none, .none, .none, .none, .none, .none, .none, .none, .none, .none, .none, .none, .none, .none, .none, .none, .none, .none, .none, .none, .none, .none, .none, .none, .none, .none, .newobj, .wobj] mixed tT rfl (by decide) fun K hK => ?_
  simp [drunT, touch, touchP, setAt, ty26, ty73, ty22, ty23, ty24, strsC, belsC, opsC, m1, m2, m3, m4, m5]
  refine hK _ _ ?_ rfl; clear hK K
  cases hv : validF ⟨n1, n2, n3, n4, n5⟩ with
  | none => rw [hv] at hy; cases hy
  | some v =>
  rw [hv] at hy
  have m6 : dcall T 12 [Enc.sigd.enc ⟨n1, n2, n3, n4, n5⟩] = some (Enc.bool.enc v) := dcall1 (A := Enc.sigd) (B := Enc.bool) h12 hv
  simp only [Enc.sigd, Enc.agg, Enc.bool, sigC, strsC, belsC, opsC] at m6
  refine Dwp.seq ?_
  refine Dwp.step tT rfl fun K hK => ?_
  simp [setAt, ty26, m6]
  refine hK _ _ ?_ rfl; clear hK K
  have hde := EncR.sigd.de ⟨n1, n2, n3, n4, n5⟩
  simp only [sigC, strsC, belsC, opsC] at hde
  cases v with
  | false =>
    cases hy
    refine Dwp.condT (by simp [eval, upd]) ?_
    refine Dwp.step tT rfl fun K hK => ?_
    simp [ty26, ty22, ty23, ty24, setZ', σ0]
    refine hK _ _ (Dwp.ret ?_) rfl
    simp [Done, dresults, dres, frz, frz1, frz2, Ex.then, upd, σ0, dload, dpart, TyI.agg, ty26, Enc.sigErr, Enc.tup, arg2, EncR.and, EncR.one, Enc.sigd, Enc.agg, Enc.i64, Enc.int, setZ', decZ']
  | true =>
    cases hy
    refine Dwp.condF (by simp [eval, upd]) (Dwp.skip ?_)
    refine Dwp.step tT rfl fun K hK => ?_
    simp [ty26, σ0, set5']
    refine hK _ _ (Dwp.ret ?_) rfl
    simp [Done, dresults, dres, frz, frz1, frz2, Ex.then, upd, σ0, dload, dpart, TyI.agg, ty26, Enc.sigErr, Enc.tup, arg2, EncR.and, EncR.one, Enc.sigd, Enc.agg, Enc.i64, Enc.int, set5', hde]
theorem e32 : Go.FA.Good Tryz.prog (32, s32) := ⟨c32, Tryz.f32, _, Tryz.func32, rfl, by decide⟩
end Go.Proofs.Yt
namespace Go.Proofs.Yt
open Go Go.FA Go.Proofs
set_option linter.unusedVariables false
set_option linter.unusedSimpArgs false
set_option maxRecDepth 100000

def expS : ByteArray := ⟨#[69, 120, 112]⟩
def pgmS : ByteArray := ⟨#[80, 103, 109]⟩
def intS : ByteArray := ⟨#[73, 110, 116]⟩
def plusS : ByteArray := ⟨#[112, 108, 117, 115]⟩
def sums : SigD := ⟨[expS, pgmS], [⟨intS, expS⟩, ⟨expS, pgmS⟩], [⟨plusS, [expS, expS], expS, [⟨⟨#[]⟩, expS⟩, ⟨⟨#[43]⟩, ⟨#[]⟩⟩, ⟨⟨#[]⟩, expS⟩], 5, 1, [1, 2]⟩], [], [intS]⟩
def s43 : Sp := sp EncR.unit Enc.sigd (fun _ => some sums)
attribute [local simp] drunL drunO dwanted dopS own plainOf dop dput eval ofVal Then Ex.then Ex.inBlock upd dbin Tag.isNN nilTest intCmp dload dpart TyI.agg dfieldAddr dfield dindexAddr dindex dlen lenOk dlookup mapOf keyFits dmapUpdate dcallee dbuiltin dstore DV.cells dslice dboundOk dappend appTag rowsOf elemOk growLimit dbuildCells dbuildCells.go structOk fieldsOk dbuildRows goInt
theorem c43 : CallSound Tryz.prog 43 s43 := by
  refine CallSound.of_sp (T := tabOf []) Tryz.func43 rfl (Nat.le_of_ble_eq_true rfl) fun E xx y hy => ?_
  simp only [Option.some.injEq] at hy
  subst hy
  refine Dwp.step tab0 rfl fun K hK => ?_
  simp [dcall, tabOf, setAt, ty26]
  refine hK _ _ ?_ rfl; clear hK K
  refine Dwp.step tab0 rfl fun K hK => ?_
  simp [dcall, tabOf, setAt, ty26, ty22, ty9, ty38, ty34, ty69, ty36, ty3, ty35]
  refine hK _ _ ?_ rfl; clear hK K
  refine Dwp.step tab0 rfl fun K hK => ?_
  simp [dcall, tabOf, setAt, ty26, ty22, ty9, ty38, ty34, ty69, ty36, ty3, ty78, ty23, ty24]
  refine hK _ _ (Dwp.ret ?_) rfl
  simp [Done, dresults, dres, frz, frz1, frz2, upd, σ0, dload, dpart, TyI.agg, ty26]
  rfl
theorem e43 : Go.FA.Good Tryz.prog (43, s43) := ⟨c43, Tryz.f43, _, Tryz.func43, rfl, by decide⟩
end Go.Proofs.Yt
namespace Go.Proofs.Yt
open Go Go.FA Go.Proofs
set_option linter.unusedVariables false
set_option linter.unusedSimpArgs false
set_option maxRecDepth 100000

def OpD.wt (o : OpD) : Nat := o.args.length + o.pieces.length + o.strict.length
def weight : List OpD → Nat
  | [] => 0
  | o :: l => o.wt + weight l
theorem weight_append (l m : List OpD) : weight (l ++ m) = weight l + weight m := by
  induction l with
  | nil => simp [weight]
  | cons o l ih => simp only [List.cons_append, weight, ih]; omega
theorem weight_take (l : List OpD) (i : Nat) : weight (l.take i) ≤ weight l := by
  conv => rhs; rw [← List.take_append_drop i l, weight_append]
  omega
theorem weight_snoc {l : List OpD} {i : Nat} (h : i < l.length) : weight (l.take (i + 1)) = weight (l.take i) + l[i].wt := by
  rw [List.take_succ_eq_append_getElem h, weight_append]; simp [weight]
def few (s : SigD) : Bool := decide (s.sorts.length ≤ 60) && decide (s.below.length ≤ 250) && decide (s.ops.length + s.funs.length ≤ 250) && decide (s.values.length ≤ 100) && decide (weight (s.ops ++ s.funs) ≤ 3000)
def lens (s : SigD) : Prop := s.sorts.length ≤ lim ∧ s.below.length ≤ lim ∧ s.ops.length ≤ lim ∧ s.funs.length ≤ lim ∧ s.values.length ≤ lim ∧ ∀ o ∈ s.ops ++ s.funs, o.args.length ≤ lim ∧ o.pieces.length ≤ lim ∧ o.strict.length ≤ lim
instance (s : SigD) : Decidable (lens s) := by unfold lens; infer_instance
def s10 : Sp := sp (arg1 Enc.sigd) Enc.bool (fun s => if lens s then some (few s) else none)
def inv10 (l : List OpD) : Nat → (Nat → DV) → St → Prop := fun k a σ => ∃ i tag, i ≤ l.length ∧ k = l.length - i ∧ weight (l.take i) ≤ 3000 ∧
  a 3 = .lit (.int .i64 (weight (l.take i))) ∧ a 38 = .slice 7 tag (l.map EncR.opd.enc) ∧ a 39 = .lit (.int .i64 l.length) ∧ a 40 = .lit (.int .i64 i)
attribute [local simp] drunL drunO dwanted dopS own plainOf dop dput eval ofVal Then Ex.then Ex.inBlock upd dbin Tag.isNN nilTest intCmp dload dpart TyI.agg dfieldAddr dfield dindexAddr dindex dlen lenOk dlookup mapOf keyFits dmapUpdate dcallee dbuiltin dstore DV.cells dslice dboundOk dappend appTag rowsOf elemOk growLimit dbuildCells dbuildCells.go structOk fieldsOk dbuildRows goInt
theorem c10 : CallSound Tryz.prog 10 s10 := by
  refine CallSound.of_sp (T := tabOf []) Tryz.func10 rfl (Nat.le_of_ble_eq_true rfl) fun E s y hy => ?_
  by_cases hl : lens s
  case neg => rw [if_neg hl] at hy; cases hy
  rw [if_pos hl] at hy
  cases hy
  obtain ⟨z1, z2, z3, z4, z5, z6⟩ := hl
  unfold lim at *
  have tT : TabOk Tryz.prog (tabOf []) := tab0
  have hw : IntKind.i64.wrap ((s.ops.length : Int) + (s.funs.length : Int)) = (s.ops.length : Int) + (s.funs.length : Int) := wrap_small (n := (s.ops.length : Int) + (s.funs.length : Int)) (by omega) (by omega)
  refine Dwp.step tT rfl fun K hK => ?_
  simp [dcall, tabOf, setAt, init, arg1, EncR.one, Enc.sigd, Enc.agg]
  refine hK _ _ ?_ rfl; clear hK K
  refine Dwp.seq ?_
  refine Dwp.step tT rfl fun K hK => ?_
  generalize tabOf [] = T at *
  by_cases b1 : s.sorts.length ≤ 60
  case neg =>
    have b1' : decide ((60 : Int) < (s.sorts.length : Int)) = true := by simp; omega
    have b1'' : (60 : Int) < (s.sorts.length : Int) := by omega
    have hf : few s = false := by simp [few, b1]
    simp [setAt, ty26, ty22, ty23, ty24, strsC, belsC, opsC, b1'']
    refine hK _ _ ?_ rfl; clear hK K
    refine Dwp.condT (by simp [eval, upd]) ?_
    refine Dwp.step tT rfl fun K hK => ?_
    simp [dcall, tabOf, setAt]
    refine hK _ _ (Dwp.ret ?_) rfl
    simp [Done, dresults, dres, frz, frz1, frz2, Ex.then, upd, Enc.bool, hf]
  have c1 : ¬ (60 : Int) < (s.sorts.length : Int) := by omega
  by_cases b2 : s.below.length ≤ 250
  case neg =>
    have b2'' : (250 : Int) < (s.below.length : Int) := by omega
    have hf : few s = false := by simp [few, b2]
    simp [setAt, ty26, ty22, ty23, ty24, strsC, belsC, opsC, c1, b2'']
    refine hK _ _ ?_ rfl; clear hK K
    refine Dwp.condT (by simp [eval, upd]) ?_
    refine Dwp.step tT rfl fun K hK => ?_
    simp [dcall, tabOf, setAt]
    refine hK _ _ (Dwp.ret ?_) rfl
    simp [Done, dresults, dres, frz, frz1, frz2, Ex.then, upd, Enc.bool, hf]
  have c2 : ¬ (250 : Int) < (s.below.length : Int) := by omega
  by_cases b3 : s.ops.length + s.funs.length ≤ 250
  case neg =>
    have b3'' : (250 : Int) < (s.ops.length : Int) + (s.funs.length : Int) := by omega
    have hf : few s = false := by simp [few, b3]
    simp [setAt, ty26, ty22, ty23, ty24, strsC, belsC, opsC, c1, c2, hw, b3'']
    refine hK _ _ ?_ rfl; clear hK K
    refine Dwp.condT (by simp [eval, upd]) ?_
    refine Dwp.step tT rfl fun K hK => ?_
    simp [dcall, tabOf, setAt]
    refine hK _ _ (Dwp.ret ?_) rfl
    simp [Done, dresults, dres, frz, frz1, frz2, Ex.then, upd, Enc.bool, hf]
  have c3 : ¬ (250 : Int) < (s.ops.length : Int) + (s.funs.length : Int) := by omega
  by_cases b4 : s.values.length ≤ 100
  case neg =>
    have b4'' : (100 : Int) < (s.values.length : Int) := by omega
    have hf : few s = false := by simp [few, b4]
    simp [setAt, ty26, ty22, ty23, ty24, strsC, belsC, opsC, c1, c2, hw, c3, b4'']
    refine hK _ _ ?_ rfl; clear hK K
    refine Dwp.condT (by simp [eval, upd]) ?_
    refine Dwp.step tT rfl fun K hK => ?_
    simp [dcall, tabOf, setAt]
    refine hK _ _ (Dwp.ret ?_) rfl
    simp [Done, dresults, dres, frz, frz1, frz2, Ex.then, upd, Enc.bool, hf]
  have c4 : ¬ (100 : Int) < (s.values.length : Int) := by omega
  simp [setAt, ty26, ty22, ty23, ty24, strsC, belsC, opsC, c1, c2, hw, c3, c4]
  refine hK _ _ ?_ rfl; clear hK K
  refine Dwp.condF (by simp [eval, upd]) (Dwp.skip ?_)
  refine Dwp.step tT rfl fun K hK => ?_
  simp [dcall, tabOf, setAt]
  refine hK _ _ ?_ rfl; clear hK K
  obtain ⟨l, hle⟩ : ∃ l, l = s.ops ++ s.funs := ⟨_, rfl⟩
  have hll : l.length = s.ops.length + s.funs.length := by rw [hle]; simp
  have hfew : few s = decide (weight l ≤ 3000) := by simp [few, b1, b2, b3, b4, hle]
  have z7 : s.ops.length ≤ 16777216 := by omega
  have z8 : s.ops.length + s.funs.length ≤ 16777216 := by omega
  refine Dwp.seq ?_
  refine Dwp.drawStep [.none, .none, .none, .tok, .none, .none, .tok, .none, .none] mixed tT rfl (by decide) fun K hK => ?_
  simp [drunT, touch, touchP, setAt, ty26, ty24, ty38, opsC, z7, z8]
  refine hK _ _ ?_ rfl; clear hK K
  have hmap : s.ops.map EncR.opd.enc ++ s.funs.map EncR.opd.enc = l.map EncR.opd.enc := by rw [hle, List.map_append]
  rw [hmap]
  rw [← hle] at z6
  rw [hfew]
  have hll2 : l.length ≤ 250 := by omega
  have hlc : ((s.ops.length : Int) + (s.funs.length : Int)) = (l.length : Int) := by omega
  clear hmap hle hfew b1 b2 b3 b4 c1 c2 c3 c4 hw z1 z2 z3 z4 z5 z7 z8
  refine Dwp.block (Dwp.loop (inv10 l) l.length ⟨0, _, by simp, by simp, by simp [weight], by simp [upd, weight], by simp [upd]; rfl, by simp [upd, hlc], by simp [upd]⟩ ?_)
  rintro k a σ ⟨i, tag, hi, rfl, hwt, h3, h38, h39, h40⟩
  refine Dwp.step tT rfl fun K hK => ?_
  simp [dcall, tabOf, setAt, h39, h40]
  refine hK _ _ ?_ rfl; clear hK K
  by_cases hlt : i < l.length
  · refine Dwp.seq (Dwp.condT (by simp [eval, upd, hlt]) (Dwp.skip ?_))
    refine Dwp.seq (Dwp.block ?_)
    refine Dwp.step tT rfl fun K hK => ?_
    have setO' := setO
    simp only [noOpD] at setO'
    simp [h38, h40, ty24, ty38, hlt, setO']
    refine hK _ _ ?_ rfl; clear hK K
    obtain ⟨y1, y2, y3⟩ := z6 l[i] (List.getElem_mem hlt)
    have hsn := weight_snoc hlt
    unfold OpD.wt at hsn
    have w1 : IntKind.i64.wrap ((l[i].args.length : Int) + (l[i].pieces.length : Int)) = (l[i].args.length : Int) + (l[i].pieces.length : Int) := wrap_small (n := (l[i].args.length : Int) + (l[i].pieces.length : Int)) (by omega) (by omega)
    have w2 : IntKind.i64.wrap ((l[i].args.length : Int) + (l[i].pieces.length : Int) + (l[i].strict.length : Int)) = (l[i].args.length : Int) + (l[i].pieces.length : Int) + (l[i].strict.length : Int) := wrap_small (n := (l[i].args.length : Int) + (l[i].pieces.length : Int) + (l[i].strict.length : Int)) (by omega) (by omega)
    have w3 : IntKind.i64.wrap ((weight (l.take i) : Int) + ((l[i].args.length : Int) + (l[i].pieces.length : Int) + (l[i].strict.length : Int))) = (weight (l.take (i + 1)) : Int) := by
      rw [wrap_small (n := (weight (l.take i) : Int) + ((l[i].args.length : Int) + (l[i].pieces.length : Int) + (l[i].strict.length : Int))) (by omega) (by omega), hsn]; omega
    refine Dwp.step tT rfl fun K hK => ?_
    simp [dcall, tabOf, setAt, h3, ty38, ty22, ty34, ty36, ty3, strsC, piesC, intsC, w1, w2, w3]
    refine hK _ _ ?_ rfl; clear hK K
    refine Dwp.step tT rfl fun K hK => ?_
    simp [dcall, tabOf, setAt]
    refine hK _ _ ?_ rfl; clear hK K
    by_cases hbig : weight (l.take (i + 1)) ≤ 3000
    · refine Dwp.condF (by simp [eval, upd]; omega) (Dwp.skip ?_)
      refine Dwp.reg tT rfl fun K hK => ?_
      simp [dcall, tabOf, setAt, h40]
      refine hK _ _ ?_ rfl; clear hK K
      exact ⟨l.length - (i + 1), by omega, i + 1, tag, by omega, rfl, hbig, by simp [upd], by simp [upd, h38], by simp [upd, h39], by simp [upd, wrap_small (n := (i : Int) + 1) (by omega) (by omega)]⟩
    · refine Dwp.condT (by simp [eval, upd]; omega) ?_
      refine Dwp.step tT rfl fun K hK => ?_
      simp [dcall, tabOf, setAt]
      refine hK _ _ (Dwp.ret ?_) rfl
      have : ¬ weight l ≤ 3000 := by have := weight_take l (i + 1); omega
      simp [Done, dresults, dres, frz, frz1, frz2, Ex.then, Ex.inBlock, upd, Enc.bool, this]
  · refine Dwp.seq (Dwp.condF (by simp [eval, upd, hlt]) (Dwp.exit ?_))
    simp only [Ex.then, Ex.inBlock, if_true]
    rw [List.take_of_length_le (by omega)] at hwt
    refine Dwp.step tT rfl fun K hK => ?_
    simp [dcall, tabOf, setAt]
    refine hK _ _ (Dwp.ret ?_) rfl
    simp [Done, dresults, dres, frz, frz1, frz2, upd, Enc.bool, hwt]
theorem e10 : Go.FA.Good Tryz.prog (10, s10) := ⟨c10, Tryz.f10, _, Tryz.func10, rfl, by decide⟩
end Go.Proofs.Yt
namespace Go.Proofs.Yt
open Go Go.FA Go.Proofs
set_option linter.unusedVariables false
set_option linter.unusedSimpArgs false
set_option maxRecDepth 100000

theorem sortB_eq {l m : List ByteArray} (h : l.Perm m) (hs : (m.map bl).Pairwise fun a b => decide (a ≤ b) = true) : sortB l = m := by
  have h1 := sortB_perm h
  rw [h1]
  unfold sortB
  have tr : ∀ (a b c : List UInt8), decide (a ≤ b) = true → decide (b ≤ c) = true → decide (a ≤ c) = true := fun a b c h1 h2 => by
    simp only [decide_eq_true_eq] at *; exact List.le_trans h1 h2
  have to : ∀ (a b : List UInt8), (decide (a ≤ b) || decide (b ≤ a)) = true := fun a b => by
    simp only [Bool.or_eq_true, decide_eq_true_eq]; exact List.le_total a b
  have : ((m.map bl).mergeSort fun x y => decide (x ≤ y)) = m.map bl := by
    refine List.Perm.eq_of_pairwise (le := fun a b => decide (a ≤ b) = true) (fun a b _ _ h1 h2 => ?_) (List.pairwise_mergeSort tr to _) hs (List.mergeSort_perm _ _)
    simp only [decide_eq_true_eq] at h1 h2; exact List.le_antisymm h1 h2
  rw [this, List.map_map]
  exact (List.map_congr_left fun s _ => lb_bl s).trans (List.map_id _)

def fooS : ByteArray := ⟨#[70, 111, 111]⟩
def nopeS : ByteArray := ⟨#[78, 111, 112, 101]⟩
def anyT : ByteArray := ⟨#[65, 110, 121]⟩
def sums2 : SigD := ⟨[fooS, pgmS], [⟨intS, fooS⟩, ⟨fooS, pgmS⟩], [⟨plusS, [fooS, fooS], fooS, [⟨⟨#[]⟩, fooS⟩, ⟨⟨#[43]⟩, ⟨#[]⟩⟩, ⟨⟨#[]⟩, fooS⟩], 5, 1, [1, 2]⟩], [], [intS]⟩
def plusO : OpD := ⟨plusS, [expS, expS], expS, [⟨⟨#[]⟩, expS⟩, ⟨⟨#[43]⟩, ⟨#[]⟩⟩, ⟨⟨#[]⟩, expS⟩], 5, 1, [1, 2]⟩
def meetF (s : SigD) (lo hi : ByteArray) : Option (Bool × Int) := withBook (openF s [lo, hi]) false fun b => b.meet lo hi
def valueF (s : SigD) (x : ByteArray) : Option (Bool × Int) := withBook (openF s [x]) false fun b => valueB s b x
theorem aw1 : atMostF sums intS expS = some (true, 0) := by kernel_rfl
theorem aw2 : atMostF sums expS intS = some (false, 0) := by kernel_rfl
theorem aw3 : atMostF sums intS nopeS = some (false, 13) := by kernel_rfl
theorem aw4 : validF sums = some true := by kernel_rfl
theorem aw5 : (findF22 sums plusS) = some (plusO, 0) := by kernel_rfl
theorem aw6 : findF25 sums plusS = some (noOp, 4) := by kernel_rfl
theorem aw7 : valueF sums expS = some (false, 0) := by kernel_rfl
theorem aw8 : meetF sums pgmS intS = some (true, 0) := by kernel_rfl
theorem aw9 : renameF sums expS fooS = some (sums2, 0) := by kernel_rfl
def thatL (k : Book) (f : Nat) (b : Book) (x : ByteArray) : Option (List ByteArray) :=
  if k.highs.length ≤ 1000 ∧ (f = 62 ∨ f = 65) ∧ (k.highs.all fun p => (b.clo f x p.1).isSome) = true then some ((k.highs.map (·.1)).filter (cloB b f x)) else none
theorem thatF_eq (k : Book) (f : Nat) (b : Book) (x : ByteArray) : thatF k f b x = (thatL k f b x).map sortB := by
  unfold thatF thatL; split <;> rfl
theorem withBook_map {β γ : Type} (r : Option (Option Book × Int)) (no : β) (f : Book → Option β) (g : β → γ) : withBook r (g no) (fun b => (f b).map g) = (withBook r no f).map fun x => (g x.1, x.2) := by
  unfold withBook
  split
  · split
    · next b e h => simp only [Option.map_map]; rfl
    · rfl
  · split <;> rfl
  · rfl
theorem that_eq (s : SigD) (names : List ByteArray) (f : Nat) (x : ByteArray) : withBook (openF s names) [] (fun b => thatF b f b x) = (withBook (openF s names) [] fun b => thatL b f b x).map fun r => (sortB r.1, r.2) := by
  have h0 : sortB [] = [] := by simp [sortB]
  have := withBook_map (openF s names) [] (fun b => thatL b f b x) sortB
  rw [h0] at this
  rw [← this]
  congr 1; funext b; exact thatF_eq b f b x
theorem aw10 : thatErr27 sums intS = some ([anyT, expS, intS, pgmS], 0) := by
  have h1 : (withBook (openF sums [intS]) [] fun b => thatL b 62 b intS) = some ([anyT, intS, expS, pgmS], 0) := by kernel_rfl
  unfold thatErr27
  rw [that_eq, h1]
  have : sortB [anyT, intS, expS, pgmS] = [anyT, expS, intS, pgmS] := sortB_eq (.cons _ (.swap _ _ _)) (by decide)
  simp [this]
theorem aw11 : thatErr30 sums expS = some ([expS, intS], 0) := by
  have h1 : (withBook (openF sums [expS]) [] fun b => thatL b 65 b expS) = some ([intS, expS], 0) := by kernel_rfl
  unfold thatErr30
  rw [that_eq, h1]
  have : sortB [intS, expS] = [expS, intS] := sortB_eq (.swap _ _ _) (by decide)
  simp [this]
end Go.Proofs.Yt
namespace Go.Proofs.Yt
open Go Go.FA Go.Proofs
set_option linter.unusedVariables false
set_option linter.unusedSimpArgs false
set_option maxRecDepth 100000

section maps
variable {α : Type}
theorem mget_put (k j : ByteArray) (v : α) : ∀ m : List (ByteArray × α), mget j (mput k v m) = if j = k then some v else mget j m
  | [] => by simp [mput, mget]
  | p :: l => by
    simp only [mput]
    by_cases h : k = p.1
    · rw [if_pos h]; simp only [mget]
      by_cases h2 : j = k
      · simp [h2]
      · have h3 : j ≠ p.1 := fun e => h2 (e.trans h.symm)
        simp [h2, h3]
    · rw [if_neg h]; simp only [mget, mget_put k j v l]
      by_cases h2 : j = k
      · subst h2; simp [h]
      · simp only [h2, if_false]
theorem mget_key (k : ByteArray) : ∀ m : List (ByteArray × α), (mget k m).isSome = true ↔ ∃ p ∈ m, p.1 = k
  | [] => by simp [mget]
  | p :: l => by
    simp only [mget]
    by_cases h : k = p.1
    · simp [h]
    · rw [if_neg h, mget_key k l]
      constructor
      · rintro ⟨q, hq, rfl⟩; exact ⟨q, by simp [hq], rfl⟩
      · rintro ⟨q, hq, rfl⟩
        rcases List.mem_cons.1 hq with rfl | hq
        · exact absurd rfl h
        · exact ⟨q, hq, rfl⟩
theorem mget_foldl_nil (k : ByteArray) (v : α) : ∀ (l : List ByteArray) (m : List (ByteArray × α)), mget k (l.foldl (fun m n => mput n v m) m) = if k ∈ l then some v else mget k m
  | [], m => by simp
  | n :: l, m => by
    simp only [List.foldl_cons, mget_foldl_nil k v l, mget_put]
    by_cases h : k ∈ l
    · simp [h]
    · by_cases h2 : k = n <;> simp [h, h2]
end maps

/-- what is declared to be above a sort -/
def ups (s : SigD) (x : ByteArray) : List ByteArray := (s.below.filter fun y => decide (y.low = x)).map (·.high)
def SigD.all (s : SigD) : List ByteArray := given ++ s.sorts
theorem mget_addBel (x : ByteArray) : ∀ (l : List Bel) (m : List (ByteArray × List ByteArray)), mget x (l.foldl addBel m) = (mget x m).map (· ++ (l.filter fun y => decide (y.low = x)).map (·.high))
  | [], m => by cases h : mget x m <;> simp [h]
  | y :: l, m => by
    simp only [List.foldl_cons, mget_addBel x l]
    unfold addBel
    by_cases h : y.low = x
    · subst h
      cases hm : mget y.low m with
      | none => simp [hm]
      | some z => simp [mget_put]
    · have hf : ((y :: l).filter fun y => decide (y.low = x)) = l.filter fun y => decide (y.low = x) := by simp [h]
      rw [hf]
      cases hm : mget y.low m with
      | none => rfl
      | some z => simp only [mget_put]; rw [if_neg (fun e => h e.symm)]
theorem highs_get (s : SigD) (x : ByteArray) : mget x (newBook s).highs = if x ∈ s.all then some (ups s x) else none := by
  simp only [newBook, mget_addBel, mget_foldl_nil, SigD.all, ups]
  by_cases h : x ∈ given ++ s.sorts <;> simp [h, mget]
theorem book_has (s : SigD) (x : ByteArray) : (newBook s).has x = decide (x ∈ s.all) := by
  unfold Book.has; rw [highs_get]; by_cases h : x ∈ s.all <;> simp [h]
theorem book_up (s : SigD) (x : ByteArray) : (newBook s).highsOf x = if x ∈ s.all then ups s x else [] := by
  unfold Book.highsOf; rw [highs_get]; by_cases h : x ∈ s.all <;> simp [h]
theorem book_keys (s : SigD) (x : ByteArray) : (∃ p ∈ (newBook s).highs, p.1 = x) ↔ x ∈ s.all := by
  rw [← mget_key, highs_get]; by_cases h : x ∈ s.all <;> simp [h]

/-- one step up, any steps up -/
inductive Star (b : Book) : ByteArray → ByteArray → Prop where
  | refl (x : ByteArray) : Star b x x
  | step {x y z : ByteArray} (h : y ∈ b.highsOf x) (t : Star b y z) : Star b x z
theorem Star.trans {b : Book} {x y z : ByteArray} (h : Star b x y) (h' : Star b y z) : Star b x z := by
  induction h with
  | refl => exact h'
  | step h t ih => exact .step h (ih h')
def Plus (b : Book) (x z : ByteArray) : Prop := ∃ y ∈ b.highsOf x, Star b y z
theorem Plus.star {b : Book} {x z : ByteArray} : Plus b x z → Star b x z := fun ⟨_, h, t⟩ => .step h t
theorem Plus.trans {b : Book} {x y z : ByteArray} (h : Plus b x y) (h' : Plus b y z) : Plus b x z := by
  obtain ⟨u, hu, ht⟩ := h; exact ⟨u, hu, ht.trans h'.star⟩
theorem Star.cases' {b : Book} {x z : ByteArray} : Star b x z → x = z ∨ Plus b x z
  | .refl _ => .inl rfl
  | .step h t => .inr ⟨_, h, t⟩

/-- declarations whose lower sort was not seen yet -/
def more (s : SigD) (seen : List ByteArray) : Nat := (s.below.filter fun y => !decide (y.low ∈ seen)).length
theorem filter_split {α : Type} (p q r : α → Bool) : ∀ l : List α, (∀ y ∈ l, (p y = true ↔ (q y = true ∨ r y = true)) ∧ ¬ (q y = true ∧ r y = true)) → (l.filter p).length = (l.filter q).length + (l.filter r).length
  | [], _ => rfl
  | y :: l, h => by
    have ih := filter_split p q r l fun z hz => h z (by simp [hz])
    have hy := h y (by simp)
    cases hp : p y <;> cases hq : q y <;> cases hr : r y <;> simp_all [List.filter_cons] <;> omega
theorem more_step (s : SigD) (seen : List ByteArray) (x : ByteArray) (h : x ∉ seen) : more s seen = more s (seen ++ [x]) + (ups s x).length := by
  unfold more ups
  rw [List.length_map]
  refine filter_split _ _ _ _ fun y _ => ?_
  by_cases h1 : y.low = x
  · subst h1; simp [h]
  · simp [h1]
theorem up_len (s : SigD) (x : ByteArray) : ((newBook s).highsOf x).length ≤ (ups s x).length := by
  rw [book_up]; split <;> simp

theorem overF_some (s : SigD) : ∀ (n : Nat) (todo seen : List ByteArray), todo.length + more s seen < n → todo.length + more s seen ≤ 16777216 →
    ∃ res, overF (newBook s) n todo seen = some res ∧ (∀ z ∈ seen, z ∈ res) ∧ (∀ z ∈ todo, z ∈ res) ∧ (∀ x ∈ res, x ∈ seen ∨ ∀ y ∈ (newBook s).highsOf x, y ∈ res) ∧ (∀ z ∈ res, z ∈ seen ∨ ∃ x ∈ todo, Star (newBook s) x z)
  | 0, _, _, h, _ => by omega
  | n + 1, [], seen, h, h2 => ⟨seen, rfl, fun _ h => h, by simp, fun _ h => .inl h, fun _ h => .inl h⟩
  | n + 1, x :: rest, seen, h, h2 => by
    simp only [overF, List.length_cons] at *
    by_cases hx : x ∈ seen
    · obtain ⟨res, r1, r2, r3, r4, r5⟩ := overF_some s n rest seen (by omega) (by omega)
      refine ⟨res, by rw [if_pos hx]; exact r1, r2, ?_, r4, fun z hz => ?_⟩
      · intro z hz; rcases List.mem_cons.1 hz with rfl | hz
        · exact r2 _ hx
        · exact r3 _ hz
      · rcases r5 z hz with q | ⟨y, hy, hs⟩
        · exact .inl q
        · exact .inr ⟨y, by simp [hy], hs⟩
    · have hm := more_step s seen x hx
      have hu := up_len s x
      rw [if_neg hx, if_pos (by omega)]
      obtain ⟨res, r1, r2, r3, r4, r5⟩ := overF_some s n (rest ++ (newBook s).highsOf x) (seen ++ [x]) (by simp only [List.length_append]; omega) (by simp only [List.length_append]; omega)
      refine ⟨res, r1, fun z hz => r2 z (by simp [hz]), ?_, ?_, ?_⟩
      · intro z hz; rcases List.mem_cons.1 hz with rfl | hz
        · exact r2 _ (by simp)
        · exact r3 _ (by simp [hz])
      · intro y hy
        rcases r4 y hy with q | q
        · rcases List.mem_append.1 q with q | q
          · exact .inl q
          · simp at q; subst q; exact .inr fun z hz => r3 z (by simp [hz])
        · exact .inr q
      · intro z hz
        rcases r5 z hz with q | ⟨y, hy, hs⟩
        · rcases List.mem_append.1 q with q | q
          · exact .inl q
          · simp at q; subst q; exact .inr ⟨z, by simp, .refl z⟩
        · rcases List.mem_append.1 hy with q | q
          · exact .inr ⟨y, by simp [q], hs⟩
          · exact .inr ⟨x, by simp, .step q hs⟩

theorem more_le (s : SigD) (seen : List ByteArray) : more s seen ≤ s.below.length := List.length_filter_le _ _
theorem ups_le (s : SigD) (x : ByteArray) : (ups s x).length ≤ s.below.length := by unfold ups; rw [List.length_map]; exact List.length_filter_le _ _
theorem over_some (s : SigD) (hb : s.below.length ≤ 200) (x : ByteArray) : ∃ res, (newBook s).over x = some res ∧ ∀ z, z ∈ res ↔ Plus (newBook s) x z := by
  have h1 := up_len s x
  have h2 := ups_le s x
  have h3 := more_le s []
  obtain ⟨res, r1, r2, r3, r4, r5⟩ := overF_some s 1000000 ((newBook s).highsOf x) [] (by omega) (by omega)
  refine ⟨res, by unfold Book.over; rw [if_pos (by omega)]; exact r1, fun z => ⟨fun hz => ?_, ?_⟩⟩
  · rcases r5 z hz with q | q
    · simp at q
    · exact q
  · rintro ⟨y, hy, hs⟩
    have hy' := r3 y hy
    clear hy
    induction hs with
    | refl => exact hy'
    | step h t ih =>
      refine ih ?_
      rcases r4 _ hy' with q | q
      · simp at q
      · exact q _ h
theorem atMost_some (s : SigD) (hb : s.below.length ≤ 200) (x y : ByteArray) : ∃ r, (newBook s).atMost x y = some r ∧ (r = true ↔ y = anyS ∨ x = y ∨ Plus (newBook s) x y) := by
  obtain ⟨res, h1, h2⟩ := over_some s hb x
  unfold Book.atMost
  by_cases h3 : y = anyS
  · exact ⟨true, by rw [if_pos h3], by simp [h3]⟩
  · by_cases h4 : x = y
    · exact ⟨true, by rw [if_neg h3, if_pos h4], by simp [h4]⟩
    · exact ⟨decide (y ∈ res), by rw [if_neg h3, if_neg h4, h1]; rfl, by simp [h3, h4, h2]⟩

/-- sizes that every argument of a call within the bulk has -/
def SigD.ok (s : SigD) : Prop := s.sorts.length ≤ 1048576 ∧ s.below.length ≤ 1048576 ∧ s.ops.length + s.funs.length ≤ 1048576 ∧ s.values.length ≤ 1048576 ∧
  ∀ o, o ∈ s.ops ∨ o ∈ s.funs → o.name.size ≤ 1048576 ∧ o.args.length ≤ 1048576 ∧ o.pieces.length ≤ 1048576 ∧ o.strict.length ≤ 1048576
theorem SigD.ok.sizes {s : SigD} (h : s.ok) (hw : s.within = true) : s.sizes := by
  obtain ⟨h1, h2, h3, h4, h5⟩ := h
  simp only [SigD.within, Bool.and_eq_true, decide_eq_true_eq] at hw
  refine ⟨by omega, by omega, by unfold lim; omega, fun o ho => ?_, fun o ho => ?_⟩
  · obtain ⟨a, b, c, d⟩ := h5 o (.inl ho); unfold OpD.small lim; omega
  · obtain ⟨a, b, c, d⟩ := h5 o (.inr ho); unfold OpD.small lim; omega

def SigD.vld (s : SigD) : Bool := s.within && decide (validB (newBook s) s = some true)
theorem okBelow_some (s : SigD) (hb : s.below.length ≤ 200) : ∃ r, okBelow (newBook s) s.below = some r ∧
    (r = true ↔ (∀ y ∈ s.below, okBel (newBook s) y = true) ∧ s.below.Nodup ∧ ∀ x ∈ s.all, ¬ Plus (newBook s) x x) := by
  unfold okBelow
  rw [if_pos (by unfold lim; omega)]
  by_cases h1 : s.below.all (okBel (newBook s)) = true
  · rw [if_pos h1]
    by_cases h2 : s.below.Nodup
    · rw [if_pos (by simpa using h2)]
      have h3 : ((newBook s).highs.all fun p => ((newBook s).over p.1).isSome) = true := by
        rw [List.all_eq_true]; intro p _
        obtain ⟨res, hr, _⟩ := over_some s hb p.1
        rw [hr]; rfl
      rw [if_pos h3]
      refine ⟨_, rfl, ?_⟩
      have h4 : (newBook s).circle = true ↔ ∃ x ∈ s.all, Plus (newBook s) x x := by
        unfold Book.circle
        rw [List.any_eq_true]
        constructor
        · rintro ⟨p, hp, hc⟩
          unfold Book.circ at hc
          obtain ⟨res, hr, hi⟩ := over_some s hb p.1
          rw [hr] at hc
          simp only [decide_eq_true_eq] at hc
          exact ⟨p.1, (book_keys s p.1).1 ⟨p, hp, rfl⟩, (hi _).1 hc⟩
        · rintro ⟨x, hx, hc⟩
          obtain ⟨p, hp, rfl⟩ := (book_keys s x).2 hx
          obtain ⟨res, hr, hi⟩ := over_some s hb p.1
          exact ⟨p, hp, by unfold Book.circ; rw [hr]; simpa using (hi _).2 hc⟩
      rw [List.all_eq_true] at h1
      constructor
      · intro h
        refine ⟨h1, h2, fun x hx hp => ?_⟩
        have := h4.2 ⟨x, hx, hp⟩
        simp [this] at h
      · rintro ⟨_, _, h⟩
        cases hc : (newBook s).circle with
        | false => rfl
        | true => obtain ⟨x, hx, hp⟩ := h4.1 hc; exact absurd hp (h x hx)
    · rw [if_neg (by simpa using h2)]; exact ⟨false, rfl, by simp [h2]⟩
  · rw [if_neg h1]
    refine ⟨false, rfl, by
      rw [List.all_eq_true] at h1
      simp [h1]⟩
    
theorem validB_some (s : SigD) (h : s.ok) (hw : s.within = true) : ∃ r, validB (newBook s) s = some r ∧ (r = true → okSorts s.sorts = true ∧ (∀ y ∈ s.below, okBel (newBook s) y = true) ∧ s.below.Nodup ∧ (∀ x ∈ s.all, ¬ Plus (newBook s) x x) ∧
    (opNames s).Nodup ∧ (∀ o ∈ s.ops, badOp (newBook s) o = false) ∧ (∀ o ∈ s.funs, badFun (newBook s) o = false) ∧ (∀ v ∈ s.values, v ∈ s.all) ∧ s.values.Nodup) := by
  have hb : s.below.length ≤ 200 := by simp only [SigD.within, Bool.and_eq_true, decide_eq_true_eq] at hw; omega
  obtain ⟨r, h1, h2⟩ := okBelow_some s hb
  unfold validB
  rw [if_pos (h.sizes hw)]
  by_cases h3 : okSorts s.sorts = true
  · rw [if_pos h3, h1]
    cases r with
    | false => exact ⟨false, rfl, by simp⟩
    | true =>
      refine ⟨_, rfl, fun h4 => ?_⟩
      obtain ⟨p1, p2, p3⟩ := h2.1 rfl
      simp only [Bool.and_eq_true, decide_eq_true_eq, Bool.not_eq_true', List.any_eq_false, List.all_eq_true, predB, book_has, Bool.false_eq_true, if_false, if_true, Bool.not_eq_true] at h4
      obtain ⟨⟨⟨⟨q1, q2⟩, q3⟩, q4⟩, q5⟩ := h4
      exact ⟨h3, p1, p2, p3, q1, q2, q3, q4, q5⟩
  · rw [if_neg h3]; exact ⟨false, rfl, by simp⟩

theorem openF_some (s : SigD) (h : s.ok) (names : List ByteArray) (hn : names.length ≤ 1048576) :
    openF s names = some (if s.vld then (if names.all (newBook s).has then (some (newBook s), 0) else (none, 13)) else (none, 2)) := by
  obtain ⟨h1, h2, h3, h4, h5⟩ := h
  unfold openF
  rw [if_pos ⟨by unfold lim; omega, by unfold lim; omega, by unfold lim; omega⟩]
  unfold SigD.vld
  cases hw : s.within with
  | false => simp
  | true =>
    obtain ⟨r, hr, _⟩ := validB_some s ⟨h1, h2, h3, h4, h5⟩ hw
    rw [hr]
    cases r
    · simp
    · simp only [if_true, Bool.true_and, decide_true]
      split <;> rfl
theorem validF_some (s : SigD) (h : s.ok) : validF s = some s.vld := by
  unfold validF
  rw [openF_some s h [] (by simp)]
  cases s.vld <;> simp
theorem vld_facts {s : SigD} (h : s.ok) (hv : s.vld = true) : s.within = true ∧ s.below.length ≤ 200 ∧ okSorts s.sorts = true ∧ (∀ y ∈ s.below, okBel (newBook s) y = true) ∧ s.below.Nodup ∧ (∀ x ∈ s.all, ¬ Plus (newBook s) x x) ∧
    (opNames s).Nodup ∧ (∀ o ∈ s.ops, badOp (newBook s) o = false) ∧ (∀ o ∈ s.funs, badFun (newBook s) o = false) ∧ (∀ v ∈ s.values, v ∈ s.all) ∧ s.values.Nodup := by
  unfold SigD.vld at hv
  simp only [Bool.and_eq_true, decide_eq_true_eq] at hv
  obtain ⟨hw, hv⟩ := hv
  obtain ⟨r, hr, hf⟩ := validB_some s h hw
  rw [hv] at hr
  cases hr
  refine ⟨hw, ?_, hf rfl⟩
  simp only [SigD.within, Bool.and_eq_true, decide_eq_true_eq] at hw; omega
/-- one sort at most another, and no error -/
def SigD.at (s : SigD) (x y : ByteArray) : Bool := match atMostF s x y with
  | some (b, e) => b && decide (e = 0)
  | none => false
theorem atMostF_some (s : SigD) (h : s.ok) (x y : ByteArray) : ∃ r, atMostF s x y = some r ∧ (s.vld = true → x ∈ s.all → y ∈ s.all → r.2 = 0 ∧ (r.1 = true ↔ y = anyS ∨ x = y ∨ Plus (newBook s) x y)) ∧ (¬ (s.vld = true ∧ x ∈ s.all ∧ y ∈ s.all) → r.1 = false ∧ r.2 ≠ 0) := by
  unfold atMostF withBook
  rw [openF_some s h [x, y] (by simp)]
  cases hv : s.vld with
  | false => exact ⟨_, rfl, by simp, by simp⟩
  | true =>
    simp only [List.all_cons, List.all_nil, Bool.and_true, book_has, if_true]
    by_cases hx : x ∈ s.all
    · by_cases hy : y ∈ s.all
      · obtain ⟨r, hr, hi⟩ := atMost_some s (vld_facts h hv).2.1 x y
        simp only [hx, hy, decide_true, Bool.and_true, if_true, hr, Option.map_some]
        exact ⟨_, rfl, by simpa using hi, by simp⟩
      · simp only [hx, hy, decide_true, decide_false, Bool.and_false]
        exact ⟨_, rfl, by simp, by simp⟩
    · simp only [hx, decide_false, Bool.false_and]
      exact ⟨_, rfl, by simp, by simp⟩
theorem at_iff (s : SigD) (h : s.ok) (x y : ByteArray) : s.at x y = true ↔ s.vld = true ∧ x ∈ s.all ∧ y ∈ s.all ∧ (y = anyS ∨ x = y ∨ Plus (newBook s) x y) := by
  obtain ⟨r, h1, h2, h3⟩ := atMostF_some s h x y
  unfold SigD.at
  rw [h1]
  obtain ⟨b, e⟩ := r
  by_cases hc : s.vld = true ∧ x ∈ s.all ∧ y ∈ s.all
  · obtain ⟨c1, c2, c3⟩ := hc
    obtain ⟨q1, q2⟩ := h2 c1 c2 c3
    simp only at q1 q2
    simp [q1, c1, c2, c3, q2]
  · have := h3 hc
    simp only at this
    simp only [this.1, Bool.false_and, Bool.false_eq_true, false_iff]
    rintro ⟨c1, c2, c3, _⟩; exact hc ⟨c1, c2, c3⟩
theorem plus_low {s : SigD} (h : s.ok) (hv : s.vld = true) (y : ByteArray) : ¬ Plus (newBook s) anyS y := by
  rintro ⟨u, hu, _⟩
  rw [book_up] at hu
  split at hu
  · unfold ups at hu
    simp only [List.mem_map, List.mem_filter, decide_eq_true_eq] at hu
    obtain ⟨z, ⟨hz, hl⟩, _⟩ := hu
    have := (vld_facts h hv).2.2.2.1 z hz
    simp [okBel, hl] at this
  · simp at hu
theorem at_refl {s : SigD} (h : s.ok) (hv : s.vld = true) {x : ByteArray} (hx : x ∈ s.all) : s.at x x = true := (at_iff s h x x).2 ⟨hv, hx, hx, .inr (.inl rfl)⟩
theorem any_all (s : SigD) : anyS ∈ s.all := by unfold SigD.all; exact List.mem_append_left _ (by decide)
theorem at_any {s : SigD} (h : s.ok) (hv : s.vld = true) {x : ByteArray} (hx : x ∈ s.all) : s.at x anyS = true := (at_iff s h x _).2 ⟨hv, hx, any_all s, .inl rfl⟩
theorem at_anti {s : SigD} (h : s.ok) {x y : ByteArray} (h1 : s.at x y = true) (h2 : s.at y x = true) : x = y := by
  obtain ⟨hv, hx, hy, q1⟩ := (at_iff s h x y).1 h1
  obtain ⟨_, _, _, q2⟩ := (at_iff s h y x).1 h2
  have hp := plus_low h hv
  have hc := (vld_facts h hv).2.2.2.2.2.1
  rcases q1 with rfl | rfl | q1
  · rcases q2 with rfl | rfl | q2
    · rfl
    · rfl
    · exact absurd q2 (hp _)
  · rfl
  · rcases q2 with rfl | rfl | q2
    · exact absurd q1 (hp _)
    · rfl
    · exact absurd (q1.trans q2) (hc _ hx)
theorem at_trans {s : SigD} (h : s.ok) {x y z : ByteArray} (h1 : s.at x y = true) (h2 : s.at y z = true) : s.at x z = true := by
  obtain ⟨hv, hx, hy, q1⟩ := (at_iff s h x y).1 h1
  obtain ⟨_, _, hz, q2⟩ := (at_iff s h y z).1 h2
  have hp := plus_low h hv
  refine (at_iff s h x z).2 ⟨hv, hx, hz, ?_⟩
  rcases q2 with rfl | rfl | q2
  · exact .inl rfl
  · exact q1
  · rcases q1 with rfl | rfl | q1
    · exact absurd q2 (hp _)
    · exact .inr (.inr q2)
    · exact .inr (.inr (q1.trans q2))
end Go.Proofs.Yt
namespace Go.Proofs.Yt
open Go Go.FA Go.Proofs
set_option linter.unusedVariables false
set_option linter.unusedSimpArgs false
set_option maxRecDepth 100000

def s11 : Sp := sp EncR.unit Enc.bool (fun _ => some true)
abbrev T11 : Tab := tabOf [(43, s43), (14, s14), (27, s27), (30, s30), (22, s22), (25, s25), (20, s20), (16, s16), (32, s32), (12, s12), (36, s36), (38, s38)]
theorem t11 : TabOk Tryz.prog T11 := .cons e43 (.cons e14 (.cons e27 (.cons e30 (.cons e22 (.cons e25 (.cons e20 (.cons e16 (.cons e32 (.cons e12 (.cons e36 (.cons e38 .nil)))))))))))
attribute [local simp] drunL drunO dwanted dopS own plainOf dop dput eval ofVal Then Ex.then Ex.inBlock upd dbin Tag.isNN nilTest intCmp dload dpart TyI.agg dfieldAddr dfield dindexAddr dindex dlen lenOk dlookup mapOf keyFits dmapUpdate dcallee dbuiltin dstore DV.cells dslice dboundOk dappend appTag rowsOf elemOk growLimit dbuildCells dbuildCells.go structOk fieldsOk dbuildRows goInt
theorem c11 : CallSound Tryz.prog 11 s11 := by
  refine CallSound.of_sp (T := T11) Tryz.func11 rfl (Nat.le_of_ble_eq_true rfl) fun E xx y hy => ?_
  simp only [Option.some.injEq] at hy
  subst hy
  have g1 : dcall T11 43 [] = some (.agg (EncR.sigd.enc sums)) := by simp [dcall, T11, tabOf, s43, sp, EncR.unit, Enc.sigd, Enc.agg]
  have g2 : dcall T11 14 [Enc.sigd.enc sums, Enc.str.enc intS, Enc.str.enc expS] = some (Enc.boolErr.enc (true, 0)) := dcall3 (A := Enc.sigd) (B := Enc.str) (C := Enc.str) (D := Enc.boolErr) rfl aw1
  have g3 : dcall T11 14 [Enc.sigd.enc sums, Enc.str.enc expS, Enc.str.enc intS] = some (Enc.boolErr.enc (false, 0)) := dcall3 (A := Enc.sigd) (B := Enc.str) (C := Enc.str) (D := Enc.boolErr) rfl aw2
  have g4 : dcall T11 14 [Enc.sigd.enc sums, Enc.str.enc intS, Enc.str.enc nopeS] = some (Enc.boolErr.enc (false, 13)) := dcall3 (A := Enc.sigd) (B := Enc.str) (C := Enc.str) (D := Enc.boolErr) rfl aw3
  have g5 : dcall T11 27 [Enc.sigd.enc sums, Enc.str.enc intS] = some (Enc.strsErr.enc ([anyT, expS, intS, pgmS], 0)) := dcall2 (A := Enc.sigd) (B := Enc.str) (C := Enc.strsErr) rfl aw10
  have g6 : dcall T11 30 [Enc.sigd.enc sums, Enc.str.enc expS] = some (Enc.strsErr.enc ([expS, intS], 0)) := dcall2 (A := Enc.sigd) (B := Enc.str) (C := Enc.strsErr) rfl aw11
  have g7 : dcall T11 22 [Enc.sigd.enc sums, Enc.str.enc plusS] = some (Enc.opErr.enc (plusO, 0)) := dcall2 (A := Enc.sigd) (B := Enc.str) (C := Enc.opErr) rfl aw5
  have g8 : dcall T11 25 [Enc.sigd.enc sums, Enc.str.enc plusS] = some (Enc.opErr.enc (noOp, 4)) := dcall2 (A := Enc.sigd) (B := Enc.str) (C := Enc.opErr) rfl aw6
  have g9 : dcall T11 20 [Enc.sigd.enc sums, Enc.str.enc expS] = some (Enc.boolErr.enc (false, 0)) := dcall2 (A := Enc.sigd) (B := Enc.str) (C := Enc.boolErr) rfl aw7
  have g10 : dcall T11 16 [Enc.sigd.enc sums, Enc.str.enc pgmS, Enc.str.enc intS] = some (Enc.boolErr.enc (true, 0)) := dcall3 (A := Enc.sigd) (B := Enc.str) (C := Enc.str) (D := Enc.boolErr) rfl aw8
  have g11 : dcall T11 32 [Enc.sigd.enc sums, Enc.str.enc expS, Enc.str.enc fooS] = some (Enc.sigErr.enc (sums2, 0)) := dcall3 (A := Enc.sigd) (B := Enc.str) (C := Enc.str) (D := Enc.sigErr) rfl aw9
  have g12 : dcall T11 12 [Enc.sigd.enc sums] = some (Enc.bool.enc true) := dcall1 (A := Enc.sigd) (B := Enc.bool) rfl aw4
  have g13 : dcall T11 36 [.lit (.string ⟨#[105, 115, 118, 97, 108, 117, 101]⟩)] = some (.lit (.bool true)) := by kernel_rfl
  have g14 : dcall T11 36 [.lit (.string ⟨#[112, 108, 117, 115]⟩)] = some (.lit (.bool false)) := by kernel_rfl
  have g15 : dcall T11 38 [.lit (.string ⟨#[97, 95, 49]⟩)] = some (.lit (.bool true)) := by kernel_rfl
  have g16 : dcall T11 38 [.lit (.string ⟨#[49, 97]⟩)] = some (.lit (.bool false)) := by kernel_rfl
  have setO' := setO
  have set5' := set5
  have setS : setAt zsig 0 (EncR.sigd.enc sums) = EncR.sigd.enc sums := rfl
  have setS2 : setAt zsig 0 (EncR.sigd.enc sums2) = EncR.sigd.enc sums2 := rfl
  simp only [noOpD, zsig] at setO' setS setS2
  have hs : Enc.strs.enc sums2.sorts = .slice 1 .none [[.lit (.string ⟨#[70, 111, 111]⟩)], [.lit (.string ⟨#[80, 103, 109]⟩)]] := rfl
  simp only [Enc.sigd, Enc.agg, Enc.str, Enc.boolErr, Enc.strsErr, Enc.opErr, Enc.sigErr, Enc.opd, Enc.tup, arg2, EncR.and, EncR.one, Enc.bool, Enc.i64, Enc.int, strsC, List.map_cons, List.map_nil, intS, expS, pgmS, anyT, nopeS, fooS, plusS] at g2 g3 g4 g5 g6 g7 g8 g9 g10 g11 g12
  have hlen2 : (sums2.sorts.length : Int) = 2 := rfl
  have hmap2 : (sums2.sorts.map fun s => [DV.lit (.string s)]) = [[.lit (.string ⟨#[70, 111, 111]⟩)], [.lit (.string ⟨#[80, 103, 109]⟩)]] := rfl
  have hprec : plusO.prec = 5 := rfl
  have tT := t11
  generalize T11 = T at *
  refine Dwp.step tT rfl fun K hK => ?_
  simp [dcall, tabOf, setAt]
  refine hK _ _ ?_ rfl; clear hK K
  refine Dwp.step tT rfl fun K hK => ?_
  simp [g1, ty26, setS]
  refine hK _ _ ?_ rfl; clear hK K
  refine Dwp.step tT rfl fun K hK => ?_
  simp [ty26, g2]
  refine hK _ _ ?_ rfl; clear hK K
  refine Dwp.step tT rfl fun K hK => ?_
  simp [ty26, g3]
  refine hK _ _ ?_ rfl; clear hK K
  refine Dwp.step tT rfl fun K hK => ?_
  simp [ty26, g5]
  refine hK _ _ ?_ rfl; clear hK K
  refine Dwp.step tT rfl fun K hK => ?_
  simp [ty26, g6]
  refine hK _ _ ?_ rfl; clear hK K
  refine Dwp.step tT rfl fun K hK => ?_
  simp [ty26, ty38, g7, setO']
  refine hK _ _ ?_ rfl; clear hK K
  refine Dwp.step tT rfl fun K hK => ?_
  simp [ty26, ty38, g8, setO']
  refine hK _ _ ?_ rfl; clear hK K
  refine Dwp.step tT rfl fun K hK => ?_
  simp [ty26, g9]
  refine hK _ _ ?_ rfl; clear hK K
  refine Dwp.step tT rfl fun K hK => ?_
  simp [ty26, g10]
  refine hK _ _ ?_ rfl; clear hK K
  refine Dwp.step tT rfl fun K hK => ?_
  simp [ty26, g11, setS2]
  refine hK _ _ ?_ rfl; clear hK K
  refine Dwp.step tT rfl fun K hK => ?_
  simp [ty26, g4]
  refine hK _ _ ?_ rfl; clear hK K
  refine Dwp.seq ?_
  refine Dwp.step tT rfl fun K hK => ?_
  simp [ty26, ty22, strsC, hs, hlen2]
  refine hK _ _ ?_ rfl; clear hK K
  refine Dwp.condF (by simp [eval, upd]) (Dwp.skip ?_)
  refine Dwp.step tT rfl fun K hK => ?_
  simp [ty26, ty22, ty9, ty38, ty3, strsC, hlen2, hmap2, hprec, g12, g13, g14, g15, g16]
  refine hK _ _ (Dwp.ret ?_) rfl
  simp [Done, dresults, dres, frz, frz1, frz2, upd, Enc.bool]
theorem e11 : Go.FA.Good Tryz.prog (11, s11) := ⟨c11, Tryz.f11, _, Tryz.func11, rfl, by decide⟩
end Go.Proofs.Yt
namespace Go.Proofs.Yt
open Go Go.FA Go.Proofs
set_option linter.unusedVariables false
set_option linter.unusedSimpArgs false
set_option maxRecDepth 100000

theorem SigD.ok.lens {s : SigD} (h : s.ok) : lens s := by
  obtain ⟨h1, h2, h3, h4, h5⟩ := h
  refine ⟨by unfold lim; omega, by unfold lim; omega, by unfold lim; omega, by unfold lim; omega, by unfold lim; omega, fun o ho => ?_⟩
  obtain ⟨a, b, c, d⟩ := h5 o (by simpa using ho)
  unfold lim; omega
theorem call10 (T : Tab) (hT : T 10 = some s10) {s : SigD} (h : s.ok) : dcall T 10 [.agg (EncR.sigd.enc s)] = some (.lit (.bool (few s))) := by
  have := dcall1 (T := T) (A := Enc.sigd) (B := Enc.bool) hT (if_pos h.lens)
  simpa [Enc.sigd, Enc.agg, Enc.bool] using this
theorem call11 (T : Tab) (hT : T 11 = some s11) : dcall T 11 [] = some (.lit (.bool true)) := by
  simp [dcall, hT, s11, sp, EncR.unit, Enc.bool]
theorem call12 (T : Tab) (hT : T 12 = some s12) {s : SigD} (h : s.ok) : dcall T 12 [.agg (EncR.sigd.enc s)] = some (.lit (.bool s.vld)) := by
  have := dcall1 (T := T) (A := Enc.sigd) (B := Enc.bool) hT (validF_some s h)
  simpa [Enc.sigd, Enc.agg, Enc.bool] using this
theorem call40 (T : Tab) (hT : T 40 = some s40) {s : SigD} (h : s.ok) (x y : ByteArray) : dcall T 40 [.agg (EncR.sigd.enc s), .lit (.string x), .lit (.string y)] = some (.lit (.bool (s.at x y))) := by
  obtain ⟨r, hr, _⟩ := atMostF_some s h x y
  have h2 : (atMostF s x y).map (fun r => r.1 && decide (r.2 = 0)) = some (s.at x y) := by
    unfold SigD.at; rw [hr]; rfl
  have := dcall3 (T := T) (A := Enc.sigd) (B := Enc.str) (C := Enc.str) (D := Enc.bool) hT h2
  simpa [Enc.sigd, Enc.agg, Enc.bool, Enc.str] using this

open Classical in
noncomputable def s7 : Sp := sp (arg1 Enc.sigd) Enc.bool (fun s => if s.ok then some true else none)
abbrev T7 : Tab := tabOf [(10, s10), (11, s11), (12, s12), (40, s40)]
theorem t7 : TabOk Tryz.prog T7 := .cons e10 (.cons e11 (.cons e12 (.cons e40 .nil)))
abbrev rows1 (l : List ByteArray) : List (List DV) := l.map fun x => [DV.lit (.string x)]
def inv7a (s : SigD) (l : List ByteArray) : Nat → (Nat → DV) → St → Prop := fun k a σ => ∃ i tag, i ≤ l.length ∧ k = l.length - i ∧
  a 1 = .row (EncR.sigd.enc s) 0 ∧ a 3 = .slice 1 tag (rows1 l) ∧ a 29 = .slice 1 tag (rows1 l) ∧ a 30 = .lit (.int .i64 l.length) ∧ a 31 = .lit (.int .i64 i)
def inv7b (s : SigD) (l : List ByteArray) (i : Nat) (x : ByteArray) : Nat → (Nat → DV) → St → Prop := fun k a σ => ∃ j tag, j ≤ l.length ∧ k = l.length - j ∧
  a 1 = .row (EncR.sigd.enc s) 0 ∧ a 3 = .slice 1 tag (rows1 l) ∧ a 29 = .slice 1 tag (rows1 l) ∧ a 30 = .lit (.int .i64 l.length) ∧ a 31 = .lit (.int .i64 i) ∧
  a 5 = .lit (.string x) ∧ a 46 = .slice 1 tag (rows1 l) ∧ a 47 = .lit (.int .i64 l.length) ∧ a 48 = .lit (.int .i64 j)
def inv7c (s : SigD) (l : List ByteArray) (i : Nat) (x : ByteArray) (j : Nat) (y : ByteArray) : Nat → (Nat → DV) → St → Prop := fun k a σ => ∃ n tag, n ≤ l.length ∧ k = l.length - n ∧
  a 1 = .row (EncR.sigd.enc s) 0 ∧ a 3 = .slice 1 tag (rows1 l) ∧ a 29 = .slice 1 tag (rows1 l) ∧ a 30 = .lit (.int .i64 l.length) ∧ a 31 = .lit (.int .i64 i) ∧
  a 5 = .lit (.string x) ∧ a 46 = .slice 1 tag (rows1 l) ∧ a 47 = .lit (.int .i64 l.length) ∧ a 48 = .lit (.int .i64 j) ∧
  a 7 = .lit (.string y) ∧ a 67 = .slice 1 tag (rows1 l) ∧ a 68 = .lit (.int .i64 l.length) ∧ a 69 = .lit (.int .i64 n)
theorem wrap1 (i : Nat) (h : i ≤ 16777216) : IntKind.i64.wrap ((i : Int) + 1) = (i : Int) + 1 := wrap_small (n := (i : Int) + 1) (by omega) (by omega)
attribute [local simp] drunL drunO dwanted dopS own plainOf dop dput eval ofVal Then Ex.then Ex.inBlock upd dbin Tag.isNN nilTest intCmp dload dpart TyI.agg dfieldAddr dfield dindexAddr dindex dlen lenOk dlookup mapOf keyFits dmapUpdate dcallee dbuiltin dstore DV.cells dslice dboundOk dappend appTag rowsOf elemOk growLimit dbuildCells dbuildCells.go structOk fieldsOk dbuildRows goInt
theorem c7 : CallSound Tryz.prog 7 s7 := by
  refine CallSound.of_sp (T := T7) Tryz.func7 rfl (Nat.le_of_ble_eq_true rfl) fun E s y hy => ?_
  split at hy
  case isFalse => cases hy
  next hok =>
  cases hy
  have g10 := call10 T7 rfl hok
  have g11 := call11 T7 rfl
  have g12 := call12 T7 rfl hok
  have g40 := call40 T7 rfl hok
  have tT := t7
  generalize T7 = T at *
  have z1 := hok.1
  refine Dwp.step tT rfl fun K hK => ?_
  simp [init, arg1, EncR.one, Enc.sigd, Enc.agg]
  refine hK _ _ ?_ rfl; clear hK K
  refine Dwp.seq ?_
  refine Dwp.step tT rfl fun K hK => ?_
  have fin : ∀ (a : Nat → DV) (σ : St), a 2 = .lit (.bool true) → Done Tryz.prog Tryz.f7.results Enc.bool true Ex.ret a σ := by
    intro a σ h2
    refine ⟨.inr rfl, .lit (.bool true), ?_, rfl⟩
    show dresults Tryz.prog σ a [ResultVar.tmp 2] = _
    simp [dresults, dres, h2]
  by_cases hf : few s = true
  case neg =>
    have hf' : few s = false := by simpa using hf
    simp [ty26, ty22, g10, hf']
    refine hK _ _ ?_ rfl; clear hK K
    refine Dwp.condT (by simp [eval, upd]) ?_
    refine Dwp.step tT rfl fun K hK => ?_
    simp [g11]
    refine hK _ _ (Dwp.ret ?_) rfl
    exact fin _ _ (by simp [upd])
  by_cases h6 : s.sorts.length ≤ 6
  case neg =>
    have h6' : (6 : Int) < (s.sorts.length : Int) := by omega
    simp [ty26, ty22, strsC, g10, hf, h6']
    refine hK _ _ ?_ rfl; clear hK K
    refine Dwp.condT (by simp [eval, upd]) ?_
    refine Dwp.step tT rfl fun K hK => ?_
    simp [g11]
    refine hK _ _ (Dwp.ret ?_) rfl
    exact fin _ _ (by simp [upd])
  have h6' : ¬ (6 : Int) < (s.sorts.length : Int) := by omega
  by_cases hv : s.vld = true
  case neg =>
    have hv' : s.vld = false := by simpa using hv
    simp [ty26, ty22, strsC, g10, hf, h6', g12, hv']
    refine hK _ _ ?_ rfl; clear hK K
    refine Dwp.condT (by simp [eval, upd]) ?_
    refine Dwp.step tT rfl fun K hK => ?_
    simp [g11]
    refine hK _ _ (Dwp.ret ?_) rfl
    exact fin _ _ (by simp [upd])
  simp [ty26, ty22, strsC, g10, hf, h6', g12, hv]
  refine hK _ _ ?_ rfl; clear hK K
  refine Dwp.condF (by simp [eval, upd]) (Dwp.skip ?_)
  refine Dwp.step tT rfl fun K hK => ?_
  have hgrow : 2 + s.sorts.length ≤ 16777216 := by omega
  simp [ty26, ty22, ty9, strsC, hgrow]
  refine hK _ _ ?_ rfl; clear hK K
  obtain ⟨l, hl⟩ : ∃ l, l = anyS :: intS :: s.sorts := ⟨_, rfl⟩
  have hrow : ([DV.lit (.string ⟨#[65, 110, 121]⟩)] :: [DV.lit (.string ⟨#[73, 110, 116]⟩)] :: s.sorts.map fun x => [DV.lit (.string x)]) = rows1 l := by rw [hl]; rfl
  rw [hrow]
  have hll : l.length ≤ 8 := by rw [hl]; simp; omega
  have hin : ∀ x ∈ l, x ∈ s.all := by
    intro x hx; rw [hl] at hx; unfold SigD.all
    rcases List.mem_cons.1 hx with rfl | hx
    · exact List.mem_append_left _ (by decide)
    rcases List.mem_cons.1 hx with rfl | hx
    · exact List.mem_append_left _ (by decide)
    · exact List.mem_append_right _ hx
  clear hrow hl hgrow h6 h6' g10 g12 hf z1
  refine Dwp.seq ?_
  refine Dwp.step tT rfl fun K hK => ?_
  simp [ty22]
  refine hK _ _ ?_ rfl; clear hK K
  refine Dwp.block (Dwp.loop (inv7a s l) l.length ⟨0, _, by simp, by simp, by simp [upd], by simp [upd]; rfl, by simp [upd], by simp [upd], by simp [upd]⟩ ?_)
  rintro k a σ ⟨i, tag, hi, rfl, h1, h3, h29, h30, h31⟩
  refine Dwp.step tT rfl fun K hK => ?_
  simp [h30, h31]
  refine hK _ _ ?_ rfl; clear hK K
  by_cases hlt : i < l.length
  case neg =>
    refine Dwp.seq (Dwp.condF (by simp [eval, upd, hlt]) (Dwp.exit ?_))
    simp only [Ex.then, Ex.inBlock, if_true]
    refine Dwp.step tT rfl fun K hK => ?_
    simp [g11]
    refine hK _ _ (Dwp.ret ?_) rfl
    exact fin _ _ (by simp [upd])
  refine Dwp.seq (Dwp.condT (by simp [eval, upd, hlt]) (Dwp.skip ?_))
  refine Dwp.seq (Dwp.block ?_)
  refine Dwp.step tT rfl fun K hK => ?_
  simp [h29, h31, ty22, ty9, hlt]
  refine hK _ _ ?_ rfl; clear hK K
  obtain ⟨x, hx⟩ : ∃ x, x = l[i] := ⟨_, rfl⟩
  have hxi : x ∈ s.all := hin x (by rw [hx]; exact List.getElem_mem hlt)
  rw [← hx]
  refine Dwp.seq ?_
  refine Dwp.step tT rfl fun K hK => ?_
  have g1 := at_refl hok hv hxi
  have g2 := at_any hok hv hxi
  simp only [anyS] at g2
  simp [h1, ty26, g40, g1, g2]
  refine hK _ _ ?_ rfl; clear hK K
  refine Dwp.condF (by simp [eval, upd]) (Dwp.skip ?_)
  refine Dwp.step tT rfl fun K hK => ?_
  simp [h3, ty22]
  refine hK _ _ ?_ rfl; clear hK K
  refine Dwp.block (Dwp.loop (inv7b s l i x) l.length ⟨0, tag, by simp, by simp, by simp [upd, h1], by simp [upd, h3], by simp [upd, h29], by simp [upd, h30], by simp [upd, h31], by simp [upd], by simp [upd], by simp [upd], by simp [upd]⟩ ?_)
  clear h1 h3 h29 h30 h31 hi tag
  rintro k a σ ⟨j, tag, hj, rfl, h1, h3, h29, h30, h31, h5, h46, h47, h48⟩
  refine Dwp.step tT rfl fun K hK => ?_
  simp [h47, h48]
  refine hK _ _ ?_ rfl; clear hK K
  by_cases hjlt : j < l.length
  case neg =>
    refine Dwp.seq (Dwp.condF (by simp [eval, upd, hjlt]) (Dwp.exit ?_))
    simp only [Ex.then, Ex.inBlock, if_true]
    refine Dwp.reg tT rfl fun K hK => ?_
    simp [h31]
    refine hK _ _ ?_ rfl; clear hK K
    exact ⟨l.length - (i + 1), by omega, i + 1, tag, by omega, rfl, by simp [upd, h1], by simp [upd, h3], by simp [upd, h29], by simp [upd, h30], by simp [upd, wrap1 i (by omega)]⟩
  refine Dwp.seq (Dwp.condT (by simp [eval, upd, hjlt]) (Dwp.skip ?_))
  refine Dwp.seq (Dwp.block ?_)
  refine Dwp.step tT rfl fun K hK => ?_
  simp [h46, h48, ty22, ty9, hjlt]
  refine hK _ _ ?_ rfl; clear hK K
  obtain ⟨y, hy⟩ : ∃ y, y = l[j] := ⟨_, rfl⟩
  have hyi : y ∈ s.all := hin y (by rw [hy]; exact List.getElem_mem hjlt)
  rw [← hy]
  refine Dwp.seq ?_
  refine Dwp.step tT rfl fun K hK => ?_
  have g3 : x ≠ y → s.at x y = true → s.at y x = false := fun hne h2 => by
    cases h3 : s.at y x with
    | false => rfl
    | true => exact absurd (at_anti hok h2 h3) hne
  have rest : ∀ a' σ', (a' 66 = .lit (.bool false) ∧ a' 1 = .row (EncR.sigd.enc s) 0 ∧ a' 3 = .slice 1 tag (rows1 l) ∧ a' 29 = .slice 1 tag (rows1 l) ∧ a' 30 = .lit (.int .i64 l.length) ∧ a' 31 = .lit (.int .i64 i) ∧
      a' 5 = .lit (.string x) ∧ a' 46 = .slice 1 tag (rows1 l) ∧ a' 47 = .lit (.int .i64 l.length) ∧ a' 48 = .lit (.int .i64 j) ∧ a' 7 = .lit (.string y)) → σ'.n = σ.n + 1 + 3 → K a' σ' := by
    rintro a' σ' ⟨h66, h1, h3, h29, h30, h31, h5, h46, h47, h48, h7⟩ hn
    refine hK _ _ ?_ hn
    clear hK K
    refine Dwp.condF (by simp [eval, h66]) (Dwp.skip ?_)
    refine Dwp.step tT rfl fun K hK => ?_
    simp [h3, ty22]
    refine hK _ _ ?_ rfl; clear hK K
    refine Dwp.block (Dwp.loop (inv7c s l i x j y) l.length ⟨0, tag, by simp, by simp, by simp [upd, h1], by simp [upd, h3], by simp [upd, h29], by simp [upd, h30], by simp [upd, h31], by simp [upd, h5], by simp [upd, h46], by simp [upd, h47], by simp [upd, h48], by simp [upd, h7], by simp [upd], by simp [upd], by simp [upd]⟩ ?_)
    clear h1 h3 h29 h30 h31 h5 h46 h47 h48 h7 h66 hn
    rintro k a σ ⟨n, tag, hn, rfl, h1, h3, h29, h30, h31, h5, h46, h47, h48, h7, h67, h68, h69⟩
    refine Dwp.step tT rfl fun K hK => ?_
    simp [h68, h69]
    refine hK _ _ ?_ rfl; clear hK K
    by_cases hnlt : n < l.length
    case neg =>
      refine Dwp.seq (Dwp.condF (by simp [eval, upd, hnlt]) (Dwp.exit ?_))
      simp only [Ex.then, Ex.inBlock, if_true]
      refine Dwp.reg tT rfl fun K hK => ?_
      simp [h48]
      refine hK _ _ ?_ rfl; clear hK K
      exact ⟨l.length - (j + 1), by omega, j + 1, tag, by omega, rfl, by simp [upd, h1], by simp [upd, h3], by simp [upd, h29], by simp [upd, h30], by simp [upd, h31], by simp [upd, h5], by simp [upd, h46], by simp [upd, h47], by simp [upd, wrap1 j (by omega)]⟩
    refine Dwp.seq (Dwp.condT (by simp [eval, upd, hnlt]) (Dwp.skip ?_))
    refine Dwp.seq (Dwp.block ?_)
    refine Dwp.step tT rfl fun K hK => ?_
    simp [h67, h69, ty22, ty9, hnlt]
    refine hK _ _ ?_ rfl; clear hK K
    obtain ⟨z, hz⟩ : ∃ z, z = l[n] := ⟨_, rfl⟩
    rw [← hz]
    refine Dwp.step tT rfl fun K hK => ?_
    have g4 : s.at x y = true → s.at y z = true → s.at x z = true := fun h2 h3 => at_trans hok h2 h3
    have rest : ∀ a' σ', (a' 89 = .lit (.bool false) ∧ a' 1 = .row (EncR.sigd.enc s) 0 ∧ a' 3 = .slice 1 tag (rows1 l) ∧ a' 29 = .slice 1 tag (rows1 l) ∧ a' 30 = .lit (.int .i64 l.length) ∧ a' 31 = .lit (.int .i64 i) ∧
        a' 5 = .lit (.string x) ∧ a' 46 = .slice 1 tag (rows1 l) ∧ a' 47 = .lit (.int .i64 l.length) ∧ a' 48 = .lit (.int .i64 j) ∧ a' 7 = .lit (.string y) ∧
        a' 67 = .slice 1 tag (rows1 l) ∧ a' 68 = .lit (.int .i64 l.length) ∧ a' 69 = .lit (.int .i64 n)) → σ'.n = σ.n + 1 + 3 → K a' σ' := by
      rintro a' σ' ⟨h89, h1, h3, h29, h30, h31, h5, h46, h47, h48, h7, h67, h68, h69⟩ hn
      refine hK _ _ ?_ hn
      clear hK K
      refine Dwp.condF (by simp [eval, h89]) (Dwp.skip ?_)
      refine Dwp.reg tT rfl fun K hK => ?_
      simp [h69]
      refine hK _ _ ?_ rfl; clear hK K
      exact ⟨l.length - (n + 1), by omega, n + 1, tag, by omega, rfl, by simp [upd, h1], by simp [upd, h3], by simp [upd, h29], by simp [upd, h30], by simp [upd, h31], by simp [upd, h5], by simp [upd, h46], by simp [upd, h47], by simp [upd, h48], by simp [upd, h7], by simp [upd, h67], by simp [upd, h68], by simp [upd, wrap1 n (by omega)]⟩
    by_cases q1 : s.at x y = true
    · by_cases q2 : s.at y z = true
      · simp [h1, h5, h7, ty26, ty9, g40, q1, q2, g4 q1 q2]
        exact rest _ _ (by simp [upd, h1, h3, h29, h30, h31, h5, h46, h47, h48, h7, h67, h68, h69]) rfl
      · have q2' : s.at y z = false := by simpa using q2
        simp [h1, h5, h7, ty26, ty9, g40, q1, q2']
        exact rest _ _ (by simp [upd, h1, h3, h29, h30, h31, h5, h46, h47, h48, h7, h67, h68, h69]) rfl
    · have q1' : s.at x y = false := by simpa using q1
      simp [h1, h5, h7, ty26, ty9, g40, q1']
      exact rest _ _ (by simp [upd, h1, h3, h29, h30, h31, h5, h46, h47, h48, h7, h67, h68, h69]) rfl
  by_cases hxy : x = y
  · simp [h1, h5, ty26, ty9, hxy]
    exact rest _ _ (by simp [upd, h1, h3, h29, h30, h31, h5, h46, h47, h48, hxy]) rfl
  · by_cases q1 : s.at x y = true
    · simp [h1, h5, ty26, ty9, hxy, g40, q1, g3 hxy q1]
      exact rest _ _ (by simp [upd, h1, h3, h29, h30, h31, h5, h46, h47, h48]) rfl
    · have q1' : s.at x y = false := by simpa using q1
      simp [h1, h5, ty26, ty9, hxy, g40, q1']
      exact rest _ _ (by simp [upd, h1, h3, h29, h30, h31, h5, h46, h47, h48]) rfl
theorem e7 : Go.FA.Good Tryz.prog (7, s7) := ⟨c7, Tryz.f7, _, Tryz.func7, rfl, by decide⟩
end Go.Proofs.Yt
namespace Go.Proofs.Yt
open Go Go.FA Go.Proofs Go.RowKit Go.ChangeShapes
set_option linter.unusedVariables false
set_option linter.unusedSimpArgs false
set_option maxRecDepth 100000

theorem under_of_ty {P : Program} {t : TypeId} {i : TyI} (h : tyOf P t = some i) : P.underlying t = some i.desc := by
  unfold tyOf at h
  split at h
  · next d j h1 h2 => split at h
                      · simp at h; subst h; exact h1
                      · simp at h
  · simp at h
theorem cells_of_ty {P : Program} {t : TypeId} {i : TyI} (h : tyOf P t = some i) : P.cellsOf t = i.size := by
  unfold tyOf at h
  split at h
  · next d j h1 h2 => split at h
                      · simp at h; subst h; simp [Program.cellsOf, h2]
                      · simp at h
  · simp at h

open YtboifamdcpelfaaGreat in
def blk (H : Type) : Bulk H where
  b := Rows.uptoBulk
  ba := Rows.uptoBulkAll
  str l := by simp [Rows.uptoBulk]
  one d := by cases d with
    | lit l => cases l <;> simp [Rows.uptoBulk]
    | nil => simp [Rows.uptoBulk]
    | ptr d => simp [Rows.uptoBulk]
    | slice elems spare => simp [Rows.uptoBulk]
    | agg parts => simp [Rows.uptoBulk]
    | iface t d => simp [Rows.uptoBulk]
    | map entries => simp [Rows.uptoBulk]
    | held h => simp [Rows.uptoBulk]
  agg l := by simp [Rows.uptoBulk]
  slice l r := by simp only [Rows.uptoBulk]; omega
  cons d l := by simp [Rows.uptoBulkAll]

theorem _root_.Go.FA.Rd.to {H : Type} {K : Bulk H} {enc : TypeId × Value → H} {P : Program} {W : World} {α β : Type} {t : TypeId} {A : EncR α} {B : EncR β} {sz : α → Nat} {sz' : β → Nat} (h : Rd K enc P W t A sz) (g : α → β)
    (he : ∀ y, B.enc (g y) = A.enc y) (hs : ∀ y, sz' (g y) ≤ sz y) : Rd K enc P W t B sz' := by
  intro fuel cs x hx
  obtain ⟨y, q1, q2, q3⟩ := h fuel cs x hx
  exact ⟨g y, by rw [he]; exact q1, q2, Nat.le_trans (hs y) q3⟩

def szS (s : ByteArray) : Nat := s.size + 1
def szL {α : Type} (sz : α → Nat) (l : List α) : Nat := (l.map sz).sum + 1
def szBel (b : Bel) : Nat := szS b.low + szS b.high + 1
def szPie (b : Pie) : Nat := szS b.text + szS b.sort + 1
def szOp (o : OpD) : Nat := szS o.name + szL szS o.args + szL szPie o.pieces + szL (fun _ => 1) o.strict
def szSig (s : SigD) : Nat := szL szS s.sorts + szL szBel s.below + szL szOp s.ops + szL szOp s.funs + szL szS s.values

section
variable {H : Type} {enc : TypeId × Value → H} {W : World}
theorem rdStr : Rd (blk H) enc Tryz.prog W 9 (EncR.one Enc.str) szS := Rd.str (under_of_ty ty9)
theorem rdInt : Rd (blk H) enc Tryz.prog W 3 (EncR.one Enc.i64) (fun _ => 1) := Rd.int (under_of_ty ty3)
theorem rdInt35 : Rd (blk H) enc Tryz.prog W 35 (EncR.one Enc.i64) (fun _ => 1) := Rd.int (under_of_ty ty35)
theorem rdStrs : Rd (blk H) enc Tryz.prog W 22 (EncR.one Enc.strs) (szL szS) := Rd.slice (under_of_ty ty22) rdStr (by rw [cells_of_ty ty9]; rfl) (by decide)
theorem rdInts : Rd (blk H) enc Tryz.prog W 36 (EncR.one Enc.ints) (szL fun _ => 1) := Rd.slice (under_of_ty ty36) rdInt (by rw [cells_of_ty ty3]; rfl) (by decide)
theorem rdBel : Rd (blk H) enc Tryz.prog W 78 EncR.bel szBel :=
  (Rd.struct (A := (EncR.one Enc.str).and (EncR.one Enc.str)) (under_of_ty ty78) (by rw [cells_of_ty ty78]; rfl)
    (.cons rdStr (by rw [cells_of_ty ty9]; rfl) rfl (.one rdStr (by rw [cells_of_ty ty9]; rfl) rfl))).to (fun x => ⟨x.1, x.2⟩) (fun _ => rfl) (fun _ => Nat.le_refl _)
theorem rdPie : Rd (blk H) enc Tryz.prog W 69 EncR.pie szPie :=
  (Rd.struct (A := (EncR.one Enc.str).and (EncR.one Enc.str)) (under_of_ty ty69) (by rw [cells_of_ty ty69]; rfl)
    (.cons rdStr (by rw [cells_of_ty ty9]; rfl) rfl (.one rdStr (by rw [cells_of_ty ty9]; rfl) rfl))).to (fun x => ⟨x.1, x.2⟩) (fun _ => rfl) (fun _ => Nat.le_refl _)
theorem rdPies : Rd (blk H) enc Tryz.prog W 34 (EncR.one Enc.pies) (szL szPie) := Rd.slice (under_of_ty ty34) rdPie (by rw [cells_of_ty ty69]; rfl) (by decide)
theorem rdBels : Rd (blk H) enc Tryz.prog W 23 (EncR.one Enc.bels) (szL szBel) := Rd.slice (under_of_ty ty23) rdBel (by rw [cells_of_ty ty78]; rfl) (by decide)
theorem rdOp : Rd (blk H) enc Tryz.prog W 38 EncR.opd szOp :=
  (Rd.struct (A := (EncR.one Enc.str).and ((EncR.one Enc.strs).and ((EncR.one Enc.str).and ((EncR.one Enc.pies).and ((EncR.one Enc.i64).and ((EncR.one Enc.i64).and (EncR.one Enc.ints))))))) (under_of_ty ty38) (by rw [cells_of_ty ty38]; rfl)
    (.cons rdStr (by rw [cells_of_ty ty9]; rfl) rfl (.cons rdStrs (by rw [cells_of_ty ty22]; rfl) rfl (.cons rdStr (by rw [cells_of_ty ty9]; rfl) rfl (.cons rdPies (by rw [cells_of_ty ty34]; rfl) rfl
      (.cons rdInt (by rw [cells_of_ty ty3]; rfl) rfl (.cons rdInt35 (by rw [cells_of_ty ty35]; rfl) rfl (.one rdInts (by rw [cells_of_ty ty36]; rfl) rfl)))))))).to
    (fun x => ⟨x.1, x.2.1, x.2.2.1, x.2.2.2.1, x.2.2.2.2.1, x.2.2.2.2.2.1, x.2.2.2.2.2.2⟩) (fun _ => rfl) (fun y => by simp only [szOp]; omega)
theorem rdOps : Rd (blk H) enc Tryz.prog W 24 (EncR.one Enc.ops) (szL szOp) := Rd.slice (under_of_ty ty24) rdOp (by rw [cells_of_ty ty38]; rfl) (by decide)
theorem rdSig : Rd (blk H) enc Tryz.prog W 26 EncR.sigd szSig :=
  (Rd.struct (A := (EncR.one Enc.strs).and ((EncR.one Enc.bels).and ((EncR.one Enc.ops).and ((EncR.one Enc.ops).and (EncR.one Enc.strs))))) (under_of_ty ty26) (by rw [cells_of_ty ty26]; rfl)
    (.cons rdStrs (by rw [cells_of_ty ty22]; rfl) rfl (.cons rdBels (by rw [cells_of_ty ty23]; rfl) rfl (.cons rdOps (by rw [cells_of_ty ty24]; rfl) rfl (.cons rdOps (by rw [cells_of_ty ty24]; rfl) rfl (.one rdStrs (by rw [cells_of_ty ty22]; rfl) rfl)))))).to
    (fun x => ⟨x.1, x.2.1, x.2.2.1, x.2.2.2.1, x.2.2.2.2⟩) (fun _ => rfl) (fun y => by simp only [szSig]; omega)
end
theorem len_le {α : Type} {sz : α → Nat} (h : ∀ x, 1 ≤ sz x) : ∀ l : List α, l.length ≤ (l.map sz).sum
  | [] => by simp
  | x :: l => by have := len_le h l; have := h x; simp; omega
theorem mem_le {α : Type} {sz : α → Nat} {x : α} : ∀ {l : List α}, x ∈ l → sz x ≤ (l.map sz).sum
  | y :: l, h => by
    rcases List.mem_cons.1 h with rfl | h
    · simp
    · have := mem_le (sz := sz) h; simp; omega
theorem sig_ok {s : SigD} (h : szSig s ≤ 1048576) : s.ok := by
  have h1 := len_le (sz := szS) (fun x => by unfold szS; omega) s.sorts
  have h2 := len_le (sz := szBel) (fun x => by unfold szBel; omega) s.below
  have h3 := len_le (sz := szOp) (fun x => by unfold szOp szS; omega) s.ops
  have h4 := len_le (sz := szOp) (fun x => by unfold szOp szS; omega) s.funs
  have h5 := len_le (sz := szS) (fun x => by unfold szS; omega) s.values
  unfold szSig at h
  simp only [szL] at h
  refine ⟨by omega, by omega, by omega, by omega, fun o ho => ?_⟩
  have : szOp o ≤ 1048576 := by
    rcases ho with ho | ho
    · have := mem_le (sz := szOp) ho; omega
    · have := mem_le (sz := szOp) ho; omega
  have k1 := len_le (sz := szS) (fun x => by unfold szS; omega) o.args
  have k2 := len_le (sz := szPie) (fun x => by unfold szPie; omega) o.pieces
  have k3 := len_le (sz := fun _ : Int => 1) (fun x => by omega) o.strict
  unfold szOp at this
  simp only [szL, szS] at this k1
  omega
theorem own_ : ownKnob Tryz.prog.godebug = none := by kernel_rfl
theorem laidOut_ : laidOutB Tryz.prog = true := by kernel_rfl
end Go.Proofs.Yt
namespace Go.FA
open Go.RowKit Go.ChangeShapes
set_option linter.unusedVariables false
set_option linter.unusedSimpArgs false

section
variable {H : Type} (K : Bulk H) (enc : TypeId × Value → H) (P : Program) (W : World)
/-- an argument of a type is data -/
def ARd1 {α : Type} (t : TypeId) (A : Enc α) (sz : α → Nat) : Prop :=
  ∀ (base : Nat) (v : Value) (d : DataW H) (ps : List MemPlace), Value.okWide P W .any base t v → DataW.Trod enc P W 0 (fun _ => true) true t v d ps → ∃ y, VRel (ctxOf W) W (A.enc y) v ∧ sz y ≤ K.b d
/-- a call's arguments are data -/
def ARd {α : Type} (ts : List TypeId) (A : EncR α) (sz : α → Nat) : Prop :=
  ∀ (base : Nat) (args : List Value) (ds : List (DataW H)) (ps : List MemPlace), (∀ (j : Nat) t v, ts[j]? = some t → args[j]? = some v → Value.okWide P W .any base t v) →
    DataW.TrodAll enc P W 0 (fun _ => true) true ts args ds ps → ∃ y, LRel (ctxOf W) W (A.enc y) args ∧ sz y ≤ K.ba ds
variable {K enc P W}
theorem ARd1.cell {α : Type} {t : TypeId} {A : Enc α} {sz : α → Nat} (h : Rd K enc P W t (EncR.one A) sz) (hna : ∀ base cs, ¬ Value.okWide P W .any base t (.agg cs)) : ARd1 K enc P W t A sz := by
  intro base v d ps hok hd
  obtain ⟨fuel, hf⟩ := hd
  obtain ⟨y, q1, _, q3⟩ := h fuel _ _ hf
  refine ⟨y, ?_, q3⟩
  have hc : v.cells = #[v] := by
    unfold Value.cells
    split
    · exact absurd hok (hna _ _)
    · rfl
  rw [hc] at q1
  simp only [EncR.one, LRel] at q1
  exact q1.1
theorem ARd1.agg {α : Type} {t : TypeId} {fs : Array Field} {A : EncR α} {sz : α → Nat} (ht : P.underlying t = some (.struct fs)) (h : Rd K enc P W t A sz) : ARd1 K enc P W t (Enc.agg A) sz := by
  intro base v d ps hok hd
  obtain ⟨fuel, hf⟩ := hd
  obtain ⟨y, q1, q2, q3⟩ := h fuel _ _ hf
  simp only [Value.okWide, ht] at hok
  obtain ⟨cs, rfl, _⟩ := hok
  refine ⟨y, ?_, q3⟩
  simp only [Enc.agg, VRel]
  exact ⟨cs.toList, by simp, by simpa [Value.cells] using q1, by simpa [Value.cells] using q2⟩
theorem ARd.one {α : Type} {t : TypeId} {A : Enc α} {sz : α → Nat} (h : ARd1 K enc P W t A sz) : ARd K enc P W [t] (EncR.one A) sz := by
  intro base args ds ps hok hd
  obtain ⟨v, vs, d, ds', p, q, rfl, rfl, rfl, h1, h2⟩ := trodAll_cons hd
  obtain ⟨rfl, rfl, rfl⟩ := trodAll_nil h2
  obtain ⟨y, q1, q2⟩ := h base v d p (hok 0 t v rfl rfl) h1
  have := K.cons d []
  exact ⟨y, by simp only [EncR.one, LRel]; exact ⟨q1, trivial⟩, by omega⟩
theorem ARd.cons {α β : Type} {t : TypeId} {ts : List TypeId} {A : Enc α} {B : EncR β} {sz : α → Nat} {sz' : β → Nat} (h : ARd1 K enc P W t A sz) (ht : ARd K enc P W ts B sz') : ARd K enc P W (t :: ts) ((EncR.one A).and B) (fun x => sz x.1 + sz' x.2) := by
  intro base args ds ps hok hd
  obtain ⟨v, vs, d, ds', p, q, rfl, rfl, rfl, h1, h2⟩ := trodAll_cons hd
  obtain ⟨y, q1, q2⟩ := h base v d p (hok 0 t v rfl rfl) h1
  obtain ⟨z, r1, r2⟩ := ht base vs ds' q (fun j t' v' a b => hok (j + 1) t' v' (by simpa using a) (by simpa using b)) h2
  have := K.cons d ds'
  exact ⟨(y, z), by simp only [EncR.and, EncR.one, List.cons_append, List.nil_append, LRel]; exact ⟨q1, r1⟩, by simp only []; omega⟩

theorem trodAll_stays (hl : laidOutB P = true) {W' : World} (hb : Below W.heap.size W W') : ∀ {ts : List TypeId} {vs : List Value} {ds : List (DataW H)} {ps : List MemPlace} {sp : Nat → Bool},
    (∀ t ∈ ts, P.readableRec t = true ∧ t < P.types.size) → DataW.TrodAll enc P W 0 (fun _ => true) true ts vs ds ps → (∀ p ∈ ps, p.block < W.heap.size) → (∀ p ∈ ps, sp p.block = true) → DataW.TrodAll enc P W' 0 sp true ts vs ds ps
  | [], _, _, _, _, _, h, _, _ => by
    obtain ⟨rfl, rfl, rfl⟩ := trodAll_nil h
    rfl
  | t :: ts, _, _, _, _, hr, h, hlt, hsp => by
    obtain ⟨v, vs, d, ds', p, q, rfl, rfl, rfl, h1, h2⟩ := trodAll_cons h
    exact ⟨p, q, WideElems.Trod_stays hl (hr t (by simp)).1 (hr t (by simp)).2 h1 (fun x hx => hb.same (hlt x (by simp [hx]))) (fun x hx => hsp x (by simp [hx])),
      trodAll_stays hl hb (fun t' ht' => hr t' (by simp [ht'])) h2 (fun x hx => hlt x (by simp [hx])) (fun x hx => hsp x (by simp [hx])), rfl⟩

/-- A LAW OUT OF A CONTRACT: the call returns true, its arguments read as before -/
theorem law_post {f : FuncId} {fn : Func} {S : Sp} {dvs : List DV} {args : Array Value} {ds gs : List (DataW H)} {before : List MemPlace} {s : ChangeSpec} {t : TypeId}
    (hl : laidOutB P = true) (hcs : CallSound P f S) (hS : S dvs = some (.lit (.bool true))) (hvars : s.vars = []) (hrd : ∀ t ∈ fn.params.toList, P.readableRec t = true ∧ t < P.types.size)
    (hfn : (s.fn H (ds ++ gs)).results = [.lit (.bool true)] ∧ (s.fn H (ds ++ gs)).args = ds ∧ (s.fn H (ds ++ gs)).vars = []) (hrt : fn.resultTypes = #[t]) (hbool : P.underlying t = some .bool)
    (hW : DataW.Whole enc P fn.params.toList s.vars false W args.toList ds gs before) (hrel : LRel (ctxOf W) W dvs args.toList) :
    Calls P f args W fun e W' => ∃ v, e = .returned v ∧ s.post enc P fn false true false false W args v W' := by
  have hlt := hW.lt
  have hW' := hW
  obtain ⟨p, q, hA, hV, rfl, hfz, hnd⟩ := hW
  rw [hvars] at hV
  obtain ⟨rfl, rfl⟩ := trodVars_none hV
  rcases hcs dvs _ hS with ⟨_, hc⟩ | ⟨k, rows, hr, _⟩
  · refine (hc (ctxOf W) W args.toList (fun b o h => h) (fun b h => h) hrel).mono fun e W' ⟨v, he, hb, hv⟩ => ?_
    subst he
    simp only [VRel] at hv
    subst hv
    have hpl : ∀ x ∈ p, x.block < W.heap.size := fun x hx => hlt x (by simp [hx])
    have hres : ∀ (b : Nat) (sp : Nat → Bool) (hd : Bool), DataW.TrodAll enc P W' b sp hd fn.resultTypes.toList ((Value.bool true).resultList fn.resultTypes.size) (s.fn H (ds ++ [])).results [] := fun b sp hd => by
      rw [hfn.1, hrt]; exact trodAll_cons_mk (shut_bool hbool _) trodAll_mk0
    have hargs : ∀ sp : Nat → Bool, (∀ x ∈ p, sp x.block = true) → DataW.TrodAll enc P W' 0 sp true fn.params.toList args.toList (s.fn H (ds ++ [])).args p := fun sp hsp => by
      rw [hfn.2.1]; exact trodAll_stays hl hb hrd hA hpl hsp
    have hvs : ∀ sp : Nat → Bool, DataW.TrodVars enc P W' sp s.vars (s.fn H (ds ++ [])).vars [] := fun sp => by rw [hfn.2.2, hvars]; rfl
    refine ⟨_, rfl, ds, [], p ++ [], [], p, [], hW', hres _ _ _, hargs _ (fun x hx => by simpa using hpl x hx), hvs _, ?_, fun _ => ⟨ok_one hrt rfl (okWide_bool_mk hbool _), (s.fn H (ds ++ [])).results ++ (s.fn H (ds ++ [])).args, _, p ++ [], ⟨p, [], ?_, hvs (fun _ => true), rfl, ?_, ?_⟩, ?_⟩⟩
    · exact World.keptBut_mono (fun x hx => ⟨hx, .inr (by simpa using hx)⟩) (hb.frame (· ∈ p ++ []))
    · have := trodAll_append (hargs _ fun _ _ => rfl) (hres 0 (fun _ => true) true)
      simpa using this
    · intro b off hx
      rw [hb.frozen (hlt _ hx)]; exact hfz b off hx
    · intro q; cases q
    · intro x hx _; simpa using hx
  · cases hr
end
end Go.FA
namespace Go.Proofs.Yt
open Go Go.FA Go.Proofs Go.RowKit Go.ChangeShapes
open YtboifamdcpelfaaGreat
set_option linter.unusedVariables false
set_option linter.unusedSimpArgs false
set_option maxRecDepth 100000

theorem readable26 : Tryz.prog.readableRec 26 = true := by kernel_rfl
theorem types26 : 26 < Tryz.prog.types.size := of_decide_eq_true (by kernel_rfl)
theorem readable9 : Tryz.prog.readableRec 9 = true := by kernel_rfl
theorem types9 : 9 < Tryz.prog.types.size := of_decide_eq_true (by kernel_rfl)
theorem bulk_le {H : Type} {l : List (DataW H)} (hk : Rows.uptoSmall H l = true) : Rows.uptoBulkAll l ≤ 1048576 := of_decide_eq_true hk
section
variable {H : Type} {enc : TypeId × Value → H} {W : World}
theorem argSig : ARd1 (blk H) enc Tryz.prog W 26 Enc.sigd szSig := ARd1.agg (under_of_ty ty26) rdSig
theorem argStr : ARd1 (blk H) enc Tryz.prog W 9 Enc.str szS := ARd1.cell rdStr fun base cs h => by
  simp [Value.okWide, under_of_ty ty9, Cell.okWide, Cell.ok] at h
end

theorem law7 (H : Type) (enc : TypeId × Value → H) (W : World) (base : Nat) (args : Array Value) (ds gs : List (DataW H)) (before : List MemPlace)
    (hval : ∀ (j : Nat) t v, Tryz.f7.params[j]? = some t → args[j]? = some v → Value.okWide Tryz.prog W .any base t v)
    (hW : DataW.Whole enc Tryz.prog Tryz.f7.params.toList Rows.sortsOrderedSpec.vars false W args.toList ds gs before) (hk : Rows.uptoSmall H (ds ++ gs) = true) :
    Calls Tryz.prog 7 args W fun e W' => ∃ v, e = .returned v ∧ Rows.sortsOrderedSpec.post enc Tryz.prog Tryz.f7 false true false false W args v W' := by
  have hW' := hW
  obtain ⟨p, q, hA0, hV, rfl, hfz, hnd⟩ := hW
  have hA : DataW.TrodAll enc Tryz.prog W 0 (fun _ => true) true [26] args.toList ds p := hA0
  obtain ⟨rfl, rfl⟩ := trodVars_none hV
  obtain ⟨y, h1, h2⟩ := (ARd.one argSig) base args.toList ds p (fun j t v a b => hval j t v (by simpa using a) (by simpa using b)) hA
  have hb := bulk_le hk
  simp only [List.append_nil] at hb
  have hy : y.ok := sig_ok (Nat.le_trans h2 hb)
  obtain ⟨v, vs, d, ds', p', q', hargs, rfl, rfl, hd, hr⟩ := trodAll_cons hA
  obtain ⟨rfl, rfl, rfl⟩ := trodAll_nil hr
  refine law_post laidOut_ c7 (dvs := [Enc.sigd.enc y]) (t := 4) ?_ rfl ?_ ⟨rfl, rfl, rfl⟩ rfl (under_of_ty ty4) hW' h1
  · simp only [s7, sp, arg1, EncR.one, Enc.sigd.de, Option.bind_some, if_pos hy]; rfl
  · intro t ht
    have ht' : t ∈ ([26] : List TypeId) := ht
    simp only [List.mem_singleton] at ht'
    subst ht'; exact ⟨readable26, types26⟩

set_option maxRecDepth 100000 in
theorem lifted7 (os : Os) (started : os.Started) (H : Type) (enc : TypeId × Value → H) (F : Stop.Interp) :
    ReturnsInHanded {} Tryz.checked os 7 .any ((Rows.OpenSpec.upto Rows.sortsOrderedSpec).pre6 enc Tryz.prog Tryz.f7 Rows.sortsOrderedUptoRow.domain false) (((Rows.OpenSpec.upto Rows.sortsOrderedSpec).at F).post enc Tryz.prog Tryz.f7 false true false false) := by
  refine returnsInHanded_of_cond (C := Tryz.checked) (s := Rows.OpenSpec.upto Rows.sortsOrderedSpec) (k := Rows.uptoSmall) rfl own_ started (by kernel_rfl) Tryz.func7
    (OpenSpec.witness (enc := enc) (C := Tryz.checked) (s := Rows.OpenSpec.upto Rows.sortsOrderedSpec) (k := Rows.uptoSmall) rfl false ⟨#[], #[.agg #[.slice none 0 0, .slice none 0 0, .slice none 0 0, .slice none 0 0, .slice none 0 0]], []⟩ 8 (by kernel_rfl) (by kernel_rfl) (by kernel_rfl)
      (x := ([.agg [.nil, .nil, .nil, .nil, .nil]], [], [])) (by kernel_rfl) rfl (by kernel_rfl)) ?_
  intro W base args ds gs before hval hW _ hk _
  exact law7 H enc W base args ds gs before hval hW hk

theorem over7 : Rows.sortsOrderedUptoRow.holds Tryz.pinned (Rows.OpenSpec.upto Rows.sortsOrderedSpec) :=
  OpenClaim.holds_of_cond 7 Tryz.f7 rfl rfl rfl rfl rfl rfl rfl ⟨rfl, rfl, rfl, rfl, rfl⟩ rfl rfl rfl rfl rfl (by kernel_rfl) Tryz.func7 (by kernel_rfl)
    (of_decide_eq_true (by kernel_rfl)) (by unfold Func.isWrapper; first | (rw [if_pos (by decide +kernel)]; kernel_rfl) | (rw [if_neg (by decide +kernel)]; exact ⟨rfl, rfl⟩))
    (fun os started H enc _ F => lifted7 os started H enc F)

theorem sortsOrderedUpto_holds : Rows.SortsOrderedUptoSaid := over7

end Go.Proofs.Yt
namespace Go.Proofs.YtboifamdcpelfaaGreat
theorem sortsOrderedUpto : Rows.SortsOrderedUptoSaid := Go.Proofs.Yt.sortsOrderedUpto_holds
end Go.Proofs.YtboifamdcpelfaaGreat
namespace Go.FA
open Go.RowKit
set_option linter.unusedVariables false
set_option linter.unusedSimpArgs false
variable {P : Program} {T : Tab} {E : Entry} {n : Nat} {Q : Ex → (Nat → DV) → St → Prop} {a : Nat → DV} {σ : St}

/-- registers that are as they were -/
def Keep (L : List Nat) (a0 a : Nat → DV) : Prop := ∀ r ∈ L, a r = a0 r
theorem Keep.refl (L : List Nat) (a : Nat → DV) : Keep L a a := fun _ _ => rfl
theorem Keep.upd {L : List Nat} {a0 a : Nat → DV} (h : Keep L a0 a) {t : Nat} (ht : t ∉ L) (d : DV) : Keep L a0 (upd a t d) := fun r hr => by
  have : r ≠ t := fun e => ht (e ▸ hr)
  rw [upd_other _ _ _ _ this]; exact h r hr
theorem Keep.trans {L : List Nat} {a0 a1 a2 : Nat → DV} (h : Keep L a0 a1) (h' : Keep L a1 a2) : Keep L a0 a2 := fun r hr => (h' r hr).trans (h r hr)
@[simp] theorem Keep_nil (a0 a : Nat → DV) : Keep [] a0 a ↔ True := by simp [Keep]
@[simp] theorem Keep_cons (r : Nat) (L : List Nat) (a0 a : Nat → DV) : Keep (r :: L) a0 a ↔ a r = a0 r ∧ Keep L a0 a := by simp [Keep]

/-- what a round of a range over so many numbers has to come to -/
def Round (b0 b1 t' idx : Nat) (len : Nat) (N i : Nat) (J : Nat → (Nat → DV) → St → Prop) (Q : Ex → (Nat → DV) → St → Prop) : Ex → (Nat → DV) → St → Prop
  | .exit id, a, σ => if id = b1 then a idx = .lit (.int .i64 i) ∧ a len = .lit (.int .i64 N) ∧ J (i + 1) (upd (upd a t' (.lit (.int .i64 (i + 1 : Nat)))) idx (.lit (.int .i64 (i + 1 : Nat)))) { σ with n := σ.n + 2 } else if id = b0 then Q .normal a σ else Q (.exit id) a σ
  | .normal, a, σ => a idx = .lit (.int .i64 i) ∧ a len = .lit (.int .i64 N) ∧ J (i + 1) (upd (upd a t' (.lit (.int .i64 (i + 1 : Nat)))) idx (.lit (.int .i64 (i + 1 : Nat)))) { σ with n := σ.n + 2 }
  | .ret, a, σ => Q .ret a σ

theorem wrapNext (i : Nat) (h : i < 4611686018427387904) : IntKind.i64.wrap ((i : Int) + 1) = ((i + 1 : Nat) : Int) := by
  simp [IntKind.wrap, IntKind.bits, IntKind.signed]; omega

/-- A RANGE over the indices below a number, as the model has it -/
theorem Dwp.range {b0 b1 r1 r2 : Nat} {body : Code} {o1 o2 o3 : Oper} {t idx len t' ty ty' : Nat} (hT : TabOk P T) (N : Nat) (J : Nat → (Nat → DV) → St → Prop)
    (e1 : o1.op = .binOp .lss ty (.tmp idx) (.tmp len) ty ∧ o1.dst = some t ∧ o1.guard = none) (e2 : o2.op = .binOp .add ty' (.tmp idx) (.const (.int .i64 1)) ty' ∧ o2.dst = some t' ∧ o2.guard = none)
    (e3 : o3.op = .move (.tmp t') ∧ o3.dst = some idx ∧ o3.guard = none) (hd : t < n ∧ t' < n ∧ idx < n) (hne : b1 ≠ b0 ∧ t ≠ idx ∧ t ≠ len ∧ t' ≠ idx ∧ t' ≠ len ∧ idx ≠ len)
    (hN : N < 4611686018427387904) (hidx : a idx = .lit (.int .i64 (0 : Nat))) (hlen : a len = .lit (.int .i64 N)) (h0 : J 0 a σ)
    (round : ∀ i a σ, i < N → a idx = .lit (.int .i64 i) → a len = .lit (.int .i64 N) → J i a σ → Dwp P T E n body (Round b0 b1 t' idx len N i J Q) (upd a t (.lit (.bool true))) { σ with n := σ.n + 1 })
    (after : ∀ a σ, a idx = .lit (.int .i64 N) → a len = .lit (.int .i64 N) → J N a σ → Q .normal (upd a t (.lit (.bool false))) { σ with n := σ.n + 1 }) :
    Dwp P T E n (.block b0 (.loop (.seq (.region r1 #[o1] false) (.seq (.cond (.tmp t) .skip (.exit b0)) (.seq (.block b1 body) (.region r2 #[o2, o3] false)))))) Q a σ := by
  obtain ⟨p1, p2, p3⟩ := e1
  obtain ⟨q1, q2, q3⟩ := e2
  obtain ⟨s1, s2, s3⟩ := e3
  obtain ⟨d1, d2, d3⟩ := hd
  obtain ⟨n0, n1, n2, n3, n4, n5⟩ := hne
  refine Dwp.block (Dwp.loop (fun k a σ => ∃ i, i ≤ N ∧ k = N - i ∧ a idx = .lit (.int .i64 i) ∧ a len = .lit (.int .i64 N) ∧ J i a σ) N ⟨0, Nat.zero_le _, rfl, hidx, hlen, h0⟩ ?_)
  rintro k a σ ⟨i, hi, rfl, h1, h2, hJ⟩
  refine Dwp.step hT (by simp [dstsOk, p2, d1]) fun K hK => ?_
  simp only [drunL, dwanted, p1, p2, p3, dopS, dop, eval, h1, h2, dbin, if_true, intCmp, Option.map_some, Then, dput]
  refine hK _ _ ?_ rfl; clear hK K
  by_cases hlt : i < N
  · have hb : decide ((i : Int) < (N : Int)) = true := by simp; omega
    rw [hb]
    refine Dwp.seq (Dwp.condT (by simp [eval, Go.FA.upd]) (Dwp.skip ?_))
    refine Dwp.seq (Dwp.block ((round i a σ hlt h1 h2 hJ).mono fun e a σ hq => ?_))
    have fin : ∀ a σ, a idx = .lit (.int .i64 i) → a len = .lit (.int .i64 N) → J (i + 1) (Go.FA.upd (Go.FA.upd a t' (.lit (.int .i64 (i + 1 : Nat)))) idx (.lit (.int .i64 (i + 1 : Nat)))) { σ with n := σ.n + 2 } →
        Dwp P T E n (.region r2 #[o2, o3] false) (Ex.then (fun a' σ' => ∃ k', k' < N - i ∧ ∃ i, i ≤ N ∧ k' = N - i ∧ a' idx = .lit (.int .i64 i) ∧ a' len = .lit (.int .i64 N) ∧ J i a' σ') (Ex.inBlock b0 Q)) a σ := by
      intro a σ g1 g2 g3
      refine Dwp.reg hT (by simp [dstsOk, q2, s2, d2, d3]) fun K hK => ?_
      simp only [drunL, dwanted, q1, q2, q3, s1, s2, s3, dopS, dop, eval, ofVal, g1, dbin, if_true, Option.map_some, Then, dput, upd_same]
      refine hK _ _ ?_ rfl
      rw [wrapNext i (by omega)]
      exact ⟨N - (i + 1), by omega, i + 1, hlt, rfl, upd_same _ _ _, by rw [upd_other _ _ _ _ (Ne.symm n5), upd_other _ _ _ _ (Ne.symm n4)]; exact g2, g3⟩
    cases e with
    | normal => exact fin a σ hq.1 hq.2.1 hq.2.2
    | ret => exact hq
    | exit id =>
      simp only [Round] at hq
      simp only [Ex.inBlock]
      split at hq
      · next he => rw [if_pos he]; exact fin a σ hq.1 hq.2.1 hq.2.2
      · next he =>
        rw [if_neg he]
        simp only [Ex.then, Ex.inBlock]; exact hq
  · obtain rfl : i = N := by omega
    have hb : decide ((i : Int) < (i : Int)) = false := by simp
    rw [hb]
    refine Dwp.seq (Dwp.condF (by simp [eval, Go.FA.upd]) (Dwp.exit ?_))
    simp only [Ex.then, Ex.inBlock, if_true]
    exact after a σ h1 h2 hJ
end Go.FA
namespace Go.Proofs.Yt
open Go Go.FA Go.Proofs
set_option linter.unusedVariables false
set_option linter.unusedSimpArgs false
set_option maxRecDepth 100000

/-- a string among some -/
def s42 : Sp := sp (arg2 Enc.strs Enc.str) Enc.bool (fun x => if x.1.length ≤ lim then some (decide (x.2 ∈ x.1)) else none)
theorem mem_take_succ {α : Type} {l : List α} {i : Nat} (h : i < l.length) (x : α) : x ∈ l.take (i + 1) ↔ x ∈ l.take i ∨ x = l[i] := by
  rw [List.take_succ_eq_append_getElem h, List.mem_append, List.mem_singleton]
attribute [local simp] drunL drunO dwanted dopS own plainOf dop dput eval ofVal Then Ex.then Ex.inBlock upd dbin Tag.isNN nilTest intCmp dload dpart TyI.agg dfieldAddr dfield dindexAddr dindex dlen lenOk dlookup mapOf keyFits dmapUpdate dcallee dbuiltin dstore DV.cells dslice dboundOk dappend appTag rowsOf elemOk growLimit dbuildCells dbuildCells.go structOk fieldsOk dbuildRows goInt
theorem c42 : CallSound Tryz.prog 42 s42 := by
  refine CallSound.of_sp (T := tabOf []) Tryz.func42 rfl (Nat.le_of_ble_eq_true rfl) fun E xx y hy => ?_
  obtain ⟨l, x⟩ := xx
  simp only [] at hy
  split at hy
  case isFalse => cases hy
  next hlim =>
  cases hy
  have hlim' := hlim
  unfold lim at hlim
  have tT := tab0 (P := Tryz.prog)
  refine Dwp.step tT rfl fun K hK => ?_
  simp [dcall, tabOf, setAt, init, arg2, EncR.and, EncR.one, Enc.str]
  refine hK _ _ ?_ rfl; clear hK K
  refine Dwp.seq ?_
  refine Dwp.step tT rfl fun K hK => ?_
  simp [dcall, tabOf, setAt, ty22, strsC, hlim]
  refine hK _ _ ?_ rfl; clear hK K
  refine Dwp.range tT l.length (fun i a σ => a 1 = .lit (.string x) ∧ a 7 = .slice 1 .none (rows1 l) ∧ x ∉ l.take i) ⟨rfl, rfl, rfl⟩ ⟨rfl, rfl, rfl⟩ ⟨rfl, rfl, rfl⟩ (by decide) (by decide) (by omega) (by simp [upd]) (by simp [upd]) (by simp [upd, init]) ?_ ?_
  · rintro i a σ hi hidx hlen ⟨h1, h7, hno⟩
    refine Dwp.step tT rfl fun K hK => ?_
    simp [dcall, tabOf, setAt, h7, hidx, ty22, ty9, hi]
    refine hK _ _ ?_ rfl; clear hK K
    refine Dwp.step tT rfl fun K hK => ?_
    by_cases he : l[i] = x
    · have hin : x ∈ l := he ▸ List.getElem_mem hi
      simp [dcall, tabOf, setAt, h1, he]
      refine hK _ _ ?_ rfl; clear hK K
      refine Dwp.condT (by simp [eval, upd]) ?_
      refine Dwp.step tT rfl fun K hK => ?_
      simp [dcall, tabOf, setAt]
      refine hK _ _ (Dwp.ret ?_) rfl
      simp [Done, dresults, dres, frz, frz1, frz2, Round, Ex.then, upd, Enc.bool, hin]
    · simp [dcall, tabOf, setAt, h1, he]
      refine hK _ _ ?_ rfl; clear hK K
      refine Dwp.condF (by simp [eval, upd]) (Dwp.skip ?_)
      refine ⟨by simp [upd, hidx], by simp [upd, hlen], by simp [upd, h1], by simp [upd, h7], ?_⟩
      rw [mem_take_succ hi]; rintro (q | q)
      · exact hno q
      · exact he q.symm
  · rintro a σ hidx hlen ⟨h1, h7, hno⟩
    rw [List.take_length] at hno
    refine Dwp.step tT rfl fun K hK => ?_
    simp [dcall, tabOf, setAt]
    refine hK _ _ (Dwp.ret ?_) rfl
    simp [Done, dresults, dres, frz, frz1, frz2, Ex.then, upd, Enc.bool, hno]
theorem e42 : Go.FA.Good Tryz.prog (42, s42) := ⟨c42, Tryz.f42, _, Tryz.func42, rfl, by decide⟩
end Go.Proofs.Yt
namespace Go.FA
open Go.RowKit
set_option linter.unusedVariables false
set_option linter.unusedSimpArgs false
variable {P : Program} {T : Tab} {E : Entry} {F : Nat → Prop} {C : Ctx} {w : World} {σ : St} {n : Nat} {a : Nat → DV}

/-- all orders in which a region's operations may be done -/
def allO (ops : Array Oper) : Nat → Array Bool → List (List Nat)
  | 0, _ => [[]]
  | fuel + 1, listed => match Region.ready .any ops listed with
    | [] => [[]]
    | i :: r => (i :: r).flatMap fun i => (allO ops fuel (listed.setIfInBounds i true)).map (i :: ·)
theorem allO_ne (ops : Array Oper) : ∀ (fuel : Nat) (listed : Array Bool), ∃ l, l ∈ allO ops fuel listed
  | 0, _ => ⟨[], by simp [allO]⟩
  | fuel + 1, listed => by
    simp only [allO]
    split
    · exact ⟨[], by simp⟩
    · next i r h =>
      obtain ⟨l, hl⟩ := allO_ne ops fuel (listed.setIfInBounds i true)
      exact ⟨i :: l, by simp [hl]⟩
def rem (ops : Array Oper) (listed : Array Bool) : List Nat := (List.range ops.size).filter fun i => !listed.getD i true
theorem mem_rem {ops : Array Oper} {listed : Array Bool} {i : Nat} : i ∈ rem ops listed ↔ i < ops.size ∧ listed.getD i true = false := by
  simp [rem]
theorem rem_set {ops : Array Oper} {listed : Array Bool} {i : Nat} (hs : listed.size = ops.size) (hi : i ∈ rem ops listed) : (rem ops (listed.setIfInBounds i true)).length < (rem ops listed).length := by
  have h : rem ops (listed.setIfInBounds i true) = (rem ops listed).filter fun j => decide (j ≠ i) := by
    unfold rem
    rw [List.filter_filter]
    apply List.filter_congr
    intro j hj
    simp only [List.mem_range] at hj
    by_cases e : j = i
    · subst e
      have : j < listed.size := by omega
      simp [this]
    · rw [getD_set_ne true (Ne.symm e)]; simp [e]
  rw [h]
  exact List.length_filter_lt_length_iff_exists.2 ⟨i, hi, by simp⟩

theorem all_sound {ops : Array Oper} {n0 n : Nat} {ds : List Deferred} {Q : Exit → Act → World → Prop} {K : (Nat → DV) → St → Prop} (hT : TabOk P T) (hd : dstsOk n ops = true) :
    ∀ (fuel : Nat) (listed : Array Bool) (a : Nat → DV) (σ : St) (ca : Array Value) (w : World), listed.size = ops.size → (rem ops listed).length ≤ fuel → (∀ l ∈ allO ops fuel listed, Then (drunO P T ops n0 l a σ) K) →
      Ok E (Fr n0 ops.size (rem ops listed)) n a σ ca w → (∀ ca' w' a' σ', K a' σ' → Ok E (fun i => n0 + ops.size ≤ i) n a' σ' ca' w' → Q .normal ⟨ca', ds⟩ w') → wpAny P .any ops Q fuel listed ⟨ca, ds⟩ w := by
  intro fuel
  have done : ∀ (listed : Array Bool) (a : Nat → DV) (σ : St) (ca : Array Value) (w : World), K a σ → Ok E (Fr n0 ops.size (rem ops listed)) n a σ ca w →
      (∀ ca' w' a' σ', K a' σ' → Ok E (fun i => n0 + ops.size ≤ i) n a' σ' ca' w' → Q .normal ⟨ca', ds⟩ w') → Q .normal ⟨ca, ds⟩ w := by
    intro listed a σ ca w hk hok hq
    obtain ⟨hn, C, hf, hs⟩ := hok
    exact hq _ _ _ _ hk ⟨hn, C, hf, hs.fewer fun i hi => .inr hi⟩
  induction fuel with
  | zero =>
    intro listed a σ ca w hsz hlen hall hok hq
    refine ⟨?_, done listed a σ ca w (hall [] (by simp [allO])) hok hq⟩
    cases hrd : Region.ready .any ops listed with
    | nil => rfl
    | cons i r =>
      have hi : i ∈ Region.ready .any ops listed := by rw [hrd]; simp
      obtain ⟨h0, o, ho, _⟩ := mem_ready.1 hi
      have := mem_rem.2 ⟨(Array.getElem?_eq_some_iff.1 ho).1, h0⟩
      have hz : rem ops listed = [] := List.eq_nil_of_length_eq_zero (by omega)
      rw [hz] at this; simp at this
  | succ fuel ih =>
    intro listed a σ ca w hsz hlen hall hok hq
    refine ⟨fun hnone => ?_, fun i hi => ?_⟩
    · have hk : Then (drunO P T ops n0 [] a σ) K := hall [] (by simp only [allO]; rw [hnone]; simp)
      exact done listed a σ ca w hk hok hq
    · obtain ⟨h0, o, ho, _⟩ := mem_ready.1 hi
      have hi1 : i < ops.size := (Array.getElem?_eq_some_iff.1 ho).1
      have hil : i ∈ rem ops listed := mem_rem.2 ⟨hi1, h0⟩
      have hall' : ∀ l ∈ allO ops fuel (listed.setIfInBounds i true), Then (drunO P T ops n0 (i :: l) a σ) K := by
        intro l hl
        refine hall (i :: l) ?_
        simp only [allO]
        cases hrd : Region.ready .any ops listed with
        | nil => rw [hrd] at hi; simp at hi
        | cons j r =>
          rw [hrd] at hi
          simp only [List.mem_flatMap]
          exact ⟨i, hi, by simp [hl]⟩
      have hlen' := rem_set hsz hil
      obtain ⟨l0, hl0⟩ := allO_ne ops fuel (listed.setIfInBounds i true)
      obtain ⟨hn, C, hf, hs⟩ := hok
      have hfew : ∀ k, Fr n0 ops.size (rem ops (listed.setIfInBounds i true)) k → Fr n0 ops.size (rem ops listed) k ∧ k ≠ n0 + i := by
        intro k hk
        rcases hk with ⟨j, hj, rfl⟩ | hk
        · obtain ⟨j1, j2⟩ := mem_rem.1 hj
          by_cases e : j = i
          · subst e
            have : j < listed.size := by omega
            simp [this] at j2
          · rw [getD_set_ne true (Ne.symm e)] at j2
            exact ⟨.inl ⟨j, mem_rem.2 ⟨j1, j2⟩, rfl⟩, fun q => e (by omega)⟩
        · exact ⟨.inr hk, by omega⟩
      have hdst : ∀ t, o.dst = some t → t < ca.size := by
        intro t ht'
        have hm : o ∈ ops.toList := by simpa using Array.mem_of_getElem? ho
        have := List.all_eq_true.1 hd o hm
        rw [ht'] at this; rw [hn]; simpa using this
      unfold wpOp
      rw [ho]
      simp only []
      have h1 := hall' l0 hl0
      simp only [drunO, ho] at h1 hall'
      cases hw : dwanted ops a o.guard with
      | none => rw [hw] at h1; simp [Then] at h1
      | some b =>
        rw [hw] at h1 hall'
        cases b with
        | true =>
          simp only [] at h1 hall'
          rw [if_pos (wanted_rel hw hf hn hd)]
          left
          cases hdn : dopS P T (n0 + i) a σ o.op with
          | none => rw [hdn] at h1; simp [Then] at h1
          | some p =>
            obtain ⟨d, σ1⟩ := p
            rw [hdn] at hall'
            simp only [] at hall'
            have hu := dopS_sound (ds := ds) hdn hT (show Fr n0 ops.size (rem ops listed) (n0 + i) from .inl ⟨i, hil, rfl⟩) hf hs
            have key : ∀ v w', Res E (fun k => Fr n0 ops.size (rem ops listed) k ∧ k ≠ n0 + i) C w σ1 d v w' → wpAny P .any ops Q fuel (listed.setIfInBounds i true) (Act.put ⟨ca, ds⟩ o.dst v) w' := by
              intro v w' hres
              obtain ⟨C', r1, r2, r3, r4⟩ := hres
              rw [put_eq]
              exact ih _ _ _ _ _ (by simp [hsz]) (by omega) hall' ⟨by rw [put_size]; exact hn, C', (hf.mono r1 r2).put r3 hdst, r4.fewer hfew⟩ hq
            unfold Oper.wp Oper.upon
            unfold Upon at hu
            split at hu
            · next v w' he => rw [he]; exact key _ _ hu
            · next w' he => rw [he]; exact key _ _ hu
            · next f args w' he =>
              rw [he]
              refine hu.mono fun e w'' ⟨v, hv, hk⟩ => ?_
              subst hv
              exact key _ _ hk
            · exact hu.elim
        | false =>
          simp only [] at hall'
          rw [if_neg (by simp [wanted_rel hw hf hn hd])]
          rw [put_eq]
          exact ih _ _ _ _ _ (by simp [hsz]) (by omega) hall' ⟨by rw [put_size]; exact hn, C, hf.put (by simp [VRel, undef]) hdst, hs.fewer fun k hk => (hfew k hk).1⟩ hq

/-- a small region that draws its order: each order by itself -/
theorem Dwp.orders {id : Nat} {ops : Array Oper} {Q : Ex → (Nat → DV) → St → Prop} (os : List (List Nat)) (hm : P.follows .mixedOrders = true) (hT : TabOk P T) (hd : dstsOk n ops = true) (ho : allO ops ops.size (Array.replicate ops.size false) = os)
    (h : ∀ K : (Nat → DV) → St → Prop, (∀ a' σ', Q .normal a' { σ' with n := σ.n + ops.size } → σ'.n = σ.n → K a' σ') → ∀ l ∈ os, Then (drunO P T ops σ.n l a σ) K) : Dwp P T E n (.region id ops true) Q a σ := by
  refine ⟨fun ca w ds hok => wp_region_any hm ?_⟩
  have h1 := h _ fun _ _ h1 h2 => And.intro h1 h2
  subst ho
  refine all_sound (E := E) (n0 := σ.n) hT hd ops.size _ a σ ca w.drew (by simp) (by unfold rem; exact Nat.le_trans (List.length_filter_le _ _) (by simp)) h1 ?_ fun ca' w' a' σ' hk hok' => ?_
  · obtain ⟨hn, C, hf, hs⟩ := hok.drew
    refine ⟨hn, C, hf, hs.fewer fun i hi => ?_⟩
    rcases hi with ⟨j, _, rfl⟩ | hi <;> omega
  · obtain ⟨hn', C, hf, hs⟩ := hok'
    refine ⟨rfl, .normal, a', _, rfl, hk.1, hn', C, hf, ?_⟩
    exact ⟨hs.lo, hs.below, hs.bsize, hs.pB, hs.mB, hs.psup, hs.msup, hs.psub, hs.msub, hs.obj, hs.inj, hs.tok, hs.tinj, hs.tobj, fun i hi => hs.fresh i hi⟩
theorem Dwp.ordersStep {id : Nat} {ops : Array Oper} {y : Code} {Q : Ex → (Nat → DV) → St → Prop} (os : List (List Nat)) (hm : P.follows .mixedOrders = true) (hT : TabOk P T) (hd : dstsOk n ops = true) (ho : allO ops ops.size (Array.replicate ops.size false) = os)
    (h : ∀ K : (Nat → DV) → St → Prop, (∀ a' σ', Dwp P T E n y Q a' { σ' with n := σ.n + ops.size } → σ'.n = σ.n → K a' σ') → ∀ l ∈ os, Then (drunO P T ops σ.n l a σ) K) : Dwp P T E n (.seq (.region id ops true) y) Q a σ :=
  Dwp.seq (Dwp.orders os hm hT hd ho h)
end Go.FA
namespace Go.FA
open Go.RowKit
set_option linter.unusedVariables false
set_option linter.unusedSimpArgs false
variable {P : Program} {T : Tab} {E : Entry} {F : Nat → Prop} {C : Ctx} {w : World} {σ : St} {n : Nat} {Q : Ex → (Nat → DV) → St → Prop} {a : Nat → DV}

/-- the end of a function that hands over a slice of its own, which has no room left -/
def DoneFull {β : Type} (P : Program) (res : Array ResultVar) (B : EncR β) (l : List β) : Ex → (Nat → DV) → St → Prop := fun ex a σ =>
  (ex = .normal ∨ ex = .ret) ∧ ∃ d, dresults P σ a res.toList = some d ∧ ∃ rows, d = .slice B.k .full rows ∧ decRows0 B rows = some l
theorem CallSound.of_full {α β : Type} {A : EncR α} {B : EncR β} {g : α → Option (List β)} {f : FuncId} {fn : Func} {c : Code} (hf : P.funcs[f]? = some fn) (hb : fn.body = some c) (hk : A.k ≤ fn.ntmps)
    (h : ∀ E x y, g x = some y → Dwp P T E fn.ntmps c (DoneFull P fn.results B y) (init (A.enc x)) σ0) : CallSound P f (spOwn A B g) := by
  intro args r hr
  simp only [spOwn, Option.bind_eq_some_iff, Option.map_eq_some_iff] at hr
  obtain ⟨x, hx, y, hy, rfl⟩ := hr
  refine .inr ⟨_, _, rfl, pureR_enc0 B y, fun C w cargs hpc hpm hl1 => ?_⟩
  have hl : LRel C w (A.enc x) cargs := LRel_le (A.le _ _ hx) hl1
  have hp := A.pure x
  let E : Entry := ⟨w.heap.size, w, C.pc, C.pm⟩
  let C0 : Ctx := ⟨fun _ => none, fun _ => none, C.pc, C.pm, w.heap.size⟩
  have hl0 : LRel C0 w (A.enc x) cargs := LRel_pure (C := C) (C' := C0) (fun _ _ p => p) (fun _ p => p) _ _ hp hl
  have hll := LRel_length hl
  have hs0 : SRel E (fun i => σ0.n ≤ i) C0 w σ0 := by
    refine ⟨rfl, Below.refl _ _, Nat.le_refl _, hpc, hpm, fun _ _ p => p, fun _ p => p, fun _ _ p => .inl p, fun _ p => .inl p, ?_, ?_, ?_, ?_, ?_, fun _ _ => ⟨rfl, rfl⟩⟩
    · intro i o hi; simp [σ0] at hi
    · intro i j oi oj b hi; simp [σ0] at hi
    · intro t g ht; simp [σ0] at ht
    · intro t t' g g' x x' ht; simp [σ0] at ht
    · intro t g x i o ht; simp [σ0] at ht
  have hf0 : FRel C0 w (init (A.enc x)) (cargs.toArray ++ Array.replicate (fn.ntmps - cargs.toArray.size) undef) := by
    intro t
    simp only [init]
    cases ha : (A.enc x)[t]? with
    | some d =>
      obtain ⟨v, hv, hr⟩ := LRel_get hl0 ha
      have htl : t < cargs.length := by
        rcases Nat.lt_or_ge t cargs.length with q | q
        · exact q
        · simp [List.getElem?_eq_none q] at hv
      have : (cargs.toArray ++ Array.replicate (fn.ntmps - cargs.toArray.size) undef).getD t undef = v := by
        rw [Array.getD_eq_getD_getElem?, Array.getElem?_append_left (by simpa using htl)]
        simp [hv]
      rw [this]; exact hr
    | none =>
      have htl : ¬ t < cargs.length := by
        intro q
        rw [← hll] at q
        simp [List.getElem?_eq_getElem q] at ha
      have : (cargs.toArray ++ Array.replicate (fn.ntmps - cargs.toArray.size) undef).getD t undef = undef := by
        rw [Array.getD_eq_getD_getElem?, Array.getElem?_append_right (by simpa using Nat.le_of_not_lt htl), Array.getElem?_replicate]
        split <;> rfl
      rw [this]; simp [VRel, undef]
  have hok : Ok E (fun i => σ0.n ≤ i) fn.ntmps (init (A.enc x)) σ0 (cargs.toArray ++ Array.replicate (fn.ntmps - cargs.toArray.size) undef) w := by
    refine ⟨?_, C0, hf0, hs0⟩
    have := A.len x
    simp; omega
  have hw := (h E x y hy).out _ _ [] hok
  refine calls_of_wp hf hb (wp_mono hw fun e act w' ⟨hd, ex, a', σ', he, ⟨hex, d, hres, hown⟩, hn, C', hf', hs'⟩ => ?_)
  have hfin : ∃ v, (results fn act.tmps).run P w' = .ok v w' ∧ VRel C' w' d v := results_sound hf' hs' hres
  obtain ⟨v, hv1, hv2⟩ := hfin
  have hgoal : act.defers = [] ∧ ∃ v, (results fn act.tmps).run P w' = .ok v w' ∧ (∃ v', Ending.returned v = .returned v' ∧ Below w.heap.size w w' ∧ OwnRel C w w' B.k (y.map B.enc) v') := by
    refine ⟨hd, v, hv1, v, rfl, hs'.below, ?_⟩
    obtain ⟨rows, rfl, hdec⟩ := hown
    have hlen := decRows0_length B rows y hdec
    have hpcs : ∀ b o, C'.pc b o → ownPc C w w' ⟨0, 0, 0, 0⟩ b o := by
      intro b o p
      rcases hs'.psub b o p with q | q
      · exact .inl q
      · exact .inr ⟨q.1, q.2, fun ⟨r1, _, _⟩ => by simp at r1⟩
    have hpms : ∀ b, C'.pm b → ownPm C w w' ⟨0, 0, 0, 0⟩ b := by
      intro b p
      rcases hs'.msub b p with q | q
      · exact .inl q
      · exact .inr ⟨q.1, q.2, fun ⟨r1, _⟩ => by simp at r1⟩
    refine ⟨⟨0, 0, 0, 0⟩, rfl, fun q => by simp at q, ?_⟩
    simp only [VRel] at hv2 ⊢
    rcases hv2 with ⟨b, o, cap, e1, e2, e3, e4, e7⟩ | ⟨ad, e1, e2, e3⟩
    · refine .inl ⟨b, o, cap, by simp [e1, hlen], by simp [← hlen, e2], RRel_pure (C := C') hpcs hpms B.k b _ o (pureR_enc0 B y) (RRel_le0 B rows y o hdec e3), ⟨_, rfl, Nat.le_refl _, fun _ => .inl (by simp [← hlen, e4])⟩, by have := e7.1; rw [hs'.lo] at this; exact this, e7.2⟩
    · subst e2
      simp [decRows0] at hdec; subst hdec
      exact .inr ⟨ad, e1, rfl, _, rfl, Nat.le_refl _⟩
  subst he
  rcases hex with rfl | rfl <;> exact hgoal

end Go.FA
namespace Go.Proofs.Yt
open Go Go.FA Go.Proofs
set_option linter.unusedVariables false
set_option linter.unusedSimpArgs false
set_option maxRecDepth 100000

/-- the sorts that are always there, as the reference has them -/
def always : List ByteArray := [⟨#[65, 110, 121]⟩, ⟨#[66, 111, 111, 108]⟩, ⟨#[73, 100]⟩, ⟨#[73, 110, 116]⟩, ⟨#[76, 105, 115, 116]⟩, ⟨#[77, 97, 112]⟩, ⟨#[84, 101, 120, 116]⟩]
def s85 : Sp := spOwn EncR.unit (EncR.one Enc.str) (fun _ => some always)
attribute [local simp] drunL drunO dwanted dopS own plainOf dop dput eval ofVal Then Ex.then Ex.inBlock upd dbin Tag.isNN nilTest intCmp dload dpart TyI.agg dfieldAddr dfield dindexAddr dindex dlen lenOk dlookup mapOf keyFits dmapUpdate dcallee dbuiltin dstore DV.cells dslice dboundOk dappend appTag rowsOf elemOk growLimit dbuildCells dbuildCells.go structOk fieldsOk dbuildRows goInt
theorem c85 : CallSound Tryz.prog 85 s85 := by
  refine CallSound.of_full (T := tabOf []) Tryz.func85 rfl (Nat.le_of_ble_eq_true rfl) fun E xx y hy => ?_
  simp only [Option.some.injEq] at hy
  subst hy
  have tT := tab0 (P := Tryz.prog)
  refine Dwp.step tT rfl fun K hK => ?_
  simp [dcall, tabOf, setAt]
  refine hK _ _ ?_ rfl; clear hK K
  refine Dwp.step tT rfl fun K hK => ?_
  simp [dcall, tabOf, setAt, ty22, ty9]
  refine hK _ _ (Dwp.ret ?_) rfl
  simp [DoneFull, dresults, dres, upd, EncR.one, Enc.str, always, decRows0]
theorem e85 : Go.FA.Good Tryz.prog (85, s85) := ⟨c85, Tryz.f85, _, Tryz.func85, rfl, by decide⟩
theorem call85 (T : Tab) (hT : T 85 = some s85) : dcall T 85 [] = some (.slice 1 (.tok 0 0) (rows1 always)) := by
  simp [dcall, hT, s85, spOwn, EncR.unit, EncR.one, Enc.str]
theorem always_mem (x : ByteArray) : x ∈ always ↔ x ∈ given := by
  simp only [always, given, List.mem_cons, List.not_mem_nil, or_false]
  constructor <;> (rintro (h | h | h | h | h | h | h) <;> simp [h])

/-- all sorts of a signature -/
def allS (s : SigD) : List ByteArray := always ++ s.sorts
theorem allS_mem (s : SigD) (x : ByteArray) : x ∈ allS s ↔ x ∈ s.all := by unfold allS SigD.all; simp [always_mem]
def s41 : Sp := spOwn (arg1 Enc.sigd) (EncR.one Enc.str) (fun s => if s.sorts.length ≤ 1048576 then some (allS s) else none)
abbrev T41 : Tab := tabOf [(85, s85)]
theorem t41 : TabOk Tryz.prog T41 := .cons e85 .nil
theorem c41 : CallSound Tryz.prog 41 s41 := by
  refine CallSound.of_own (T := T41) Tryz.func41 rfl (Nat.le_of_ble_eq_true rfl) fun E s y hy => ?_
  split at hy
  case isFalse => cases hy
  next hl =>
  cases hy
  have g := call85 T41 rfl
  have tT := t41
  generalize T41 = T at *
  refine Dwp.step tT rfl fun K hK => ?_
  simp [init, arg1, EncR.one, Enc.sigd, Enc.agg]
  refine hK _ _ ?_ rfl; clear hK K
  refine Dwp.ordersStep [[0, 1, 2, 3, 4], [1, 0, 2, 3, 4], [1, 2, 0, 3, 4]] mixed tT rfl (by kernel_rfl) fun K hK => ?_
  have rest : ∀ a' σ', a' 2 = .slice 1 (.tok 2 1) (rows1 (allS s)) → σ'.toks 2 = some 1 → σ'.n = 2 → K a' σ' := by
    intro a' σ' h2 ht hn
    refine hK _ _ (Dwp.ret ?_) hn
    refine ⟨.inr rfl, .slice 1 (.tok 2 1) (rows1 (allS s)), ?_, .inr ⟨2, 1, _, rfl, ht, ?_⟩⟩
    · show dresults Tryz.prog _ a' [ResultVar.tmp 2] = _
      simp [dresults, dres, h2]
    · have := decRows_enc (EncR.one Enc.str) (allS s)
      rw [← decRows0_eq] at this; exact this
  have hg : always.length + s.sorts.length ≤ 16777216 := by simp [always]; omega
  have hr : rows1 always ++ s.sorts.map (fun x => [DV.lit (.string x)]) = rows1 (allS s) := by simp [allS]
  intro l hl'
  simp only [List.mem_cons, List.not_mem_nil, or_false] at hl'
  rcases hl' with rfl | rfl | rfl <;> simp [g, ty26, ty22, ty9, strsC, hg, σ0] <;> exact rest _ _ (by simp [upd, allS]) (by simp [upd]) rfl
theorem e41 : Go.FA.Good Tryz.prog (41, s41) := ⟨c41, Tryz.f41, _, Tryz.func41, rfl, by decide⟩
end Go.Proofs.Yt
namespace Go.Proofs.Yt
open Go Go.FA Go.Proofs
set_option linter.unusedVariables false
set_option linter.unusedSimpArgs false
set_option maxRecDepth 100000

theorem sortB_mem {l : List ByteArray} {x : ByteArray} : x ∈ sortB l ↔ x ∈ l := by
  unfold sortB
  simp only [List.mem_map]
  constructor
  · rintro ⟨y, hy, rfl⟩
    have := (List.mergeSort_perm (l.map bl) fun a b => decide (a ≤ b)).mem_iff.1 hy
    obtain ⟨z, hz, rfl⟩ := List.mem_map.1 this
    rw [lb_bl]; exact hz
  · intro hx
    exact ⟨bl x, (List.mergeSort_perm (l.map bl) fun a b => decide (a ≤ b)).mem_iff.2 (List.mem_map.2 ⟨x, hx, rfl⟩), lb_bl x⟩
theorem sortB_length (l : List ByteArray) : (sortB l).length = l.length := by
  unfold sortB; simp
theorem mput_length {α : Type} (k : ByteArray) (v : α) : ∀ m : List (ByteArray × α), (mput k v m).length ≤ m.length + 1
  | [] => by simp [mput]
  | p :: l => by
    simp only [mput]; split
    · simp
    · have := mput_length k v l; simp; omega
theorem mput_length_in {α : Type} (k : ByteArray) (v : α) : ∀ m : List (ByteArray × α), (mget k m).isSome = true → (mput k v m).length = m.length
  | [], h => by simp [mget] at h
  | p :: l, h => by
    simp only [mput]; split
    · simp
    · next hne =>
      simp only [mget, hne, if_false] at h
      simp [mput_length_in k v l h]
theorem addBel_length (l : List Bel) : ∀ m, (l.foldl addBel m).length = m.length := by
  induction l with
  | nil => intro m; rfl
  | cons y l ih =>
    intro m
    rw [List.foldl_cons, ih]
    unfold addBel
    cases h : mget y.low m with
    | none => rfl
    | some z => exact mput_length_in _ _ _ (by rw [h]; rfl)
theorem names_length (l : List ByteArray) : ∀ m : List (ByteArray × List ByteArray), (l.foldl (fun m n => mput n [] m) m).length ≤ m.length + l.length := by
  induction l with
  | nil => intro m; simp
  | cons n l ih =>
    intro m
    have h1 := ih (mput n [] m)
    have h2 := mput_length n ([] : List ByteArray) m
    simp only [List.foldl_cons, List.length_cons]; omega
theorem highs_length (s : SigD) : (newBook s).highs.length ≤ 7 + s.sorts.length := by
  have h1 := names_length (given ++ s.sorts) []
  have h2 : (newBook s).highs.length = ((given ++ s.sorts).foldl (fun m n => mput n [] m) ([] : List (ByteArray × List ByteArray))).length := addBel_length _ _
  have h3 : given.length = 7 := rfl
  simp only [List.length_append, List.length_nil] at h1
  omega
theorem highs_small {s : SigD} (h : s.ok) (hv : s.vld = true) : (newBook s).highs.length ≤ 47 := by
  have h1 := highs_length s
  have h2 := (vld_facts h hv).1
  simp only [SigD.within, Bool.and_eq_true, decide_eq_true_eq] at h2
  omega

/-- what may be asked of -/
def good (s : SigD) (x : ByteArray) : Prop := s.vld = true ∧ x ∈ s.all
def errOf (s : SigD) : Int := if s.vld then 13 else 2
theorem errOf_ne (s : SigD) : errOf s ≠ 0 := by unfold errOf; split <;> decide
theorem withBook_one {s : SigD} (h : s.ok) (x : ByteArray) {β : Type} (no : β) (f : Book → Option β) : (good s x → withBook (openF s [x]) no f = (f (newBook s)).map (·, 0)) ∧ (¬ good s x → withBook (openF s [x]) no f = some (no, errOf s)) := by
  unfold withBook good errOf
  rw [openF_some s h [x] (by simp)]
  cases hv : s.vld with
  | false => simp
  | true =>
    by_cases hx : x ∈ s.all
    · simp [book_has, hx]
    · simp [book_has, hx]
theorem clo_some {s : SigD} (h : s.ok) (hv : s.vld = true) (f : Nat) (x y : ByteArray) (hf : f = 62 ∨ f = 65 ∨ f = 56) : ∃ r, (newBook s).clo f x y = some r ∧
    (x ∈ s.all → y ∈ s.all → (r = true ↔ (if f = 65 then s.at y x else s.at x y) = true)) := by
  have hb := (vld_facts h hv).2.1
  have key : ∀ x y : ByteArray, ∃ r, (newBook s).atMost x y = some r ∧ (x ∈ s.all → y ∈ s.all → (r = true ↔ s.at x y = true)) := fun x y => by
    obtain ⟨r, h1, h2⟩ := atMost_some s hb x y
    exact ⟨r, h1, fun hx hy => by rw [h2, at_iff s h x y]; simp [hv, hx, hy]⟩
  unfold Book.clo
  rcases hf with rfl | rfl | rfl
  · obtain ⟨r, h1, h2⟩ := key x y; exact ⟨r, by simpa using h1, by simpa using h2⟩
  · obtain ⟨r, h1, h2⟩ := key y x; exact ⟨r, by simpa using h1, fun a b => by simpa using h2 b a⟩
  · obtain ⟨r, h1, h2⟩ := key x y; exact ⟨r, by simpa using h1, by simpa using h2⟩
theorem that_some {s : SigD} (h : s.ok) (f : Nat) (hf : f = 62 ∨ f = 65) (x : ByteArray) : ∃ l e, withBook (openF s [x]) [] (fun b => thatF b f b x) = some (l, e) ∧ l.length ≤ 1000 ∧
    (good s x → e = 0 ∧ ∀ y, y ∈ l ↔ (if f = 65 then s.at y x else s.at x y) = true) ∧ (¬ good s x → l = [] ∧ e = errOf s) := by
  obtain ⟨w1, w2⟩ := withBook_one h x ([] : List ByteArray) (fun b => thatF b f b x)
  by_cases hg : good s x
  · rw [w1 hg]
    obtain ⟨hv, hx⟩ := hg
    have hl := highs_small h hv
    have hc : ∀ y, ∃ r, (newBook s).clo f x y = some r ∧ (x ∈ s.all → y ∈ s.all → (r = true ↔ (if f = 65 then s.at y x else s.at x y) = true)) := fun y => clo_some h hv f x y (by omega)
    unfold thatF
    rw [if_pos ⟨by omega, hf, by rw [List.all_eq_true]; intro p _; obtain ⟨r, h1, _⟩ := hc p.1; rw [h1]; rfl⟩]
    refine ⟨_, _, rfl, ?_, fun _ => ⟨rfl, fun y => ?_⟩, fun q => absurd ⟨hv, hx⟩ q⟩
    · rw [sortB_length]; exact Nat.le_trans (List.length_filter_le _ _) (by simp; omega)
    · rw [sortB_mem, List.mem_filter]
      have hk : y ∈ (newBook s).highs.map (·.1) ↔ y ∈ s.all := by rw [← book_keys]; simp
      rw [hk]
      obtain ⟨r, h1, h2⟩ := hc y
      unfold cloB
      rw [h1]
      simp only [Option.getD_some]
      constructor
      · rintro ⟨hy, hr⟩; exact (h2 hx hy).1 hr
      · intro q
        have hy : y ∈ s.all := by
          split at q
          · exact ((at_iff s h y x).1 q).2.1
          · exact ((at_iff s h x y).1 q).2.2.1
        exact ⟨hy, (h2 hx hy).2 q⟩
  · rw [w2 hg]; exact ⟨_, _, rfl, by simp, fun q => absurd q hg, fun _ => ⟨rfl, rfl⟩⟩
theorem above_some {s : SigD} (h : s.ok) (x : ByteArray) : ∃ l e, thatErr27 s x = some (l, e) ∧ l.length ≤ 1000 ∧ (good s x → e = 0 ∧ ∀ y, y ∈ l ↔ s.at x y = true) ∧ (¬ good s x → l = [] ∧ e = errOf s) := that_some h 62 (.inl rfl) x
theorem under_some {s : SigD} (h : s.ok) (x : ByteArray) : ∃ l e, thatErr30 s x = some (l, e) ∧ l.length ≤ 1000 ∧ (good s x → e = 0 ∧ ∀ y, y ∈ l ↔ s.at y x = true) ∧ (¬ good s x → l = [] ∧ e = errOf s) := that_some h 65 (.inr rfl) x
theorem value_some {s : SigD} (h : s.ok) (x : ByteArray) : ∃ r e, valueF s x = some (r, e) ∧ (good s x → e = 0 ∧ (r = true ↔ ∃ v ∈ s.values, s.at x v = true)) ∧ (¬ good s x → r = false ∧ e = errOf s) := by
  obtain ⟨w1, w2⟩ := withBook_one h x false (fun b => valueB s b x)
  unfold valueF
  by_cases hg : good s x
  · rw [w1 hg]
    obtain ⟨hv, hx⟩ := hg
    have hc : ∀ y, ∃ r, (newBook s).clo 56 x y = some r ∧ (x ∈ s.all → y ∈ s.all → (r = true ↔ s.at x y = true)) := fun y => by simpa using clo_some h hv 56 x y (by omega)
    have hval := (vld_facts h hv).2.2.2.2.2.2.2.2.2.1
    unfold valueB
    rw [if_pos ⟨by have := h.2.2.2.1; unfold lim; omega, by rw [List.all_eq_true]; intro y _; obtain ⟨r, h1, _⟩ := hc y; rw [h1]; rfl⟩]
    refine ⟨_, _, rfl, fun _ => ⟨rfl, ?_⟩, fun q => absurd ⟨hv, hx⟩ q⟩
    rw [List.any_eq_true]
    have he : ∀ v ∈ s.values, cloB (newBook s) 56 x v = true ↔ s.at x v = true := fun v hv' => by
      obtain ⟨r, h1, h2⟩ := hc v
      unfold cloB; rw [h1]; exact h2 hx (hval v hv')
    constructor
    · rintro ⟨v, hv1, hv2⟩; exact ⟨v, hv1, (he v hv1).1 hv2⟩
    · rintro ⟨v, hv1, hv2⟩; exact ⟨v, hv1, (he v hv1).2 hv2⟩
  · rw [w2 hg]; exact ⟨_, _, rfl, fun q => absurd q hg, fun _ => ⟨rfl, rfl⟩⟩
theorem call27 (T : Tab) (hT : T 27 = some s27) (s : SigD) (x : ByteArray) {l : List ByteArray} {e : Int} (h : thatErr27 s x = some (l, e)) : dcall T 27 [.agg (EncR.sigd.enc s), .lit (.string x)] = some (.tuple [.slice 1 .none (rows1 l), .lit (.int .i64 e)]) := by
  have := dcall2 (T := T) (A := Enc.sigd) (B := Enc.str) (C := Enc.strsErr) hT h
  simpa [Enc.sigd, Enc.agg, Enc.str, Enc.strsErr, Enc.tup, arg2, EncR.and, EncR.one, strsC, Enc.i64, Enc.int] using this
theorem call30 (T : Tab) (hT : T 30 = some s30) (s : SigD) (x : ByteArray) {l : List ByteArray} {e : Int} (h : thatErr30 s x = some (l, e)) : dcall T 30 [.agg (EncR.sigd.enc s), .lit (.string x)] = some (.tuple [.slice 1 .none (rows1 l), .lit (.int .i64 e)]) := by
  have := dcall2 (T := T) (A := Enc.sigd) (B := Enc.str) (C := Enc.strsErr) hT h
  simpa [Enc.sigd, Enc.agg, Enc.str, Enc.strsErr, Enc.tup, arg2, EncR.and, EncR.one, strsC, Enc.i64, Enc.int] using this
theorem call20 (T : Tab) (hT : T 20 = some s20) (s : SigD) (x : ByteArray) {r : Bool} {e : Int} (h : valueF s x = some (r, e)) : dcall T 20 [.agg (EncR.sigd.enc s), .lit (.string x)] = some (.tuple [.lit (.bool r), .lit (.int .i64 e)]) := by
  have := dcall2 (T := T) (A := Enc.sigd) (B := Enc.str) (C := Enc.boolErr) hT h
  simpa [Enc.sigd, Enc.agg, Enc.str, Enc.boolErr, Enc.tup, arg2, EncR.and, EncR.one, Enc.bool, Enc.i64, Enc.int] using this
theorem call42 (T : Tab) (hT : T 42 = some s42) (l : List ByteArray) (x : ByteArray) (h : l.length ≤ 1048576) (tag : Tag) : dcall T 42 [.slice 1 tag (rows1 l), .lit (.string x)] = some (.lit (.bool (decide (x ∈ l)))) := by
  have h0 : Enc.strs.dec (.slice 1 tag (rows1 l)) = some l := by
    show (if 1 = 1 then decRows (EncR.one Enc.str) (rows1 l) else none) = _
    rw [if_pos rfl]; exact decRows_enc (EncR.one Enc.str) l
  have hl : l.length ≤ lim := by unfold lim; omega
  simp [dcall, hT, s42, sp, arg2, EncR.and, EncR.one, h0, hl, Enc.str, Enc.bool]
theorem call41 (T : Tab) (hT : T 41 = some s41) {s : SigD} (h : s.ok) : dcall T 41 [.agg (EncR.sigd.enc s)] = some (.slice 1 (.tok 0 0) (rows1 (allS s))) := by
  have hl := h.1
  simp [dcall, hT, s41, spOwn, arg1, EncR.one, Enc.sigd, Enc.agg, EncR.sigd.de, hl, Enc.str]
end Go.Proofs.Yt
namespace Go.Proofs.Yt
open Go Go.FA Go.Proofs
set_option linter.unusedVariables false
set_option linter.unusedSimpArgs false
set_option maxRecDepth 100000

open Classical in
noncomputable def s8 : Sp := sp (arg2 Enc.sigd Enc.str) Enc.bool (fun x => if x.1.ok then some true else none)
abbrev T8 : Tab := tabOf [(10, s10), (11, s11), (27, s27), (30, s30), (20, s20), (41, s41), (42, s42), (40, s40)]
theorem t8 : TabOk Tryz.prog T8 := .cons e10 (.cons e11 (.cons e27 (.cons e30 (.cons e20 (.cons e41 (.cons e42 (.cons e40 .nil)))))))
attribute [local simp] drunL drunO dwanted dopS own plainOf dop dput eval ofVal Then Ex.then Ex.inBlock upd dbin Tag.isNN nilTest intCmp dload dpart TyI.agg dfieldAddr dfield dindexAddr dindex dlen lenOk dlookup mapOf keyFits dmapUpdate dcallee dbuiltin dstore DV.cells dslice dboundOk dappend appTag rowsOf elemOk growLimit dbuildCells dbuildCells.go structOk fieldsOk dbuildRows goInt
theorem c8 : CallSound Tryz.prog 8 s8 := by
  refine CallSound.of_sp (T := T8) Tryz.func8 rfl (Nat.le_of_ble_eq_true rfl) fun E xx y hy => ?_
  obtain ⟨s, x⟩ := xx
  simp only [] at hy
  split at hy
  case isFalse => cases hy
  next hok =>
  cases hy
  have g10 := call10 T8 rfl hok
  have g11 := call11 T8 rfl
  have g40 := call40 T8 rfl hok
  have g41 := call41 T8 rfl hok
  obtain ⟨up, e, u1, u2, u3, u4⟩ := above_some hok x
  obtain ⟨down, f, d1, d2, d3, d4⟩ := under_some hok x
  obtain ⟨is, g, v1, v3, v4⟩ := value_some hok x
  have g27 := call27 T8 rfl s x u1
  have g30 := call30 T8 rfl s x d1
  have g20 := call20 T8 rfl s x v1
  have g42 := call42 T8 rfl
  have g30' := fun y l e h => call30 T8 rfl s y (l := l) (e := e) h
  have g20' := fun y l e h => call20 T8 rfl s y (r := l) (e := e) h
  have tT := t8
  generalize T8 = T at *
  have fin : ∀ (a : Nat → DV) (σ : St), a 4 = .lit (.bool true) → Done Tryz.prog Tryz.f8.results Enc.bool true Ex.ret a σ := by
    intro a σ h2
    refine ⟨.inr rfl, .lit (.bool true), ?_, rfl⟩
    show dresults Tryz.prog σ a [ResultVar.tmp 4] = _
    simp [dresults, dres, h2]
  refine Dwp.step tT rfl fun K hK => ?_
  simp [init, arg2, EncR.and, EncR.one, Enc.sigd, Enc.agg, Enc.str]
  refine hK _ _ ?_ rfl; clear hK K
  refine Dwp.seq ?_
  refine Dwp.step tT rfl fun K hK => ?_
  by_cases hf : few s = true
  case neg =>
    have hf' : few s = false := by simpa using hf
    simp [ty26, ty22, g10, hf']
    refine hK _ _ ?_ rfl; clear hK K
    refine Dwp.condT (by simp [eval, upd]) ?_
    refine Dwp.step tT rfl fun K hK => ?_
    simp [g11]
    refine hK _ _ (Dwp.ret ?_) rfl
    exact fin _ _ (by simp [upd])
  simp [ty26, ty22, g10, hf]
  refine hK _ _ ?_ rfl; clear hK K
  refine Dwp.condF (by simp [eval, upd]) (Dwp.skip ?_)
  refine Dwp.step tT rfl fun K hK => ?_
  simp [ty26, init, g27]
  refine hK _ _ ?_ rfl; clear hK K
  refine Dwp.step tT rfl fun K hK => ?_
  simp [ty26, init, g30]
  refine hK _ _ ?_ rfl; clear hK K
  refine Dwp.seq ?_
  refine Dwp.step tT rfl fun K hK => ?_
  by_cases hg : good s x
  case neg =>
    obtain ⟨rfl, rfl⟩ := u4 hg
    obtain ⟨rfl, rfl⟩ := d4 hg
    have hne : (errOf s != 0) = true := by simpa using errOf_ne s
    simp [hne]
    refine hK _ _ ?_ rfl; clear hK K
    refine Dwp.condT (by simp [eval, upd]) ?_
    refine Dwp.step tT rfl fun K hK => ?_
    have hw : IntKind.i64.wrap (0 : Int) = 0 := wrap_small (n := 0) (by decide) (by decide)
    simp [ty22, g11, hw]
    refine hK _ _ (Dwp.ret ?_) rfl
    exact fin _ _ (by simp [upd])
  obtain ⟨rfl, u5⟩ := u3 hg
  obtain ⟨rfl, d5⟩ := d3 hg
  obtain ⟨rfl, v5⟩ := v3 hg
  simp []
  refine hK _ _ ?_ rfl; clear hK K
  refine Dwp.condF (by simp [eval, upd]) (Dwp.skip ?_)
  refine Dwp.step tT rfl fun K hK => ?_
  simp [ty26, init, g20]
  refine hK _ _ ?_ rfl; clear hK K
  refine Dwp.seq ?_
  refine Dwp.step tT rfl fun K hK => ?_
  have hl := hok.1
  have hal : (allS s).length ≤ 16777216 := by unfold allS; simp [always]; omega
  simp [ty26, ty22, g41, hal]
  refine hK _ _ ?_ rfl; clear hK K
  refine Dwp.range tT (allS s).length (fun i a σ => ∃ tag, a 2 = .row (EncR.sigd.enc s) 0 ∧ a 1 = .lit (.string x) ∧ a 5 = .slice 1 .none (rows1 up) ∧ a 7 = .slice 1 .none (rows1 down) ∧ a 8 = .lit (.int .i64 0) ∧ a 9 = .lit (.bool is) ∧ a 10 = .lit (.int .i64 0) ∧ a 56 = .slice 1 tag (rows1 (allS s)))
    ⟨rfl, rfl, rfl⟩ ⟨rfl, rfl, rfl⟩ ⟨rfl, rfl, rfl⟩ (by decide) (by decide) (by omega) (by simp [upd]) (by simp [upd]) ⟨_, by simp [upd], by simp [upd, init], by simp [upd], by simp [upd], by simp [upd], by simp [upd], by simp [upd], by simp [upd]; rfl⟩ ?_ ?_
  · rintro i a σ hi hidx hlen ⟨tag, h2, h1, h5, h7, h8, h9, h10, h56⟩
    refine Dwp.step tT rfl fun K hK => ?_
    simp [h56, hidx, ty22, ty9, hi]
    refine hK _ _ ?_ rfl; clear hK K
    obtain ⟨b, hb⟩ : ∃ b, b = (allS s)[i] := ⟨_, rfl⟩
    have hba : b ∈ s.all := (allS_mem s b).1 (by rw [hb]; exact List.getElem_mem hi)
    rw [← hb]
    have hgb : good s b := ⟨hg.1, hba⟩
    obtain ⟨xl, e1, x1, x2, x3, _⟩ := under_some hok b
    obtain ⟨rfl, x5⟩ := x3 hgb
    obtain ⟨vb, e2, w1, w3, _⟩ := value_some hok b
    obtain ⟨rfl, w5⟩ := w3 hgb
    have k30 := g30' b _ _ x1
    have k20 := g20' b _ _ w1
    refine Dwp.step tT rfl fun K hK => ?_
    simp [h2, ty26, k30]
    refine hK _ _ ?_ rfl; clear hK K
    have q1 : decide (b ∈ up) = s.at x b := by rw [Bool.eq_iff_iff]; simpa using u5 b
    have q2 : decide (x ∈ xl) = s.at x b := by rw [Bool.eq_iff_iff]; simpa using x5 x
    have q3 : decide (b ∈ down) = s.at b x := by rw [Bool.eq_iff_iff]; simpa using d5 b
    have p1 : dcall T 42 [.slice 1 .none (rows1 up), .lit (.string b)] = some (.lit (.bool (s.at x b))) := by rw [g42 up b (by omega), q1]
    have p2 : dcall T 42 [.slice 1 .none (rows1 xl), .lit (.string x)] = some (.lit (.bool (s.at x b))) := by rw [g42 xl x (by omega), q2]
    have p3 : dcall T 42 [.slice 1 .none (rows1 down), .lit (.string b)] = some (.lit (.bool (s.at b x))) := by rw [g42 down b (by omega), q3]
    refine Dwp.seq ?_
    refine Dwp.drawStep [] mixed tT rfl (by decide) fun K hK => ?_
    simp [drunT, touch, touchP, h1, h2, h5, h7, ty26, ty22, ty4, p1, p2, p3, g40]
    refine hK _ _ ?_ rfl; clear hK K
    refine Dwp.condF (by simp [eval, upd]) (Dwp.skip ?_)
    refine Dwp.step tT rfl fun K hK => ?_
    simp [h2, ty26, k20]
    refine hK _ _ ?_ rfl; clear hK K
    refine Dwp.step tT rfl fun K hK => ?_
    have rest : ∀ a' σ', (a' 118 = .lit (.bool false) ∧ a' 2 = .row (EncR.sigd.enc s) 0 ∧ a' 1 = .lit (.string x) ∧ a' 5 = .slice 1 .none (rows1 up) ∧ a' 7 = .slice 1 .none (rows1 down) ∧ a' 8 = .lit (.int .i64 0) ∧ a' 9 = .lit (.bool is) ∧ a' 10 = .lit (.int .i64 0) ∧ a' 56 = .slice 1 tag (rows1 (allS s)) ∧ a' 58 = .lit (.int .i64 i) ∧ a' 57 = .lit (.int .i64 (allS s).length)) → σ'.n = σ.n + 1 + 3 + 8 + 31 + 8 → K a' σ' := by
      rintro a' σ' ⟨h118, h2, h1, h5, h7, h8, h9, h10, h56, h58, h57⟩ hn
      refine hK _ _ ?_ hn
      refine Dwp.condF (by simp [eval, h118]) (Dwp.skip ?_)
      exact ⟨h58, h57, tag, by simp [upd, h2], by simp [upd, h1], by simp [upd, h5], by simp [upd, h7], by simp [upd, h8], by simp [upd, h9], by simp [upd, h10], by simp [upd, h56]⟩
    have hvb : is = true → s.at b x = true → vb = true := fun h1 h2 => by
      obtain ⟨v, hv, ha⟩ := v5.1 h1
      exact w5.2 ⟨v, hv, at_trans hok h2 ha⟩
    cases his : is with
    | false =>
      simp [h9, his, ty22]
      exact rest _ _ (by simp [upd, h2, h1, h5, h7, h8, h9, his, h10, h56, hidx, hlen]) rfl
    | true =>
      by_cases hab : s.at b x = true
      · have := hvb his hab
        simp [h7, h9, his, p3, hab, this]
        exact rest _ _ (by simp [upd, h2, h1, h5, h7, h8, h9, his, h10, h56, hidx, hlen]) rfl
      · have hab' : s.at b x = false := by simpa using hab
        simp [h7, h9, his, p3, hab']
        exact rest _ _ (by simp [upd, h2, h1, h5, h7, h8, h9, his, h10, h56, hidx, hlen]) rfl
  · rintro a σ hidx hlen ⟨tag, h2, h1, h5, h7, h8, h9, h10, h56⟩
    refine Dwp.step tT rfl fun K hK => ?_
    simp [h8, h10, g11]
    refine hK _ _ (Dwp.ret ?_) rfl
    exact fin _ _ (by simp [upd])
theorem e8 : Go.FA.Good Tryz.prog (8, s8) := ⟨c8, Tryz.f8, _, Tryz.func8, rfl, by decide⟩
end Go.Proofs.Yt
namespace Go.Proofs.Yt
open Go Go.FA Go.Proofs
set_option linter.unusedVariables false
set_option linter.unusedSimpArgs false
set_option maxRecDepth 100000

theorem take_eq_succ {α : Type} {l m : List α} {i : Nat} (hl : i < l.length) (hm : i < m.length) (h : l.take i = m.take i) (he : l[i] = m[i]) : l.take (i + 1) = m.take (i + 1) := by
  rw [List.take_succ_eq_append_getElem hl, List.take_succ_eq_append_getElem hm, h, he]
def s60 : Sp := sp (arg2 Enc.strs Enc.strs) Enc.bool (fun x => if x.1.length ≤ 1048576 ∧ x.2.length ≤ 1048576 then some (decide (x.1 = x.2)) else none)
attribute [local simp] drunL drunO dwanted dopS own plainOf dop dput eval ofVal Then Ex.then Ex.inBlock upd dbin Tag.isNN nilTest intCmp dload dpart TyI.agg dfieldAddr dfield dindexAddr dindex dlen lenOk dlookup mapOf keyFits dmapUpdate dcallee dbuiltin dstore DV.cells dslice dboundOk dappend appTag rowsOf elemOk growLimit dbuildCells dbuildCells.go structOk fieldsOk dbuildRows goInt
theorem c60 : CallSound Tryz.prog 60 s60 := by
  refine CallSound.of_sp (T := tabOf []) Tryz.func60 rfl (Nat.le_of_ble_eq_true rfl) fun E xx y hy => ?_
  obtain ⟨l, m⟩ := xx
  simp only [] at hy
  split at hy
  case isFalse => cases hy
  next hlim =>
  obtain ⟨hl, hm⟩ := hlim
  cases hy
  have hl' : l.length ≤ 16777216 := by omega
  have tT := tab0 (P := Tryz.prog)
  refine Dwp.step tT rfl fun K hK => ?_
  simp [dcall, tabOf, setAt, init, arg2, EncR.and, EncR.one]
  refine hK _ _ ?_ rfl; clear hK K
  refine Dwp.seq ?_
  refine Dwp.step tT rfl fun K hK => ?_
  by_cases hlen : l.length = m.length
  case neg =>
    have hlen' : ((l.length : Int) != (m.length : Int)) = true := by simp; omega
    simp [dcall, tabOf, setAt, init, ty22, strsC, hlen']
    refine hK _ _ ?_ rfl; clear hK K
    refine Dwp.condT (by simp [eval, upd]) ?_
    refine Dwp.step tT rfl fun K hK => ?_
    simp [dcall, tabOf, setAt]
    refine hK _ _ (Dwp.ret ?_) rfl
    have : l ≠ m := fun e => hlen (by rw [e])
    simp [Done, dresults, dres, frz, frz1, frz2, Ex.then, upd, Enc.bool, this]
  simp [dcall, tabOf, setAt, init, ty22, strsC, hlen]
  refine hK _ _ ?_ rfl; clear hK K
  refine Dwp.condF (by simp [eval, upd]) (Dwp.skip ?_)
  refine Dwp.seq ?_
  refine Dwp.step tT rfl fun K hK => ?_
  simp [dcall, tabOf, setAt, init, ty22, strsC, hlen]
  refine hK _ _ ?_ rfl; clear hK K
  refine Dwp.range tT m.length (fun i a σ => a 0 = .slice 1 .none (rows1 l) ∧ a 1 = .slice 1 .none (rows1 m) ∧ l.take i = m.take i) ⟨rfl, rfl, rfl⟩ ⟨rfl, rfl, rfl⟩ ⟨rfl, rfl, rfl⟩ (by decide) (by decide) (by omega) (by simp [upd]) (by simp [upd]) (by simp [upd, init]) ?_ ?_
  · rintro i a σ hi hidx hlen2 ⟨h0, h1, htk⟩
    have hil : i < l.length := by omega
    refine Dwp.step tT rfl fun K hK => ?_
    simp [dcall, tabOf, setAt, hidx]
    refine hK _ _ ?_ rfl; clear hK K
    refine Dwp.drawStep [] mixed tT rfl (by decide) fun K hK => ?_
    by_cases he : l[i] = m[i]
    · simp [drunT, touch, touchP, dcall, tabOf, setAt, h0, h1, ty22, ty9, hi, hil, he]
      refine hK _ _ ?_ rfl; clear hK K
      refine Dwp.condF (by simp [eval, upd]) (Dwp.skip ?_)
      exact ⟨by simp [upd, hidx], by simp [upd, hlen2], by simp [upd, h0], by simp [upd, h1], take_eq_succ hil hi htk he⟩
    · simp [drunT, touch, touchP, dcall, tabOf, setAt, h0, h1, ty22, ty9, hi, hil, he]
      refine hK _ _ ?_ rfl; clear hK K
      refine Dwp.condT (by simp [eval, upd]) ?_
      refine Dwp.step tT rfl fun K hK => ?_
      simp [dcall, tabOf, setAt]
      refine hK _ _ (Dwp.ret ?_) rfl
      have : l ≠ m := fun e => he (by subst e; rfl)
      simp [Done, dresults, dres, frz, frz1, frz2, Round, Ex.then, upd, Enc.bool, this]
  · rintro a σ hidx hlen2 ⟨h0, h1, htk⟩
    have : l = m := by rwa [List.take_of_length_le (by omega), List.take_of_length_le (by omega)] at htk
    refine Dwp.step tT rfl fun K hK => ?_
    simp [dcall, tabOf, setAt]
    refine hK _ _ (Dwp.ret ?_) rfl
    simp [Done, dresults, dres, frz, frz1, frz2, Ex.then, upd, Enc.bool, this]
theorem e60 : Go.FA.Good Tryz.prog (60, s60) := ⟨c60, Tryz.f60, _, Tryz.func60, rfl, by decide⟩
def s29 : Sp := sp (arg2 Enc.strs Enc.strs) Enc.bool (fun x => if x.1.length ≤ 1048576 ∧ x.2.length ≤ 1048576 then some (decide (x.1 = x.2)) else none)
theorem c29 : CallSound Tryz.prog 29 s29 := by
  refine CallSound.of_sp (T := tabOf []) Tryz.func29 rfl (Nat.le_of_ble_eq_true rfl) fun E xx y hy => ?_
  obtain ⟨l, m⟩ := xx
  simp only [] at hy
  split at hy
  case isFalse => cases hy
  next hlim =>
  obtain ⟨hl, hm⟩ := hlim
  cases hy
  have hl' : l.length ≤ 16777216 := by omega
  have tT := tab0 (P := Tryz.prog)
  refine Dwp.step tT rfl fun K hK => ?_
  simp [dcall, tabOf, setAt, init, arg2, EncR.and, EncR.one]
  refine hK _ _ ?_ rfl; clear hK K
  refine Dwp.seq ?_
  refine Dwp.step tT rfl fun K hK => ?_
  by_cases hlen : l.length = m.length
  case neg =>
    have hlen' : ((l.length : Int) != (m.length : Int)) = true := by simp; omega
    simp [dcall, tabOf, setAt, init, ty22, strsC, hlen']
    refine hK _ _ ?_ rfl; clear hK K
    refine Dwp.condT (by simp [eval, upd]) ?_
    refine Dwp.step tT rfl fun K hK => ?_
    simp [dcall, tabOf, setAt]
    refine hK _ _ (Dwp.ret ?_) rfl
    have : l ≠ m := fun e => hlen (by rw [e])
    simp [Done, dresults, dres, frz, frz1, frz2, Ex.then, upd, Enc.bool, this]
  simp [dcall, tabOf, setAt, init, ty22, strsC, hlen]
  refine hK _ _ ?_ rfl; clear hK K
  refine Dwp.condF (by simp [eval, upd]) (Dwp.skip ?_)
  refine Dwp.seq ?_
  refine Dwp.step tT rfl fun K hK => ?_
  simp [dcall, tabOf, setAt, init, ty22, strsC, hlen]
  refine hK _ _ ?_ rfl; clear hK K
  refine Dwp.range tT m.length (fun i a σ => a 0 = .slice 1 .none (rows1 l) ∧ a 1 = .slice 1 .none (rows1 m) ∧ l.take i = m.take i) ⟨rfl, rfl, rfl⟩ ⟨rfl, rfl, rfl⟩ ⟨rfl, rfl, rfl⟩ (by decide) (by decide) (by omega) (by simp [upd]) (by simp [upd]) (by simp [upd, init]) ?_ ?_
  · rintro i a σ hi hidx hlen2 ⟨h0, h1, htk⟩
    have hil : i < l.length := by omega
    refine Dwp.step tT rfl fun K hK => ?_
    simp [dcall, tabOf, setAt, hidx]
    refine hK _ _ ?_ rfl; clear hK K
    refine Dwp.drawStep [] mixed tT rfl (by decide) fun K hK => ?_
    by_cases he : l[i] = m[i]
    · simp [drunT, touch, touchP, dcall, tabOf, setAt, h0, h1, ty22, ty9, hi, hil, he]
      refine hK _ _ ?_ rfl; clear hK K
      refine Dwp.condF (by simp [eval, upd]) (Dwp.skip ?_)
      exact ⟨by simp [upd, hidx], by simp [upd, hlen2], by simp [upd, h0], by simp [upd, h1], take_eq_succ hil hi htk he⟩
    · simp [drunT, touch, touchP, dcall, tabOf, setAt, h0, h1, ty22, ty9, hi, hil, he]
      refine hK _ _ ?_ rfl; clear hK K
      refine Dwp.condT (by simp [eval, upd]) ?_
      refine Dwp.step tT rfl fun K hK => ?_
      simp [dcall, tabOf, setAt]
      refine hK _ _ (Dwp.ret ?_) rfl
      have : l ≠ m := fun e => he (by subst e; rfl)
      simp [Done, dresults, dres, frz, frz1, frz2, Round, Ex.then, upd, Enc.bool, this]
  · rintro a σ hidx hlen2 ⟨h0, h1, htk⟩
    have : l = m := by rwa [List.take_of_length_le (by omega), List.take_of_length_le (by omega)] at htk
    refine Dwp.step tT rfl fun K hK => ?_
    simp [dcall, tabOf, setAt]
    refine hK _ _ (Dwp.ret ?_) rfl
    simp [Done, dresults, dres, frz, frz1, frz2, Ex.then, upd, Enc.bool, this]
theorem e29 : Go.FA.Good Tryz.prog (29, s29) := ⟨c29, Tryz.f29, _, Tryz.func29, rfl, by decide⟩

theorem call60 (T : Tab) (hT : T 60 = some s60) (l m : List ByteArray) (hl : l.length ≤ 1048576) (hm : m.length ≤ 1048576) : dcall T 60 [Enc.strs.enc l, Enc.strs.enc m] = some (.lit (.bool (decide (l = m)))) :=
  dcall2 (A := Enc.strs) (B := Enc.strs) (C := Enc.bool) hT (if_pos ⟨hl, hm⟩)
end Go.Proofs.Yt
namespace Go.Proofs.Yt
open Go Go.FA Go.Proofs
set_option linter.unusedVariables false
set_option linter.unusedSimpArgs false
set_option maxRecDepth 100000

@[simp] theorem pieLen (x : Pie) : (EncR.pie.enc x).length = 2 := rfl
@[simp] theorem pieTake (x : Pie) : (EncR.pie.enc x).take 2 = EncR.pie.enc x := rfl
@[simp] theorem belLen (x : Bel) : (EncR.bel.enc x).length = 2 := rfl
@[simp] theorem belTake (x : Bel) : (EncR.bel.enc x).take 2 = EncR.bel.enc x := rfl
theorem sk69 (x y : ByteArray) : structKey Tryz.prog 69 [.string x, .string y] = true := by kernel_rfl
theorem ng69 : Tryz.prog.eqGuardType Tryz.prog.depth 69 = false := by kernel_rfl
theorem ng78 : Tryz.prog.eqGuardType Tryz.prog.depth 78 = false := by kernel_rfl
theorem eqPie (x y : Pie) : eqStruct Tryz.prog 69 (EncR.pie.enc x) (EncR.pie.enc y) = some (decide (x = y)) := by
  obtain ⟨a, b⟩ := x
  obtain ⟨c, d⟩ := y
  simp only [eqStruct, EncR.pie, litsOf_cons, litsOf_nil, Option.map_some, sk69, ng69, Bool.not_false, Bool.and_self, if_true, Pie.mk.injEq, eqVals, eqKey]
  by_cases h1 : a = c <;> by_cases h2 : b = d <;> simp [h1, h2]
theorem eqBelS (x y : Bel) : eqStruct Tryz.prog 78 (EncR.bel.enc x) (EncR.bel.enc y) = some (decide (x = y)) := by
  obtain ⟨a, b⟩ := x
  obtain ⟨c, d⟩ := y
  simp only [eqStruct, EncR.bel, litsOf_cons, litsOf_nil, Option.map_some, sk78, ng78, Bool.not_false, Bool.and_self, if_true, Bel.mk.injEq, eqVals, eqKey]
  by_cases h1 : a = c <;> by_cases h2 : b = d <;> simp [h1, h2]
instance : DecidableEq OpD := fun a b => decidable_of_iff (a.name = b.name ∧ a.args = b.args ∧ a.sort = b.sort ∧ a.pieces = b.pieces ∧ a.prec = b.prec ∧ a.assoc = b.assoc ∧ a.strict = b.strict) (by cases a; cases b; simp)
instance : DecidableEq SigD := fun a b => decidable_of_iff (a.sorts = b.sorts ∧ a.below = b.below ∧ a.ops = b.ops ∧ a.funs = b.funs ∧ a.values = b.values) (by cases a; cases b; simp)
instance (o : OpD) : Decidable o.fits := by unfold OpD.fits; infer_instance
def s24 : Sp := sp (arg2 Enc.opd Enc.opd) Enc.bool (fun x => if x.1.fits ∧ x.2.fits then some (decide (x.1 = x.2)) else none)
abbrev T24 : Tab := tabOf [(60, s60)]
theorem t24 : TabOk Tryz.prog T24 := .cons e60 .nil
attribute [local simp] drunL drunO dwanted dopS own plainOf dop dput eval ofVal Then Ex.then Ex.inBlock upd dbin Tag.isNN nilTest intCmp dload dpart TyI.agg dfieldAddr dfield dindexAddr dindex dlen lenOk dlookup mapOf keyFits dmapUpdate dcallee dbuiltin dstore DV.cells dslice dboundOk dappend appTag rowsOf elemOk growLimit dbuildCells dbuildCells.go structOk fieldsOk dbuildRows goInt
set_option maxHeartbeats 2000000 in
theorem c24 : CallSound Tryz.prog 24 s24 := by
  refine CallSound.of_sp (T := T24) Tryz.func24 rfl (Nat.le_of_ble_eq_true rfl) fun E xx y hy => ?_
  obtain ⟨o, p⟩ := xx
  simp only [] at hy
  split at hy
  case isFalse => cases hy
  next hfit =>
  obtain ⟨⟨l1, l2, l3⟩, m1, m2, m3⟩ := hfit
  cases hy
  have g60 := call60 T24 rfl o.args p.args l1 m1
  have tT := t24
  generalize T24 = T at *
  have no : ∀ (a : Nat → DV) (σ : St), a 4 = .lit (.bool false) → o ≠ p → Done Tryz.prog Tryz.f24.results Enc.bool (decide (o = p)) Ex.ret a σ := by
    intro a σ h2 hne
    refine ⟨.inr rfl, .lit (.bool false), ?_, by simp [hne, Done, dresults, dres, frz, frz1, frz2, Enc.bool]⟩
    show dresults Tryz.prog σ a [ResultVar.tmp 4] = _
    simp [dresults, dres, h2]
  refine Dwp.step tT rfl fun K hK => ?_
  simp [init, arg2, EncR.and, EncR.one, Enc.opd, Enc.agg]
  refine hK _ _ ?_ rfl; clear hK K
  refine Dwp.seq ?_
  refine Dwp.step tT rfl fun K hK => ?_
  repeat (first
    | (refine Then.stepD rfl rfl (fun K1 hK1 => ?_); simp [Then1, Guarded, ty38, ty9, ty3, ty35, ty22, ty34, ty36, ty69, piesC, intsC, Bool.not_true]; refine hK1 _ _ ?_; clear hK1 K1)
    | (refine Then.stepG rfl rfl rfl (fun K1 hK1 => ?_); simp [Then1, Guarded, ty38, ty9, ty3, ty35, ty22, ty34, ty36, ty69, piesC, intsC, Bool.not_true]; refine hK1 _ _ ?_; clear hK1 K1)
    | (refine Then.stepN rfl rfl (fun K1 hK1 => ?_); simp [Then1, Guarded, ty38, ty9, ty3, ty35, ty22, ty34, ty36, ty69, piesC, intsC, Bool.not_true]; refine hK1 _ _ ?_; clear hK1 K1)
    | (refine Then.stepGN rfl rfl rfl (fun K1 hK1 => ?_); simp [Then1, Guarded, ty38, ty9, ty3, ty35, ty22, ty34, ty36, ty69, piesC, intsC, Bool.not_true]; refine hK1 _ _ ?_; clear hK1 K1))
  by_cases h1 : o.name = p.name
  case neg =>
    repeat (first
      | (refine Then.stepD rfl rfl (fun K1 hK1 => ?_); simp [Then1, Guarded, ty38, ty9, ty3, ty35, ty22, ty34, ty36, ty69, piesC, intsC, h1]; refine hK1 _ _ ?_; clear hK1 K1)
      | (refine Then.stepG rfl rfl rfl (fun K1 hK1 => ?_); simp [Then1, Guarded, ty38, ty9, ty3, ty35, ty22, ty34, ty36, ty69, piesC, intsC, h1]; refine hK1 _ _ ?_; clear hK1 K1)
      | (refine Then.stepN rfl rfl (fun K1 hK1 => ?_); simp [Then1, Guarded, ty38, ty9, ty3, ty35, ty22, ty34, ty36, ty69, piesC, intsC, h1]; refine hK1 _ _ ?_; clear hK1 K1)
      | (refine Then.stepGN rfl rfl rfl (fun K1 hK1 => ?_); simp [Then1, Guarded, ty38, ty9, ty3, ty35, ty22, ty34, ty36, ty69, piesC, intsC, h1]; refine hK1 _ _ ?_; clear hK1 K1))
    refine Then.done (hK _ _ ?_ rfl)
    clear hK K
    refine Dwp.condT (by simp [eval, upd] <;> omega) ?_
    refine Dwp.step tT rfl fun K hK => ?_
    simp []
    refine hK _ _ (Dwp.ret ?_) rfl
    exact no _ _ (by simp [upd]) fun e => h1 (by rw [e])
  repeat (first
    | (refine Then.stepD rfl rfl (fun K1 hK1 => ?_); simp [Then1, Guarded, ty38, ty9, ty3, ty35, ty22, ty34, ty36, ty69, piesC, intsC, h1]; refine hK1 _ _ ?_; clear hK1 K1)
    | (refine Then.stepG rfl rfl rfl (fun K1 hK1 => ?_); simp [Then1, Guarded, ty38, ty9, ty3, ty35, ty22, ty34, ty36, ty69, piesC, intsC, h1]; refine hK1 _ _ ?_; clear hK1 K1)
    | (refine Then.stepN rfl rfl (fun K1 hK1 => ?_); simp [Then1, Guarded, ty38, ty9, ty3, ty35, ty22, ty34, ty36, ty69, piesC, intsC, h1]; refine hK1 _ _ ?_; clear hK1 K1)
    | (refine Then.stepGN rfl rfl rfl (fun K1 hK1 => ?_); simp [Then1, Guarded, ty38, ty9, ty3, ty35, ty22, ty34, ty36, ty69, piesC, intsC, h1]; refine hK1 _ _ ?_; clear hK1 K1))
  by_cases h2 : o.sort = p.sort
  case neg =>
    repeat (first
      | (refine Then.stepD rfl rfl (fun K1 hK1 => ?_); simp [Then1, Guarded, ty38, ty9, ty3, ty35, ty22, ty34, ty36, ty69, piesC, intsC, h1, h2]; refine hK1 _ _ ?_; clear hK1 K1)
      | (refine Then.stepG rfl rfl rfl (fun K1 hK1 => ?_); simp [Then1, Guarded, ty38, ty9, ty3, ty35, ty22, ty34, ty36, ty69, piesC, intsC, h1, h2]; refine hK1 _ _ ?_; clear hK1 K1)
      | (refine Then.stepN rfl rfl (fun K1 hK1 => ?_); simp [Then1, Guarded, ty38, ty9, ty3, ty35, ty22, ty34, ty36, ty69, piesC, intsC, h1, h2]; refine hK1 _ _ ?_; clear hK1 K1)
      | (refine Then.stepGN rfl rfl rfl (fun K1 hK1 => ?_); simp [Then1, Guarded, ty38, ty9, ty3, ty35, ty22, ty34, ty36, ty69, piesC, intsC, h1, h2]; refine hK1 _ _ ?_; clear hK1 K1))
    refine Then.done (hK _ _ ?_ rfl)
    clear hK K
    refine Dwp.condT (by simp [eval, upd] <;> omega) ?_
    refine Dwp.step tT rfl fun K hK => ?_
    simp []
    refine hK _ _ (Dwp.ret ?_) rfl
    exact no _ _ (by simp [upd]) fun e => h2 (by rw [e])
  repeat (first
    | (refine Then.stepD rfl rfl (fun K1 hK1 => ?_); simp [Then1, Guarded, ty38, ty9, ty3, ty35, ty22, ty34, ty36, ty69, piesC, intsC, h1, h2]; refine hK1 _ _ ?_; clear hK1 K1)
    | (refine Then.stepG rfl rfl rfl (fun K1 hK1 => ?_); simp [Then1, Guarded, ty38, ty9, ty3, ty35, ty22, ty34, ty36, ty69, piesC, intsC, h1, h2]; refine hK1 _ _ ?_; clear hK1 K1)
    | (refine Then.stepN rfl rfl (fun K1 hK1 => ?_); simp [Then1, Guarded, ty38, ty9, ty3, ty35, ty22, ty34, ty36, ty69, piesC, intsC, h1, h2]; refine hK1 _ _ ?_; clear hK1 K1)
    | (refine Then.stepGN rfl rfl rfl (fun K1 hK1 => ?_); simp [Then1, Guarded, ty38, ty9, ty3, ty35, ty22, ty34, ty36, ty69, piesC, intsC, h1, h2]; refine hK1 _ _ ?_; clear hK1 K1))
  by_cases h3 : o.prec = p.prec
  case neg =>
    have h3n : (o.prec != p.prec) = true := by simp; omega
    repeat (first
      | (refine Then.stepD rfl rfl (fun K1 hK1 => ?_); simp [Then1, Guarded, ty38, ty9, ty3, ty35, ty22, ty34, ty36, ty69, piesC, intsC, h1, h2, h3n]; refine hK1 _ _ ?_; clear hK1 K1)
      | (refine Then.stepG rfl rfl rfl (fun K1 hK1 => ?_); simp [Then1, Guarded, ty38, ty9, ty3, ty35, ty22, ty34, ty36, ty69, piesC, intsC, h1, h2, h3n]; refine hK1 _ _ ?_; clear hK1 K1)
      | (refine Then.stepN rfl rfl (fun K1 hK1 => ?_); simp [Then1, Guarded, ty38, ty9, ty3, ty35, ty22, ty34, ty36, ty69, piesC, intsC, h1, h2, h3n]; refine hK1 _ _ ?_; clear hK1 K1)
      | (refine Then.stepGN rfl rfl rfl (fun K1 hK1 => ?_); simp [Then1, Guarded, ty38, ty9, ty3, ty35, ty22, ty34, ty36, ty69, piesC, intsC, h1, h2, h3n]; refine hK1 _ _ ?_; clear hK1 K1))
    refine Then.done (hK _ _ ?_ rfl)
    clear hK K
    refine Dwp.condT (by simp [eval, upd] <;> omega) ?_
    refine Dwp.step tT rfl fun K hK => ?_
    simp []
    refine hK _ _ (Dwp.ret ?_) rfl
    exact no _ _ (by simp [upd]) fun e => h3 (by rw [e])
  have h3p : (o.prec != p.prec) = false := by simp; omega
  repeat (first
    | (refine Then.stepD rfl rfl (fun K1 hK1 => ?_); simp [Then1, Guarded, ty38, ty9, ty3, ty35, ty22, ty34, ty36, ty69, piesC, intsC, h1, h2, h3p]; refine hK1 _ _ ?_; clear hK1 K1)
    | (refine Then.stepG rfl rfl rfl (fun K1 hK1 => ?_); simp [Then1, Guarded, ty38, ty9, ty3, ty35, ty22, ty34, ty36, ty69, piesC, intsC, h1, h2, h3p]; refine hK1 _ _ ?_; clear hK1 K1)
    | (refine Then.stepN rfl rfl (fun K1 hK1 => ?_); simp [Then1, Guarded, ty38, ty9, ty3, ty35, ty22, ty34, ty36, ty69, piesC, intsC, h1, h2, h3p]; refine hK1 _ _ ?_; clear hK1 K1)
    | (refine Then.stepGN rfl rfl rfl (fun K1 hK1 => ?_); simp [Then1, Guarded, ty38, ty9, ty3, ty35, ty22, ty34, ty36, ty69, piesC, intsC, h1, h2, h3p]; refine hK1 _ _ ?_; clear hK1 K1))
  by_cases h4 : o.assoc = p.assoc
  case neg =>
    have h4n : (o.assoc != p.assoc) = true := by simp; omega
    repeat (first
      | (refine Then.stepD rfl rfl (fun K1 hK1 => ?_); simp [Then1, Guarded, ty38, ty9, ty3, ty35, ty22, ty34, ty36, ty69, piesC, intsC, h1, h2, h3p, h4n]; refine hK1 _ _ ?_; clear hK1 K1)
      | (refine Then.stepG rfl rfl rfl (fun K1 hK1 => ?_); simp [Then1, Guarded, ty38, ty9, ty3, ty35, ty22, ty34, ty36, ty69, piesC, intsC, h1, h2, h3p, h4n]; refine hK1 _ _ ?_; clear hK1 K1)
      | (refine Then.stepN rfl rfl (fun K1 hK1 => ?_); simp [Then1, Guarded, ty38, ty9, ty3, ty35, ty22, ty34, ty36, ty69, piesC, intsC, h1, h2, h3p, h4n]; refine hK1 _ _ ?_; clear hK1 K1)
      | (refine Then.stepGN rfl rfl rfl (fun K1 hK1 => ?_); simp [Then1, Guarded, ty38, ty9, ty3, ty35, ty22, ty34, ty36, ty69, piesC, intsC, h1, h2, h3p, h4n]; refine hK1 _ _ ?_; clear hK1 K1))
    refine Then.done (hK _ _ ?_ rfl)
    clear hK K
    refine Dwp.condT (by simp [eval, upd] <;> omega) ?_
    refine Dwp.step tT rfl fun K hK => ?_
    simp []
    refine hK _ _ (Dwp.ret ?_) rfl
    exact no _ _ (by simp [upd]) fun e => h4 (by rw [e])
  have h4p : (o.assoc != p.assoc) = false := by simp; omega
  repeat (first
    | (refine Then.stepD rfl rfl (fun K1 hK1 => ?_); simp [Then1, Guarded, ty38, ty9, ty3, ty35, ty22, ty34, ty36, ty69, piesC, intsC, h1, h2, h3p, h4p, g60]; refine hK1 _ _ ?_; clear hK1 K1)
    | (refine Then.stepG rfl rfl rfl (fun K1 hK1 => ?_); simp [Then1, Guarded, ty38, ty9, ty3, ty35, ty22, ty34, ty36, ty69, piesC, intsC, h1, h2, h3p, h4p, g60]; refine hK1 _ _ ?_; clear hK1 K1)
    | (refine Then.stepN rfl rfl (fun K1 hK1 => ?_); simp [Then1, Guarded, ty38, ty9, ty3, ty35, ty22, ty34, ty36, ty69, piesC, intsC, h1, h2, h3p, h4p, g60]; refine hK1 _ _ ?_; clear hK1 K1)
    | (refine Then.stepGN rfl rfl rfl (fun K1 hK1 => ?_); simp [Then1, Guarded, ty38, ty9, ty3, ty35, ty22, ty34, ty36, ty69, piesC, intsC, h1, h2, h3p, h4p, g60]; refine hK1 _ _ ?_; clear hK1 K1))
  by_cases h5 : o.args = p.args
  case neg =>
    repeat (first
      | (refine Then.stepD rfl rfl (fun K1 hK1 => ?_); simp [Then1, Guarded, ty38, ty9, ty3, ty35, ty22, ty34, ty36, ty69, piesC, intsC, h1, h2, h3p, h4p, h5, g60]; refine hK1 _ _ ?_; clear hK1 K1)
      | (refine Then.stepG rfl rfl rfl (fun K1 hK1 => ?_); simp [Then1, Guarded, ty38, ty9, ty3, ty35, ty22, ty34, ty36, ty69, piesC, intsC, h1, h2, h3p, h4p, h5, g60]; refine hK1 _ _ ?_; clear hK1 K1)
      | (refine Then.stepN rfl rfl (fun K1 hK1 => ?_); simp [Then1, Guarded, ty38, ty9, ty3, ty35, ty22, ty34, ty36, ty69, piesC, intsC, h1, h2, h3p, h4p, h5, g60]; refine hK1 _ _ ?_; clear hK1 K1)
      | (refine Then.stepGN rfl rfl rfl (fun K1 hK1 => ?_); simp [Then1, Guarded, ty38, ty9, ty3, ty35, ty22, ty34, ty36, ty69, piesC, intsC, h1, h2, h3p, h4p, h5, g60]; refine hK1 _ _ ?_; clear hK1 K1))
    refine Then.done (hK _ _ ?_ rfl)
    clear hK K
    refine Dwp.condT (by simp [eval, upd] <;> omega) ?_
    refine Dwp.step tT rfl fun K hK => ?_
    simp []
    refine hK _ _ (Dwp.ret ?_) rfl
    exact no _ _ (by simp [upd]) fun e => h5 (by rw [e])
  have g60p : dcall T 60 [Enc.strs.enc p.args, Enc.strs.enc p.args] = some (.lit (.bool true)) := by rw [h5] at g60; simpa using g60
  repeat (first
    | (refine Then.stepD rfl rfl (fun K1 hK1 => ?_); simp [Then1, Guarded, ty38, ty9, ty3, ty35, ty22, ty34, ty36, ty69, piesC, intsC, h1, h2, h3p, h4p, h5, g60p]; refine hK1 _ _ ?_; clear hK1 K1)
    | (refine Then.stepG rfl rfl rfl (fun K1 hK1 => ?_); simp [Then1, Guarded, ty38, ty9, ty3, ty35, ty22, ty34, ty36, ty69, piesC, intsC, h1, h2, h3p, h4p, h5, g60p]; refine hK1 _ _ ?_; clear hK1 K1)
    | (refine Then.stepN rfl rfl (fun K1 hK1 => ?_); simp [Then1, Guarded, ty38, ty9, ty3, ty35, ty22, ty34, ty36, ty69, piesC, intsC, h1, h2, h3p, h4p, h5, g60p]; refine hK1 _ _ ?_; clear hK1 K1)
    | (refine Then.stepGN rfl rfl rfl (fun K1 hK1 => ?_); simp [Then1, Guarded, ty38, ty9, ty3, ty35, ty22, ty34, ty36, ty69, piesC, intsC, h1, h2, h3p, h4p, h5, g60p]; refine hK1 _ _ ?_; clear hK1 K1))
  by_cases h6 : o.pieces.length = p.pieces.length
  case neg =>
    have h6n : ((o.pieces.length : Int) != (p.pieces.length : Int)) = true := by simp; omega
    repeat (first
      | (refine Then.stepD rfl rfl (fun K1 hK1 => ?_); simp [Then1, Guarded, ty38, ty9, ty3, ty35, ty22, ty34, ty36, ty69, piesC, intsC, h1, h2, h3p, h4p, h5, h6n, g60p]; refine hK1 _ _ ?_; clear hK1 K1)
      | (refine Then.stepG rfl rfl rfl (fun K1 hK1 => ?_); simp [Then1, Guarded, ty38, ty9, ty3, ty35, ty22, ty34, ty36, ty69, piesC, intsC, h1, h2, h3p, h4p, h5, h6n, g60p]; refine hK1 _ _ ?_; clear hK1 K1)
      | (refine Then.stepN rfl rfl (fun K1 hK1 => ?_); simp [Then1, Guarded, ty38, ty9, ty3, ty35, ty22, ty34, ty36, ty69, piesC, intsC, h1, h2, h3p, h4p, h5, h6n, g60p]; refine hK1 _ _ ?_; clear hK1 K1)
      | (refine Then.stepGN rfl rfl rfl (fun K1 hK1 => ?_); simp [Then1, Guarded, ty38, ty9, ty3, ty35, ty22, ty34, ty36, ty69, piesC, intsC, h1, h2, h3p, h4p, h5, h6n, g60p]; refine hK1 _ _ ?_; clear hK1 K1))
    refine Then.done (hK _ _ ?_ rfl)
    clear hK K
    refine Dwp.condT (by simp [eval, upd] <;> omega) ?_
    refine Dwp.step tT rfl fun K hK => ?_
    simp []
    refine hK _ _ (Dwp.ret ?_) rfl
    exact no _ _ (by simp [upd]) fun e => h6 (by rw [e])
  have h6p : ((o.pieces.length : Int) != (p.pieces.length : Int)) = false := by simp; omega
  repeat (first
    | (refine Then.stepD rfl rfl (fun K1 hK1 => ?_); simp [Then1, Guarded, ty38, ty9, ty3, ty35, ty22, ty34, ty36, ty69, piesC, intsC, h1, h2, h3p, h4p, h5, h6p, g60p]; refine hK1 _ _ ?_; clear hK1 K1)
    | (refine Then.stepG rfl rfl rfl (fun K1 hK1 => ?_); simp [Then1, Guarded, ty38, ty9, ty3, ty35, ty22, ty34, ty36, ty69, piesC, intsC, h1, h2, h3p, h4p, h5, h6p, g60p]; refine hK1 _ _ ?_; clear hK1 K1)
    | (refine Then.stepN rfl rfl (fun K1 hK1 => ?_); simp [Then1, Guarded, ty38, ty9, ty3, ty35, ty22, ty34, ty36, ty69, piesC, intsC, h1, h2, h3p, h4p, h5, h6p, g60p]; refine hK1 _ _ ?_; clear hK1 K1)
    | (refine Then.stepGN rfl rfl rfl (fun K1 hK1 => ?_); simp [Then1, Guarded, ty38, ty9, ty3, ty35, ty22, ty34, ty36, ty69, piesC, intsC, h1, h2, h3p, h4p, h5, h6p, g60p]; refine hK1 _ _ ?_; clear hK1 K1))
  by_cases h7 : o.strict.length = p.strict.length
  case neg =>
    have h7n : ((o.strict.length : Int) != (p.strict.length : Int)) = true := by simp; omega
    repeat (first
      | (refine Then.stepD rfl rfl (fun K1 hK1 => ?_); simp [Then1, Guarded, ty38, ty9, ty3, ty35, ty22, ty34, ty36, ty69, piesC, intsC, h1, h2, h3p, h4p, h5, h6p, h7n, g60p]; refine hK1 _ _ ?_; clear hK1 K1)
      | (refine Then.stepG rfl rfl rfl (fun K1 hK1 => ?_); simp [Then1, Guarded, ty38, ty9, ty3, ty35, ty22, ty34, ty36, ty69, piesC, intsC, h1, h2, h3p, h4p, h5, h6p, h7n, g60p]; refine hK1 _ _ ?_; clear hK1 K1)
      | (refine Then.stepN rfl rfl (fun K1 hK1 => ?_); simp [Then1, Guarded, ty38, ty9, ty3, ty35, ty22, ty34, ty36, ty69, piesC, intsC, h1, h2, h3p, h4p, h5, h6p, h7n, g60p]; refine hK1 _ _ ?_; clear hK1 K1)
      | (refine Then.stepGN rfl rfl rfl (fun K1 hK1 => ?_); simp [Then1, Guarded, ty38, ty9, ty3, ty35, ty22, ty34, ty36, ty69, piesC, intsC, h1, h2, h3p, h4p, h5, h6p, h7n, g60p]; refine hK1 _ _ ?_; clear hK1 K1))
    refine Then.done (hK _ _ ?_ rfl)
    clear hK K
    refine Dwp.condT (by simp [eval, upd] <;> omega) ?_
    refine Dwp.step tT rfl fun K hK => ?_
    simp []
    refine hK _ _ (Dwp.ret ?_) rfl
    exact no _ _ (by simp [upd]) fun e => h7 (by rw [e])
  have h7p : ((o.strict.length : Int) != (p.strict.length : Int)) = false := by simp; omega
  repeat (first
    | (refine Then.stepD rfl rfl (fun K1 hK1 => ?_); simp [Then1, Guarded, ty38, ty9, ty3, ty35, ty22, ty34, ty36, ty69, piesC, intsC, h1, h2, h3p, h4p, h5, h6p, h7p, g60p]; refine hK1 _ _ ?_; clear hK1 K1)
    | (refine Then.stepG rfl rfl rfl (fun K1 hK1 => ?_); simp [Then1, Guarded, ty38, ty9, ty3, ty35, ty22, ty34, ty36, ty69, piesC, intsC, h1, h2, h3p, h4p, h5, h6p, h7p, g60p]; refine hK1 _ _ ?_; clear hK1 K1)
    | (refine Then.stepN rfl rfl (fun K1 hK1 => ?_); simp [Then1, Guarded, ty38, ty9, ty3, ty35, ty22, ty34, ty36, ty69, piesC, intsC, h1, h2, h3p, h4p, h5, h6p, h7p, g60p]; refine hK1 _ _ ?_; clear hK1 K1)
    | (refine Then.stepGN rfl rfl rfl (fun K1 hK1 => ?_); simp [Then1, Guarded, ty38, ty9, ty3, ty35, ty22, ty34, ty36, ty69, piesC, intsC, h1, h2, h3p, h4p, h5, h6p, h7p, g60p]; refine hK1 _ _ ?_; clear hK1 K1))
  refine Then.done (hK _ _ ?_ rfl)
  clear hK K
  refine Dwp.condF (by simp [eval, upd] <;> omega) (Dwp.skip ?_)
  refine Dwp.seq ?_
  refine Dwp.step tT rfl fun K hK => ?_
  simp [ty38, ty34, piesC]
  refine hK _ _ ?_ rfl; clear hK K
  refine Dwp.range tT o.pieces.length (fun i a σ => a 2 = .row (EncR.opd.enc o) 0 ∧ a 3 = .row (EncR.opd.enc p) 0 ∧ o.pieces.take i = p.pieces.take i) ⟨rfl, rfl, rfl⟩ ⟨rfl, rfl, rfl⟩ ⟨rfl, rfl, rfl⟩ (by decide) (by decide) (by omega) (by simp [upd]) (by simp [upd]) (by simp [upd, init]) ?_ ?_
  · rintro i a σ hi hidx hlen2 ⟨k2, k3, htk⟩
    have him : i < p.pieces.length := by omega
    refine Dwp.step tT rfl fun K hK => ?_
    simp [hidx]
    refine hK _ _ ?_ rfl; clear hK K
    refine Dwp.drawStep [] mixed tT rfl (by decide) fun K hK => ?_
    have he := eqPie o.pieces[i] p.pieces[i]
    by_cases hq : o.pieces[i] = p.pieces[i]
    · rw [hq] at he
      simp [drunT, touch, touchP, k2, k3, ty38, ty34, ty69, piesC, hi, him, hq, he]
      refine hK _ _ ?_ rfl; clear hK K
      refine Dwp.condF (by simp [eval, upd]) (Dwp.skip ?_)
      exact ⟨by simp [upd, hidx], by simp [upd, hlen2], by simp [upd, k2], by simp [upd, k3], take_eq_succ hi him htk hq⟩
    · simp [drunT, touch, touchP, k2, k3, ty38, ty34, ty69, piesC, hi, him, hq, he]
      refine hK _ _ ?_ rfl; clear hK K
      refine Dwp.condT (by simp [eval, upd]) ?_
      refine Dwp.step tT rfl fun K hK => ?_
      simp []
      refine hK _ _ (Dwp.ret ?_) rfl
      exact no _ _ (by simp [upd]) fun e => hq (by subst e; rfl)
  rintro a σ hidx hlen2 ⟨k2, k3, htk⟩
  have h8 : o.pieces = p.pieces := by rwa [List.take_of_length_le (by omega), List.take_of_length_le (by omega)] at htk
  clear htk hidx hlen2
  refine Dwp.seq ?_
  refine Dwp.step tT rfl fun K hK => ?_
  simp [k2, ty38, ty36, intsC]
  refine hK _ _ ?_ rfl; clear hK K
  refine Dwp.range tT o.strict.length (fun i a σ => a 2 = .row (EncR.opd.enc o) 0 ∧ a 3 = .row (EncR.opd.enc p) 0 ∧ o.strict.take i = p.strict.take i) ⟨rfl, rfl, rfl⟩ ⟨rfl, rfl, rfl⟩ ⟨rfl, rfl, rfl⟩ (by decide) (by decide) (by omega) (by simp [upd]) (by simp [upd]) (by simp [upd, k2, k3]) ?_ ?_
  · rintro i a σ hi hidx hlen2 ⟨k2, k3, htk⟩
    have him : i < p.strict.length := by omega
    refine Dwp.step tT rfl fun K hK => ?_
    simp [hidx]
    refine hK _ _ ?_ rfl; clear hK K
    refine Dwp.drawStep [] mixed tT rfl (by decide) fun K hK => ?_
    by_cases hq : o.strict[i] = p.strict[i]
    · simp [drunT, touch, touchP, k2, k3, ty38, ty36, ty3, intsC, hi, him, hq]
      refine hK _ _ ?_ rfl; clear hK K
      refine Dwp.condF (by simp [eval, upd]) (Dwp.skip ?_)
      exact ⟨by simp [upd, hidx], by simp [upd, hlen2], by simp [upd, k2], by simp [upd, k3], take_eq_succ hi him htk hq⟩
    · have hq' : (o.strict[i] != p.strict[i]) = true := by simpa using hq
      simp [drunT, touch, touchP, k2, k3, ty38, ty36, ty3, intsC, hi, him, hq']
      refine hK _ _ ?_ rfl; clear hK K
      refine Dwp.condT (by simp [eval, upd]) ?_
      refine Dwp.step tT rfl fun K hK => ?_
      simp []
      refine hK _ _ (Dwp.ret ?_) rfl
      exact no _ _ (by simp [upd]) fun e => hq (by subst e; rfl)
  rintro a σ hidx hlen2 ⟨k2, k3, htk⟩
  have h9 : o.strict = p.strict := by rwa [List.take_of_length_le (by omega), List.take_of_length_le (by omega)] at htk
  have heq : o = p := by
    obtain ⟨a1, a2, a3, a4, a5, a6, a7⟩ := o
    obtain ⟨b1, b2, b3, b4, b5, b6, b7⟩ := p
    simp only [] at h1 h2 h3 h4 h5 h8 h9
    subst h1 h2 h3 h4 h5 h8 h9; rfl
  refine Dwp.step tT rfl fun K hK => ?_
  simp []
  refine hK _ _ (Dwp.ret ?_) rfl
  simp [Done, dresults, dres, frz, frz1, frz2, Ex.then, upd, Enc.bool, heq]
theorem e24 : Go.FA.Good Tryz.prog (24, s24) := ⟨c24, Tryz.f24, _, Tryz.func24, rfl, by decide⟩
end Go.Proofs.Yt
namespace Go.Proofs.Yt
open Go Go.FA Go.Proofs
set_option linter.unusedVariables false
set_option linter.unusedSimpArgs false
set_option maxRecDepth 100000

theorem call24 (T : Tab) (hT : T 24 = some s24) (o p : OpD) (ho : o.fits) (hp : p.fits) : dcall T 24 [.agg (EncR.opd.enc o), .agg (EncR.opd.enc p)] = some (.lit (.bool (decide (o = p)))) :=
  dcall2 (A := Enc.opd) (B := Enc.opd) (C := Enc.bool) hT (if_pos ⟨ho, hp⟩)
def s74 : Sp := sp (arg2 Enc.ops Enc.ops) Enc.bool (fun x => if x.1.length ≤ 1048576 ∧ x.2.length ≤ 1048576 ∧ (∀ o ∈ x.1, o.fits) ∧ (∀ o ∈ x.2, o.fits) then some (decide (x.1 = x.2)) else none)
abbrev T74 : Tab := tabOf [(24, s24)]
theorem t74 : TabOk Tryz.prog T74 := .cons e24 .nil
attribute [local simp] drunL drunO dwanted dopS own plainOf dop dput eval ofVal Then Ex.then Ex.inBlock upd dbin Tag.isNN nilTest intCmp dload dpart TyI.agg dfieldAddr dfield dindexAddr dindex dlen lenOk dlookup mapOf keyFits dmapUpdate dcallee dbuiltin dstore DV.cells dslice dboundOk dappend appTag rowsOf elemOk growLimit dbuildCells dbuildCells.go structOk fieldsOk dbuildRows goInt
theorem c74 : CallSound Tryz.prog 74 s74 := by
  refine CallSound.of_sp (T := T74) Tryz.func74 rfl (Nat.le_of_ble_eq_true rfl) fun E xx y hy => ?_
  obtain ⟨l, m⟩ := xx
  simp only [] at hy
  split at hy
  case isFalse => cases hy
  next hlim =>
  obtain ⟨hl, hm, fl, fm⟩ := hlim
  cases hy
  have hl' : l.length ≤ 16777216 := by omega
  have g24 := call24 T74 rfl
  have tT := t74
  generalize T74 = T at *
  refine Dwp.step tT rfl fun K hK => ?_
  simp [init, arg2, EncR.and, EncR.one]
  refine hK _ _ ?_ rfl; clear hK K
  refine Dwp.seq ?_
  refine Dwp.step tT rfl fun K hK => ?_
  by_cases hlen : l.length = m.length
  case neg =>
    have hlen' : ((l.length : Int) != (m.length : Int)) = true := by simp; omega
    simp [init, ty24, opsC, hlen']
    refine hK _ _ ?_ rfl; clear hK K
    refine Dwp.condT (by simp [eval, upd]) ?_
    refine Dwp.step tT rfl fun K hK => ?_
    simp []
    refine hK _ _ (Dwp.ret ?_) rfl
    have : l ≠ m := fun e => hlen (by rw [e])
    simp [Done, dresults, dres, frz, frz1, frz2, Ex.then, upd, Enc.bool, this]
  simp [init, ty24, opsC, hlen]
  refine hK _ _ ?_ rfl; clear hK K
  refine Dwp.condF (by simp [eval, upd]) (Dwp.skip ?_)
  refine Dwp.seq ?_
  refine Dwp.step tT rfl fun K hK => ?_
  simp [init, ty24, opsC, hlen]
  refine hK _ _ ?_ rfl; clear hK K
  refine Dwp.range tT m.length (fun i a σ => a 0 = .slice 7 .none (l.map EncR.opd.enc) ∧ a 1 = .slice 7 .none (m.map EncR.opd.enc) ∧ l.take i = m.take i) ⟨rfl, rfl, rfl⟩ ⟨rfl, rfl, rfl⟩ ⟨rfl, rfl, rfl⟩ (by decide) (by decide) (by omega) (by simp [upd]) (by simp [upd]) (by simp [upd, init, opsC]) ?_ ?_
  · rintro i a σ hi hidx hlen2 ⟨h0, h1, htk⟩
    have hil : i < l.length := by omega
    refine Dwp.step tT rfl fun K hK => ?_
    simp [hidx]
    refine hK _ _ ?_ rfl; clear hK K
    have g := g24 l[i] m[i] (fl _ (List.getElem_mem hil)) (fm _ (List.getElem_mem hi))
    refine Dwp.drawStep [] mixed tT rfl (by decide) fun K hK => ?_
    by_cases he : l[i] = m[i]
    · simp only [he, decide_true] at g
      simp [drunT, touch, touchP, h0, h1, ty24, ty38, hi, hil, he, g]
      refine hK _ _ ?_ rfl; clear hK K
      refine Dwp.condF (by simp [eval, upd]) (Dwp.skip ?_)
      exact ⟨by simp [upd, hidx], by simp [upd, hlen2], by simp [upd, h0], by simp [upd, h1], take_eq_succ hil hi htk he⟩
    · simp only [he, decide_false] at g
      simp [drunT, touch, touchP, h0, h1, ty24, ty38, hi, hil, g]
      refine hK _ _ ?_ rfl; clear hK K
      refine Dwp.condT (by simp [eval, upd]) ?_
      refine Dwp.step tT rfl fun K hK => ?_
      simp []
      refine hK _ _ (Dwp.ret ?_) rfl
      have : l ≠ m := fun e => he (by subst e; rfl)
      simp [Done, dresults, dres, frz, frz1, frz2, Round, Ex.then, upd, Enc.bool, this]
  · rintro a σ hidx hlen2 ⟨h0, h1, htk⟩
    have : l = m := by rwa [List.take_of_length_le (by omega), List.take_of_length_le (by omega)] at htk
    refine Dwp.step tT rfl fun K hK => ?_
    simp []
    refine hK _ _ (Dwp.ret ?_) rfl
    simp [Done, dresults, dres, frz, frz1, frz2, Ex.then, upd, Enc.bool, this]
theorem e74 : Go.FA.Good Tryz.prog (74, s74) := ⟨c74, Tryz.f74, _, Tryz.func74, rfl, by decide⟩
theorem call74 (T : Tab) (hT : T 74 = some s74) (l m : List OpD) (hl : l.length ≤ 1048576) (hm : m.length ≤ 1048576) (fl : ∀ o ∈ l, o.fits) (fm : ∀ o ∈ m, o.fits) : dcall T 74 [Enc.ops.enc l, Enc.ops.enc m] = some (.lit (.bool (decide (l = m)))) :=
  dcall2 (A := Enc.ops) (B := Enc.ops) (C := Enc.bool) hT (if_pos ⟨hl, hm, fl, fm⟩)

theorem SigD.ok.fits {s : SigD} (h : s.ok) : (∀ o ∈ s.ops, o.fits) ∧ (∀ o ∈ s.funs, o.fits) := by
  refine ⟨fun o ho => ?_, fun o ho => ?_⟩
  · obtain ⟨_, a, b, c⟩ := h.2.2.2.2 o (.inl ho); exact ⟨a, b, c⟩
  · obtain ⟨_, a, b, c⟩ := h.2.2.2.2 o (.inr ho); exact ⟨a, b, c⟩
instance (s : SigD) : Decidable s.ok := decidable_of_iff (s.sorts.length ≤ 1048576 ∧ s.below.length ≤ 1048576 ∧ s.ops.length + s.funs.length ≤ 1048576 ∧ s.values.length ≤ 1048576 ∧
  ∀ o ∈ s.ops ++ s.funs, o.name.size ≤ 1048576 ∧ o.args.length ≤ 1048576 ∧ o.pieces.length ≤ 1048576 ∧ o.strict.length ≤ 1048576) (by unfold SigD.ok; simp only [List.mem_append])
def s34 : Sp := sp (arg2 Enc.sigd Enc.sigd) Enc.bool (fun x => if x.1.ok ∧ x.2.ok then some (decide (x.1 = x.2)) else none)
abbrev T34 : Tab := tabOf [(60, s60), (74, s74)]
theorem t34 : TabOk Tryz.prog T34 := .cons e60 (.cons e74 .nil)
theorem sig_ext {s t : SigD} (h1 : s.sorts = t.sorts) (h2 : s.below = t.below) (h3 : s.ops = t.ops) (h4 : s.funs = t.funs) (h5 : s.values = t.values) : s = t := by
  cases s; cases t; simp only [] at *; subst h1 h2 h3 h4 h5; rfl
theorem c34 : CallSound Tryz.prog 34 s34 := by
  refine CallSound.of_sp (T := T34) Tryz.func34 rfl (Nat.le_of_ble_eq_true rfl) fun E xx y hy => ?_
  obtain ⟨s, t⟩ := xx
  simp only [] at hy
  split at hy
  case isFalse => cases hy
  next hfit =>
  obtain ⟨hs, ht⟩ := hfit
  rw [Option.some.injEq] at hy
  subst hy
  obtain ⟨fs1, fs2⟩ := hs.fits
  obtain ⟨ft1, ft2⟩ := ht.fits
  obtain ⟨l1, l2, l3, l4, _⟩ := hs
  obtain ⟨m1, m2, m3, m4, _⟩ := ht
  have g1 := call60 T34 rfl s.sorts t.sorts l1 m1
  have g2 := call60 T34 rfl s.values t.values l4 m4
  have g3 := call74 T34 rfl s.ops t.ops (by omega) (by omega) fs1 ft1
  have g4 := call74 T34 rfl s.funs t.funs (by omega) (by omega) fs2 ft2
  have tT := t34
  generalize T34 = T at *
  have no : ∀ (a : Nat → DV) (σ : St), a 4 = .lit (.bool false) → s ≠ t → Done Tryz.prog Tryz.f34.results Enc.bool (decide (s = t)) Ex.ret a σ := by
    intro a σ h2 hne
    refine ⟨.inr rfl, .lit (.bool false), ?_, by simp [hne, Done, dresults, dres, frz, frz1, frz2, Enc.bool]⟩
    show dresults Tryz.prog σ a [ResultVar.tmp 4] = _
    simp [dresults, dres, h2]
  refine Dwp.step tT rfl fun K hK => ?_
  simp [init, arg2, EncR.and, EncR.one, Enc.sigd, Enc.agg]
  refine hK _ _ ?_ rfl; clear hK K
  refine Dwp.seq ?_
  refine Dwp.step tT rfl fun K hK => ?_
  repeat (first
    | (refine Then.stepD rfl rfl (fun K1 hK1 => ?_); simp [Then1, Guarded, ty26, ty22, ty23, ty24, g1]; refine hK1 _ _ ?_; clear hK1 K1)
    | (refine Then.stepG rfl rfl rfl (fun K1 hK1 => ?_); simp [Then1, Guarded, ty26, ty22, ty23, ty24, g1]; refine hK1 _ _ ?_; clear hK1 K1)
    | (refine Then.stepN rfl rfl (fun K1 hK1 => ?_); simp [Then1, Guarded, ty26, ty22, ty23, ty24, g1]; refine hK1 _ _ ?_; clear hK1 K1)
    | (refine Then.stepGN rfl rfl rfl (fun K1 hK1 => ?_); simp [Then1, Guarded, ty26, ty22, ty23, ty24, g1]; refine hK1 _ _ ?_; clear hK1 K1))
  by_cases h1 : s.sorts = t.sorts
  case neg =>
    repeat (first
      | (refine Then.stepD rfl rfl (fun K1 hK1 => ?_); simp [Then1, Guarded, ty26, ty22, ty23, ty24, g1, h1]; refine hK1 _ _ ?_; clear hK1 K1)
      | (refine Then.stepG rfl rfl rfl (fun K1 hK1 => ?_); simp [Then1, Guarded, ty26, ty22, ty23, ty24, g1, h1]; refine hK1 _ _ ?_; clear hK1 K1)
      | (refine Then.stepN rfl rfl (fun K1 hK1 => ?_); simp [Then1, Guarded, ty26, ty22, ty23, ty24, g1, h1]; refine hK1 _ _ ?_; clear hK1 K1)
      | (refine Then.stepGN rfl rfl rfl (fun K1 hK1 => ?_); simp [Then1, Guarded, ty26, ty22, ty23, ty24, g1, h1]; refine hK1 _ _ ?_; clear hK1 K1))
    refine Then.done (hK _ _ ?_ rfl)
    clear hK K
    refine Dwp.condT (by simp [eval, upd]) ?_
    refine Dwp.step tT rfl fun K hK => ?_
    simp []
    refine hK _ _ (Dwp.ret ?_) rfl
    exact no _ _ (by simp [upd]) fun e => h1 (by rw [e])
  repeat (first
    | (refine Then.stepD rfl rfl (fun K1 hK1 => ?_); simp [Then1, Guarded, ty26, ty22, ty23, ty24, h1, g2]; refine hK1 _ _ ?_; clear hK1 K1)
    | (refine Then.stepG rfl rfl rfl (fun K1 hK1 => ?_); simp [Then1, Guarded, ty26, ty22, ty23, ty24, h1, g2]; refine hK1 _ _ ?_; clear hK1 K1)
    | (refine Then.stepN rfl rfl (fun K1 hK1 => ?_); simp [Then1, Guarded, ty26, ty22, ty23, ty24, h1, g2]; refine hK1 _ _ ?_; clear hK1 K1)
    | (refine Then.stepGN rfl rfl rfl (fun K1 hK1 => ?_); simp [Then1, Guarded, ty26, ty22, ty23, ty24, h1, g2]; refine hK1 _ _ ?_; clear hK1 K1))
  by_cases h2 : s.values = t.values
  case neg =>
    repeat (first
      | (refine Then.stepD rfl rfl (fun K1 hK1 => ?_); simp [Then1, Guarded, ty26, ty22, ty23, ty24, h2]; refine hK1 _ _ ?_; clear hK1 K1)
      | (refine Then.stepG rfl rfl rfl (fun K1 hK1 => ?_); simp [Then1, Guarded, ty26, ty22, ty23, ty24, h2]; refine hK1 _ _ ?_; clear hK1 K1)
      | (refine Then.stepN rfl rfl (fun K1 hK1 => ?_); simp [Then1, Guarded, ty26, ty22, ty23, ty24, h2]; refine hK1 _ _ ?_; clear hK1 K1)
      | (refine Then.stepGN rfl rfl rfl (fun K1 hK1 => ?_); simp [Then1, Guarded, ty26, ty22, ty23, ty24, h2]; refine hK1 _ _ ?_; clear hK1 K1))
    refine Then.done (hK _ _ ?_ rfl)
    clear hK K
    refine Dwp.condT (by simp [eval, upd]) ?_
    refine Dwp.step tT rfl fun K hK => ?_
    simp []
    refine hK _ _ (Dwp.ret ?_) rfl
    exact no _ _ (by simp [upd]) fun e => h2 (by rw [e])
  repeat (first
    | (refine Then.stepD rfl rfl (fun K1 hK1 => ?_); simp [Then1, Guarded, ty26, ty22, ty23, ty24, h2, belsC]; refine hK1 _ _ ?_; clear hK1 K1)
    | (refine Then.stepG rfl rfl rfl (fun K1 hK1 => ?_); simp [Then1, Guarded, ty26, ty22, ty23, ty24, h2, belsC]; refine hK1 _ _ ?_; clear hK1 K1)
    | (refine Then.stepN rfl rfl (fun K1 hK1 => ?_); simp [Then1, Guarded, ty26, ty22, ty23, ty24, h2, belsC]; refine hK1 _ _ ?_; clear hK1 K1)
    | (refine Then.stepGN rfl rfl rfl (fun K1 hK1 => ?_); simp [Then1, Guarded, ty26, ty22, ty23, ty24, h2, belsC]; refine hK1 _ _ ?_; clear hK1 K1))
  by_cases h3 : s.below.length = t.below.length
  case neg =>
    have h3n : ((s.below.length : Int) != (t.below.length : Int)) = true := by simp; omega
    repeat (first
      | (refine Then.stepD rfl rfl (fun K1 hK1 => ?_); simp [Then1, Guarded, ty26, ty22, ty23, ty24, h3n]; refine hK1 _ _ ?_; clear hK1 K1)
      | (refine Then.stepG rfl rfl rfl (fun K1 hK1 => ?_); simp [Then1, Guarded, ty26, ty22, ty23, ty24, h3n]; refine hK1 _ _ ?_; clear hK1 K1)
      | (refine Then.stepN rfl rfl (fun K1 hK1 => ?_); simp [Then1, Guarded, ty26, ty22, ty23, ty24, h3n]; refine hK1 _ _ ?_; clear hK1 K1)
      | (refine Then.stepGN rfl rfl rfl (fun K1 hK1 => ?_); simp [Then1, Guarded, ty26, ty22, ty23, ty24, h3n]; refine hK1 _ _ ?_; clear hK1 K1))
    refine Then.done (hK _ _ ?_ rfl)
    clear hK K
    refine Dwp.condT (by simp [eval, upd]) ?_
    refine Dwp.step tT rfl fun K hK => ?_
    simp []
    refine hK _ _ (Dwp.ret ?_) rfl
    exact no _ _ (by simp [upd]) fun e => h3 (by rw [e])
  have h3p : ((s.below.length : Int) != (t.below.length : Int)) = false := by simp; omega
  repeat (first
    | (refine Then.stepD rfl rfl (fun K1 hK1 => ?_); simp [Then1, Guarded, ty26, ty22, ty23, ty24, h3p, g3]; refine hK1 _ _ ?_; clear hK1 K1)
    | (refine Then.stepG rfl rfl rfl (fun K1 hK1 => ?_); simp [Then1, Guarded, ty26, ty22, ty23, ty24, h3p, g3]; refine hK1 _ _ ?_; clear hK1 K1)
    | (refine Then.stepN rfl rfl (fun K1 hK1 => ?_); simp [Then1, Guarded, ty26, ty22, ty23, ty24, h3p, g3]; refine hK1 _ _ ?_; clear hK1 K1)
    | (refine Then.stepGN rfl rfl rfl (fun K1 hK1 => ?_); simp [Then1, Guarded, ty26, ty22, ty23, ty24, h3p, g3]; refine hK1 _ _ ?_; clear hK1 K1))
  by_cases h4 : s.ops = t.ops
  case neg =>
    repeat (first
      | (refine Then.stepD rfl rfl (fun K1 hK1 => ?_); simp [Then1, Guarded, ty26, ty22, ty23, ty24, h4]; refine hK1 _ _ ?_; clear hK1 K1)
      | (refine Then.stepG rfl rfl rfl (fun K1 hK1 => ?_); simp [Then1, Guarded, ty26, ty22, ty23, ty24, h4]; refine hK1 _ _ ?_; clear hK1 K1)
      | (refine Then.stepN rfl rfl (fun K1 hK1 => ?_); simp [Then1, Guarded, ty26, ty22, ty23, ty24, h4]; refine hK1 _ _ ?_; clear hK1 K1)
      | (refine Then.stepGN rfl rfl rfl (fun K1 hK1 => ?_); simp [Then1, Guarded, ty26, ty22, ty23, ty24, h4]; refine hK1 _ _ ?_; clear hK1 K1))
    refine Then.done (hK _ _ ?_ rfl)
    clear hK K
    refine Dwp.condT (by simp [eval, upd]) ?_
    refine Dwp.step tT rfl fun K hK => ?_
    simp []
    refine hK _ _ (Dwp.ret ?_) rfl
    exact no _ _ (by simp [upd]) fun e => h4 (by rw [e])
  repeat (first
    | (refine Then.stepD rfl rfl (fun K1 hK1 => ?_); simp [Then1, Guarded, ty26, ty22, ty23, ty24, h4, g4]; refine hK1 _ _ ?_; clear hK1 K1)
    | (refine Then.stepG rfl rfl rfl (fun K1 hK1 => ?_); simp [Then1, Guarded, ty26, ty22, ty23, ty24, h4, g4]; refine hK1 _ _ ?_; clear hK1 K1)
    | (refine Then.stepN rfl rfl (fun K1 hK1 => ?_); simp [Then1, Guarded, ty26, ty22, ty23, ty24, h4, g4]; refine hK1 _ _ ?_; clear hK1 K1)
    | (refine Then.stepGN rfl rfl rfl (fun K1 hK1 => ?_); simp [Then1, Guarded, ty26, ty22, ty23, ty24, h4, g4]; refine hK1 _ _ ?_; clear hK1 K1))
  by_cases h5 : s.funs = t.funs
  case neg =>
    repeat (first
      | (refine Then.stepD rfl rfl (fun K1 hK1 => ?_); simp [Then1, Guarded, ty26, ty22, ty23, ty24, g4, h5]; refine hK1 _ _ ?_; clear hK1 K1)
      | (refine Then.stepG rfl rfl rfl (fun K1 hK1 => ?_); simp [Then1, Guarded, ty26, ty22, ty23, ty24, g4, h5]; refine hK1 _ _ ?_; clear hK1 K1)
      | (refine Then.stepN rfl rfl (fun K1 hK1 => ?_); simp [Then1, Guarded, ty26, ty22, ty23, ty24, g4, h5]; refine hK1 _ _ ?_; clear hK1 K1)
      | (refine Then.stepGN rfl rfl rfl (fun K1 hK1 => ?_); simp [Then1, Guarded, ty26, ty22, ty23, ty24, g4, h5]; refine hK1 _ _ ?_; clear hK1 K1))
    refine Then.done (hK _ _ ?_ rfl)
    clear hK K
    refine Dwp.condT (by simp [eval, upd, h5]) ?_
    refine Dwp.step tT rfl fun K hK => ?_
    simp []
    refine hK _ _ (Dwp.ret ?_) rfl
    exact no _ _ (by simp [upd]) fun e => h5 (by rw [e])
  repeat (first
    | (refine Then.stepD rfl rfl (fun K1 hK1 => ?_); simp [Then1, Guarded, ty26, ty22, ty23, ty24, g4, h5]; refine hK1 _ _ ?_; clear hK1 K1)
    | (refine Then.stepG rfl rfl rfl (fun K1 hK1 => ?_); simp [Then1, Guarded, ty26, ty22, ty23, ty24, g4, h5]; refine hK1 _ _ ?_; clear hK1 K1)
    | (refine Then.stepN rfl rfl (fun K1 hK1 => ?_); simp [Then1, Guarded, ty26, ty22, ty23, ty24, g4, h5]; refine hK1 _ _ ?_; clear hK1 K1)
    | (refine Then.stepGN rfl rfl rfl (fun K1 hK1 => ?_); simp [Then1, Guarded, ty26, ty22, ty23, ty24, g4, h5]; refine hK1 _ _ ?_; clear hK1 K1))
  refine Then.done (hK _ _ ?_ rfl)
  clear hK K
  refine Dwp.condF (by simp [eval, upd, h5]) (Dwp.skip ?_)
  refine Dwp.seq ?_
  refine Dwp.step tT rfl fun K hK => ?_
  simp [ty26, ty23, belsC]
  refine hK _ _ ?_ rfl; clear hK K
  refine Dwp.range tT s.below.length (fun i a σ => a 2 = .row (EncR.sigd.enc s) 0 ∧ a 3 = .row (EncR.sigd.enc t) 0 ∧ s.below.take i = t.below.take i) ⟨rfl, rfl, rfl⟩ ⟨rfl, rfl, rfl⟩ ⟨rfl, rfl, rfl⟩ (by decide) (by decide) (by omega) (by simp [upd]) (by simp [upd]) (by simp [upd, init]) ?_ ?_
  · rintro i a σ hi hidx hlen2 ⟨k2, k3, htk⟩
    have him : i < t.below.length := by omega
    refine Dwp.step tT rfl fun K hK => ?_
    simp [hidx]
    refine hK _ _ ?_ rfl; clear hK K
    refine Dwp.drawStep [] mixed tT rfl (by decide) fun K hK => ?_
    have he := eqBelS s.below[i] t.below[i]
    by_cases hq : s.below[i] = t.below[i]
    · rw [hq] at he
      simp [drunT, touch, touchP, k2, k3, ty26, ty23, ty78, belsC, hi, him, hq, he]
      refine hK _ _ ?_ rfl; clear hK K
      refine Dwp.condF (by simp [eval, upd]) (Dwp.skip ?_)
      exact ⟨by simp [upd, hidx], by simp [upd, hlen2], by simp [upd, k2], by simp [upd, k3], take_eq_succ hi him htk hq⟩
    · simp [drunT, touch, touchP, k2, k3, ty26, ty23, ty78, belsC, hi, him, hq, he]
      refine hK _ _ ?_ rfl; clear hK K
      refine Dwp.condT (by simp [eval, upd]) ?_
      refine Dwp.step tT rfl fun K hK => ?_
      simp []
      refine hK _ _ (Dwp.ret ?_) rfl
      exact no _ _ (by simp [upd]) fun e => hq (by subst e; rfl)
  rintro a σ hidx hlen2 ⟨k2, k3, htk⟩
  have h6 : s.below = t.below := by rwa [List.take_of_length_le (by omega), List.take_of_length_le (by omega)] at htk
  have heq : s = t := sig_ext h1 h6 h4 h5 h2
  refine Dwp.step tT rfl fun K hK => ?_
  simp []
  refine hK _ _ (Dwp.ret ?_) rfl
  simp [Done, dresults, dres, frz, frz1, frz2, Ex.then, upd, Enc.bool, heq]
theorem e34 : Go.FA.Good Tryz.prog (34, s34) := ⟨c34, Tryz.f34, _, Tryz.func34, rfl, by decide⟩
end Go.Proofs.Yt
namespace Go.Proofs.Yt
open Go Go.FA Go.Proofs
set_option linter.unusedVariables false
set_option linter.unusedSimpArgs false
set_option maxRecDepth 100000

theorem ba_ext {s t : ByteArray} (h : s.data.toList = t.data.toList) : s = t := ByteArray.ext (Array.ext' h)
theorem ba_append (s t : ByteArray) : (s ++ t).data.toList = s.data.toList ++ t.data.toList := by simp
theorem indexByte_while : ∀ l : List UInt8, (Lib.indexByte l 39 = -1 ∧ l.takeWhile (· != 39) = l) ∨ (∃ i : Nat, Lib.indexByte l 39 = i ∧ i < l.length ∧ l.takeWhile (· != 39) = l.take i)
  | [] => .inl ⟨rfl, rfl⟩
  | b :: l => by
    simp only [Lib.indexByte]
    by_cases h : b = 39
    · right; exact ⟨0, by simp [h], by simp, by simp [h]⟩
    · have hb : (b != 39) = true := by simpa using h
      rcases indexByte_while l with ⟨e1, e2⟩ | ⟨i, e1, e2, e3⟩
      · left; simp [h, e1, hb, e2]
      · right
        refine ⟨i + 1, ?_, by simp; omega, by simp [hb, e3]⟩
        have : ¬ (i : Int) = -1 := by omega
        simp [h, e1, this]
theorem extract_list (s : ByteArray) (i j : Nat) : (s.extract i j).data.toList = (s.data.toList.take j).drop i := by
  simp [ByteArray.data_extract, List.extract_eq_take_drop, List.drop_take]
theorem cut_list (s : ByteArray) : (cutMark s).1.data.toList = s.data.toList.takeWhile (· != 39) := by
  unfold cutMark mark
  rcases indexByte_while s.data.toList with ⟨e1, e2⟩ | ⟨i, e1, e2, e3⟩
  · rw [e1, e2]; simp
  · rw [e1, e3]
    simp only [Int.natCast_nonneg, if_true, Int.toNat_natCast]
    rw [extract_list]; simp
theorem takeWhile_dropWhile_len (l : List UInt8) : l.drop (l.takeWhile (· != 39)).length = l.dropWhile (· != 39) := by
  have h : (l.takeWhile (· != 39) ++ l.dropWhile (· != 39)).drop (l.takeWhile (· != 39)).length = l.dropWhile (· != 39) := List.drop_left
  rwa [List.takeWhile_append_dropWhile] at h
/-- no mark in it -/
def noMark (s : ByteArray) : Prop := ∀ b ∈ s.data.toList, b ≠ 39
theorem name_noMark {s : ByteArray} (h : isName s = true) : noMark s := by
  unfold isName allB at h
  simp only [Bool.and_eq_true, List.all_eq_true] at h
  intro b hb e
  have := h.2 b hb
  subst e
  simp [nameByte, letter] at this
theorem cut_noMark (s : ByteArray) : noMark (cutMark s).1 := by
  intro b hb
  rw [cut_list] at hb
  have := List.all_takeWhile (p := (· != 39)) (l := s.data.toList)
  rw [List.all_eq_true] at this
  simpa using this b hb
theorem while_append {x d : List UInt8} (hx : ∀ b ∈ x, b ≠ 39) (hd : d = [] ∨ d.head? = some 39) : (x ++ d).takeWhile (· != 39) = x := by
  induction x with
  | nil =>
    rcases hd with rfl | hd
    · rfl
    · cases d with
      | nil => rfl
      | cons c d => simp at hd; subst hd; simp
  | cons c x ih =>
    have hc : (c != 39) = true := by simpa using hx c (by simp)
    simp only [List.cons_append, List.takeWhile_cons, hc, if_true]
    rw [ih fun b hb => hx b (by simp [hb])]
theorem drop_head (l : List UInt8) : l.dropWhile (· != 39) = [] ∨ (l.dropWhile (· != 39)).head? = some 39 := by
  induction l with
  | nil => exact .inl rfl
  | cons c l ih =>
    by_cases h : c = 39
    · right; simp [h]
    · have hc : (c != 39) = true := by simpa using h
      simp only [List.dropWhile_cons, hc, if_true]; exact ih
/-- what an operator is called then -/
theorem opName_list (r : Ren) (s : ByteArray) : (r.opName s).data.toList = (r.name (cutMark s).1).data.toList ++ s.data.toList.dropWhile (· != 39) := by
  unfold Ren.opName
  rw [ba_append, extract_list]
  congr 1
  have h1 : (cutMark s).1.size = (s.data.toList.takeWhile (· != 39)).length := by rw [← cut_list]; simp
  have h2 : s.data.toList.take s.size = s.data.toList := List.take_of_length_le (by simp)
  rw [h1, h2, takeWhile_dropWhile_len]
theorem name_name (r : Ren) (s : ByteArray) : r.name (r.name s) = s := by
  unfold Ren.name
  by_cases h1 : s = r.a
  · subst h1
    by_cases h2 : r.b = r.a
    · simp [h2]
    · simp [h2]
  · by_cases h2 : s = r.b
    · subst h2; simp [h1]
    · simp [h1, h2]
theorem name_noMark' {r : Ren} (ha : isName r.a = true) (hb : isName r.b = true) {s : ByteArray} (h : noMark s) : noMark (r.name s) := by
  unfold Ren.name
  split
  · exact name_noMark hb
  · split
    · exact name_noMark ha
    · exact h
theorem opName_back (r r' : Ren) (ha : r.a = r'.a) (hb : r.b = r'.b) (na : isName r.a = true) (nb : isName r.b = true) (s : ByteArray) : r'.opName (r.opName s) = s := by
  have hn : ∀ x, r'.name x = r.name x := fun x => by unfold Ren.name; rw [ha, hb]
  have h1 : (cutMark (r.opName s)).1 = r.name (cutMark s).1 := by
    apply ba_ext
    rw [cut_list, opName_list]
    exact while_append (name_noMark' na nb (cut_noMark s)) (drop_head _)
  apply ba_ext
  rw [opName_list, h1, hn, name_name, cut_list]
  have h2 : (r.opName s).data.toList.dropWhile (· != 39) = s.data.toList.dropWhile (· != 39) := by
    have h3 := takeWhile_dropWhile_len (r.opName s).data.toList
    rw [← cut_list, h1] at h3
    rw [← h3, opName_list]; simp
  rw [h2, List.takeWhile_append_dropWhile]
end Go.Proofs.Yt
namespace Go.Proofs.Yt
open Go Go.FA Go.Proofs
set_option linter.unusedVariables false
set_option linter.unusedSimpArgs false
set_option maxRecDepth 100000

theorem sorts_facts {s : SigD} (h : s.ok) (hv : s.vld = true) : (∀ x ∈ s.sorts, isName x = true) ∧ (∀ x ∈ s.sorts, x ∉ given) ∧ s.sorts.Nodup := by
  have h1 := (vld_facts h hv).2.2.1
  unfold okSorts at h1
  simp only [Bool.and_eq_true, List.all_eq_true, decide_eq_true_eq, List.nodup_append] at h1
  exact ⟨h1.1, fun x hx hg => h1.2.2.2 x hg x hx rfl, h1.2.2.1⟩
theorem decl_iff {s : SigD} (h : s.ok) (hv : s.vld = true) (x : ByteArray) : (newBook s).decl x = decide (x ∈ s.sorts) := by
  obtain ⟨_, h2, _⟩ := sorts_facts h hv
  unfold Book.decl
  rw [book_has]
  unfold SigD.all
  by_cases hx : x ∈ s.sorts
  · simp [hx, h2 x hx]
  · by_cases hg : x ∈ given <;> simp [hx, hg]

section
variable (s : SigD) (a b : ByteArray)
abbrev renOf : Ren := ⟨newBook s, a, b⟩
def ren : SigD := (renOf s a b).sig s
def phi (x : ByteArray) : ByteArray := (renOf s a b).sort x
variable {s a b}
theorem phi_eq (h : s.ok) (hv : s.vld = true) (x : ByteArray) : phi s a b x = if x ∈ s.sorts then (renOf s a b).name x else x := by
  unfold phi Ren.sort
  rw [show (renOf s a b).book = newBook s from rfl, decl_iff h hv]
  by_cases hx : x ∈ s.sorts <;> simp [hx]
theorem ren_sorts : (ren s a b).sorts = s.sorts.map (phi s a b) := rfl
theorem phi_sorts {x : ByteArray} (hx : x ∈ s.sorts) : phi s a b x ∈ (ren s a b).sorts := by
  rw [ren_sorts]; exact List.mem_map.2 ⟨x, hx, rfl⟩
theorem phi_all (h : s.ok) (hv : s.vld = true) {x : ByteArray} (hx : x ∈ s.all) : phi s a b x ∈ (ren s a b).all := by
  unfold SigD.all at hx ⊢
  rcases List.mem_append.1 hx with q | q
  · have hns : x ∉ s.sorts := fun e => (sorts_facts h hv).2.1 x e q
    rw [phi_eq h hv, if_neg hns]; exact List.mem_append_left _ q
  · exact List.mem_append_right _ (phi_sorts q)
def names2 (a b : ByteArray) : Prop := isName a = true ∧ isName b = true
theorem isName_size {x : ByteArray} (h : isName x = true) : x.size ≤ 40 := by
  unfold isName at h; simp only [Bool.and_eq_true, decide_eq_true_eq] at h; exact h.1.1
theorem isName_empty : isName ⟨#[]⟩ = false := rfl

theorem okOp_rest {x : ByteArray} (h : okOp x = true) : (x.data.toList.dropWhile (· != 39)).length ≤ 2 ∧ (cutMark x).1.size ≤ 40 := by
  unfold okOp at h
  simp only [Bool.and_eq_true, Bool.or_eq_true, Bool.not_eq_true'] at h
  obtain ⟨h1, h2⟩ := h
  refine ⟨?_, isName_size h1⟩
  rw [← takeWhile_dropWhile_len]
  rcases indexByte_while x.data.toList with ⟨e1, e2⟩ | ⟨i, e1, e2, e3⟩
  · rw [e2]; simp
  · have hm : mark x = (i : Int) := e1
    have hc : cutMark x = (x.extract 0 i, x.extract (i + 1) x.size, true) := by
      unfold cutMark; rw [hm]; simp
    rw [hc] at h2
    simp only [Bool.true_eq_false, false_or] at h2
    unfold digit at h2
    split at h2
    · next c hl =>
      rw [extract_list] at hl
      have hlen := congrArg List.length hl
      rw [e3]
      simp only [List.length_drop, List.length_take, List.length_cons, List.length_nil] at hlen ⊢
      have : x.size = x.data.toList.length := by simp
      omega
    · cases h2
theorem isName_rest {x : ByteArray} (h : isName x = true) : (x.data.toList.dropWhile (· != 39)).length ≤ 2 ∧ (cutMark x).1.size ≤ 40 := by
  have hn := name_noMark h
  refine ⟨?_, Nat.le_trans (cut_size x) (isName_size h)⟩
  have : x.data.toList.dropWhile (· != 39) = [] := by
    have hw := while_append (x := x.data.toList) (d := []) hn (.inl rfl)
    rw [List.append_nil] at hw
    rw [← takeWhile_dropWhile_len, hw]; simp
  rw [this]; simp
theorem op_name_small {r : Ren} (ha : isName r.a = true) (hb : isName r.b = true) {x : ByteArray} (h : (x.data.toList.dropWhile (· != 39)).length ≤ 2 ∧ (cutMark x).1.size ≤ 40) : (r.opName x).size ≤ 42 := by
  have h1 : (r.opName x).size = (r.opName x).data.toList.length := by simp
  have h2 : (r.name (cutMark x).1).size ≤ 40 := name_size r _ 40 (isName_size ha) (isName_size hb) h.2
  have h3 : (r.name (cutMark x).1).size = (r.name (cutMark x).1).data.toList.length := by simp
  rw [h1, opName_list, List.length_append]; omega
theorem badOp_facts {b : Book} {o : OpD} (h : badOp b o = false) : okOp o.name = true ∧ (∀ x ∈ o.args, b.has x = true) ∧ b.decl o.sort = true ∧ okPieces o = true := by
  unfold badOp okArgs at h
  simp only [Bool.or_eq_false_iff, Bool.not_eq_false', Bool.and_eq_true, List.all_eq_true] at h
  obtain ⟨⟨⟨⟨⟨⟨h1, h2⟩, h3⟩, h4⟩, h5⟩, h6⟩, h7⟩ := h
  exact ⟨h1, h3.2, h4, h5⟩
theorem badFun_facts {b : Book} {o : OpD} (h : badFun b o = false) : isName o.name = true ∧ (∀ x ∈ o.args, b.has x = true) ∧ b.has o.sort = true ∧ o.pieces = [] := by
  unfold badFun okArgs at h
  simp only [Bool.or_eq_false_iff, Bool.not_eq_false', Bool.and_eq_true, List.all_eq_true, decide_eq_false_iff_not, Nat.not_lt, Nat.le_zero] at h
  obtain ⟨⟨⟨⟨⟨⟨⟨h1, h2⟩, h3⟩, h4⟩, h5⟩, h6⟩, h7⟩, h8⟩ := h
  exact ⟨h1, h3.2, h4, List.eq_nil_of_length_eq_zero h5⟩
theorem pieArgs_mem : ∀ {l : List Pie} {ar : List ByteArray}, pieArgs l = some ar → ∀ p ∈ l, p.sort = ⟨#[]⟩ ∨ p.sort ∈ ar
  | [], _, _, p, hp => by cases hp
  | q :: l, ar, h, p, hp => by
    simp only [pieArgs] at h
    split at h
    · next he =>
      split at h
      · rcases List.mem_cons.1 hp with rfl | hp
        · exact .inl he
        · exact pieArgs_mem h p hp
      · cases h
    · split at h
      · obtain ⟨bs, hb, rfl⟩ := Option.map_eq_some_iff.1 h
        rcases List.mem_cons.1 hp with rfl | hp
        · exact .inr (by simp)
        · rcases pieArgs_mem hb p hp with e | e
          · exact .inl e
          · exact .inr (by simp [e])
      · cases h
theorem okPieces_mem {o : OpD} (h : okPieces o = true) : ∀ p ∈ o.pieces, p.sort = ⟨#[]⟩ ∨ p.sort ∈ o.args := by
  unfold okPieces at h
  split at h
  · next h0 => rw [List.eq_nil_of_length_eq_zero h0]; intro p hp; cases hp
  · split at h
    · cases h
    · exact pieArgs_mem (by simpa using h)

theorem ren_ok (h : s.ok) (hv : s.vld = true) (hn : names2 a b) : (ren s a b).ok := by
  obtain ⟨_, _, _, _, _, _, _, ho, hf, _⟩ := vld_facts h hv
  obtain ⟨h1, h2, h3, h4, h5⟩ := h
  refine ⟨by simpa [ren, Ren.sig] using h1, by simpa [ren, Ren.sig] using h2, by simpa [ren, Ren.sig] using h3, by simpa [ren, Ren.sig] using h4, fun o hoo => ?_⟩
  have key : ∀ p : OpD, ((p.name.data.toList.dropWhile (· != 39)).length ≤ 2 ∧ (cutMark p.name).1.size ≤ 40) → (p ∈ s.ops ∨ p ∈ s.funs) → o = (renOf s a b).op p → o.name.size ≤ 1048576 ∧ o.args.length ≤ 1048576 ∧ o.pieces.length ≤ 1048576 ∧ o.strict.length ≤ 1048576 := by
    rintro p hp hin rfl
    obtain ⟨_, q1, q2, q3⟩ := h5 p hin
    have := op_name_small (r := renOf s a b) hn.1 hn.2 hp
    exact ⟨by show ((renOf s a b).opName p.name).size ≤ _; omega, by simpa [Ren.op] using q1, by simpa [Ren.op] using q2, by simpa [Ren.op] using q3⟩
  rcases hoo with hoo | hoo
  · obtain ⟨p, hp, e⟩ := List.mem_map.1 (show o ∈ s.ops.map (renOf s a b).op from hoo)
    exact key p (okOp_rest (badOp_facts (ho p hp)).1) (.inl hp) e.symm
  · obtain ⟨p, hp, e⟩ := List.mem_map.1 (show o ∈ s.funs.map (renOf s a b).op from hoo)
    exact key p (isName_rest (badFun_facts (hf p hp)).1) (.inr hp) e.symm
theorem ren_sigOk (h : s.ok) (hn : names2 a b) : sigOk (renOf s a b) s := by
  obtain ⟨f1, f2⟩ := h.fits
  obtain ⟨h1, h2, h3, h4, h5⟩ := h
  have ka := isName_size hn.1
  have kb := isName_size hn.2
  refine ⟨h1, h2, by omega, by omega, h4, fun o ho => ⟨f1 o ho, ?_, ?_, ?_⟩, fun o ho => ⟨f2 o ho, ?_, ?_, ?_⟩⟩
  · have := (h5 o (.inl ho)).1; unfold lim; omega
  · show a.size ≤ lim; unfold lim; omega
  · show b.size ≤ lim; unfold lim; omega
  · have := (h5 o (.inr ho)).1; unfold lim; omega
  · show a.size ≤ lim; unfold lim; omega
  · show b.size ≤ lim; unfold lim; omega

theorem star_ren (h : s.ok) (hv : s.vld = true) {x y : ByteArray} (hs : Star (newBook s) x y) : x ∈ s.all → Star (newBook (ren s a b)) (phi s a b x) (phi s a b y) := by
  obtain ⟨_, _, _, hbel, _⟩ := vld_facts h hv
  induction hs with
  | refl x => exact fun _ => .refl _
  | @step x y z hu t ih =>
    intro hx
    rw [book_up, if_pos hx] at hu
    unfold ups at hu
    simp only [List.mem_map, List.mem_filter, decide_eq_true_eq] at hu
    obtain ⟨w, ⟨hw, rfl⟩, rfl⟩ := hu
    have hb := hbel w hw
    unfold okBel at hb
    simp only [Bool.and_eq_true, book_has, decide_eq_true_eq, decl_iff h hv] at hb
    refine .step (y := phi s a b w.high) ?_ (ih (List.mem_append_right _ hb.2))
    rw [book_up, if_pos (phi_all h hv hx)]
    unfold ups
    simp only [List.mem_map, List.mem_filter, decide_eq_true_eq]
    exact ⟨(renOf s a b).below w, ⟨List.mem_map.2 ⟨w, hw, rfl⟩, rfl⟩, rfl⟩

variable (h : s.ok) (hv : s.vld = true) (hn : names2 a b) (hr : (ren s a b).vld = true)
include h hv hn hr
theorem psi_phi {x : ByteArray} (hx : x ∈ s.all ∨ x = ⟨#[]⟩) : phi (ren s a b) a b (phi s a b x) = x := by
  have hrok := ren_ok h hv hn
  have hname : ∀ y, (renOf (ren s a b) a b).name y = (renOf s a b).name y := fun _ => rfl
  by_cases hs : x ∈ s.sorts
  · rw [phi_eq hrok hr, if_pos (phi_sorts hs), phi_eq h hv, if_pos hs, hname, name_name]
  · have hx2 : phi s a b x = x := by rw [phi_eq h hv, if_neg hs]
    rw [hx2, phi_eq hrok hr, if_neg]
    intro hm
    rcases hx with hx | rfl
    · unfold SigD.all at hx
      rcases List.mem_append.1 hx with q | q
      · exact (sorts_facts hrok hr).2.1 x hm q
      · exact hs q
    · have := (sorts_facts hrok hr).1 _ hm
      rw [isName_empty] at this; cases this
theorem ren_back : ren (ren s a b) a b = s := by
  have pp := fun {x} hx => psi_phi h hv hn hr (x := x) hx
  obtain ⟨_, _, _, hbel, _, _, _, ho, hf, hval, _⟩ := vld_facts h hv
  have hsorts : ∀ x ∈ s.sorts, x ∈ s.all := fun x hx => List.mem_append_right _ hx
  have hop : ∀ o : OpD, (∀ x ∈ o.args, x ∈ s.all) → o.sort ∈ s.all → (∀ p ∈ o.pieces, p.sort = ⟨#[]⟩ ∨ p.sort ∈ o.args) → (renOf (ren s a b) a b).op ((renOf s a b).op o) = o := by
    intro o h1 h2 h3
    obtain ⟨n, ar, st, ps, pr, ac, sc⟩ := o
    have e1 : (renOf (ren s a b) a b).opName ((renOf s a b).opName n) = n := opName_back _ _ rfl rfl hn.1 hn.2 n
    have e2 : (ar.map (renOf s a b).sort).map (renOf (ren s a b) a b).sort = ar := by
      rw [List.map_map]; exact (List.map_congr_left fun x hx => pp (.inl (h1 x hx))).trans (List.map_id _)
    have e3 : (renOf (ren s a b) a b).sort ((renOf s a b).sort st) = st := pp (.inl h2)
    have e4 : (ps.map (renOf s a b).piece).map (renOf (ren s a b) a b).piece = ps := by
      rw [List.map_map]
      refine (List.map_congr_left fun p hp => ?_).trans (List.map_id _)
      obtain ⟨t, st'⟩ := p
      have : (renOf (ren s a b) a b).sort ((renOf s a b).sort st') = st' := pp ((h3 _ hp).elim .inr fun e => .inl (h1 _ e))
      simp only [Function.comp, Ren.piece, this, id]
    simp only [Ren.op, e1, e2, e3, e4]
  refine sig_ext ?_ ?_ ?_ ?_ ?_
  · show (s.sorts.map (phi s a b)).map (phi (ren s a b) a b) = s.sorts
    rw [List.map_map]; exact (List.map_congr_left fun x hx => pp (.inl (hsorts x hx))).trans (List.map_id _)
  · show (s.below.map (renOf s a b).below).map (renOf (ren s a b) a b).below = s.below
    rw [List.map_map]
    refine (List.map_congr_left fun y hy => ?_).trans (List.map_id _)
    have hb := hbel y hy
    unfold okBel at hb
    simp only [Bool.and_eq_true, book_has, decide_eq_true_eq, decl_iff h hv] at hb
    obtain ⟨lo, hi⟩ := y
    have e1 : (renOf (ren s a b) a b).sort ((renOf s a b).sort lo) = lo := pp (.inl hb.1.1)
    have e2 : (renOf (ren s a b) a b).sort ((renOf s a b).sort hi) = hi := pp (.inl (hsorts _ hb.2))
    simp only [Function.comp, Ren.below, e1, e2, id]
  · show (s.ops.map (renOf s a b).op).map (renOf (ren s a b) a b).op = s.ops
    rw [List.map_map]
    refine (List.map_congr_left fun o hoo => ?_).trans (List.map_id _)
    obtain ⟨_, q2, q3, q4⟩ := badOp_facts (ho o hoo)
    exact hop o (fun x hx => by have := q2 x hx; rw [book_has] at this; simpa using this) (by rw [decl_iff h hv] at q3; exact hsorts _ (by simpa using q3)) (okPieces_mem q4)
  · show (s.funs.map (renOf s a b).op).map (renOf (ren s a b) a b).op = s.funs
    rw [List.map_map]
    refine (List.map_congr_left fun o hoo => ?_).trans (List.map_id _)
    obtain ⟨_, q2, q3, q4⟩ := badFun_facts (hf o hoo)
    exact hop o (fun x hx => by have := q2 x hx; rw [book_has] at this; simpa using this) (by rw [book_has] at q3; simpa using q3) (by rw [q4]; intro p hp; cases hp)
  · show (s.values.map (phi s a b)).map (phi (ren s a b) a b) = s.values
    rw [List.map_map]; exact (List.map_congr_left fun x hx => pp (.inl (hval x hx))).trans (List.map_id _)
theorem at_ren_imp {x y : ByteArray} (hat : s.at x y = true) : (ren s a b).at (phi s a b x) (phi s a b y) = true := by
  obtain ⟨_, hx, hy, q⟩ := (at_iff s h x y).1 hat
  refine (at_iff _ (ren_ok h hv hn) _ _).2 ⟨hr, phi_all h hv hx, phi_all h hv hy, ?_⟩
  rcases q with rfl | rfl | ⟨u, hu, ht⟩
  · left
    rw [phi_eq h hv, if_neg]
    intro hm; exact (sorts_facts h hv).2.1 _ hm (by decide)
  · exact .inr (.inl rfl)
  · rcases (star_ren h hv (.step hu ht) hx).cases' with e | e
    · exact .inr (.inl e)
    · exact .inr (.inr e)
theorem at_ren {x y : ByteArray} (hx : x ∈ s.all) (hy : y ∈ s.all) : (ren s a b).at (phi s a b x) (phi s a b y) = s.at x y := by
  rw [Bool.eq_iff_iff]
  constructor
  · intro hat
    have hb := ren_back h hv hn hr
    have := at_ren_imp (s := ren s a b) (ren_ok h hv hn) hr hn (by rw [hb]; exact hv) hat
    rwa [hb, psi_phi h hv hn hr (.inl hx), psi_phi h hv hn hr (.inl hy)] at this
  · exact at_ren_imp h hv hn hr
end

theorem rename_some {s : SigD} (h : s.ok) (a b : ByteArray) : ∃ r e, renameF s a b = some (r, e) ∧ (e = 0 → s.vld = true ∧ names2 a b ∧ r = ren s a b ∧ r.vld = true) ∧ (e ≠ 0 → e = 2 ∨ e = 14) ∧
    (s.vld = true → names2 a b → (ren s a b).vld = true → e = 0) := by
  unfold renameF
  rw [openF_some s h [] (by simp)]
  cases hv : s.vld with
  | false => exact ⟨noSig, 2, by simp, by simp, by simp, by simp⟩
  | true =>
    simp only [List.all_nil, if_true]
    by_cases hn : isName a && isName b
    · have hn' : names2 a b := by unfold names2; simpa using hn
      rw [if_pos hn, if_pos (ren_sigOk h hn')]
      have hf := validF_some (ren s a b) (ren_ok h hv hn')
      unfold ren renOf at hf
      rw [hf]
      cases hr : (ren s a b).vld with
      | true =>
        unfold ren renOf at hr
        rw [hr]; exact ⟨_, 0, rfl, fun _ => ⟨trivial, hn', rfl, hr⟩, by simp, by simp⟩
      | false =>
        have hr2 := hr
        unfold ren renOf at hr
        rw [hr]; exact ⟨_, 14, rfl, by simp, by simp, by simp⟩
    · rw [if_neg hn]
      refine ⟨noSig, 2, by simp, by simp, by simp, fun _ q => ?_⟩
      unfold names2 at q; simp [q.1, q.2] at hn
end Go.Proofs.Yt
namespace Go.Proofs.Yt
open Go Go.FA Go.Proofs
set_option linter.unusedVariables false
set_option linter.unusedSimpArgs false
set_option maxRecDepth 100000

theorem call32 (T : Tab) (hT : T 32 = some s32) (s : SigD) (a b : ByteArray) {r : SigD} {e : Int} (h : renameF s a b = some (r, e)) : dcall T 32 [.agg (EncR.sigd.enc s), .lit (.string a), .lit (.string b)] = some (.tuple [.agg (EncR.sigd.enc r), .lit (.int .i64 e)]) := by
  have := dcall3 (T := T) (A := Enc.sigd) (B := Enc.str) (C := Enc.str) (D := Enc.sigErr) hT h
  simpa [Enc.sigd, Enc.agg, Enc.str, Enc.sigErr, Enc.tup, arg2, EncR.and, EncR.one, Enc.i64, Enc.int] using this
theorem call34 (T : Tab) (hT : T 34 = some s34) (s t : SigD) (h : s.ok) (h' : t.ok) : dcall T 34 [.agg (EncR.sigd.enc s), .agg (EncR.sigd.enc t)] = some (.lit (.bool (decide (s = t)))) := by
  have := dcall2 (T := T) (A := Enc.sigd) (B := Enc.sigd) (C := Enc.bool) (x := s) (y := t) hT (if_pos ⟨h, h'⟩)
  refine Eq.trans this ?_
  simp only [Enc.bool]
theorem setSig (s : SigD) : setAt zsig 0 (EncR.sigd.enc s) = EncR.sigd.enc s := rfl
open Classical in
noncomputable def s9 : Sp := sp (arg3 Enc.sigd Enc.str Enc.str) Enc.bool (fun x => if x.1.ok then some true else none)
abbrev T9 : Tab := tabOf [(10, s10), (11, s11), (12, s12), (32, s32), (34, s34), (40, s40)]
theorem t9 : TabOk Tryz.prog T9 := .cons e10 (.cons e11 (.cons e12 (.cons e32 (.cons e34 (.cons e40 .nil)))))
attribute [local simp] drunL drunO dwanted dopS own plainOf dop dput eval ofVal Then Ex.then Ex.inBlock upd dbin Tag.isNN nilTest intCmp dload dpart TyI.agg dfieldAddr dfield dindexAddr dindex dlen lenOk dlookup mapOf keyFits dmapUpdate dcallee dbuiltin dstore DV.cells dslice dboundOk dappend appTag rowsOf elemOk growLimit dbuildCells dbuildCells.go structOk fieldsOk dbuildRows goInt
theorem c9 : CallSound Tryz.prog 9 s9 := by
  refine CallSound.of_sp (T := T9) Tryz.func9 rfl (Nat.le_of_ble_eq_true rfl) fun E xx y hy => ?_
  obtain ⟨s, x, z⟩ := xx
  simp only [] at hy
  split at hy
  case isFalse => cases hy
  next hok =>
  cases hy
  have g10 := call10 T9 rfl hok
  have g11 := call11 T9 rfl
  have g40 := fun (t : SigD) (h : t.ok) => call40 T9 rfl h
  have g12 := fun (t : SigD) (h : t.ok) => call12 T9 rfl h
  have g34 := fun (t u : SigD) (h : t.ok) (h' : u.ok) => call34 T9 rfl t u h h'
  obtain ⟨r, e, r1, r2, r3, r4⟩ := rename_some hok x z
  have g32 := call32 T9 rfl s x z r1
  have g32' := fun (t r : SigD) (e : Int) (h : renameF t x z = some (r, e)) => call32 T9 rfl t x z h
  have setS := setSig
  simp only [zsig] at setS
  have tT := t9
  generalize T9 = T at *
  have fin : ∀ (a : Nat → DV) (σ : St), a 6 = .lit (.bool true) → Done Tryz.prog Tryz.f9.results Enc.bool true Ex.ret a σ := by
    intro a σ h2
    refine ⟨.inr rfl, .lit (.bool true), ?_, rfl⟩
    show dresults Tryz.prog σ a [ResultVar.tmp 6] = _
    simp [dresults, dres, h2]
  refine Dwp.step tT rfl fun K hK => ?_
  simp [init, arg3, EncR.and, EncR.one, Enc.sigd, Enc.agg, Enc.str]
  refine hK _ _ ?_ rfl; clear hK K
  refine Dwp.seq ?_
  refine Dwp.step tT rfl fun K hK => ?_
  by_cases hf : few s = true
  case neg =>
    have hf' : few s = false := by simpa using hf
    simp [ty26, g10, hf']
    refine hK _ _ ?_ rfl; clear hK K
    refine Dwp.condT (by simp [eval, upd]) ?_
    refine Dwp.step tT rfl fun K hK => ?_
    simp [g11]
    refine hK _ _ (Dwp.ret ?_) rfl
    exact fin _ _ (by simp [upd])
  simp [ty26, g10, hf]
  refine hK _ _ ?_ rfl; clear hK K
  refine Dwp.condF (by simp [eval, upd]) (Dwp.skip ?_)
  refine Dwp.step tT rfl fun K hK => ?_
  simp [ty26, init, g32, setS]
  refine hK _ _ ?_ rfl; clear hK K
  by_cases he : e = 0
  case neg =>
    refine Dwp.seq ?_
    refine Dwp.step tT rfl fun K hK => ?_
    have hne : (e != 0) = true := by simpa using he
    simp [hne]
    refine hK _ _ ?_ rfl; clear hK K
    refine Dwp.condT (by simp [eval, upd]) ?_
    refine Dwp.step tT rfl fun K hK => ?_
    rcases r3 he with rfl | rfl <;> simp [g11] <;> refine hK _ _ (Dwp.ret ?_) rfl <;> exact fin _ _ (by simp [upd])
  subst he
  obtain ⟨hv, hn, rfl, hrv⟩ := r2 rfl
  have hrok := ren_ok hok hv hn
  have hback := ren_back hok hv hn hrv
  obtain ⟨r', e', k1, k2, _, k4⟩ := rename_some hrok x z
  obtain rfl := k4 hrv hn (by rw [hback]; exact hv)
  obtain ⟨_, _, rfl, _⟩ := k2 rfl
  rw [hback] at k1
  have gb := g32' _ _ _ k1
  have g34s := g34 s s hok hok
  simp only [decide_true] at g34s
  have g12r := g12 _ hrok
  rw [hrv] at g12r
  refine Dwp.freeze 12 (o := .cells 26 (EncR.sigd.enc (ren s x z))) (fun t => if t = 1 then .lit (.string x) else if t = 2 then .lit (.string z) else if t = 3 then .row (EncR.sigd.enc s) 0 else if t = 7 then .row (EncR.sigd.enc (ren s x z)) 0 else if t = 8 then .lit (.int .i64 0) else .junk) (by simp [upd, σ0]) (fun t => ?_) ?_
  · by_cases h1 : t = 1
    · subst h1; simp [upd, init]; exact .keep _
    by_cases h2 : t = 2
    · subst h2; simp [upd, init]; exact .keep _
    by_cases h3 : t = 3
    · subst h3; simp [upd]; exact .keep _
    by_cases h7 : t = 7
    · subst h7; simp [upd]; exact .box (t := 26) 0 (by simp [upd, σ0])
    by_cases h8 : t = 8
    · subst h8; simp [upd]; exact .keep _
    simp [h1, h2, h3, h7, h8]; exact .junk _
  refine Dwp.seq ?_
  refine Dwp.step tT rfl fun K hK => ?_
  simp []
  refine hK _ _ ?_ rfl; clear hK K
  refine Dwp.condF (by simp [eval, upd]) (Dwp.skip ?_)
  refine Dwp.step tT rfl fun K hK => ?_
  simp [ty26, gb, setS]
  refine hK _ _ ?_ rfl; clear hK K
  refine Dwp.seq ?_
  refine Dwp.step tT rfl fun K hK => ?_
  simp [ty26, g34s, g12r]
  refine hK _ _ ?_ rfl; clear hK K
  refine Dwp.condF (by simp [eval, upd]) (Dwp.skip ?_)
  refine Dwp.seq ?_
  refine Dwp.step tT rfl fun K hK => ?_
  have hl := hok.1
  have hl' : s.sorts.length ≤ 16777216 := by omega
  have hrl : (ren s x z).sorts.length = s.sorts.length := by rw [ren_sorts]; simp
  simp [ty26, ty22, strsC]
  refine hK _ _ ?_ rfl; clear hK K
  refine Dwp.range tT s.sorts.length (fun i a σ => a 3 = .row (EncR.sigd.enc s) 0 ∧ a 7 = .row (EncR.sigd.enc (ren s x z)) 0 ∧ a 58 = .slice 1 .none (rows1 s.sorts))
    ⟨rfl, rfl, rfl⟩ ⟨rfl, rfl, rfl⟩ ⟨rfl, rfl, rfl⟩ (by decide) (by decide) (by omega) (by simp [upd]) (by simp [upd]) ⟨by simp [upd], by simp [upd], by simp [upd]⟩ ?_ ?_
  · rintro i a σ hi hidx hlen ⟨h3, h7, h58⟩
    have hir : i < (ren s x z).sorts.length := by omega
    refine Dwp.step tT rfl fun K hK => ?_
    simp [h58, hidx, ty22, ty9, hi]
    refine hK _ _ ?_ rfl; clear hK K
    refine Dwp.step tT rfl fun K hK => ?_
    simp [h3, ty26, ty22, strsC]
    refine hK _ _ ?_ rfl; clear hK K
    refine Dwp.range tT s.sorts.length (fun k a σ => a 3 = .row (EncR.sigd.enc s) 0 ∧ a 7 = .row (EncR.sigd.enc (ren s x z)) 0 ∧ a 58 = .slice 1 .none (rows1 s.sorts) ∧ a 11 = .lit (.int .i64 i) ∧ a 12 = .lit (.string s.sorts[i]) ∧ a 59 = .lit (.int .i64 s.sorts.length) ∧ a 60 = .lit (.int .i64 i) ∧ a 66 = .slice 1 .none (rows1 s.sorts))
      ⟨rfl, rfl, rfl⟩ ⟨rfl, rfl, rfl⟩ ⟨rfl, rfl, rfl⟩ (by decide) (by decide) (by omega) (by simp [upd]) (by simp [upd]) ⟨by simp [upd, h3], by simp [upd, h7], by simp [upd, h58], by simp [upd], by simp [upd], by simp [upd, hlen], by simp [upd, hidx], by simp [upd]⟩ ?_ ?_
    · rintro k a σ hk hidx hlen ⟨h3, h7, h58, h11, h12, h59, h60, h66⟩
      have hkr : k < (ren s x z).sorts.length := by omega
      refine Dwp.step tT rfl fun K hK => ?_
      simp [h66, hidx, ty22, ty9, hk]
      refine hK _ _ ?_ rfl; clear hK K
      have q1 := g40 s hok s.sorts[i] s.sorts[k]
      have q2 := g40 (ren s x z) hrok (ren s x z).sorts[i] (ren s x z).sorts[k]
      have hq : (ren s x z).at (ren s x z).sorts[i] (ren s x z).sorts[k] = s.at s.sorts[i] s.sorts[k] := by
        have := at_ren hok hv hn hrv (x := s.sorts[i]) (y := s.sorts[k]) (List.mem_append_right _ (List.getElem_mem hi)) (List.mem_append_right _ (List.getElem_mem hk))
        rw [← this]
        congr 1 <;> simp [ren_sorts]
      rw [hq] at q2
      refine Dwp.drawStep [] mixed tT rfl (by decide) fun K hK => ?_
      simp [drunT, touch, touchP, h3, h7, h11, h12, ty26, ty22, ty9, ty4, strsC, hir, hkr, q1, q2]
      refine hK _ _ ?_ rfl; clear hK K
      refine Dwp.condF (by simp [eval, upd]) (Dwp.skip ?_)
      exact ⟨by simp [upd, hidx], by simp [upd, hlen], by simp [upd, h3], by simp [upd, h7], by simp [upd, h58], by simp [upd, h11], by simp [upd, h12], by simp [upd, h59], by simp [upd, h60], by simp [upd, h66]⟩
    · rintro a σ _ _ ⟨h3, h7, h58, h11, h12, h59, h60, h66⟩
      exact ⟨by simp [upd, h60], by simp [upd, h59], by simp [upd, h3], by simp [upd, h7], by simp [upd, h58]⟩
  · rintro a σ hidx hlen ⟨h3, h7, h58⟩
    refine Dwp.step tT rfl fun K hK => ?_
    simp [g11]
    refine hK _ _ (Dwp.ret ?_) rfl
    exact fin _ _ (by simp [upd])
theorem e9 : Go.FA.Good Tryz.prog (9, s9) := ⟨c9, Tryz.f9, _, Tryz.func9, rfl, by decide⟩
end Go.Proofs.Yt
