/- Contracts of functions of the program, by a machine over abstract values; part 9. No condition beyond those of each theorem. -/
import Derived.Test.YtfpejlbfdpeofaaGreatDoorSm7
import Derived.Shelf.Spec.SlicesGrow
import Derived.Shelf.Sort.Plain
import Derived.Shelf.Slices.In.SortNone
import Derived.Sort.Row
import Derived.Sort.Grow
import Derived.Sort.EncStr
import Derived.Shelf.SlGeneric
import Derived.Shelf.SlIter.Nil
import Derived.Ground.GgzProg
import Derived.StringKeys
import Derived.Lib.Builder
import Derived.WalkKit
import Derived.Shelf.LaysM
import Derived.Shelf.Strconv.Itoa3
import Derived.Ground.NamesProg
import Derived.Lib.AppendIntMem
import Derived.Lib.UnsafeStr
import Derived.Shelf.RegionOpenPlain
import Derived.Lib.Strings
import Derived.Lib.Walk
import Derived.Deep.DeepHandedRow
set_option linter.unusedVariables false
set_option linter.unusedSimpArgs false
namespace Go.Proofs.Yt
open Go Go.FA Go.Proofs
set_option maxRecDepth 100000
def Enc.nil : Enc Unit where
  enc _ := .lit (.slice none 0 0)
  dec d := match d with | .lit (.slice none 0 0) => some () | _ => none
  le d x h := by split at h <;> simp_all [DLe.refl]
  pure _ := rfl
  de _ := rfl
def Qgd {α : Type} (B : Ql α) : Sp := QhI (QR Enc.nil (Enc.int .i64)) B (fun x => if 0 ≤ x.2 ∧ x.2 ≤ 1073741824 then some [] else none)
theorem Qgz {α : Type} {P : Program} {ρ : Go.Shelf.Ren} (L : Lays8.n4 P ρ) (B : Ql α) {i : TypeInfo} {z : Value} (hi : P.info? (ρ.t 25) = some i) (hz : i.zero = some z) (hs : 0 < i.size) (hk : i.size = B.k)
    (hzs : z.cells.size = i.size) (hb : i.bytes ≤ 65536) : Qb P (ρ.f 4) (Qgd B) := by
  intro args r hr
  simp only [Qgd, QhI, Option.bind_eq_some_iff, Option.map_eq_some_iff] at hr
  obtain ⟨⟨u, n⟩, hx, l, hy, rfl⟩ := hr
  by_cases hn : 0 ≤ n ∧ n ≤ 1073741824 <;> simp [hn] at hy
  subst hy
  refine .inr ⟨_, _, rfl, rfl, fun C w cargs hgl hpc hpm hl1 => ?_⟩
  have hl := Qbk ((QR Enc.nil (Enc.int .i64)).le _ _ hx) hl1
  have hc : cargs = [.slice none 0 0, .int .i64 n] := by
    simp only [QR, Ql.and, Ql.one, Enc.nil, Enc.int] at hl
    match cargs, hl with
    | [a, b], hl =>
      simp [QP, Qy] at hl
      rw [hl.1, hl.2]
  subst hc
  obtain ⟨m, rfl⟩ : ∃ m : Nat, n = m := ⟨n.toNat, by omega⟩
  by_cases h0 : m = 0
  · subst h0
    refine (Any8.slices_Grow_room L none 0 0 0 w (Nat.le_refl _) (by omega) (by omega) (by omega)).mono ?_
    rintro e w' ⟨rfl, rfl⟩
    exact ⟨_, rfl, Go.RowKit.Below.refl _ _, ⟨0, 0, 0, 0⟩, rfl, fun q => by simp at q, by simp only [Qy]; exact .inr ⟨none, rfl, rfl, _, rfl, Nat.le_refl _⟩⟩
  · have hbb : (0 + m) * i.bytes ≤ 140737488355328 := by
      have : (0 + m) * i.bytes ≤ 1073741824 * 65536 := Nat.mul_le_mul (by omega) hb
      omega
    refine (Any8.slices_Grow_grow L i z hi hz hs none 0 0 m [] w (Nat.le_refl _) (by omega) hbb (by omega) (by simp) (fun _ => rfl) (by simp)).mono ?_
    rintro e w' ⟨rfl, rfl⟩
    have hG := grownCap_ge w (0 + m) 0 (ρ.t 25)
    generalize grownCap w (0 + m) 0 (ρ.t 25) = G at *
    have hsz : (([] : List Value).toArray ++ Builtin.zeroCells z.cells (0 + m - 0) ++ Builtin.zeroCells z.cells (G - (0 + m))).size = G * i.size := by
      simp only [Array.size_append, size_zeroCells, hzs, List.size_toArray, List.length_nil]
      have : G = m + (G - m) := by omega
      rw [show G * i.size = m * i.size + (G - m) * i.size by rw [← Nat.add_mul, ← this]]
      simp
    refine ⟨_, rfl, (Go.RowKit.Below.refl _ _).drew.alloc (Nat.le_refl _) _, ⟨0, w.heap.size, 0, G * i.size⟩, rfl, fun _ => ⟨Nat.le_refl _, _, ρ.t 25, ?_, Nat.le_of_eq hsz.symm⟩, ?_⟩
    · exact heap_alloc_new w.drew _
    · simp only [Qy]
      exact .inl ⟨w.heap.size, 0, G, rfl, Nat.zero_le _, by simp [QaP], ⟨_, rfl, Nat.le_refl _, fun _ => .inr ⟨rfl, by simp, by simp [hk]⟩⟩, Nat.le_refl _, _, _, heap_alloc_new w.drew _⟩
def renG (f s e : Nat) : Go.Shelf.Ren := ⟨fun n => if n = 4 then f else n, fun n => if n = 22 then s else if n = 25 then e else n, fun n => n⟩
theorem lays127 : Lays8.n4 Tryz.prog (renG 338 22 9) where
  mixed := mixed
  f4 := ⟨"slices.Grow[[]string,string]", by decide, by kernel_rfl⟩
  t0 := by kernel_rfl
  a0 := Tryz.isAgg0
  z0 := Tryz.sizeOf0
  v0 := Tryz.zeroValue0
  t3 := by kernel_rfl
  a3 := Tryz.isAgg3
  z3 := Tryz.sizeOf3
  v3 := Tryz.zeroValue3
  t4 := by kernel_rfl
  a4 := Tryz.isAgg4
  z4 := Tryz.sizeOf4
  v4 := Tryz.zeroValue4
  t9 := by kernel_rfl
  a9 := Tryz.isAgg9
  z9 := Tryz.sizeOf9
  v9 := Tryz.zeroValue9
  t20 := by kernel_rfl
  a20 := Tryz.isAgg20
  z20 := Tryz.sizeOf20
  v20 := Tryz.zeroValue20
  t22 := by kernel_rfl
  a22 := Tryz.isAgg22
  z22 := Tryz.sizeOf22
  v22 := Tryz.zeroValue22
theorem lays150 : Lays8.n4 Tryz.prog (renG 352 24 83) where
  mixed := mixed
  f4 := ⟨"slices.Grow[[]voussoir/api.Op,voussoir/api.Op]", by decide, by kernel_rfl⟩
  t0 := by kernel_rfl
  a0 := Tryz.isAgg0
  z0 := Tryz.sizeOf0
  v0 := Tryz.zeroValue0
  t3 := by kernel_rfl
  a3 := Tryz.isAgg3
  z3 := Tryz.sizeOf3
  v3 := Tryz.zeroValue3
  t4 := by kernel_rfl
  a4 := Tryz.isAgg4
  z4 := Tryz.sizeOf4
  v4 := Tryz.zeroValue4
  t9 := by kernel_rfl
  a9 := Tryz.isAgg9
  z9 := Tryz.sizeOf9
  v9 := Tryz.zeroValue9
  t20 := by kernel_rfl
  a20 := Tryz.isAgg20
  z20 := Tryz.sizeOf20
  v20 := Tryz.zeroValue20
  t22 := by kernel_rfl
  a22 := Tryz.isAgg24
  z22 := Tryz.sizeOf24
  v22 := Tryz.zeroValue24
def s338 : Sp := Qgd (Ql.one Enc.str)
theorem c338 : Qb Tryz.prog 338 s338 := Qgz lays127 (Ql.one Enc.str) (i := Tryz.t9) (z := .string ⟨#[]⟩) (by kernel_rfl) (by kernel_rfl) (by decide) rfl (by decide) (by decide)
theorem e338 : Go.FA.Good Tryz.prog (338, s338) := ⟨c338, Tryz.f338, _, Tryz.func338, rfl, by decide⟩
def s352 : Sp := Qgd Ql.opd
theorem c352 : Qb Tryz.prog 352 s352 := Qgz lays150 Ql.opd (i := Tryz.t83) (z := Tryz.t83.zero.get!) (by kernel_rfl) (by kernel_rfl) (by decide) rfl (by kernel_rfl) (by decide)
theorem e352 : Go.FA.Good Tryz.prog (352, s352) := ⟨c352, Tryz.f352, _, Tryz.func352, rfl, by decide⟩
section
attribute [local simp] QF QZ Qo QJ own Qm dop QN eval Qr Qn Ex.then Ex.inBlock upd QV Tag.isNN Qp intCmp Qv Qx TyI.agg Qa Qu Qg Qs QX QA QD mapOf QQ QC Qq Qi Qj QI DV.cells Qt Qk QE QK rowsOf QL Qd Qe Qe.go Qz QB Qc goInt
def s120o : Sp := QhI (QM Enc.strs) (Ql.one Enc.str) (fun l => if l.length ≤ 1048576 then some l else none)
theorem c120o : Qb Tryz.prog 349 s120o := by
  refine Qb.of_own (T := Qf []) Tryz.func349 rfl (Nat.le_of_ble_eq_true rfl) fun E l y hy => ?_
  by_cases hlim : l.length ≤ 1048576 <;> simp [hlim] at hy
  subst hy
  have hd := QdU l
  simp only [Ql.one, Enc.str] at hd
  have go : ∀ (a : Nat → DV) (tag : Tag), tag = .none ∧ l ≠ [] ∨ tag = .nn → a 0 = .slice 1 tag (l.map fun s => [DV.lit (.string s)]) → ∀ c, Tryz.f349.body = some c → Dwp Tryz.prog (Qf []) E Tryz.f349.ntmps c (Qkc Tryz.prog Tryz.f349.results (Ql.one Enc.str) l) a σ0 := by
    intro a tag htag h0 c hc
    cases hc
    refine Dwp.step Q9 rfl fun K hK => ?_
    simp [dcall, Qf, setAt]
    refine hK _ _ ?_ rfl; clear hK K
    refine Dwp.seq ?_
    refine Dwp.step Q9 rfl fun K hK => ?_
    have hnn : tag.isNN = true ∨ ¬l = [] := by
      rcases htag with ⟨rfl, hne⟩ | rfl
      · exact .inr hne
      · exact .inl rfl
    simp [dcall, Qf, setAt, h0, Qah]
    simp only [Tag.isNN] at hnn
    rw [if_pos hnn]
    simp [dcall, Qf, setAt]
    refine hK _ _ ?_ rfl; clear hK K
    refine Dwp.condF (by simp [eval, upd]) (Dwp.skip ?_)
    refine Dwp.step Q9 rfl fun K hK => ?_
    have hle : l.length ≤ 16777216 := by omega
    simp [dcall, Qf, setAt, h0, Qah, ty9, hle]
    refine hK _ _ (Dwp.ret ?_) rfl
    exact ⟨.inr rfl, _, rfl, .inr ⟨_, _, _, rfl, by simp [upd], by rw [Qfb]; exact QdU l⟩⟩
  cases l with
  | nil =>
    refine Dwp.nilCase 0 1 (by simp [init, QM, QR, Q6, Ql.one, Ql.and, Enc.bool, Enc.int, Enc.str, Enc.strs, Enc.slice, Enc.agg, Enc.tup, Enc.err, Enc.fn]) ?_ (go _ .nn (.inr rfl) (by simp [upd]) _ rfl)
    refine Dwp.step Q9 rfl fun K hK => ?_
    simp [dcall, Qf, setAt]
    refine hK _ _ ?_ rfl; clear hK K
    refine Dwp.seq ?_
    refine Dwp.step Q9 rfl fun K hK => ?_
    simp [dcall, Qf, setAt, Qah]
    refine hK _ _ ?_ rfl; clear hK K
    refine Dwp.condT (by simp [eval, upd]) ?_
    refine Dwp.step Q9 rfl fun K hK => ?_
    simp [dcall, Qf, setAt]
    refine hK _ _ (Dwp.ret ?_) rfl
    exact ⟨.inr rfl, _, rfl, .inl ⟨rfl, rfl⟩⟩
  | cons x r => exact go _ .none (.inl ⟨rfl, by simp⟩) (by simp [init, QM, QR, Q6, Ql.one, Ql.and, Enc.bool, Enc.int, Enc.str, Enc.strs, Enc.slice, Enc.agg, Enc.tup, Enc.err, Enc.fn]) _ rfl
theorem e120o : Go.FA.Good Tryz.prog (349, s120o) := ⟨c120o, Tryz.f349, _, Tryz.func349, rfl, by decide⟩
theorem call338 (T : Tab) (hT : T 338 = some s338) (n : Int) (h0 : 0 ≤ n) (h1 : n ≤ 1073741824) : dcall T 338 [.lit (.slice none 0 0), .lit (.int .i64 n)] = some (.slice 1 (.tok 0 0) []) := by
  simp [dcall, hT, s338, Qgd, QhI, QR, Ql.and, Ql.one, Enc.nil, Enc.int, h0, h1]
theorem call352 (T : Tab) (hT : T 352 = some s352) (n : Int) (h0 : 0 ≤ n) (h1 : n ≤ 1073741824) : dcall T 352 [.lit (.slice none 0 0), .lit (.int .i64 n)] = some (.slice 7 (.tok 0 0) []) := by
  simp [dcall, hT, s352, Qgd, QhI, QR, Ql.and, Ql.one, Enc.nil, Enc.int, h0, h1]
def cat {α : Type} (l : List (List α)) : List α := List.flatten l
theorem QeK {α : Type} {l : List (List α)} {i : Nat} (h : i < l.length) : cat (l.take (i + 1)) = cat (l.take i) ++ l[i] := by
  unfold cat; rw [List.take_succ_eq_append_getElem h, List.flatten_append]; simp
theorem QiU {α : Type} {l : List (List α)} {i : Nat} : (cat (l.take i)).length ≤ (cat l).length := by
  have h : List.flatten l = List.flatten (l.take i) ++ List.flatten (l.drop i) := by rw [← List.flatten_append, List.take_append_drop]
  unfold cat; rw [h, List.length_append]; omega
@[simp] theorem cat_nil {α : Type} : cat ([] : List (List α)) = [] := rfl
def Enc.lists {α : Type} (B : Enc α) : Enc (List α) := Enc.slice (Ql.one B)
def s323 : Sp := sp (QM (Enc.lists Enc.strs)) Enc.strs (fun l => if l.length ≤ 1048576 ∧ (cat l).length ≤ 1048576 then some (cat l) else none)
def inv109a (l : List (List ByteArray)) : Nat → (Nat → DV) → St → Prop := fun k a σ => ∃ i, i ≤ l.length ∧ k = l.length - i ∧ a 0 = .slice 1 .none (l.map fun s => [Enc.strs.enc s]) ∧ a 3 = .lit (.int .i64 (cat (l.take i)).length) ∧
  a 9 = .slice 1 .none (l.map fun s => [Enc.strs.enc s]) ∧ a 10 = .lit (.int .i64 l.length) ∧ a 11 = .lit (.int .i64 i)
def inv109b (l : List (List ByteArray)) : Nat → (Nat → DV) → St → Prop := fun k a σ => ∃ (i tk g : Nat), i ≤ l.length ∧ k = l.length - i ∧
  a 6 = .slice 1 (.tok tk g) ((cat (l.take i)).map fun s => [DV.lit (.string s)]) ∧ σ.toks tk = some g ∧
  a 25 = .slice 1 .none (l.map fun s => [Enc.strs.enc s]) ∧ a 26 = .lit (.int .i64 l.length) ∧ a 27 = .lit (.int .i64 i)
theorem Qil : QH Tryz.prog (Qf [(338, s338)]) := .cons e338 .nil
theorem c323 : Qb Tryz.prog 323 s323 := by
  refine Qb.of_sp (T := Qf [(338, s338)]) Tryz.func323 rfl (Nat.le_of_ble_eq_true rfl) fun E l y hy => ?_
  by_cases hlim : l.length ≤ 1048576 ∧ (cat l).length ≤ 1048576 <;> simp only [hlim, and_self, if_true, if_false, reduceCtorEq, Option.some.injEq] at hy
  subst hy
  obtain ⟨hl1, hl2⟩ := hlim
  refine Dwp.step Qil rfl fun K hK => ?_
  simp [dcall, Qf, setAt]
  refine hK _ _ ?_ rfl; clear hK K
  refine Dwp.step Qil rfl fun K hK => ?_
  simp [dcall, Qf, setAt]
  refine hK _ _ ?_ rfl; clear hK K
  refine Dwp.seq ?_
  refine Dwp.step Qil rfl fun K hK => ?_
  simp [dcall, Qf, setAt, init, QM, Ql.one, Enc.lists, Enc.slice, Qjn]
  refine hK _ _ ?_ rfl; clear hK K
  refine Dwp.block (Dwp.loop (inv109a l) l.length ⟨0, by simp, by simp, by simp [upd, init, Enc.strs, Enc.slice, Ql.one], by simp [upd], by simp [upd, init, Enc.strs, Enc.slice, Ql.one], by simp [upd], by simp [upd]⟩ ?_)
  rintro k a σ ⟨i, hi, rfl, h0, h3, h9, h10, h11⟩
  refine Dwp.step Qil rfl fun K hK => ?_
  simp [dcall, Qf, setAt, h10, h11]
  refine hK _ _ ?_ rfl; clear hK K
  by_cases hlt : i < l.length
  · refine Dwp.seq (Dwp.condT (by simp [eval, upd, hlt]) (Dwp.skip ?_))
    refine Dwp.seq (Dwp.block ?_)
    refine Dwp.step Qil rfl fun K hK => ?_
    simp [dcall, Qf, setAt, h9, h11, Qjn, Qah, hlt]
    refine hK _ _ ?_ rfl; clear hK K
    refine Dwp.step Qil rfl fun K hK => ?_
    have hft := QeK hlt
    have hfl := QiU (l := l) (i := i + 1)
    have hsum : (cat (l.take (i + 1))).length = (cat (l.take i)).length + l[i].length := by rw [hft]; simp
    have hw : IntKind.wrap .i64 (((cat (l.take i)).length : Int) + l[i].length) = ((cat (l.take (i + 1))).length : Int) := by rw [wrap_small (n := ((cat (l.take i)).length : Int) + l[i].length) (by omega) (by omega)]; omega
    simp [dcall, Qf, setAt, h3, Qah, Enc.strs, Enc.slice, Ql.one, hw]
    refine hK _ _ ?_ rfl; clear hK K
    refine Dwp.step Qil rfl fun K hK => ?_
    have hnn : ¬ (((cat (l.take (i + 1))).length : Int) < 0) := by omega
    simp [dcall, Qf, setAt, hnn]
    refine hK _ _ ?_ rfl; clear hK K
    refine Dwp.condF (by simp [eval, upd]) (Dwp.skip ?_)
    refine Dwp.reg Qil rfl fun K hK => ?_
    simp [dcall, Qf, setAt, h11]
    refine hK _ _ ?_ rfl; clear hK K
    refine ⟨l.length - (i + 1), by omega, i + 1, by omega, rfl, by simp [upd, h0], by simp [upd], by simp [upd, h9], by simp [upd, h10], by simp [upd, wrap_small (n := (i : Int) + 1) (by omega) (by omega)]⟩
  · refine Dwp.seq (Dwp.condF (by simp [eval, upd, hlt]) (Dwp.exit ?_))
    rw [List.take_of_length_le (by omega)] at h3
    refine Dwp.step Qil rfl fun K hK => ?_
    have g := call338 (Qf [(338, s338)]) rfl ((cat l).length : Int) (by omega) (by omega)
    simp [dcall, Qf] at g
    simp [dcall, Qf, setAt, h3, g]
    refine hK _ _ ?_ rfl; clear hK K
    refine Dwp.seq ?_
    refine Dwp.step Qil rfl fun K hK => ?_
    simp [dcall, Qf, setAt, h0, Qjn]
    refine hK _ _ ?_ rfl; clear hK K
    refine Dwp.block (Dwp.loop (inv109b l) l.length ⟨0, _, 0, by simp, by simp, by simp [upd]; rfl, by simp [upd], by simp [upd, h0], by simp [upd], by simp [upd]⟩ ?_)
    rintro k a σ ⟨i, tk, g, hi, rfl, h6, htk, h25, h26, h27⟩
    refine Dwp.step Qil rfl fun K hK => ?_
    simp [dcall, Qf, setAt, h26, h27]
    refine hK _ _ ?_ rfl; clear hK K
    by_cases hlt : i < l.length
    · refine Dwp.seq (Dwp.condT (by simp [eval, upd, hlt]) (Dwp.skip ?_))
      refine Dwp.seq (Dwp.block ?_)
      refine Dwp.step Qil rfl fun K hK => ?_
      simp [dcall, Qf, setAt, h25, h27, Qjn, Qah, hlt]
      refine hK _ _ ?_ rfl; clear hK K
      refine Dwp.reg Qil rfl fun K hK => ?_
      have hft := QeK hlt
      have hfl := QiU (l := l) (i := i + 1)
      have hsum : (cat (l.take i)).length + l[i].length ≤ 16777216 := by rw [hft] at hfl; simp only [List.length_append] at hfl; omega
      simp [dcall, Qf, setAt, h6, htk, Qah, ty9, Enc.strs, Enc.slice, Ql.one, Enc.str, hsum]
      refine hK _ _ ?_ rfl; clear hK K
      refine Dwp.reg Qil rfl fun K hK => ?_
      simp [dcall, Qf, setAt, h27]
      refine hK _ _ ?_ rfl; clear hK K
      refine ⟨l.length - (i + 1), by omega, i + 1, _, _, by omega, rfl, by rw [hft]; simp [upd]; exact ⟨rfl, rfl⟩, by simp [upd], by simp [upd, h25], by simp [upd, h26], by simp [upd, wrap_small (n := (i : Int) + 1) (by omega) (by omega)]⟩
    · refine Dwp.seq (Dwp.condF (by simp [eval, upd, hlt]) (Dwp.exit ?_))
      rw [List.take_of_length_le (by omega)] at h6
      refine Dwp.step Qil rfl fun K hK => ?_
      simp [dcall, Qf, setAt, h6]
      refine hK _ _ (Dwp.ret ?_) rfl
      have hd := QdU (cat l)
      simp [Q3, Qh, QW, frz, Q2, Q0, upd, Enc.strs, Enc.slice, Ql.one, Enc.str] at hd ⊢
      exact hd
theorem e323 : Go.FA.Good Tryz.prog (323, s323) := ⟨c323, Tryz.f323, _, Tryz.func323, rfl, by decide⟩
def s342 : Sp := sp (QM (Enc.lists Enc.ops)) Enc.ops (fun l => if l.length ≤ 1048576 ∧ (cat l).length ≤ 1048576 then some (cat l) else none)
def inv130a (l : List (List OpD)) : Nat → (Nat → DV) → St → Prop := fun k a σ => ∃ i, i ≤ l.length ∧ k = l.length - i ∧ a 0 = .slice 1 .none (l.map fun s => [Enc.ops.enc s]) ∧ a 3 = .lit (.int .i64 (cat (l.take i)).length) ∧
  a 9 = .slice 1 .none (l.map fun s => [Enc.ops.enc s]) ∧ a 10 = .lit (.int .i64 l.length) ∧ a 11 = .lit (.int .i64 i)
def inv130b (l : List (List OpD)) : Nat → (Nat → DV) → St → Prop := fun k a σ => ∃ (i tk g : Nat), i ≤ l.length ∧ k = l.length - i ∧
  a 6 = .slice 7 (.tok tk g) ((cat (l.take i)).map Ql.opd.enc) ∧ σ.toks tk = some g ∧
  a 25 = .slice 1 .none (l.map fun s => [Enc.ops.enc s]) ∧ a 26 = .lit (.int .i64 l.length) ∧ a 27 = .lit (.int .i64 i)
theorem Qik : QH Tryz.prog (Qf [(352, s352)]) := .cons e352 .nil
theorem c342 : Qb Tryz.prog 342 s342 := by
  refine Qb.of_sp (T := Qf [(352, s352)]) Tryz.func342 rfl (Nat.le_of_ble_eq_true rfl) fun E l y hy => ?_
  by_cases hlim : l.length ≤ 1048576 ∧ (cat l).length ≤ 1048576 <;> simp only [hlim, and_self, if_true, if_false, reduceCtorEq, Option.some.injEq] at hy
  subst hy
  obtain ⟨hl1, hl2⟩ := hlim
  refine Dwp.step Qik rfl fun K hK => ?_
  simp [dcall, Qf, setAt]
  refine hK _ _ ?_ rfl; clear hK K
  refine Dwp.step Qik rfl fun K hK => ?_
  simp [dcall, Qf, setAt]
  refine hK _ _ ?_ rfl; clear hK K
  refine Dwp.seq ?_
  refine Dwp.step Qik rfl fun K hK => ?_
  simp [dcall, Qf, setAt, init, QM, Ql.one, Enc.lists, Enc.slice, Qj3]
  refine hK _ _ ?_ rfl; clear hK K
  refine Dwp.block (Dwp.loop (inv130a l) l.length ⟨0, by simp, by simp, by simp [upd, init, Enc.ops, Enc.slice, Ql.one], by simp [upd], by simp [upd, init, Enc.ops, Enc.slice, Ql.one], by simp [upd], by simp [upd]⟩ ?_)
  rintro k a σ ⟨i, hi, rfl, h0, h3, h9, h10, h11⟩
  refine Dwp.step Qik rfl fun K hK => ?_
  simp [dcall, Qf, setAt, h10, h11]
  refine hK _ _ ?_ rfl; clear hK K
  by_cases hlt : i < l.length
  · refine Dwp.seq (Dwp.condT (by simp [eval, upd, hlt]) (Dwp.skip ?_))
    refine Dwp.seq (Dwp.block ?_)
    refine Dwp.step Qik rfl fun K hK => ?_
    simp [dcall, Qf, setAt, h9, h11, Qj3, Qer, hlt]
    refine hK _ _ ?_ rfl; clear hK K
    refine Dwp.step Qik rfl fun K hK => ?_
    have hft := QeK hlt
    have hfl := QiU (l := l) (i := i + 1)
    have hsum : (cat (l.take (i + 1))).length = (cat (l.take i)).length + l[i].length := by rw [hft]; simp
    have hw : IntKind.wrap .i64 (((cat (l.take i)).length : Int) + l[i].length) = ((cat (l.take (i + 1))).length : Int) := by rw [wrap_small (n := ((cat (l.take i)).length : Int) + l[i].length) (by omega) (by omega)]; omega
    simp [dcall, Qf, setAt, h3, Qer, Enc.ops, Enc.slice, Ql.one, hw]
    refine hK _ _ ?_ rfl; clear hK K
    refine Dwp.step Qik rfl fun K hK => ?_
    have hnn : ¬ (((cat (l.take (i + 1))).length : Int) < 0) := by omega
    simp [dcall, Qf, setAt, hnn]
    refine hK _ _ ?_ rfl; clear hK K
    refine Dwp.condF (by simp [eval, upd]) (Dwp.skip ?_)
    refine Dwp.reg Qik rfl fun K hK => ?_
    simp [dcall, Qf, setAt, h11]
    refine hK _ _ ?_ rfl; clear hK K
    refine ⟨l.length - (i + 1), by omega, i + 1, by omega, rfl, by simp [upd, h0], by simp [upd], by simp [upd, h9], by simp [upd, h10], by simp [upd, wrap_small (n := (i : Int) + 1) (by omega) (by omega)]⟩
  · refine Dwp.seq (Dwp.condF (by simp [eval, upd, hlt]) (Dwp.exit ?_))
    rw [List.take_of_length_le (by omega)] at h3
    refine Dwp.step Qik rfl fun K hK => ?_
    have g := call352 (Qf [(352, s352)]) rfl ((cat l).length : Int) (by omega) (by omega)
    simp [dcall, Qf] at g
    simp [dcall, Qf, setAt, h3, g]
    refine hK _ _ ?_ rfl; clear hK K
    refine Dwp.seq ?_
    refine Dwp.step Qik rfl fun K hK => ?_
    simp [dcall, Qf, setAt, h0, Qj3]
    refine hK _ _ ?_ rfl; clear hK K
    refine Dwp.block (Dwp.loop (inv130b l) l.length ⟨0, _, 0, by simp, by simp, by simp [upd]; rfl, by simp [upd], by simp [upd, h0], by simp [upd], by simp [upd]⟩ ?_)
    rintro k a σ ⟨i, tk, g, hi, rfl, h6, htk, h25, h26, h27⟩
    refine Dwp.step Qik rfl fun K hK => ?_
    simp [dcall, Qf, setAt, h26, h27]
    refine hK _ _ ?_ rfl; clear hK K
    by_cases hlt : i < l.length
    · refine Dwp.seq (Dwp.condT (by simp [eval, upd, hlt]) (Dwp.skip ?_))
      refine Dwp.seq (Dwp.block ?_)
      refine Dwp.step Qik rfl fun K hK => ?_
      simp [dcall, Qf, setAt, h25, h27, Qj3, Qer, hlt]
      refine hK _ _ ?_ rfl; clear hK K
      refine Dwp.reg Qik rfl fun K hK => ?_
      have hft := QeK hlt
      have hfl := QiU (l := l) (i := i + 1)
      have hsum : (cat (l.take i)).length + l[i].length ≤ 16777216 := by rw [hft] at hfl; simp only [List.length_append] at hfl; omega
      simp [dcall, Qf, setAt, h6, htk, Qer, QbY, Enc.ops, Enc.slice, hsum]
      refine hK _ _ ?_ rfl; clear hK K
      refine Dwp.reg Qik rfl fun K hK => ?_
      simp [dcall, Qf, setAt, h27]
      refine hK _ _ ?_ rfl; clear hK K
      refine ⟨l.length - (i + 1), by omega, i + 1, _, _, by omega, rfl, by rw [hft]; simp [upd]; exact ⟨rfl, rfl⟩, by simp [upd], by simp [upd, h25], by simp [upd, h26], by simp [upd, wrap_small (n := (i : Int) + 1) (by omega) (by omega)]⟩
    · refine Dwp.seq (Dwp.condF (by simp [eval, upd, hlt]) (Dwp.exit ?_))
      rw [List.take_of_length_le (by omega)] at h6
      refine Dwp.step Qik rfl fun K hK => ?_
      simp [dcall, Qf, setAt, h6]
      refine hK _ _ (Dwp.ret ?_) rfl
      have hd := QaF Ql.opd (cat l)
      simp [Q3, Qh, QW, frz, Q2, Q0, upd, Enc.ops, Enc.slice] at hd ⊢
      exact hd
theorem e342 : Go.FA.Good Tryz.prog (342, s342) := ⟨c342, Tryz.f342, _, Tryz.func342, rfl, by decide⟩
end
@[simp] theorem sig0 (s : SigD) : (Ql.sigd.enc s)[0]? = some (Enc.strs.enc s.sorts) := rfl
@[simp] theorem sig1 (s : SigD) : (Ql.sigd.enc s)[1]? = some (Enc.bels.enc s.below) := rfl
@[simp] theorem sig2 (s : SigD) : (Ql.sigd.enc s)[2]? = some (Enc.ops.enc s.ops) := rfl
@[simp] theorem sig3 (s : SigD) : (Ql.sigd.enc s)[3]? = some (Enc.ops.enc s.funs) := rfl
@[simp] theorem sig4 (s : SigD) : (Ql.sigd.enc s)[4]? = some (Enc.strs.enc s.values) := rfl
@[simp] theorem sigLen (s : SigD) : (Ql.sigd.enc s).length = 5 := rfl
@[simp] theorem sigTake (s : SigD) : (Ql.sigd.enc s).take 5 = Ql.sigd.enc s := rfl
theorem call323 (T : Tab) (hT : T 323 = some s323) (l m : List ByteArray) (h : l.length + m.length ≤ 1048576) : dcall T 323 [.slice 1 .full [[Enc.strs.enc l], [Enc.strs.enc m]]] = some (Enc.strs.enc (l ++ m)) := by
  have h1 : (Enc.lists Enc.strs).dec (.slice 1 .full [[Enc.strs.enc l], [Enc.strs.enc m]]) = some [l, m] := by simp [Enc.lists, Enc.slice, Ql.one, Qat, Enc.strs.de]
  have h2 : (cat [l, m]).length ≤ 1048576 := by simpa [cat] using h
  simp only [dcall, hT, s323, sp, QM, Ql.one, h1, Option.bind_some]
  rw [if_pos ⟨by simp, h2⟩]
  simp [cat]
theorem call327 (T : Tab) (hT : T 327 = some s327) (l : List ByteArray) (h : l.length ≤ lim) : dcall T 327 [Enc.strs.enc l] = some (.lit (.bool (decide l.Nodup))) := by
  simp [dcall, hT, s327, sp, QM, Ql.one, Enc.strs.de, h, Enc.bool]
def okSorts (l : List ByteArray) : Bool := l.all QU && decide (QbR ++ l).Nodup
def s325 : Sp := sp (QM Enc.strs) Enc.bool (fun l => if l.length ≤ 1000000 then some (okSorts l) else none)
def inv325 (l : List ByteArray) : Nat → (Nat → DV) → St → Prop := fun k a σ => ∃ i, i ≤ l.length ∧ k = l.length - i ∧ (l.take i).all QU = true ∧ a 0 = Enc.strs.enc l ∧
  a 5 = .slice 1 .none (l.map fun s => [DV.lit (.string s)]) ∧ a 6 = .lit (.int .i64 l.length) ∧ a 7 = .lit (.int .i64 i)
abbrev T111 : Tab := Qf [(105, s105), (324, s324), (323, s323), (327, s327)]
theorem t111 : QH Tryz.prog T111 := .cons Qk4 (.cons e324 (.cons e323 (.cons e327 .nil)))
theorem c325 : Qb Tryz.prog 325 s325 := by
  refine Qb.of_sp (T := T111) Tryz.func325 rfl (Nat.le_of_ble_eq_true rfl) fun E l y hy => ?_
  by_cases hlim : l.length ≤ 1000000 <;> simp [hlim] at hy
  subst hy
  refine Dwp.step t111 rfl fun K hK => ?_
  simp [QF, QZ, Qo, QJ, own, Qm, dop, QN, eval, Qr, Qn, Ex.then, Ex.inBlock, upd, QV, Tag.isNN, Qp, intCmp, Qv, Qx, TyI.agg, Qa, Qu, Qg, Qs, QX, QA, QD, mapOf, QQ, QC, Qq, Qi, dcall, Qf, Qj, QI, DV.cells, setAt, Qt, Qk, QE, QK, rowsOf, QL, Qd, Qe, Qe.go, Qz, QB, Qc, goInt]
  refine hK _ _ ?_ rfl; clear hK K
  refine Dwp.seq ?_
  refine Dwp.step t111 rfl fun K hK => ?_
  simp [QF, QZ, Qo, QJ, own, Qm, dop, QN, eval, Qr, Qn, Ex.then, Ex.inBlock, upd, QV, Tag.isNN, Qp, intCmp, Qv, Qx, TyI.agg, Qa, Qu, Qg, Qs, QX, QA, QD, mapOf, QQ, QC, Qq, Qi, dcall, Qf, Qj, QI, DV.cells, setAt, Qt, Qk, QE, QK, rowsOf, QL, Qd, Qe, Qe.go, Qz, QB, Qc, goInt, init, QM, QR, Q6, Ql.one, Ql.and, Enc.bool, Enc.int, Enc.str, Enc.strs, Enc.slice, Enc.agg, Enc.tup, Enc.err, Enc.fn, Qah]
  refine hK _ _ ?_ rfl; clear hK K
  refine Dwp.block (Dwp.loop (inv325 l) l.length ⟨0, by simp, by simp, by simp, by simp [upd, init, QM, QR, Q6, Ql.one, Ql.and, Enc.bool, Enc.int, Enc.str, Enc.strs, Enc.slice, Enc.agg, Enc.tup, Enc.err, Enc.fn], by simp [upd, init, QM, QR, Q6, Ql.one, Ql.and, Enc.bool, Enc.int, Enc.str, Enc.strs, Enc.slice, Enc.agg, Enc.tup, Enc.err, Enc.fn], by simp [upd], by simp [upd]⟩ ?_)
  rintro k a σ ⟨i, hi, rfl, hall, h0, h5, h6, h7⟩
  refine Dwp.step t111 rfl fun K hK => ?_
  simp [QF, QZ, Qo, QJ, own, Qm, dop, QN, eval, Qr, Qn, Ex.then, Ex.inBlock, upd, QV, Tag.isNN, Qp, intCmp, Qv, Qx, TyI.agg, Qa, Qu, Qg, Qs, QX, QA, QD, mapOf, QQ, QC, Qq, Qi, dcall, Qf, Qj, QI, DV.cells, setAt, Qt, Qk, QE, QK, rowsOf, QL, Qd, Qe, Qe.go, Qz, QB, Qc, goInt, h6, h7]
  refine hK _ _ ?_ rfl; clear hK K
  by_cases hlt : i < l.length
  · refine Dwp.seq (Dwp.condT (by simp [eval, upd, hlt]) (Dwp.skip ?_))
    refine Dwp.seq (Dwp.block ?_)
    refine Dwp.step t111 rfl fun K hK => ?_
    simp [QF, QZ, Qo, QJ, own, Qm, dop, QN, eval, Qr, Qn, Ex.then, Ex.inBlock, upd, QV, Tag.isNN, Qp, intCmp, Qv, Qx, TyI.agg, Qa, Qu, Qg, Qs, QX, QA, QD, mapOf, QQ, QC, Qq, Qi, dcall, Qf, Qj, QI, DV.cells, setAt, Qt, Qk, QE, QK, rowsOf, QL, Qd, Qe, Qe.go, Qz, QB, Qc, goInt, h5, h7, Qah, ty9, hlt]
    refine hK _ _ ?_ rfl; clear hK K
    refine Dwp.step t111 rfl fun K hK => ?_
    have g := Qct T111 rfl l[i]
    simp [dcall, Qf] at g
    cases hp : QU l[i] with
    | true =>
      simp [QF, QZ, Qo, QJ, own, Qm, dop, QN, eval, Qr, Qn, Ex.then, Ex.inBlock, upd, QV, Tag.isNN, Qp, intCmp, Qv, Qx, TyI.agg, Qa, Qu, Qg, Qs, QX, QA, QD, mapOf, QQ, QC, Qq, Qi, dcall, Qf, Qj, QI, DV.cells, setAt, Qt, Qk, QE, QK, rowsOf, QL, Qd, Qe, Qe.go, Qz, QB, Qc, goInt, g, hp]
      refine hK _ _ ?_ rfl; clear hK K
      refine Dwp.condF (by simp [eval, upd]) (Dwp.skip ?_)
      refine Dwp.reg t111 rfl fun K hK => ?_
      simp [QF, QZ, Qo, QJ, own, Qm, dop, QN, eval, Qr, Qn, Ex.then, Ex.inBlock, upd, QV, Tag.isNN, Qp, intCmp, Qv, Qx, TyI.agg, Qa, Qu, Qg, Qs, QX, QA, QD, mapOf, QQ, QC, Qq, Qi, dcall, Qf, Qj, QI, DV.cells, setAt, Qt, Qk, QE, QK, rowsOf, QL, Qd, Qe, Qe.go, Qz, QB, Qc, goInt, h7]
      refine hK _ _ ?_ rfl; clear hK K
      exact ⟨l.length - (i + 1), by omega, i + 1, by omega, rfl, QgY hlt hall hp, by simp [upd, h0], by simp [upd, h5], by simp [upd, h6], by simp [upd, wrap_small (n := (i : Int) + 1) (by omega) (by omega)]⟩
    | false =>
      simp [QF, QZ, Qo, QJ, own, Qm, dop, QN, eval, Qr, Qn, Ex.then, Ex.inBlock, upd, QV, Tag.isNN, Qp, intCmp, Qv, Qx, TyI.agg, Qa, Qu, Qg, Qs, QX, QA, QD, mapOf, QQ, QC, Qq, Qi, dcall, Qf, Qj, QI, DV.cells, setAt, Qt, Qk, QE, QK, rowsOf, QL, Qd, Qe, Qe.go, Qz, QB, Qc, goInt, g, hp]
      refine hK _ _ ?_ rfl; clear hK K
      refine Dwp.condT (by simp [eval, upd]) ?_
      refine Dwp.step t111 rfl fun K hK => ?_
      simp [QF, QZ, Qo, QJ, own, Qm, dop, QN, eval, Qr, Qn, Ex.then, Ex.inBlock, upd, QV, Tag.isNN, Qp, intCmp, Qv, Qx, TyI.agg, Qa, Qu, Qg, Qs, QX, QA, QD, mapOf, QQ, QC, Qq, Qi, dcall, Qf, Qj, QI, DV.cells, setAt, Qt, Qk, QE, QK, rowsOf, QL, Qd, Qe, Qe.go, Qz, QB, Qc, goInt]
      refine hK _ _ (Dwp.ret ?_) rfl
      have := Qch hlt hp
      simp [Q3, Qh, QW, frz, Q2, Q0, init, QM, QR, Q6, Ql.one, Ql.and, Enc.bool, Enc.int, Enc.str, Enc.strs, Enc.slice, Enc.agg, Enc.tup, Enc.err, Enc.fn, Ex.then, Ex.inBlock, upd, okSorts, this]
  · refine Dwp.seq (Dwp.condF (by simp [eval, upd, hlt]) (Dwp.exit ?_))
    rw [List.take_of_length_le (by omega)] at hall
    have hgl : QbR.length = 7 := rfl
    have g1 := Qis T111 rfl
    have g2 := call323 T111 rfl QbR l (by omega)
    have g3 := call327 T111 rfl (QbR ++ l) (by rw [List.length_append]; unfold lim; omega)
    generalize hG : Enc.strs.enc QbR = G at *
    generalize hL : Enc.strs.enc l = L at *
    have hGc : G.cells = some [G] := by subst hG; rfl
    have hLc : L.cells = some [L] := by subst hL; rfl
    have hGo : ∀ id σ, own id σ G = (G, σ) := by subst hG; intro id σ; rfl
    generalize hM : Enc.strs.enc (QbR ++ l) = M at *
    have hMo : ∀ id σ, own id σ M = (M, σ) := by subst hM; intro id σ; rfl
    refine Dwp.step t111 rfl fun K hK => ?_
    simp [QF, Qo, QJ, dop, QN, eval, Qr, Qn, upd, Qi, Qc, Qd, Qjn, Qah, h0, g1, g2, g3, hGc, hLc, hGo, hMo]
    simp [own]
    refine hK _ _ (Dwp.ret ?_) rfl
    simp [Q3, Qh, QW, frz, Q2, Q0, Enc.bool, upd, okSorts, hall]
theorem e325 : Go.FA.Good Tryz.prog (325, s325) := ⟨c325, Tryz.f325, _, Tryz.func325, rfl, by decide⟩
theorem call342 (T : Tab) (hT : T 342 = some s342) (l m : List OpD) (h : l.length + m.length ≤ 1048576) : dcall T 342 [.slice 1 .full [[Enc.ops.enc l], [Enc.ops.enc m]]] = some (Enc.ops.enc (l ++ m)) := by
  have h1 : (Enc.lists Enc.ops).dec (.slice 1 .full [[Enc.ops.enc l], [Enc.ops.enc m]]) = some [l, m] := by simp [Enc.lists, Enc.slice, Ql.one, Qat, Enc.ops.de]
  have h2 : (cat [l, m]).length ≤ 1048576 := by simpa [cat] using h
  simp only [dcall, hT, s342, sp, QM, Ql.one, h1, Option.bind_some]
  rw [if_pos ⟨by simp, h2⟩]
  simp [cat]
def QcD (s : SigD) : List ByteArray := (s.ops ++ s.funs).map (·.name)
def s328 : Sp := sp (QM Enc.sigd) Enc.strs (fun s => if s.ops.length + s.funs.length ≤ 1048576 then some (QcD s) else none)
def inv328 (l : List OpD) : Nat → (Nat → DV) → St → Prop := fun k a σ => ∃ i, i ≤ l.length ∧ k = l.length - i ∧ Acc σ 1 ((l.take i).map fun o => [DV.lit (.string o.name)]) (a 3) ∧
  a 11 = .slice 7 .none (l.map Ql.opd.enc) ∧ a 12 = .lit (.int .i64 l.length) ∧ a 13 = .lit (.int .i64 i)
theorem QkS : QH Tryz.prog (Qf [(342, s342)]) := .cons e342 .nil
theorem c328 : Qb Tryz.prog 328 s328 := by
  refine Qb.of_sp (T := Qf [(342, s342)]) Tryz.func328 rfl (Nat.le_of_ble_eq_true rfl) fun E s y hy => ?_
  by_cases hlim : s.ops.length + s.funs.length ≤ 1048576 <;> simp [hlim] at hy
  subst hy
  refine Dwp.step QkS rfl fun K hK => ?_
  simp [QF, QZ, Qo, QJ, own, Qm, dop, QN, eval, Qr, Qn, Ex.then, Ex.inBlock, upd, QV, Tag.isNN, Qp, intCmp, Qv, Qx, TyI.agg, Qa, Qu, Qg, Qs, QX, QA, QD, mapOf, QQ, QC, Qq, Qi, dcall, Qf, Qj, QI, DV.cells, setAt, Qt, Qk, QE, QK, rowsOf, QL, Qd, Qe, Qe.go, Qz, QB, Qc, goInt, init, QM, Ql.one, Enc.sigd, Enc.agg]
  refine hK _ _ ?_ rfl; clear hK K
  refine Dwp.step QkS rfl fun K hK => ?_
  simp [QF, QZ, Qo, QJ, own, Qm, dop, QN, eval, Qr, Qn, Ex.then, Ex.inBlock, upd, QV, Tag.isNN, Qp, intCmp, Qv, Qx, TyI.agg, Qa, Qu, Qg, Qs, QX, QA, QD, mapOf, QQ, QC, Qq, Qi, dcall, Qf, Qj, QI, DV.cells, setAt, Qt, Qk, QE, QK, rowsOf, QL, Qd, Qe, Qe.go, Qz, QB, Qc, goInt]
  refine hK _ _ ?_ rfl; clear hK K
  refine Dwp.seq ?_
  have g := call342 (Qf [(342, s342)]) rfl s.ops s.funs hlim
  have ho : ∀ l : List OpD, (Enc.ops.enc l).cells = some [Enc.ops.enc l] := fun _ => rfl
  obtain ⟨l, hl⟩ : ∃ l, s.ops ++ s.funs = l := ⟨_, rfl⟩
  have hll : l.length ≤ 1048576 := by rw [← hl, List.length_append]; exact hlim
  have hnm : QcD s = l.map (·.name) := by rw [← hl]; rfl
  rw [hl] at g
  rw [hnm]
  refine Dwp.step QkS rfl fun K hK => ?_
  simp [QF, Qo, QJ, dop, QN, eval, Qr, Qn, upd, Qa, Qv, Qx, TyI.agg, Qdm, Qer, Qi, Qc, Qd, Qj3, g, ho, Qj, QA, QX, goInt]
  simp [Enc.ops, Enc.slice, QA, QX, goInt]
  refine hK _ _ ?_ rfl; clear hK K
  refine Dwp.block (Dwp.loop (inv328 l) l.length ⟨0, by simp, by simp, .inl ⟨by simp, by simp [upd]⟩, by simp [upd], by simp [upd], by simp [upd]⟩ ?_)
  rintro k a σ ⟨i, hi, rfl, h3, h11, h12, h13⟩
  refine Dwp.step QkS rfl fun K hK => ?_
  simp [QF, QZ, Qo, QJ, own, Qm, dop, QN, eval, Qr, Qn, Ex.then, Ex.inBlock, upd, QV, Tag.isNN, Qp, intCmp, Qv, Qx, TyI.agg, Qa, Qu, Qg, Qs, QX, QA, QD, mapOf, QQ, QC, Qq, Qi, dcall, Qf, Qj, QI, DV.cells, setAt, Qt, Qk, QE, QK, rowsOf, QL, Qd, Qe, Qe.go, Qz, QB, Qc, goInt, h12, h13]
  refine hK _ _ ?_ rfl; clear hK K
  by_cases hlt : i < l.length
  · have htk : (l.take (i + 1)).map (fun o : OpD => [DV.lit (.string o.name)]) = (l.take i).map (fun o : OpD => [DV.lit (.string o.name)]) ++ [[DV.lit (.string l[i].name)]] := by
      rw [List.take_succ_eq_append_getElem hlt, List.map_append]; rfl
    refine Dwp.seq (Dwp.condT (by simp [eval, upd, hlt]) (Dwp.skip ?_))
    refine Dwp.seq (Dwp.block ?_)
    refine Dwp.step QkS rfl fun K hK => ?_
    simp [QF, QZ, Qo, QJ, own, Qm, dop, QN, eval, Qr, Qn, Ex.then, Ex.inBlock, upd, QV, Tag.isNN, Qp, intCmp, Qv, Qx, TyI.agg, Qa, Qu, Qg, Qs, QX, QA, QD, mapOf, QQ, QC, Qq, Qi, dcall, Qf, Qj, QI, DV.cells, setAt, Qt, Qk, QE, QK, rowsOf, QL, Qd, Qe, Qe.go, Qz, QB, Qc, goInt, h11, h13, Qer, QbY, hlt]
    refine hK _ _ ?_ rfl; clear hK K
    refine Dwp.reg QkS rfl fun K hK => ?_
    have hst : setAt (Ql.opd.enc ⟨⟨#[]⟩, [], ⟨#[]⟩, [], 0, 0, []⟩) 0 (Ql.opd.enc l[i]) = Ql.opd.enc l[i] := rfl
    have hsmall : min i l.length + 1 ≤ 16777216 := by omega
    rcases h3 with ⟨hr, h3⟩ | ⟨tk, g, h3, hg⟩
    · have hi0 : (l.take i).map (fun o : OpD => [DV.lit (.string o.name)]) = [] := hr
      simp [QF, QZ, Qo, QJ, own, Qm, dop, QN, eval, Qr, Qn, Ex.then, Ex.inBlock, upd, QV, Tag.isNN, Qp, intCmp, Qv, Qx, TyI.agg, Qa, Qu, Qg, Qs, QX, QA, QD, mapOf, QQ, QC, Qq, Qi, dcall, Qf, Qj, QI, DV.cells, setAt, Qt, Qk, QE, QK, rowsOf, QL, Qd, Qe, Qe.go, Qz, QB, Qc, goInt, h3, QbY, ty9, Qah, Ql.opd]
      refine hK _ _ ?_ rfl; clear hK K
      refine Dwp.reg QkS rfl fun K hK => ?_
      simp [QF, QZ, Qo, QJ, own, Qm, dop, QN, eval, Qr, Qn, Ex.then, Ex.inBlock, upd, QV, Tag.isNN, Qp, intCmp, Qv, Qx, TyI.agg, Qa, Qu, Qg, Qs, QX, QA, QD, mapOf, QQ, QC, Qq, Qi, dcall, Qf, Qj, QI, DV.cells, setAt, Qt, Qk, QE, QK, rowsOf, QL, Qd, Qe, Qe.go, Qz, QB, Qc, goInt, h13]
      refine hK _ _ ?_ rfl; clear hK K
      exact ⟨l.length - (i + 1), by omega, i + 1, by omega, rfl, .inr ⟨_, _, by rw [htk, hi0]; simp [upd]; exact ⟨rfl, rfl⟩, by simp [upd]⟩, by simp [upd, h11], by simp [upd, h12], by simp [upd, wrap_small (n := (i : Int) + 1) (by omega) (by omega)]⟩
    · simp [QF, QZ, Qo, QJ, own, Qm, dop, QN, eval, Qr, Qn, Ex.then, Ex.inBlock, upd, QV, Tag.isNN, Qp, intCmp, Qv, Qx, TyI.agg, Qa, Qu, Qg, Qs, QX, QA, QD, mapOf, QQ, QC, Qq, Qi, dcall, Qf, Qj, QI, DV.cells, setAt, Qt, Qk, QE, QK, rowsOf, QL, Qd, Qe, Qe.go, Qz, QB, Qc, goInt, h3, hg, QbY, ty9, Qah, Ql.opd, hsmall]
      refine hK _ _ ?_ rfl; clear hK K
      refine Dwp.reg QkS rfl fun K hK => ?_
      simp [QF, QZ, Qo, QJ, own, Qm, dop, QN, eval, Qr, Qn, Ex.then, Ex.inBlock, upd, QV, Tag.isNN, Qp, intCmp, Qv, Qx, TyI.agg, Qa, Qu, Qg, Qs, QX, QA, QD, mapOf, QQ, QC, Qq, Qi, dcall, Qf, Qj, QI, DV.cells, setAt, Qt, Qk, QE, QK, rowsOf, QL, Qd, Qe, Qe.go, Qz, QB, Qc, goInt, h13]
      refine hK _ _ ?_ rfl; clear hK K
      exact ⟨l.length - (i + 1), by omega, i + 1, by omega, rfl, .inr ⟨_, _, by rw [htk]; simp [upd]; exact ⟨rfl, rfl⟩, by simp [upd]⟩, by simp [upd, h11], by simp [upd, h12], by simp [upd, wrap_small (n := (i : Int) + 1) (by omega) (by omega)]⟩
  · refine Dwp.seq (Dwp.condF (by simp [eval, upd, hlt]) (Dwp.exit ?_))
    rw [List.take_of_length_le (by omega)] at h3
    have hd := h3.dec (A := Ql.one Enc.str) (l := l.map (·.name)) (by rw [show (l.map fun o : OpD => [DV.lit (.string o.name)]) = (l.map (·.name)).map fun s => [DV.lit (.string s)] by rw [List.map_map]; rfl]; exact QdU _)
    refine Dwp.step QkS rfl fun K hK => ?_
    simp [QF, QZ, Qo, QJ, own, Qm, dop, QN, eval, Qr, Qn, Ex.then, Ex.inBlock, upd, QV, Tag.isNN, Qp, intCmp, Qv, Qx, TyI.agg, Qa, Qu, Qg, Qs, QX, QA, QD, mapOf, QQ, QC, Qq, Qi, dcall, Qf, Qj, QI, DV.cells, setAt, Qt, Qk, QE, QK, rowsOf, QL, Qd, Qe, Qe.go, Qz, QB, Qc, goInt]
    refine hK _ _ (Dwp.ret ?_) rfl
    rcases h3 with ⟨hr, h3⟩ | ⟨tk, g, h3, hg⟩
    · rw [h3] at hd
      simp [Q3, Qh, QW, frz, Q2, Q0, upd, h3, Enc.strs]
      exact hd
    · rw [h3] at hd
      simp [Q3, Qh, QW, frz, Q2, Q0, upd, h3, Enc.strs]
      exact hd
theorem e328 : Go.FA.Good Tryz.prog (328, s328) := ⟨c328, Tryz.f328, _, Tryz.func328, rfl, by decide⟩
end Go.Proofs.Yt
namespace Go.FA
open Go.RowKit
variable {P : Program} {T : Tab} {ops : Array Oper} {n0 i : Nat} {o : Oper} {rest : List Oper} {a : Nat → DV} {σ : St} {K : (Nat → DV) → St → Prop}
section
variable (id : Nat)
@[simp] theorem own_lit (v : Value) : own id σ (.lit v) = (.lit v, σ) := rfl
@[simp] theorem own_agg (cs : List DV) : own id σ (.agg cs) = (.agg cs, σ) := rfl
@[simp] theorem own_tuple (cs : List DV) : own id σ (.tuple cs) = (.tuple cs, σ) := rfl
@[simp] theorem own_fmap (ks : List Value) (vs : List DV) : own id σ (.fmap ks vs) = (.fmap ks vs, σ) := rfl
@[simp] theorem own_func (f : Fn) (x y : List DV) : own id σ (.func f x y) = (.func f x y, σ) := rfl
@[simp] theorem own_none (k : Nat) (r : List (List DV)) : own id σ (.slice k .none r) = (.slice k .none r, σ) := rfl
@[simp] theorem own_tok (k t g : Nat) (r : List (List DV)) : own id σ (.slice k (.tok t g) r) = (.slice k (.tok id 0) r, { σ with toks := upd σ.toks id (some 0) }) := rfl
end
def QO (x : Option (DV × St)) (K1 : DV → St → Prop) : Prop :=
  match x with
  | some (d, σ) => K1 d σ
  | none => False
def Qw (g : DV) (want : Bool) (x : Option (DV × St)) (σ : St) (K1 : DV → St → Prop) : Prop :=
  match g with
  | .lit (.bool b) => if (b == want) = true then QO x K1 else K1 (.lit (.tuple #[])) σ
  | .lit (.tuple _) => K1 (.lit (.tuple #[])) σ
  | _ => False
theorem Qn.done (h : K a σ) : Qn (QF P T ops n0 i [] a σ) K := h
theorem Qn.stepD {t : Tmp} (hg : o.guard = none) (hd : o.dst = some t)
    (h : ∀ K1 : DV → St → Prop, (∀ d σ', Qn (QF P T ops n0 (i + 1) rest (upd a t d) σ') K → K1 d σ') → QO (QJ P T (n0 + i) a σ o.op) K1) : Qn (QF P T ops n0 i (o :: rest) a σ) K := by
  have h1 := h _ (fun _ _ h => h)
  unfold QO at h1
  simp only [QF, hg, Qo]
  split at h1
  · next d σ' he => rw [he]; simp only [QN, hd]; exact h1
  · exact h1.elim
theorem Qn.stepN (hg : o.guard = none) (hd : o.dst = none)
    (h : ∀ K1 : DV → St → Prop, (∀ d σ', Qn (QF P T ops n0 (i + 1) rest a σ') K → K1 d σ') → QO (QJ P T (n0 + i) a σ o.op) K1) : Qn (QF P T ops n0 i (o :: rest) a σ) K := by
  have h1 := h _ (fun _ _ h => h)
  unfold QO at h1
  simp only [QF, hg, Qo]
  split at h1
  · next d σ' he => rw [he]; simp only [QN, hd]; exact h1
  · exact h1.elim
theorem Qn.stepG {t u : Tmp} {j : Nat} {want : Bool} (hg : o.guard = some (j, want)) (hj : (ops[j]?).bind (·.dst) = some u) (hd : o.dst = some t)
    (h : ∀ K1 : DV → St → Prop, (∀ d σ', Qn (QF P T ops n0 (i + 1) rest (upd a t d) σ') K → K1 d σ') → Qw (a u) want (QJ P T (n0 + i) a σ o.op) σ K1) : Qn (QF P T ops n0 i (o :: rest) a σ) K := by
  have h1 := h _ (fun _ _ h => h)
  unfold Qw at h1
  simp only [QF, hg, Qo, hj]
  split at h1
  · next b hb =>
    rw [hb]
    simp only []
    split at h1
    · next hbw =>
      rw [hbw]
      unfold QO at h1
      split at h1
      · next d σ' he => rw [he]; simp only [QN, hd]; exact h1
      · exact h1.elim
    · next hbw =>
      have : (b == want) = false := by simpa using hbw
      rw [this]; simp only [QN, hd]; exact h1
  · next vs hb => rw [hb]; simp only [QN, hd]; exact h1
  · exact h1.elim
theorem Qn.stepGN {u : Tmp} {j : Nat} {want : Bool} (hg : o.guard = some (j, want)) (hj : (ops[j]?).bind (·.dst) = some u) (hd : o.dst = none)
    (h : ∀ K1 : DV → St → Prop, (∀ d σ', Qn (QF P T ops n0 (i + 1) rest a σ') K → K1 d σ') → Qw (a u) want (QJ P T (n0 + i) a σ o.op) σ K1) : Qn (QF P T ops n0 i (o :: rest) a σ) K := by
  have h1 := h _ (fun _ _ h => h)
  unfold Qw at h1
  simp only [QF, hg, Qo, hj]
  split at h1
  · next b hb =>
    rw [hb]
    simp only []
    split at h1
    · next hbw =>
      rw [hbw]
      unfold QO at h1
      split at h1
      · next d σ' he => rw [he]; simp only [QN, hd]; exact h1
      · exact h1.elim
    · next hbw =>
      have : (b == want) = false := by simpa using hbw
      rw [this]; simp only [QN, hd]; exact h1
  · next vs hb => rw [hb]; simp only [QN, hd]; exact h1
  · exact h1.elim
end Go.FA
namespace Go.Proofs.Yt
open Go Go.FA Go.Proofs
set_option maxRecDepth 100000
def Qcv (b : Book) (o : OpD) : Bool := !QU o.name || Qb8 o.name || !Qgy b o || !b.has o.sort || decide (0 < o.pieces.length) || decide (o.prec ≠ 0) || decide (o.assoc ≠ 0) || decide (0 < o.strict.length)
def s331 : Sp := sp (QR Enc.book Enc.opd) Enc.bool (fun x => some (Qcv x.1 x.2))
abbrev T117 : Tab := Qf [(105, s105), (120, s120), (345, s345), (311, s311)]
theorem t117 : QH Tryz.prog T117 := .cons Qk4 (.cons e120 (.cons e345 (.cons Qk6 .nil)))
theorem c331 : Qb Tryz.prog 331 s331 := by
  refine Qb.of_sp (T := T117) Tryz.func331 rfl (Nat.le_of_ble_eq_true rfl) fun E x y hy => ?_
  obtain ⟨b, o⟩ := x
  simp at hy
  subst hy
  have g1 := Qct T117 rfl o.name
  have g2 := Qj5 T117 rfl o.name
  have g3 := Qkk T117 rfl b o
  have g4 := Qeq T117 rfl b (.slice 1 .full [[.lit (.string o.sort)]]) [o.sort] rfl (by unfold lim; simp)
  simp only [List.all_cons, List.all_nil, Bool.and_true] at g4
  refine Dwp.step t117 rfl fun K hK => ?_
  simp [QF, QZ, Qo, QJ, own, Qm, dop, QN, eval, Qr, Qn, Ex.then, Ex.inBlock, upd, QV, Tag.isNN, Qp, intCmp, Qv, Qx, TyI.agg, Qa, Qu, Qg, Qs, QX, QA, QD, mapOf, QQ, QC, Qq, Qi, dcall, Qf, Qj, QI, DV.cells, setAt, Qt, Qk, QE, QK, rowsOf, QL, Qd, Qe, Qe.go, Qz, QB, Qc, goInt, init, QM, QR, Q6, Ql.one, Ql.and, Enc.bool, Enc.int, Enc.str, Enc.strs, Enc.slice, Enc.agg, Enc.tup, Enc.err, Enc.fn, Enc.opd, Enc.book]
  refine hK _ _ ?_ rfl; clear hK K
  refine Dwp.step t117 rfl fun K hK => ?_
  generalize T117 = T at *
  repeat ((first | refine Qn.stepD rfl rfl ?_ | refine Qn.stepG rfl rfl rfl ?_ | refine Qn.stepN rfl rfl ?_ | refine Qn.stepGN rfl rfl rfl ?_); intro K1 hK1; simp [QO, Qw, QJ, dop, eval, Qr, upd, Qa, Qv, Qx, TyI.agg, QbY, Q1, ty9, QeL, QeT, ty3, QfX, Qah, Qi, Qj, QA, QX, goInt, QV, intCmp, Enc.pies, Enc.ints, Enc.slice, Qc, DV.cells, Qd, g1]; refine hK1 _ _ ?_; clear hK1 K1)
  cases k1 : QU o.name with
  | false =>
    repeat ((first | refine Qn.stepD rfl rfl ?_ | refine Qn.stepG rfl rfl rfl ?_ | refine Qn.stepN rfl rfl ?_ | refine Qn.stepGN rfl rfl rfl ?_); intro K1 hK1; simp [QO, Qw, QJ, dop, eval, Qr, upd, Qa, Qv, Qx, TyI.agg, QbY, Q1, ty9, QeL, QeT, ty3, QfX, Qah, Qi, Qj, QA, QX, goInt, QV, intCmp, Enc.pies, Enc.ints, Enc.slice, Qc, DV.cells, Qd, g1, k1]; refine hK1 _ _ ?_; clear hK1 K1)
    refine Qn.done (hK _ _ (Dwp.ret ?_) rfl)
    simp [Q3, Qh, QW, frz, Q2, Q0, Enc.bool, Ex.then, upd, Qcv, k1]
  | true =>
  repeat ((first | refine Qn.stepD rfl rfl ?_ | refine Qn.stepG rfl rfl rfl ?_ | refine Qn.stepN rfl rfl ?_ | refine Qn.stepGN rfl rfl rfl ?_); intro K1 hK1; simp [QO, Qw, QJ, dop, eval, Qr, upd, Qa, Qv, Qx, TyI.agg, QbY, Q1, ty9, QeL, QeT, ty3, QfX, Qah, Qi, Qj, QA, QX, goInt, QV, intCmp, Enc.pies, Enc.ints, Enc.slice, Qc, DV.cells, Qd, g1, k1, g2]; refine hK1 _ _ ?_; clear hK1 K1)
  cases k2 : Qb8 o.name with
  | true =>
    repeat ((first | refine Qn.stepD rfl rfl ?_ | refine Qn.stepG rfl rfl rfl ?_ | refine Qn.stepN rfl rfl ?_ | refine Qn.stepGN rfl rfl rfl ?_); intro K1 hK1; simp [QO, Qw, QJ, dop, eval, Qr, upd, Qa, Qv, Qx, TyI.agg, QbY, Q1, ty9, QeL, QeT, ty3, QfX, Qah, Qi, Qj, QA, QX, goInt, QV, intCmp, Enc.pies, Enc.ints, Enc.slice, Qc, DV.cells, Qd, g1, k1, g2, k2]; refine hK1 _ _ ?_; clear hK1 K1)
    refine Qn.done (hK _ _ (Dwp.ret ?_) rfl)
    simp [Q3, Qh, QW, frz, Q2, Q0, Enc.bool, Ex.then, upd, Qcv, k1, k2]
  | false =>
  repeat ((first | refine Qn.stepD rfl rfl ?_ | refine Qn.stepG rfl rfl rfl ?_ | refine Qn.stepN rfl rfl ?_ | refine Qn.stepGN rfl rfl rfl ?_); intro K1 hK1; simp [QO, Qw, QJ, dop, eval, Qr, upd, Qa, Qv, Qx, TyI.agg, QbY, Q1, ty9, QeL, QeT, ty3, QfX, Qah, Qi, Qj, QA, QX, goInt, QV, intCmp, Enc.pies, Enc.ints, Enc.slice, Qc, DV.cells, Qd, g1, k1, g2, k2, g3]; refine hK1 _ _ ?_; clear hK1 K1)
  cases k3 : Qgy b o with
  | false =>
    repeat ((first | refine Qn.stepD rfl rfl ?_ | refine Qn.stepG rfl rfl rfl ?_ | refine Qn.stepN rfl rfl ?_ | refine Qn.stepGN rfl rfl rfl ?_); intro K1 hK1; simp [QO, Qw, QJ, dop, eval, Qr, upd, Qa, Qv, Qx, TyI.agg, QbY, Q1, ty9, QeL, QeT, ty3, QfX, Qah, Qi, Qj, QA, QX, goInt, QV, intCmp, Enc.pies, Enc.ints, Enc.slice, Qc, DV.cells, Qd, g1, k1, g2, k2, g3, k3]; refine hK1 _ _ ?_; clear hK1 K1)
    refine Qn.done (hK _ _ (Dwp.ret ?_) rfl)
    simp [Q3, Qh, QW, frz, Q2, Q0, Enc.bool, Ex.then, upd, Qcv, k1, k2, k3]
  | true =>
  repeat ((first | refine Qn.stepD rfl rfl ?_ | refine Qn.stepG rfl rfl rfl ?_ | refine Qn.stepN rfl rfl ?_ | refine Qn.stepGN rfl rfl rfl ?_); intro K1 hK1; simp [QO, Qw, QJ, dop, eval, Qr, upd, Qa, Qv, Qx, TyI.agg, QbY, Q1, ty9, QeL, QeT, ty3, QfX, Qah, Qi, Qj, QA, QX, goInt, QV, intCmp, Enc.pies, Enc.ints, Enc.slice, Qc, DV.cells, Qd, g1, k1, g2, k2, g3, k3, g4]; refine hK1 _ _ ?_; clear hK1 K1)
  cases k4 : b.has o.sort with
  | false =>
    repeat ((first | refine Qn.stepD rfl rfl ?_ | refine Qn.stepG rfl rfl rfl ?_ | refine Qn.stepN rfl rfl ?_ | refine Qn.stepGN rfl rfl rfl ?_); intro K1 hK1; simp [QO, Qw, QJ, dop, eval, Qr, upd, Qa, Qv, Qx, TyI.agg, QbY, Q1, ty9, QeL, QeT, ty3, QfX, Qah, Qi, Qj, QA, QX, goInt, QV, intCmp, Enc.pies, Enc.ints, Enc.slice, Qc, DV.cells, Qd, g1, k1, g2, k2, g3, k3, g4, k4]; refine hK1 _ _ ?_; clear hK1 K1)
    refine Qn.done (hK _ _ (Dwp.ret ?_) rfl)
    simp [Q3, Qh, QW, frz, Q2, Q0, Enc.bool, Ex.then, upd, Qcv, k1, k2, k3, k4]
  | true =>
  repeat ((first | refine Qn.stepD rfl rfl ?_ | refine Qn.stepG rfl rfl rfl ?_ | refine Qn.stepN rfl rfl ?_ | refine Qn.stepGN rfl rfl rfl ?_); intro K1 hK1; simp [QO, Qw, QJ, dop, eval, Qr, upd, Qa, Qv, Qx, TyI.agg, QbY, Q1, ty9, QeL, QeT, ty3, QfX, Qah, Qi, Qj, QA, QX, goInt, QV, intCmp, Enc.pies, Enc.ints, Enc.slice, Qc, DV.cells, Qd, g1, k1, g2, k2, g3, k3, g4, k4]; refine hK1 _ _ ?_; clear hK1 K1)
  by_cases k5 : o.pieces = []
  case neg =>
    have m1 : 0 < o.pieces.length := by cases h : o.pieces with | nil => exact absurd h k5 | cons _ _ => simp
    repeat ((first | refine Qn.stepD rfl rfl ?_ | refine Qn.stepG rfl rfl rfl ?_ | refine Qn.stepN rfl rfl ?_ | refine Qn.stepGN rfl rfl rfl ?_); intro K1 hK1; simp [QO, Qw, QJ, dop, eval, Qr, upd, Qa, Qv, Qx, TyI.agg, QbY, Q1, ty9, QeL, QeT, ty3, QfX, Qah, Qi, Qj, QA, QX, goInt, QV, intCmp, Enc.pies, Enc.ints, Enc.slice, Qc, DV.cells, Qd, g1, k1, g2, k2, g3, k3, g4, k4, k5, m1]; refine hK1 _ _ ?_; clear hK1 K1)
    refine Qn.done (hK _ _ (Dwp.ret ?_) rfl)
    simp [Q3, Qh, QW, frz, Q2, Q0, Enc.bool, Ex.then, upd, Qcv, k1, k2, k3, k4, k5, m1]
  repeat ((first | refine Qn.stepD rfl rfl ?_ | refine Qn.stepG rfl rfl rfl ?_ | refine Qn.stepN rfl rfl ?_ | refine Qn.stepGN rfl rfl rfl ?_); intro K1 hK1; simp [QO, Qw, QJ, dop, eval, Qr, upd, Qa, Qv, Qx, TyI.agg, QbY, Q1, ty9, QeL, QeT, ty3, QfX, Qah, Qi, Qj, QA, QX, goInt, QV, intCmp, Enc.pies, Enc.ints, Enc.slice, Qc, DV.cells, Qd, g1, k1, g2, k2, g3, k3, g4, k4, k5]; refine hK1 _ _ ?_; clear hK1 K1)
  by_cases k6 : o.prec = 0
  case neg =>
    have m1 : (o.prec == 0) = false := by simp [k6]
    have m2 : (o.prec != 0) = true := by simp [k6]
    repeat ((first | refine Qn.stepD rfl rfl ?_ | refine Qn.stepG rfl rfl rfl ?_ | refine Qn.stepN rfl rfl ?_ | refine Qn.stepGN rfl rfl rfl ?_); intro K1 hK1; simp [QO, Qw, QJ, dop, eval, Qr, upd, Qa, Qv, Qx, TyI.agg, QbY, Q1, ty9, QeL, QeT, ty3, QfX, Qah, Qi, Qj, QA, QX, goInt, QV, intCmp, Enc.pies, Enc.ints, Enc.slice, Qc, DV.cells, Qd, g1, k1, g2, k2, g3, k3, g4, k4, k5, k6, m1, m2]; refine hK1 _ _ ?_; clear hK1 K1)
    refine Qn.done (hK _ _ (Dwp.ret ?_) rfl)
    simp [Q3, Qh, QW, frz, Q2, Q0, Enc.bool, Ex.then, upd, Qcv, k1, k2, k3, k4, k5, k6, m1, m2]
  repeat ((first | refine Qn.stepD rfl rfl ?_ | refine Qn.stepG rfl rfl rfl ?_ | refine Qn.stepN rfl rfl ?_ | refine Qn.stepGN rfl rfl rfl ?_); intro K1 hK1; simp [QO, Qw, QJ, dop, eval, Qr, upd, Qa, Qv, Qx, TyI.agg, QbY, Q1, ty9, QeL, QeT, ty3, QfX, Qah, Qi, Qj, QA, QX, goInt, QV, intCmp, Enc.pies, Enc.ints, Enc.slice, Qc, DV.cells, Qd, g1, k1, g2, k2, g3, k3, g4, k4, k5, k6]; refine hK1 _ _ ?_; clear hK1 K1)
  by_cases k7 : o.assoc = 0
  case neg =>
    have m1 : (o.assoc == 0) = false := by simp [k7]
    have m2 : (o.assoc != 0) = true := by simp [k7]
    repeat ((first | refine Qn.stepD rfl rfl ?_ | refine Qn.stepG rfl rfl rfl ?_ | refine Qn.stepN rfl rfl ?_ | refine Qn.stepGN rfl rfl rfl ?_); intro K1 hK1; simp [QO, Qw, QJ, dop, eval, Qr, upd, Qa, Qv, Qx, TyI.agg, QbY, Q1, ty9, QeL, QeT, ty3, QfX, Qah, Qi, Qj, QA, QX, goInt, QV, intCmp, Enc.pies, Enc.ints, Enc.slice, Qc, DV.cells, Qd, g1, k1, g2, k2, g3, k3, g4, k4, k5, k6, k7, m1, m2]; refine hK1 _ _ ?_; clear hK1 K1)
    refine Qn.done (hK _ _ (Dwp.ret ?_) rfl)
    simp [Q3, Qh, QW, frz, Q2, Q0, Enc.bool, Ex.then, upd, Qcv, k1, k2, k3, k4, k5, k6, k7, m1, m2]
  repeat ((first | refine Qn.stepD rfl rfl ?_ | refine Qn.stepG rfl rfl rfl ?_ | refine Qn.stepN rfl rfl ?_ | refine Qn.stepGN rfl rfl rfl ?_); intro K1 hK1; simp [QO, Qw, QJ, dop, eval, Qr, upd, Qa, Qv, Qx, TyI.agg, QbY, Q1, ty9, QeL, QeT, ty3, QfX, Qah, Qi, Qj, QA, QX, goInt, QV, intCmp, Enc.pies, Enc.ints, Enc.slice, Qc, DV.cells, Qd, g1, k1, g2, k2, g3, k3, g4, k4, k5, k6, k7]; refine hK1 _ _ ?_; clear hK1 K1)
  by_cases k8 : o.strict = []
  case neg =>
    have m1 : 0 < o.strict.length := by cases h : o.strict with | nil => exact absurd h k8 | cons _ _ => simp
    repeat ((first | refine Qn.stepD rfl rfl ?_ | refine Qn.stepG rfl rfl rfl ?_ | refine Qn.stepN rfl rfl ?_ | refine Qn.stepGN rfl rfl rfl ?_); intro K1 hK1; simp [QO, Qw, QJ, dop, eval, Qr, upd, Qa, Qv, Qx, TyI.agg, QbY, Q1, ty9, QeL, QeT, ty3, QfX, Qah, Qi, Qj, QA, QX, goInt, QV, intCmp, Enc.pies, Enc.ints, Enc.slice, Qc, DV.cells, Qd, g1, k1, g2, k2, g3, k3, g4, k4, k5, k6, k7, k8, m1]; refine hK1 _ _ ?_; clear hK1 K1)
    refine Qn.done (hK _ _ (Dwp.ret ?_) rfl)
    simp [Q3, Qh, QW, frz, Q2, Q0, Enc.bool, Ex.then, upd, Qcv, k1, k2, k3, k4, k5, k6, k7, k8, m1]
  repeat ((first | refine Qn.stepD rfl rfl ?_ | refine Qn.stepG rfl rfl rfl ?_ | refine Qn.stepN rfl rfl ?_ | refine Qn.stepGN rfl rfl rfl ?_); intro K1 hK1; simp [QO, Qw, QJ, dop, eval, Qr, upd, Qa, Qv, Qx, TyI.agg, QbY, Q1, ty9, QeL, QeT, ty3, QfX, Qah, Qi, Qj, QA, QX, goInt, QV, intCmp, Enc.pies, Enc.ints, Enc.slice, Qc, DV.cells, Qd, g1, k1, g2, k2, g3, k3, g4, k4, k5, k6, k7, k8]; refine hK1 _ _ ?_; clear hK1 K1)
  refine Qn.done (hK _ _ (Dwp.ret ?_) rfl)
  simp [Q3, Qh, QW, frz, Q2, Q0, Enc.bool, Ex.then, upd, Qcv, k1, k2, k3, k4, k5, k6, k7, k8]
theorem e331 : Go.FA.Good Tryz.prog (331, s331) := ⟨c331, Tryz.f331, _, Tryz.func331, rfl, by decide⟩
section
attribute [local simp] QF QZ Qo QJ own Qm dop QN eval Qr Qn Ex.then Ex.inBlock upd QV Tag.isNN Qp intCmp Qv Qx TyI.agg Qa Qu Qg Qs QX QA QD mapOf QQ QC Qq Qi Qj QI DV.cells Qt Qk QE QK rowsOf QL Qd Qe Qe.go Qz QB Qc goInt
theorem Qad {α β : Type} {A : Enc α} {B : Enc β} {g : α → Option β} {T : Tab} {f : FuncId} {x : α} {z : β} (hT : T f = some (sp (QM A) B g)) (hg : g x = some z) : dcall T f [A.enc x] = some (B.enc z) := by
  simp [dcall, hT, sp, QM, Ql.one, A.de, hg]
theorem Qcd {α β γ : Type} {A : Enc α} {B : Enc β} {C : Enc γ} {g : α × β → Option γ} {T : Tab} {f : FuncId} {x : α} {y : β} {z : γ} (hT : T f = some (sp (QR A B) C g)) (hg : g (x, y) = some z) : dcall T f [A.enc x, B.enc y] = some (C.enc z) := by
  simp [dcall, hT, sp, QR, Ql.and, Ql.one, A.de, B.de, hg]
theorem QiA {α β γ δ : Type} {A : Enc α} {B : Enc β} {C : Enc γ} {D : Enc δ} {g : α × β × γ → Option δ} {T : Tab} {f : FuncId} {x : α} {y : β} {u : γ} {z : δ} (hT : T f = some (sp (Q6 A B C) D g)) (hg : g (x, y, u) = some z) : dcall T f [A.enc x, B.enc y, C.enc u] = some (D.enc z) := by
  simp [dcall, hT, sp, Q6, Ql.and, Ql.one, A.de, B.de, C.de, hg]
def Qjm {α : Type} (q : α → Bool) : List α → Nat → Int
  | [], _ => -1
  | x :: l, i => if q x then i else Qjm q l (i + 1)
theorem idxF_drop {α : Type} (q : α → Bool) (l : List α) (i : Nat) (h : i < l.length) : Qjm q (l.drop i) i = if q l[i] then (i : Int) else Qjm q (l.drop (i + 1)) (i + 1) := by
  rw [List.drop_eq_getElem_cons h]; rfl
theorem QiT {α : Type} (q : α → Bool) : ∀ (l : List α) (i : Nat), decide (0 ≤ Qjm q l i) = l.any q
  | [], i => by simp [Qjm]
  | x :: l, i => by
    simp only [Qjm, List.any_cons]
    by_cases h : q x
    · simp [h]
    · simp [h, QiT q l (i + 1)]
def Enc.pred : Enc (Bool × Book) where
  enc p := .func (.func (if p.1 then 331 else 330)) [Enc.book.enc p.2] []
  dec d := match d with
    | .func (.func f) [x] [] => match Enc.book.dec x with
      | some b => if f = 331 then some (true, b) else if f = 330 then some (false, b) else none
      | none => none
    | _ => none
  le d x h := by
    intro C w v hv
    split at h
    · split at h
      · next b hb =>
        simp only [Qy] at hv ⊢
        obtain ⟨f', c', h1, h2, h3⟩ := hv
        split at h
        · next e => simp at h; subst h; subst e; exact ⟨f', c', h1, Qbk (.cons (Enc.book.le _ _ hb) .nil) h2, h3⟩
        · split at h
          · next e => simp at h; subst h; subst e; exact ⟨f', c', h1, Qbk (.cons (Enc.book.le _ _ hb) .nil) h2, h3⟩
          · simp at h
      · simp at h
    · simp at h
  pure p := by simp [QaV, QaX, Enc.book.pure]
  de p := by
    obtain ⟨b, k⟩ := p
    cases b <;> simp [Enc.book.de]
def Qcq (p : Bool × Book) (o : OpD) : Bool := if p.1 then Qcv p.2 o else Qf3 p.2 o
def s343 : Sp := sp (QR Enc.ops Enc.pred) Enc.i64 (fun x => if x.1.length ≤ lim ∧ (∀ o ∈ x.1, o.small) then some (Qjm (Qcq x.2) x.1 0) else none)
def inv343 (l : List OpD) (p : Bool × Book) : Nat → (Nat → DV) → St → Prop := fun k a σ => ∃ i, i ≤ l.length ∧ k = l.length - i ∧ Qjm (Qcq p) l 0 = Qjm (Qcq p) (l.drop i) i ∧
  a 0 = .slice 7 .none (l.map Ql.opd.enc) ∧ a 1 = Enc.pred.enc p ∧ a 7 = .lit (.int .i64 l.length) ∧ a 8 = .lit (.int .i64 i)
abbrev T131 : Tab := Qf [(330, s330), (331, s331)]
theorem callPred (p : Bool × Book) (o : OpD) (ho : o.small) : dcall T131 (if p.1 then 331 else 330) [Enc.book.enc p.2, .agg (Ql.opd.enc o)] = some (.lit (.bool (Qcq p o))) := by
  obtain ⟨b, k⟩ := p
  cases b <;> simp [dcall, Qf, s330, s331, sp, QR, Ql.and, Ql.one, Enc.opd, Enc.agg, Ql.opd.de, Enc.book.de, Enc.bool, Qcq, ho]
theorem c343 : Qb Tryz.prog 343 s343 := by
  have t131 : QH Tryz.prog T131 := .cons e330 (.cons e331 .nil)
  refine Qb.of_sp (T := T131) Tryz.func343 rfl (Nat.le_of_ble_eq_true rfl) fun E x y hy => ?_
  obtain ⟨l, p⟩ := x
  by_cases hlim : l.length ≤ lim ∧ (∀ o ∈ l, o.small)
  case neg => simp only [hlim, if_false] at hy; cases hy
  rw [if_pos ⟨hlim.1, hlim.2⟩] at hy
  cases hy
  obtain ⟨hlim, hsm⟩ := hlim
  unfold lim at hlim
  refine Dwp.step t131 rfl fun K hK => ?_
  simp [dcall, Qf, setAt]
  refine hK _ _ ?_ rfl; clear hK K
  refine Dwp.seq ?_
  refine Dwp.step t131 rfl fun K hK => ?_
  simp [dcall, Qf, setAt, init, QR, Ql.and, Ql.one, Enc.ops, Enc.slice, Qer]
  refine hK _ _ ?_ rfl; clear hK K
  refine Dwp.block (Dwp.loop (inv343 l p) l.length ⟨0, by simp, by simp, by simp, by simp [upd, init, Enc.ops, Enc.slice], by simp [upd, init], by simp [upd], by simp [upd]⟩ ?_)
  rintro k a σ ⟨i, hi, rfl, hidx, h0, h1, h7, h8⟩
  refine Dwp.step t131 rfl fun K hK => ?_
  simp [dcall, Qf, setAt, h7, h8]
  refine hK _ _ ?_ rfl; clear hK K
  by_cases hlt : i < l.length
  · refine Dwp.seq (Dwp.condT (by simp [eval, upd, hlt]) (Dwp.skip ?_))
    refine Dwp.seq (Dwp.block ?_)
    refine Dwp.step t131 rfl fun K hK => ?_
    simp [dcall, Qf, setAt, h8]
    refine hK _ _ ?_ rfl; clear hK K
    refine Dwp.step t131 rfl fun K hK => ?_
    have g := callPred p l[i] (hsm _ (List.getElem_mem hlt))
    simp [QF, Qo, QJ, own, dop, QN, eval, Qr, Qn, upd, h0, h1, Qer, QbY, Qg, Qv, Qx, TyI.agg, hlt, Qi, Enc.pred, g]
    refine hK _ _ ?_ rfl; clear hK K
    have hd := idxF_drop (Qcq p) l i hlt
    cases hp : Qcq p l[i] with
    | true =>
      rw [hp] at hd
      refine Dwp.condT (by simp [eval, upd, hp]) ?_
      refine Dwp.step t131 rfl fun K hK => ?_
      simp [dcall, Qf, setAt]
      refine hK _ _ (Dwp.ret ?_) rfl
      have : Qjm (Qcq p) l 0 = i := by rw [hidx, hd]; rfl
      simp [Q3, Qh, QW, frz, Q2, Q0, Enc.i64, Enc.int, Ex.then, Ex.inBlock, upd, this]
    | false =>
      rw [hp] at hd
      refine Dwp.condF (by simp [eval, upd, hp]) (Dwp.skip ?_)
      refine Dwp.reg t131 rfl fun K hK => ?_
      simp [dcall, Qf, setAt, h8]
      refine hK _ _ ?_ rfl; clear hK K
      exact ⟨l.length - (i + 1), by omega, i + 1, by omega, rfl, by rw [hidx, hd]; rfl, by simp [upd, h0], by simp [upd, h1], by simp [upd, h7], by simp [upd, wrap_small (n := (i : Int) + 1) (by omega) (by omega)]⟩
  · refine Dwp.seq (Dwp.condF (by simp [eval, upd, hlt]) (Dwp.exit ?_))
    refine Dwp.step t131 rfl fun K hK => ?_
    simp [dcall, Qf, setAt]
    refine hK _ _ (Dwp.ret ?_) rfl
    have : Qjm (Qcq p) l 0 = -1 := by rw [hidx, List.drop_eq_nil_of_le (by omega)]; rfl
    simp [Q3, Qh, QW, frz, Q2, Q0, Enc.i64, Enc.int, upd, this]
def s329 : Sp := sp (QR Enc.ops Enc.pred) Enc.bool (fun x => if x.1.length ≤ lim ∧ (∀ o ∈ x.1, o.small) then some (x.1.any (Qcq x.2)) else none)
theorem c329 : Qb Tryz.prog 329 s329 := by
  have e131 : Go.FA.Good Tryz.prog (343, s343) := ⟨c343, Tryz.f343, _, Tryz.func343, rfl, by decide⟩
  have t115 : QH Tryz.prog (Qf [(343, s343)]) := .cons e131 .nil
  refine Qb.of_sp (T := Qf [(343, s343)]) Tryz.func329 rfl (Nat.le_of_ble_eq_true rfl) fun E x y hy => ?_
  obtain ⟨l, p⟩ := x
  by_cases hlim : l.length ≤ lim ∧ (∀ o ∈ l, o.small)
  case neg => simp only [hlim, if_false] at hy; cases hy
  rw [if_pos ⟨hlim.1, hlim.2⟩] at hy
  cases hy
  have g : dcall (Qf [(343, s343)]) 343 [Enc.ops.enc l, Enc.pred.enc p] = some (.lit (.int .i64 (Qjm (Qcq p) l 0))) :=
    Qcd (B := Enc.pred) (C := Enc.i64) (x := l) (y := p) (z := Qjm (Qcq p) l 0) rfl (if_pos ⟨hlim.1, hlim.2⟩)
  refine Dwp.step t115 rfl fun K hK => ?_
  simp [dcall, Qf, setAt]
  refine hK _ _ ?_ rfl; clear hK K
  refine Dwp.step t115 rfl fun K hK => ?_
  simp [QF, Qo, QJ, own, dop, QN, eval, Qr, Qn, upd, init, QR, Ql.and, Ql.one, Qi, g, QV, intCmp]
  refine hK _ _ (Dwp.ret ?_) rfl
  have := QiT (Qcq p) l 0
  simp [Q3, Qh, QW, frz, Q2, Q0, Enc.bool, upd, this]
theorem e329 : Go.FA.Good Tryz.prog (329, s329) := ⟨c329, Tryz.f329, _, Tryz.func329, rfl, by decide⟩
def Enc.tru : Enc Unit where
  enc _ := .lit (.bool true)
  dec d := match d with | .lit (.bool true) => some () | _ => none
  le d x h := by split at h <;> simp_all [DLe.refl]
  pure _ := rfl
  de _ := rfl
def Enc.set : Enc (List ByteArray) where
  enc l := .fmap (l.map .string) (l.map fun _ => .lit (.bool true))
  dec d := ((Enc.map Enc.tru).dec d).map (·.map (·.1))
  le d x h := by
    obtain ⟨l, h1, rfl⟩ := Option.map_eq_some_iff.1 h
    have h2 := (Enc.map Enc.tru).le _ _ h1
    have h3 : (Enc.map Enc.tru).enc l = .fmap ((l.map (·.1)).map .string) ((l.map (·.1)).map fun _ => .lit (.bool true)) := by
      simp only [Enc.map, List.map_map]; rfl
    rw [h3] at h2; exact h2
  pure l := by
    simp only [QaV]
    induction l with
    | nil => rfl
    | cons x l ih => simp [QaX, QaV, ih]
  de l := by
    have h := (Enc.map Enc.tru).de (l.map fun s => (s, ()))
    have h3 : (Enc.map Enc.tru).enc (l.map fun s => (s, ())) = .fmap (l.map .string) (l.map fun _ => .lit (.bool true)) := by
      simp only [Enc.map, List.map_map]; rfl
    rw [h3] at h
    rw [h]; simp [List.map_map, Function.comp_def]
theorem set_enc_dec (l : List ByteArray) : Enc.set.dec (.fmap (l.map .string) (l.map fun _ => .lit (.bool true))) = some l := Enc.set.de l
theorem Qjd (x y : ByteArray) : Qax (.string x) (.string y) = some (decide (x = y)) := rfl
def Book.highsOf (b : Book) (s : ByteArray) : List ByteArray := (Qc2 s b.highs).getD []
def Qio (b : Book) : Nat → List ByteArray → List ByteArray → Option (List ByteArray)
  | 0, _, _ => none
  | _ + 1, [], seen => some seen
  | n + 1, x :: rest, seen => if x ∈ seen then Qio b n rest seen else if rest.length + (b.highsOf x).length ≤ 16777216 then Qio b n (rest ++ b.highsOf x) (seen ++ [x]) else none
def Book.over (b : Book) (s : ByteArray) : Option (List ByteArray) := if (b.highsOf s).length ≤ 1048576 then Qio b 1000000 (b.highsOf s) [] else none
def s332 : Sp := sp (QR Enc.book Enc.str) Enc.set (fun x => x.1.over x.2)
@[simp] theorem book0 (b : Book) : (Ql.book.enc b)[0]? = some (.fmap (b.highs.map fun p => .string p.1) (b.highs.map fun p => Enc.strs.enc p.2)) := rfl
@[simp] theorem take_len_map {α β : Type} (l : List α) (f : α → β) : (l.map f).take l.length = l.map f := by rw [List.take_of_length_le (by simp)]
def Qlt (b : Book) (res : List ByteArray) : Nat → (Nat → DV) → St → Prop := fun k a σ => ∃ (todo seen : List ByteArray) (tk g : Nat), Qio b k todo seen = some res ∧
  a 2 = .row (Ql.book.enc b) 0 ∧ a 5 = .map 2 ∧ σ.objs 2 = some (.map (seen.map .string) (seen.map fun _ => .lit (.bool true))) ∧
  a 6 = .slice 1 (.tok tk g) (todo.map fun s => [DV.lit (.string s)]) ∧ σ.toks tk = some g
theorem t94 : QH Tryz.prog (Qf [(349, s120o)]) := .cons e120o .nil
theorem call120o (T : Tab) (hT : T 349 = some s120o) (d : DV) (l : List ByteArray) (hd : Enc.strs.dec d = some l) (hl : l.length ≤ 1048576) : dcall T 349 [d] = some (.slice 1 (.tok 0 0) (l.map fun s => [DV.lit (.string s)])) := by
  simp [dcall, hT, s120o, QhI, QM, Ql.one, hd, hl, Enc.str]
def Code.tl : Code → Code
  | .seq _ y => y
  | c => c
theorem Qk9 (b : Book) (res : List ByteArray) (E : Entry) (n : Nat) (a : Nat → DV) (σ : St) (h0 : Qlt b res n a σ) :
    ∀ c, Tryz.f332.body.map (fun c => Code.tl (Code.tl (Code.tl c))) = some c → Dwp Tryz.prog (Qf [(349, s120o)]) E Tryz.f332.ntmps c (Q3 Tryz.prog Tryz.f332.results Enc.set res) a σ := by
  intro c hc
  cases hc
  refine Dwp.seq ?_
  refine Dwp.block (Dwp.loop (Qlt b res) n h0 ?_)
  rintro k a σ ⟨todo, seen, tk, g, hov, h2, h5, hobj, h6, htk⟩
  refine Dwp.seq ?_
  refine Dwp.step t94 rfl fun K hK => ?_
  cases k with
  | zero => simp [Qio] at hov
  | succ k =>
  cases todo with
  | nil =>
    simp [dcall, Qf, setAt, h6, Qah]
    refine hK _ _ ?_ rfl; clear hK K
    refine Dwp.condF (by simp [eval, upd]) (Dwp.exit ?_)
    simp [Qio] at hov; subst hov
    refine Dwp.step t94 rfl fun K hK => ?_
    simp [dcall, Qf, setAt, h5]
    refine hK _ _ (Dwp.ret ?_) rfl
    have := set_enc_dec seen
    simp [Q3, Qh, QW, frz, Q2, Q0, upd, hobj]
    exact this
  | cons x rest =>
    have hpos : (0 : Int) < (rest.length : Int) + 1 := by omega
    simp [dcall, Qf, setAt, h6, Qah, hpos]
    refine hK _ _ ?_ rfl; clear hK K
    refine Dwp.condT (by simp [eval, upd]) (Dwp.skip ?_)
    refine Dwp.block ?_
    refine Dwp.step t94 rfl fun K hK => ?_
    simp [dcall, Qf, setAt, h6, Qah, ty9]
    refine hK _ _ ?_ rfl; clear hK K
    refine Dwp.step t94 rfl fun K hK => ?_
    have h1le : (1 : Int) ≤ (rest.length : Int) + 1 := by omega
    simp [dcall, Qf, setAt, h6, Qah, ty9, h1le]
    refine hK _ _ ?_ rfl; clear hK K
    simp only [Qio] at hov
    have hA := Qci _ Qjd x seen
    refine Dwp.step t94 rfl fun K hK => ?_
    by_cases hx : x ∈ seen
    · rw [if_pos hx] at hov
      simp [dcall, Qf, setAt, h5, hobj, QfU, ty9, ty4, hA, hx]
      refine hK _ _ ?_ rfl; clear hK K
      refine Dwp.condF (by simp [eval, upd]) (Dwp.skip ?_)
      exact ⟨k, Nat.lt_succ_self _, rest, seen, tk, g, hov, by simp [upd, h2], by simp [upd, h5], by simp [upd, hobj], by simp [upd], by simp [upd, htk]⟩
    · rw [if_neg hx] at hov
      split at hov
      case isFalse => cases hov
      next hroom =>
      simp [dcall, Qf, setAt, h5, hobj, QfU, ty9, ty4, hA, hx]
      refine hK _ _ ?_ rfl; clear hK K
      refine Dwp.condT (by simp [eval, upd]) ?_
      have hP := Qdz _ Qjd x (.lit (.bool true)) seen (seen.map fun _ => .lit (.bool true)) hx (by simp)
      refine Dwp.step t94 rfl fun K hK => ?_
      simp [dcall, Qf, setAt, h5, hobj, QfU, ty9, hP]
      refine hK _ _ ?_ rfl; clear hK K
      have hass := Qd3 Enc.strs x b.highs
      refine Dwp.reg t94 rfl fun K hK => ?_
      unfold Book.highsOf at hroom hov
      cases hm : Qc2 x b.highs with
      | none =>
        rw [hm] at hass hroom hov
        simp at hroom
        simp [dcall, Qf, setAt, h2, htk, Q1, Qdp, ty9, Qah, hass, hroom]
        refine hK _ _ ?_ rfl; clear hK K
        refine ⟨k, Nat.lt_succ_self _, rest, seen ++ [x], tk, g + 1, by simpa using hov, by simp [upd, h2], by simp [upd, h5], by simp [upd], by simp [upd], by simp [upd]⟩
      | some l =>
        rw [hm] at hass hroom hov
        simp at hroom
        simp [Enc.strs, Enc.slice, Ql.one, Enc.str] at hass
        simp [dcall, Qf, setAt, h2, htk, Q1, Qdp, ty9, Qah, Enc.strs, Enc.slice, Ql.one, Enc.str, hass, hroom]
        refine hK _ _ ?_ rfl; clear hK K
        refine ⟨k, Nat.lt_succ_self _, rest ++ l, seen ++ [x], tk, g + 1, by simpa using hov, by simp [upd, h2], by simp [upd, h5], by simp [upd], by simp [upd], by simp [upd]⟩
theorem c332 : Qb Tryz.prog 332 s332 := by
  refine Qb.of_sp (T := Qf [(349, s120o)]) Tryz.func332 rfl (Nat.le_of_ble_eq_true rfl) fun E x res hy => ?_
  obtain ⟨b, s⟩ := x
  unfold Book.over at hy
  split at hy
  case isFalse => cases hy
  next hlen =>
  refine Dwp.step t94 rfl fun K hK => ?_
  simp [dcall, Qf, setAt, init, QM, QR, Q6, Ql.one, Ql.and, Enc.bool, Enc.int, Enc.str, Enc.strs, Enc.slice, Enc.agg, Enc.tup, Enc.err, Enc.fn, Enc.book]
  refine hK _ _ ?_ rfl; clear hK K
  refine Dwp.step t94 rfl fun K hK => ?_
  simp [dcall, Qf, setAt]
  refine hK _ _ ?_ rfl; clear hK K
  refine Dwp.step t94 rfl fun K hK => ?_
  -- what the map holds
  have hass := Qd3 Enc.strs s b.highs
  have hget : ∃ d, (match (Qc2 s b.highs).map Enc.strs.enc with | some v => v | none => .lit (.slice none 0 0)) = d ∧ Enc.strs.dec d = some (b.highsOf s) := by
    unfold Book.highsOf
    cases Qc2 s b.highs with
    | none => exact ⟨_, rfl, rfl⟩
    | some l => exact ⟨_, rfl, Enc.strs.de l⟩
  obtain ⟨d, hd1, hd2⟩ := hget
  have g := call120o (Qf [(349, s120o)]) rfl d (b.highsOf s) hd2 hlen
  cases hm : Qc2 s b.highs with
  | none =>
    rw [hm] at hass hd1
    simp only [Option.map_none] at hass hd1
    subst hd1
    simp [QF, Qo, QJ, own, Qm, dop, QN, eval, Qr, Qn, upd, init, QR, Ql.and, Ql.one, Enc.str, Qa, Qv, Qx, TyI.agg, Q1, Qdp, ty9, Qah, QD, mapOf, QQ, QC, hass, Qi, g]
    refine hK _ _ ?_ rfl; clear hK K
    exact Qk9 b res E 1000000 _ _ ⟨_, [], _, _, hy, by simp [upd], by simp [upd, σ0], by simp [upd, σ0], by simp [upd]; exact ⟨rfl, rfl⟩, by simp [upd, σ0]⟩ _ rfl
  | some l0 =>
    rw [hm] at hass hd1
    simp only [Option.map_some] at hass hd1
    subst hd1
    have hlc : (Enc.strs.enc l0).cells = some [Enc.strs.enc l0] := rfl
    simp [QF, Qo, QJ, own, Qm, dop, QN, eval, Qr, Qn, upd, init, QR, Ql.and, Ql.one, Enc.str, Qa, Qv, Qx, TyI.agg, Q1, Qdp, ty9, Qah, QD, mapOf, QQ, QC, hass, Qi, g]
    refine hK _ _ ?_ rfl; clear hK K
    exact Qk9 b res E 1000000 _ _ ⟨_, [], _, _, hy, by simp [upd], by simp [upd, σ0], by simp [upd, σ0], by simp [upd]; exact ⟨rfl, rfl⟩, by simp [upd, σ0]⟩ _ rfl
theorem e332 : Go.FA.Good Tryz.prog (332, s332) := ⟨c332, Tryz.f332, _, Tryz.func332, rfl, by decide⟩
def anyS : ByteArray := ⟨#[65, 110, 121]⟩
def Book.atMost (b : Book) (lo hi : ByteArray) : Option Bool := if hi = anyS then some true else if lo = hi then some true else (b.over lo).map fun l => decide (hi ∈ l)
def s314 : Sp := sp (Q6 Enc.book Enc.str Enc.str) Enc.bool (fun x => x.1.atMost x.2.1 x.2.2)
theorem t50 : QH Tryz.prog (Qf [(332, s332)]) := .cons e332 .nil
theorem c314 : Qb Tryz.prog 314 s314 := by
  refine Qb.of_sp (T := Qf [(332, s332)]) Tryz.func314 rfl (Nat.le_of_ble_eq_true rfl) fun E x y hy => ?_
  obtain ⟨b, lo, hi⟩ := x
  simp only [Book.atMost] at hy
  refine Dwp.step t50 rfl fun K hK => ?_
  simp [dcall, Qf, setAt, init, Q6, Ql.and, Ql.one, Enc.str, Enc.book, Enc.agg]
  refine hK _ _ ?_ rfl; clear hK K
  refine Dwp.step t50 rfl fun K hK => ?_
  by_cases h1 : hi = anyS
  · rw [if_pos h1] at hy; cases hy
    unfold anyS at h1
    simp [dcall, Qf, setAt, init, Q6, Ql.and, Ql.one, Enc.str, h1]
    refine hK _ _ (Dwp.ret ?_) rfl
    simp [Q3, Qh, QW, frz, Q2, Q0, Enc.bool, upd]
  rw [if_neg h1] at hy
  by_cases h2 : lo = hi
  · rw [if_pos h2] at hy; cases hy
    unfold anyS at h1
    simp [dcall, Qf, setAt, init, Q6, Ql.and, Ql.one, Enc.str, h1, h2]
    refine hK _ _ (Dwp.ret ?_) rfl
    simp [Q3, Qh, QW, frz, Q2, Q0, Enc.bool, upd]
  rw [if_neg h2] at hy
  obtain ⟨l, ho, rfl⟩ := Option.map_eq_some_iff.1 hy
  have g : dcall (Qf [(332, s332)]) 332 [Enc.book.enc b, Enc.str.enc lo] = some (Enc.set.enc l) := Qcd (B := Enc.str) rfl ho
  have hA := Qci _ Qjd hi l
  unfold anyS at h1
  simp [dcall, Qf, Enc.book, Enc.str, Enc.agg, Enc.set] at g
  by_cases hm : hi ∈ l
  · rw [if_pos hm] at hA
    simp [dcall, Qf, setAt, init, Q6, Ql.and, Ql.one, Enc.str, h1, h2, Q1, QfU, ty9, ty4, g, hA]
    refine hK _ _ (Dwp.ret ?_) rfl
    simp [Q3, Qh, QW, frz, Q2, Q0, Enc.bool, upd, hm]
  · rw [if_neg hm] at hA
    simp [dcall, Qf, setAt, init, Q6, Ql.and, Ql.one, Enc.str, h1, h2, Q1, QfU, ty9, ty4, g, hA]
    refine hK _ _ (Dwp.ret ?_) rfl
    simp [Q3, Qh, QW, frz, Q2, Q0, Enc.bool, upd, hm]
theorem e314 : Go.FA.Good Tryz.prog (314, s314) := ⟨c314, Tryz.f314, _, Tryz.func314, rfl, by decide⟩
def left (len : Nat) (seen : List Nat) : Nat := ((List.range len).filter fun i => !decide (i ∈ seen)).length
theorem QgC {len j : Nat} {seen : List Nat} (hj : j < len) (hn : j ∉ seen) : left len (seen ++ [j]) < left len seen := by
  have h : ((List.range len).filter fun i => !decide (i ∈ seen ++ [j])) = ((List.range len).filter fun i => !decide (i ∈ seen)).filter fun i => decide (i ≠ j) := by
    rw [List.filter_filter]
    apply List.filter_congr
    intro i _
    by_cases h1 : i ∈ seen <;> by_cases h2 : i = j <;> simp [h1, h2]
  unfold left
  rw [h]
  exact List.length_filter_lt_length_iff_exists.2 ⟨j, by simp [hj, hn], by simp⟩
def Book.circ (b : Book) (s : ByteArray) : Bool := match b.over s with | some l => decide (s ∈ l) | none => false
def Book.circle (b : Book) : Bool := b.highs.any fun p => b.circ p.1
def s341 : Sp := sp (QM Enc.book) Enc.bool (fun b => if b.highs.all fun p => (b.over p.1).isSome then some b.circle else none)
def inv341 (b : Book) : Nat → (Nat → DV) → St → Prop := fun k a σ => ∃ seen, k = left b.highs.length seen ∧ (∀ j ∈ seen, ∀ p, b.highs[j]? = some p → b.circ p.1 = false) ∧
  a 1 = .row (Ql.book.enc b) 0 ∧ a 6 = .ptr 4 0 ∧ σ.objs 4 = some (.mapIter (b.highs.map fun p => .string p.1) (b.highs.map fun p => Enc.strs.enc p.2) seen)
theorem t129 : QH Tryz.prog (Qf [(332, s332)]) := .cons e332 .nil
theorem c341 : Qb Tryz.prog 341 s341 := by
  refine Qb.of_sp (T := Qf [(332, s332)]) Tryz.func341 rfl (Nat.le_of_ble_eq_true rfl) fun E b y hy => ?_
  split at hy
  case isFalse => cases hy
  next hall =>
  cases hy
  refine Dwp.step t129 rfl fun K hK => ?_
  simp [dcall, Qf, setAt, init, QM, Ql.one, Enc.book, Enc.agg]
  refine hK _ _ ?_ rfl; clear hK K
  refine Dwp.seq ?_
  refine Dwp.step t129 rfl fun K hK => ?_
  simp [dcall, Qf, setAt, Q1, Qdp]
  refine hK _ _ ?_ rfl; clear hK K
  refine Dwp.block (Dwp.loop (inv341 b) (left b.highs.length []) ⟨[], rfl, by simp, by simp [upd], by simp [upd, σ0], by simp [upd, σ0]⟩ ?_)
  rintro k a σ ⟨seen, rfl, hno, h1, h6, hobj⟩
  refine Dwp.seq (Dwp.next t129 rfl rfl rfl rfl h6 hobj ?_ ?_)
  · intro hend K hK
    simp [dcall, Qf, setAt]
    refine hK _ _ ?_ rfl; clear hK K
    refine Dwp.seq (Dwp.condF (by simp [eval, upd]) (Dwp.exit ?_))
    refine Dwp.step t129 rfl fun K hK => ?_
    simp [dcall, Qf, setAt]
    refine hK _ _ (Dwp.ret ?_) rfl
    have : b.circle = false := by
      unfold Book.circle
      rw [List.any_eq_false]
      intro p hp
      obtain ⟨j, hj, rfl⟩ := List.getElem_of_mem hp
      rw [hno j (hend j (by simpa using hj)) _ (List.getElem?_eq_getElem hj)]
      simp
    simp [Q3, Qh, QW, frz, Q2, Q0, Enc.bool, upd, this]
  · intro j kk x hns hk hx K hK
    obtain ⟨p, hp, rfl⟩ : ∃ p, b.highs[j]? = some p ∧ Value.string p.1 = kk := by
      rw [List.getElem?_map, Option.map_eq_some_iff] at hk; exact hk
    have hjl : j < b.highs.length := by
      rcases Nat.lt_or_ge j b.highs.length with q | q
      · exact q
      · rw [List.getElem?_eq_none q] at hp; cases hp
    have hov := List.all_eq_true.1 hall p (List.mem_of_getElem? hp)
    obtain ⟨l, hl⟩ := Option.isSome_iff_exists.1 hov
    have g : dcall (Qf [(332, s332)]) 332 [Enc.book.enc b, Enc.str.enc p.1] = some (Enc.set.enc l) := Qcd (B := Enc.str) rfl hl
    have hA := Qci _ Qjd p.1 l
    simp [dcall, Qf, setAt]
    refine hK _ _ ?_ rfl; clear hK K
    refine Dwp.seq (Dwp.condT (by simp [eval, upd]) (Dwp.skip ?_))
    refine Dwp.block ?_
    refine Dwp.step t129 rfl fun K hK => ?_
    simp [dcall, Qf, setAt, h6, Qez, hk, hx]
    refine hK _ _ ?_ rfl; clear hK K
    refine Dwp.step t129 rfl fun K hK => ?_
    simp [dcall, Qf, Enc.book, Enc.str, Enc.agg, Enc.set] at g
    by_cases hm : p.1 ∈ l
    · rw [if_pos hm] at hA
      simp [dcall, Qf, setAt, h1, Q1, QfU, ty9, ty4, g, hA]
      refine hK _ _ ?_ rfl; clear hK K
      refine Dwp.condT (by simp [eval, upd]) ?_
      refine Dwp.step t129 rfl fun K hK => ?_
      simp [dcall, Qf, setAt]
      refine hK _ _ (Dwp.ret ?_) rfl
      have : b.circle = true := by
        unfold Book.circle
        rw [List.any_eq_true]
        exact ⟨p, List.mem_of_getElem? hp, by simp [Book.circ, hl, hm]⟩
      simp [Q3, Qh, QW, frz, Q2, Q0, Enc.bool, Ex.then, Ex.inBlock, upd, this]
    · rw [if_neg hm] at hA
      simp [dcall, Qf, setAt, h1, Q1, QfU, ty9, ty4, g, hA]
      refine hK _ _ ?_ rfl; clear hK K
      refine Dwp.condF (by simp [eval, upd]) (Dwp.skip ?_)
      refine ⟨_, QgC hjl hns, seen ++ [j], rfl, ?_, by simp [upd, h1], by simp [upd, h6], by simp [upd]⟩
      intro i hi q hq
      rcases List.mem_append.1 hi with hi | hi
      · exact hno i hi q hq
      · simp at hi; subst hi
        rw [hp] at hq; cases hq
        simp [Book.circ, hl, hm]
theorem e341 : Go.FA.Good Tryz.prog (341, s341) := ⟨c341, Tryz.f341, _, Tryz.func341, rfl, by decide⟩
def Bel.val (b : Bel) : Value := .agg #[.string b.low, .string b.high]
theorem sk78 (x y : ByteArray) : Qbf Tryz.prog 143 [.string x, .string y] = true := by kernel_rfl
theorem eqBel (x y : Bel) : Qax x.val y.val = some (decide (x = y)) := by
  obtain ⟨a, b⟩ := x
  obtain ⟨c, d⟩ := y
  simp only [Bel.val, Qax, Qbp, Option.map_some, Bel.mk.injEq]
  by_cases h1 : a = c <;> by_cases h2 : b = d <;> simp [h1, h2]
theorem Qiz (k : Bel) : ∀ (l : List Bel), assoc k.val (l.map Bel.val) (l.map fun _ => .lit (.bool true)) = some (if k ∈ l then some (.lit (.bool true)) else none)
  | [] => rfl
  | x :: l => by
    simp only [List.map_cons, assoc, eqBel, Qiz k l]
    by_cases h : k = x
    · simp [h]
    · simp [h]
theorem Qlg (k : Bel) (x : DV) : ∀ (l : List Bel) (vs : List DV), k ∉ l → vs.length = l.length → putKey k.val x (l.map Bel.val) vs = some (l.map Bel.val ++ [k.val], vs ++ [x])
  | [], [], _, _ => rfl
  | [], _ :: _, _, h => by simp at h
  | _ :: _, [], _, h => by simp at h
  | y :: l, v :: vs, hn, h => by
    have h1 : k ≠ y := fun e => hn (by simp [e])
    have h2 : k ∉ l := fun e => hn (by simp [e])
    simp [putKey, eqBel, h1, Qlg k x l vs h2 (by simpa using h)]
def s340 : Sp := sp (QM Enc.bels) Enc.bool (fun l => if l.length ≤ lim then some (decide l.Nodup) else none)
def inv340 (l : List Bel) : Nat → (Nat → DV) → St → Prop := fun k a σ => ∃ i, i ≤ l.length ∧ k = l.length - i ∧ (l.take i).Nodup ∧ a 3 = .map 1 ∧ a 7 = .slice 2 .none (l.map Ql.bel.enc) ∧
    a 8 = .lit (.int .i64 l.length) ∧ a 9 = .lit (.int .i64 i) ∧ 1 < σ.n ∧ σ.objs 1 = some (.map ((l.take i).map Bel.val) ((l.take i).map fun _ => .lit (.bool true)))
theorem c340 : Qb Tryz.prog 340 s340 := by
  refine Qb.of_sp (T := Qf []) Tryz.func340 rfl (Nat.le_of_ble_eq_true rfl) fun E l y hy => ?_
  by_cases hlim : l.length ≤ lim <;> simp [hlim] at hy
  subst hy
  unfold lim at hlim
  refine Dwp.step Q9 rfl fun K hK => ?_
  simp [dcall, Qf, setAt]
  refine hK _ _ ?_ rfl; clear hK K
  refine Dwp.step Q9 rfl fun K hK => ?_
  simp [dcall, Qf, setAt]
  refine hK _ _ ?_ rfl; clear hK K
  refine Dwp.seq ?_
  refine Dwp.step Q9 rfl fun K hK => ?_
  simp [dcall, Qf, setAt, init, QM, Ql.one, Enc.bels, Enc.slice, QfT]
  refine hK _ _ ?_ rfl; clear hK K
  refine Dwp.block (Dwp.loop (inv340 l) l.length ⟨0, by simp, by simp, by simp, by simp [upd, σ0], by simp [upd], by simp [upd], by simp [upd], by simp [σ0], by simp [upd, σ0]⟩ ?_)
  rintro k a σ ⟨i, hi, rfl, hnd, h3, h7, h8, h9, hn, hobj⟩
  refine Dwp.step Q9 rfl fun K hK => ?_
  simp [dcall, Qf, setAt, h8, h9]
  refine hK _ _ ?_ rfl; clear hK K
  by_cases hlt : i < l.length
  · refine Dwp.seq (Dwp.condT (by simp [eval, upd, hlt]) (Dwp.skip ?_))
    refine Dwp.seq (Dwp.block ?_)
    refine Dwp.step Q9 rfl fun K hK => ?_
    have hq : (2 : Nat) ≤ (Ql.bel.enc l[i]).length := Nat.le_refl _
    have hst : setAt [DV.lit (.string ⟨#[]⟩), .lit (.string ⟨#[]⟩)] 0 [DV.lit (.string l[i].low), .lit (.string l[i].high)] = [DV.lit (.string l[i].low), .lit (.string l[i].high)] := rfl
    simp [dcall, Qf, setAt, h7, h9, QfT, QdS, hlt, Ql.bel]
    refine hK _ _ ?_ rfl; clear hK K
    have hA := Qiz l[i] (l.take i)
    simp only [List.map_take, Bel.val] at hA
    refine Dwp.seq ?_
    refine Dwp.step Q9 rfl fun K hK => ?_
    have hn1 : ¬ (1 = σ.n + 1 + 2) := by omega
    have hobj' : upd σ.objs (σ.n + 1 + 2) (some (.cells 143 [.lit (.string l[i].low), .lit (.string l[i].high)])) 1 = σ.objs 1 := by simp [upd, hn1]
    by_cases hm : l[i] ∈ l.take i
    · simp [dcall, Qf, setAt, h3, hobj, ty276, QdS, ty4, hA, hm, sk78, hn1]
      refine hK _ _ ?_ rfl; clear hK K
      refine Dwp.condT (by simp [eval, upd]) ?_
      refine Dwp.step Q9 rfl fun K hK => ?_
      simp [dcall, Qf, setAt]
      refine hK _ _ (Dwp.ret ?_) rfl
      have hno : ¬ l.Nodup := by
        intro hn
        have h1 : l.take (i + 1) = l.take i ++ [l[i]] := by rw [List.take_succ_eq_append_getElem hlt]
        have h2 : (l.take (i + 1)).Nodup := List.Nodup.sublist (List.take_sublist _ _) hn
        rw [h1, List.nodup_append] at h2
        exact h2.2.2 _ hm _ (by simp) rfl
      simp [Q3, Qh, QW, frz, Q2, Q0, init, QM, QR, Q6, Ql.one, Ql.and, Enc.bool, Enc.int, Enc.str, Enc.strs, Enc.slice, Enc.agg, Enc.tup, Enc.err, Enc.fn, Ex.then, Ex.inBlock, upd, hno]
    · simp [dcall, Qf, setAt, h3, hobj, ty276, QdS, ty4, hA, hm, sk78, hn1]
      refine hK _ _ ?_ rfl; clear hK K
      refine Dwp.condF (by simp [eval, upd]) (Dwp.skip ?_)
      refine Dwp.reg Q9 rfl fun K hK => ?_
      have hP := Qlg l[i] (.lit (.bool true)) (l.take i) ((l.take i).map fun _ => .lit (.bool true)) hm (by simp)
      simp only [List.map_take, Bel.val] at hP
      simp [dcall, Qf, setAt, h3, hobj, ty276, QdS, hP, sk78, hn1]
      refine hK _ _ ?_ rfl; clear hK K
      refine Dwp.reg Q9 rfl fun K hK => ?_
      simp [dcall, Qf, setAt, h9]
      refine hK _ _ ?_ rfl; clear hK K
      refine ⟨l.length - (i + 1), by omega, i + 1, by omega, rfl, ?_, by simp [upd, h3], by simp [upd, h7], by simp [upd, h8], ?_, by simp <;> omega, ?_⟩
      · rw [List.take_succ_eq_append_getElem hlt, List.nodup_append]
        exact ⟨hnd, by simp, fun a ha b hb e => by simp at hb; subst hb; subst e; exact hm ha⟩
      · simp [upd, wrap_small (n := (i : Int) + 1) (by omega) (by omega)]
      · rw [List.take_succ_eq_append_getElem hlt]; simp [upd]; constructor <;> (rw [List.take_succ_eq_append_getElem (by simpa using hlt)]; simp [Bel.val])
  · refine Dwp.seq (Dwp.condF (by simp [eval, upd, hlt]) (Dwp.exit ?_))
    refine Dwp.step Q9 rfl fun K hK => ?_
    simp [dcall, Qf, setAt]
    refine hK _ _ (Dwp.ret ?_) rfl
    have : l.take i = l := List.take_of_length_le (by omega)
    rw [this] at hnd
    simp [Q3, Qh, QW, frz, Q2, Q0, init, QM, QR, Q6, Ql.one, Ql.and, Enc.bool, Enc.int, Enc.str, Enc.strs, Enc.slice, Enc.agg, Enc.tup, Enc.err, Enc.fn, upd, hnd]
theorem e340 : Go.FA.Good Tryz.prog (340, s340) := ⟨c340, Tryz.f340, _, Tryz.func340, rfl, by decide⟩
def SigD.within (s : SigD) : Bool := decide (s.sorts.length ≤ 40) && decide (s.below.length ≤ 200) && decide (s.ops.length + s.funs.length ≤ 200)
def s308 : Sp := sp (QM Enc.sigd) Enc.bool (fun s => if s.ops.length ≤ lim ∧ s.funs.length ≤ lim then some s.within else none)
theorem c308 : Qb Tryz.prog 308 s308 := by
  refine Qb.of_sp (T := Qf []) Tryz.func308 rfl (Nat.le_of_ble_eq_true rfl) fun E s y hy => ?_
  split at hy
  case isFalse => cases hy
  next hlim =>
  cases hy
  obtain ⟨hl1, hl2⟩ := hlim
  unfold lim at hl1 hl2
  refine Dwp.step Q9 rfl fun K hK => ?_
  simp [dcall, Qf, setAt, init, QM, Ql.one, Enc.sigd, Enc.agg]
  refine hK _ _ ?_ rfl; clear hK K
  refine Dwp.step Q9 rfl fun K hK => ?_
  have hw := wrap_small (n := (s.ops.length : Int) + s.funs.length) (by omega) (by omega)
  by_cases h1 : s.sorts.length ≤ 40
  · have h1' : (s.sorts.length : Int) ≤ 40 := by omega
    by_cases h2 : s.below.length ≤ 200
    · have h2' : (s.below.length : Int) ≤ 200 := by omega
      simp [dcall, Qf, setAt, Qdm, Qah, QfT, Qer, Enc.strs, Enc.bels, Enc.ops, Enc.slice, h1', h2', hw]
      refine hK _ _ (Dwp.ret ?_) rfl
      simp [Q3, Qh, QW, frz, Q2, Q0, Enc.bool, upd, SigD.within, h1, h2]
      omega
    · have h2' : ¬ (s.below.length : Int) ≤ 200 := by omega
      simp [dcall, Qf, setAt, Qdm, Qah, QfT, Qer, Enc.strs, Enc.bels, Enc.ops, Enc.slice, h1', h2']
      refine hK _ _ (Dwp.ret ?_) rfl
      simp [Q3, Qh, QW, frz, Q2, Q0, Enc.bool, upd, SigD.within, h1, h2]
  · have h1' : ¬ (s.sorts.length : Int) ≤ 40 := by omega
    simp [dcall, Qf, setAt, Qdm, Qah, QfT, Qer, Enc.strs, Enc.bels, Enc.ops, Enc.slice, h1']
    refine hK _ _ (Dwp.ret ?_) rfl
    simp [Q3, Qh, QW, frz, Q2, Q0, Enc.bool, upd, SigD.within, h1]
theorem e308 : Go.FA.Good Tryz.prog (308, s308) := ⟨c308, Tryz.f308, _, Tryz.func308, rfl, by decide⟩
def QgV (b : Book) (x : Bel) : Bool := b.has x.low && !decide (x.low = anyS) && b.decl x.high
def QgQ (b : Book) (l : List Bel) : Option Bool := if l.length ≤ lim then (if l.all (QgV b) then (if decide l.Nodup then (if b.highs.all fun p => (b.over p.1).isSome then some (!b.circle) else none) else some false) else some false) else none
def s326 : Sp := sp (QR Enc.book Enc.bels) Enc.bool (fun x => QgQ x.1 x.2)
def inv326 (b : Book) (l : List Bel) : Nat → (Nat → DV) → St → Prop := fun k a σ => ∃ i, i ≤ l.length ∧ k = l.length - i ∧ (l.take i).all (QgV b) = true ∧
  a 1 = Enc.bels.enc l ∧ a 2 = .row (Ql.book.enc b) 0 ∧ a 7 = .slice 2 .none (l.map Ql.bel.enc) ∧ a 8 = .lit (.int .i64 l.length) ∧ a 9 = .lit (.int .i64 i)
abbrev T112 : Tab := Qf [(311, s311), (339, s339), (340, s340), (341, s341)]
theorem c326 (e340 : Go.FA.Good Tryz.prog (340, s340)) : Qb Tryz.prog 326 s326 := by
  have t112 : QH Tryz.prog T112 := .cons Qk6 (.cons e339 (.cons e340 (.cons e341 .nil)))
  refine Qb.of_sp (T := T112) Tryz.func326 rfl (Nat.le_of_ble_eq_true rfl) fun E x y hy => ?_
  obtain ⟨b, l⟩ := x
  simp only [QgQ] at hy
  split at hy
  case isFalse => cases hy
  next hlim =>
  have hlim' := hlim
  unfold lim at hlim
  refine Dwp.step t112 rfl fun K hK => ?_
  simp [dcall, Qf, setAt, init, QR, Ql.and, Ql.one, Enc.book, Enc.agg]
  refine hK _ _ ?_ rfl; clear hK K
  refine Dwp.seq ?_
  refine Dwp.step t112 rfl fun K hK => ?_
  simp [dcall, Qf, setAt, init, QR, Ql.and, Ql.one, Enc.bels, Enc.slice, QfT]
  refine hK _ _ ?_ rfl; clear hK K
  refine Dwp.block (Dwp.loop (inv326 b l) l.length ⟨0, by simp, by simp, by simp, by simp [upd, init, Enc.bels, Enc.slice], by simp [upd, init], by simp [upd, init], by simp [upd], by simp [upd]⟩ ?_)
  rintro k a σ ⟨i, hi, rfl, hall, h1, h2, h7, h8, h9⟩
  refine Dwp.step t112 rfl fun K hK => ?_
  simp [dcall, Qf, setAt, h8, h9]
  refine hK _ _ ?_ rfl; clear hK K
  by_cases hlt : i < l.length
  · refine Dwp.seq (Dwp.condT (by simp [eval, upd, hlt]) (Dwp.skip ?_))
    refine Dwp.seq (Dwp.block ?_)
    refine Dwp.step t112 rfl fun K hK => ?_
    simp [dcall, Qf, setAt, h7, h9, QfT, QdS, hlt, Ql.bel]
    refine hK _ _ ?_ rfl; clear hK K
    refine Dwp.step t112 rfl fun K hK => ?_
    have g1 := Qeq T112 rfl b (.slice 1 .full [[.lit (.string l[i].low)]]) [l[i].low] rfl (by unfold Go.FA.lim; simp)
    simp only [List.all_cons, List.all_nil, Bool.and_true] at g1
    have g2 := QjO T112 rfl b l[i].high
    cases k1 : b.has l[i].low with
    | false =>
      simp [QF, Qo, QJ, own, Qm, dop, QN, eval, Qr, Qn, upd, Qa, Qv, Qx, TyI.agg, QdS, Q1, ty9, Qah, Qi, Qc, DV.cells, Qd, h2, g1, k1]
      refine hK _ _ ?_ rfl; clear hK K
      refine Dwp.condT (by simp [eval, upd]) ?_
      refine Dwp.step t112 rfl fun K hK => ?_
      simp [dcall, Qf, setAt]
      refine hK _ _ (Dwp.ret ?_) rfl
      have hf : QgV b l[i] = false := by simp [QgV, k1]
      have := Qch hlt hf
      simp only [this] at hy; cases hy
      simp [Q3, Qh, QW, frz, Q2, Q0, Enc.bool, Ex.then, Ex.inBlock, upd]
    | true =>
    by_cases k2 : l[i].low = anyS
    · have k2' : l[i].low = ⟨#[65, 110, 121]⟩ := k2
      simp [QF, Qo, QJ, own, Qm, dop, QN, eval, Qr, Qn, upd, Qa, Qv, Qx, TyI.agg, QdS, Q1, ty9, Qah, Qi, Qc, DV.cells, Qd, QV, h2, k2'] at g1 k1
      simp [QF, Qo, QJ, own, Qm, dop, QN, eval, Qr, Qn, upd, Qa, Qv, Qx, TyI.agg, QdS, Q1, ty9, Qah, Qi, Qc, DV.cells, Qd, QV, h2, g1, k1, k2']
      refine hK _ _ ?_ rfl; clear hK K
      refine Dwp.condT (by simp [eval, upd]) ?_
      refine Dwp.step t112 rfl fun K hK => ?_
      simp [dcall, Qf, setAt]
      refine hK _ _ (Dwp.ret ?_) rfl
      have hf : QgV b l[i] = false := by simp [QgV, k2]
      have := Qch hlt hf
      simp only [this] at hy; cases hy
      simp [Q3, Qh, QW, frz, Q2, Q0, Enc.bool, Ex.then, Ex.inBlock, upd]
    · have k2' : ¬ l[i].low = ⟨#[65, 110, 121]⟩ := k2
      cases k3 : b.decl l[i].high with
      | false =>
        simp [QF, Qo, QJ, own, Qm, dop, QN, eval, Qr, Qn, upd, Qa, Qv, Qx, TyI.agg, QdS, Q1, ty9, Qah, Qi, Qc, DV.cells, Qd, QV, h2, g1, k1, k2', g2, k3]
        refine hK _ _ ?_ rfl; clear hK K
        refine Dwp.condT (by simp [eval, upd]) ?_
        refine Dwp.step t112 rfl fun K hK => ?_
        simp [dcall, Qf, setAt]
        refine hK _ _ (Dwp.ret ?_) rfl
        have hf : QgV b l[i] = false := by simp [QgV, k3]
        have := Qch hlt hf
        simp only [this] at hy; cases hy
        simp [Q3, Qh, QW, frz, Q2, Q0, Enc.bool, Ex.then, Ex.inBlock, upd]
      | true =>
        simp [QF, Qo, QJ, own, Qm, dop, QN, eval, Qr, Qn, upd, Qa, Qv, Qx, TyI.agg, QdS, Q1, ty9, Qah, Qi, Qc, DV.cells, Qd, QV, h2, g1, k1, k2', g2, k3]
        refine hK _ _ ?_ rfl; clear hK K
        refine Dwp.condF (by simp [eval, upd]) (Dwp.skip ?_)
        refine Dwp.reg t112 rfl fun K hK => ?_
        simp [dcall, Qf, setAt, h9]
        refine hK _ _ ?_ rfl; clear hK K
        exact ⟨l.length - (i + 1), by omega, i + 1, by omega, rfl, QgY hlt hall (by simp [QgV, k1, k2, k3]), by simp [upd, h1], by simp [upd, h2], by simp [upd, h7], by simp [upd, h8], by simp [upd, wrap_small (n := (i : Int) + 1) (by omega) (by omega)]⟩
  · refine Dwp.seq (Dwp.condF (by simp [eval, upd, hlt]) (Dwp.exit ?_))
    rw [List.take_of_length_le (by omega)] at hall
    simp only [hall, if_true] at hy
    have g3 : dcall T112 340 [Enc.bels.enc l] = some (Enc.bool.enc (decide l.Nodup)) := Qad (A := Enc.bels) (B := Enc.bool) rfl (if_pos hlim')
    refine Dwp.step t112 rfl fun K hK => ?_
    by_cases k1 : l.Nodup
    · simp only [k1, decide_true, if_true] at hy
      split at hy
      case isFalse => cases hy
      next hov =>
      cases hy
      have g4 : dcall T112 341 [Enc.book.enc b] = some (Enc.bool.enc b.circle) := Qad (A := Enc.book) (B := Enc.bool) rfl (if_pos hov)
      simp only [Enc.bool] at g3 g4
      simp only [Enc.book, Enc.agg] at g4
      simp [QF, Qo, QJ, own, Qm, dop, QN, eval, Qr, Qn, upd, Qv, Qx, TyI.agg, Q1, Qi, h1, h2, g3, g4, k1]
      refine hK _ _ (Dwp.ret ?_) rfl
      simp [Q3, Qh, QW, frz, Q2, Q0, Enc.bool, upd]
    · simp only [k1, decide_false, Bool.false_eq_true, if_false] at hy
      cases hy
      simp only [Enc.bool] at g3
      simp [QF, Qo, QJ, own, Qm, dop, QN, eval, Qr, Qn, upd, Qv, Qx, TyI.agg, Q1, Qi, h1, h2, g3, k1]
      refine hK _ _ (Dwp.ret ?_) rfl
      simp [Q3, Qh, QW, frz, Q2, Q0, Enc.bool, upd]
end
def SigD.sizes (s : SigD) : Prop := s.sorts.length ≤ 1000000 ∧ s.ops.length + s.funs.length ≤ 1048576 ∧ s.values.length ≤ lim ∧ (∀ o ∈ s.ops, o.small) ∧ (∀ o ∈ s.funs, o.small)
instance (s : SigD) : Decidable s.sizes := by unfold SigD.sizes; infer_instance
def QiQ (b : Book) (s : SigD) : Option Bool :=
  if s.sizes then (if okSorts s.sorts then (match QgQ b s.below with
    | none => none
    | some false => some false
    | some true => some (decide (QcD s).Nodup && !(s.ops.any (Qcq (false, b))) && !(s.funs.any (Qcq (true, b))) && s.values.all b.has && decide s.values.Nodup)) else some false) else none
def s310 : Sp := sp (QR Enc.book Enc.sigd) Enc.bool (fun x => QiQ x.1 x.2)
abbrev T88 : Tab := Qf [(325, s325), (326, s326), (328, s328), (327, s327), (329, s329), (311, s311)]
theorem c310 (e326 : Go.FA.Good Tryz.prog (326, s326)) : Qb Tryz.prog 310 s310 := by
  have t88 : QH Tryz.prog T88 := .cons e325 (.cons e326 (.cons e328 (.cons e327 (.cons e329 (.cons Qk6 .nil)))))
  refine Qb.of_sp (T := T88) Tryz.func310 rfl (Nat.le_of_ble_eq_true rfl) fun E x y hy => ?_
  obtain ⟨b, s⟩ := x
  simp only [QiQ] at hy
  split at hy
  case isFalse => cases hy
  next hsz =>
  obtain ⟨z1, z2, z3, z4, z5⟩ := hsz
  have zo : s.ops.length ≤ lim := by unfold lim; omega
  have zf : s.funs.length ≤ lim := by unfold lim; omega
  have zn : (QcD s).length ≤ lim := by unfold QcD lim; simp; omega
  have g1 : dcall T88 325 [Enc.strs.enc s.sorts] = some (Enc.bool.enc (okSorts s.sorts)) := Qad (A := Enc.strs) (B := Enc.bool) rfl (if_pos z1)
  have g3 : dcall T88 328 [Enc.sigd.enc s] = some (Enc.strs.enc (QcD s)) := Qad (A := Enc.sigd) (B := Enc.strs) rfl (if_pos z2)
  have g4 := call327 T88 rfl (QcD s) zn
  have g5 : dcall T88 329 [Enc.ops.enc s.ops, Enc.pred.enc (false, b)] = some (Enc.bool.enc (s.ops.any (Qcq (false, b)))) := Qcd (B := Enc.pred) (C := Enc.bool) (y := (false, b)) rfl (if_pos ⟨zo, z4⟩)
  have g6 : dcall T88 329 [Enc.ops.enc s.funs, Enc.pred.enc (true, b)] = some (Enc.bool.enc (s.funs.any (Qcq (true, b)))) := Qcd (B := Enc.pred) (C := Enc.bool) (y := (true, b)) rfl (if_pos ⟨zf, z5⟩)
  have g7 := Qeq T88 rfl b (Enc.strs.enc s.values) s.values (Enc.strs.de _) z3
  have g8 := call327 T88 rfl s.values z3
  simp only [Enc.bool, Enc.sigd, Enc.agg, Enc.pred, Enc.book, Bool.false_eq_true, if_true, if_false] at g1 g3 g5 g6
  have hTT : T88 326 = some s326 := rfl
  refine Dwp.step t88 rfl fun K hK => ?_
  simp [QF, QZ, Qo, QJ, own, Qm, dop, QN, eval, Qr, Qn, Ex.then, Ex.inBlock, upd, QV, Tag.isNN, Qp, intCmp, Qv, Qx, TyI.agg, Qa, Qu, Qg, Qs, QX, QA, QD, mapOf, QQ, QC, Qq, Qi, dcall, Qf, Qj, QI, DV.cells, setAt, Qt, Qk, QE, QK, rowsOf, QL, Qd, Qe, Qe.go, Qz, QB, Qc, goInt, init, QR, Ql.and, Ql.one, Enc.book, Enc.sigd, Enc.agg]
  refine hK _ _ ?_ rfl; clear hK K
  refine Dwp.step t88 rfl fun K hK => ?_
  generalize T88 = T at *
  repeat ((first | refine Qn.stepD rfl rfl ?_ | refine Qn.stepG rfl rfl rfl ?_ | refine Qn.stepN rfl rfl ?_ | refine Qn.stepGN rfl rfl rfl ?_); intro K1 hK1; simp [QO, Qw, QJ, dop, eval, Qr, upd, Qa, Qv, Qx, TyI.agg, Qdm, Q1, Qah, QfT, Qer, Qi, g1]; refine hK1 _ _ ?_; clear hK1 K1)
  cases k1 : okSorts s.sorts with
  | false =>
    simp only [k1, Bool.false_eq_true, if_false] at hy
    cases hy
    repeat ((first | refine Qn.stepD rfl rfl ?_ | refine Qn.stepG rfl rfl rfl ?_ | refine Qn.stepN rfl rfl ?_ | refine Qn.stepGN rfl rfl rfl ?_); intro K1 hK1; simp [QO, Qw, QJ, dop, eval, Qr, upd, Qa, Qv, Qx, TyI.agg, Qdm, Q1, Qah, QfT, Qer, Qi, g1, k1]; refine hK1 _ _ ?_; clear hK1 K1)
    refine Qn.done (hK _ _ (Dwp.ret ?_) rfl)
    simp [Q3, Qh, QW, frz, Q2, Q0, Enc.bool, Ex.then, upd]
  | true =>
  simp only [k1, if_true] at hy
  cases k2 : QgQ b s.below with
  | none => rw [k2] at hy; cases hy
  | some r =>
  have g2 : dcall T 326 [Enc.book.enc b, Enc.bels.enc s.below] = some (Enc.bool.enc r) := Qcd (B := Enc.bels) (C := Enc.bool) (y := s.below) hTT k2
  simp only [Enc.book, Enc.agg, Enc.bool] at g2
  rw [k2] at hy
  repeat ((first | refine Qn.stepD rfl rfl ?_ | refine Qn.stepG rfl rfl rfl ?_ | refine Qn.stepN rfl rfl ?_ | refine Qn.stepGN rfl rfl rfl ?_); intro K1 hK1; simp [QO, Qw, QJ, dop, eval, Qr, upd, Qa, Qv, Qx, TyI.agg, Qdm, Q1, Qah, QfT, Qer, Qi, g1, k1, g2]; refine hK1 _ _ ?_; clear hK1 K1)
  cases r with
  | false =>
    cases hy
    repeat ((first | refine Qn.stepD rfl rfl ?_ | refine Qn.stepG rfl rfl rfl ?_ | refine Qn.stepN rfl rfl ?_ | refine Qn.stepGN rfl rfl rfl ?_); intro K1 hK1; simp [QO, Qw, QJ, dop, eval, Qr, upd, Qa, Qv, Qx, TyI.agg, Qdm, Q1, Qah, QfT, Qer, Qi, g1, k1, g2]; refine hK1 _ _ ?_; clear hK1 K1)
    refine Qn.done (hK _ _ (Dwp.ret ?_) rfl)
    simp [Q3, Qh, QW, frz, Q2, Q0, Enc.bool, Ex.then, upd]
  | true =>
  simp only [Option.some.injEq] at hy
  subst hy
  generalize decide (QcD s).Nodup = q3 at *
  generalize s.ops.any (Qcq (false, b)) = q4 at *
  generalize s.funs.any (Qcq (true, b)) = q5 at *
  generalize s.values.all b.has = q6 at *
  generalize decide s.values.Nodup = q7 at *
  repeat ((first | refine Qn.stepD rfl rfl ?_ | refine Qn.stepG rfl rfl rfl ?_ | refine Qn.stepN rfl rfl ?_ | refine Qn.stepGN rfl rfl rfl ?_); intro K1 hK1; simp [QO, Qw, QJ, dop, eval, Qr, upd, Qa, Qv, Qx, TyI.agg, Qdm, Q1, Qah, QfT, Qer, Qi, g1, k1, g2, g3, g4]; refine hK1 _ _ ?_; clear hK1 K1)
  cases q3 with
  | false =>
    repeat ((first | refine Qn.stepD rfl rfl ?_ | refine Qn.stepG rfl rfl rfl ?_ | refine Qn.stepN rfl rfl ?_ | refine Qn.stepGN rfl rfl rfl ?_); intro K1 hK1; simp [QO, Qw, QJ, dop, eval, Qr, upd, Qa, Qv, Qx, TyI.agg, Qdm, Q1, Qah, QfT, Qer, Qi, g1, k1, g2, g3, g4]; refine hK1 _ _ ?_; clear hK1 K1)
    refine Qn.done (hK _ _ (Dwp.ret ?_) rfl)
    simp [Q3, Qh, QW, frz, Q2, Q0, Enc.bool, Ex.then, upd]
  | true =>
  repeat ((first | refine Qn.stepD rfl rfl ?_ | refine Qn.stepG rfl rfl rfl ?_ | refine Qn.stepN rfl rfl ?_ | refine Qn.stepGN rfl rfl rfl ?_); intro K1 hK1; simp [QO, Qw, QJ, dop, eval, Qr, upd, Qa, Qv, Qx, TyI.agg, Qdm, Q1, Qah, QfT, Qer, Qi, g1, k1, g2, g3, g4, g5]; refine hK1 _ _ ?_; clear hK1 K1)
  cases q4 with
  | true =>
    repeat ((first | refine Qn.stepD rfl rfl ?_ | refine Qn.stepG rfl rfl rfl ?_ | refine Qn.stepN rfl rfl ?_ | refine Qn.stepGN rfl rfl rfl ?_); intro K1 hK1; simp [QO, Qw, QJ, dop, eval, Qr, upd, Qa, Qv, Qx, TyI.agg, Qdm, Q1, Qah, QfT, Qer, Qi, g1, k1, g2, g3, g4, g5]; refine hK1 _ _ ?_; clear hK1 K1)
    refine Qn.done (hK _ _ (Dwp.ret ?_) rfl)
    simp [Q3, Qh, QW, frz, Q2, Q0, Enc.bool, Ex.then, upd]
  | false =>
  repeat ((first | refine Qn.stepD rfl rfl ?_ | refine Qn.stepG rfl rfl rfl ?_ | refine Qn.stepN rfl rfl ?_ | refine Qn.stepGN rfl rfl rfl ?_); intro K1 hK1; simp [QO, Qw, QJ, dop, eval, Qr, upd, Qa, Qv, Qx, TyI.agg, Qdm, Q1, Qah, QfT, Qer, Qi, g1, k1, g2, g3, g4, g5, g6]; refine hK1 _ _ ?_; clear hK1 K1)
  cases q5 with
  | true =>
    repeat ((first | refine Qn.stepD rfl rfl ?_ | refine Qn.stepG rfl rfl rfl ?_ | refine Qn.stepN rfl rfl ?_ | refine Qn.stepGN rfl rfl rfl ?_); intro K1 hK1; simp [QO, Qw, QJ, dop, eval, Qr, upd, Qa, Qv, Qx, TyI.agg, Qdm, Q1, Qah, QfT, Qer, Qi, g1, k1, g2, g3, g4, g5, g6]; refine hK1 _ _ ?_; clear hK1 K1)
    refine Qn.done (hK _ _ (Dwp.ret ?_) rfl)
    simp [Q3, Qh, QW, frz, Q2, Q0, Enc.bool, Ex.then, upd]
  | false =>
  repeat ((first | refine Qn.stepD rfl rfl ?_ | refine Qn.stepG rfl rfl rfl ?_ | refine Qn.stepN rfl rfl ?_ | refine Qn.stepGN rfl rfl rfl ?_); intro K1 hK1; simp [QO, Qw, QJ, dop, eval, Qr, upd, Qa, Qv, Qx, TyI.agg, Qdm, Q1, Qah, QfT, Qer, Qi, g1, k1, g2, g3, g4, g5, g6, g7]; refine hK1 _ _ ?_; clear hK1 K1)
  cases q6 with
  | false =>
    repeat ((first | refine Qn.stepD rfl rfl ?_ | refine Qn.stepG rfl rfl rfl ?_ | refine Qn.stepN rfl rfl ?_ | refine Qn.stepGN rfl rfl rfl ?_); intro K1 hK1; simp [QO, Qw, QJ, dop, eval, Qr, upd, Qa, Qv, Qx, TyI.agg, Qdm, Q1, Qah, QfT, Qer, Qi, g1, k1, g2, g3, g4, g5, g6, g7]; refine hK1 _ _ ?_; clear hK1 K1)
    refine Qn.done (hK _ _ (Dwp.ret ?_) rfl)
    simp [Q3, Qh, QW, frz, Q2, Q0, Enc.bool, Ex.then, upd]
  | true =>
  repeat ((first | refine Qn.stepD rfl rfl ?_ | refine Qn.stepG rfl rfl rfl ?_ | refine Qn.stepN rfl rfl ?_ | refine Qn.stepGN rfl rfl rfl ?_); intro K1 hK1; simp [QO, Qw, QJ, dop, eval, Qr, upd, Qa, Qv, Qx, TyI.agg, Qdm, Q1, Qah, QfT, Qer, Qi, g1, k1, g2, g3, g4, g5, g6, g7, g8]; refine hK1 _ _ ?_; clear hK1 K1)
  refine Qn.done (hK _ _ (Dwp.ret ?_) rfl)
  simp [Q3, Qh, QW, frz, Q2, Q0, Enc.bool, Ex.then, upd]
section
attribute [local simp] QF QZ Qo QJ own Qm dop QN eval Qr Qn Ex.then Ex.inBlock upd QV Tag.isNN Qp intCmp Qv Qx TyI.agg Qa Qu Qg Qs QX QA QD mapOf QQ QC Qq Qi Qj QI DV.cells Qt Qk QE QK rowsOf QL Qd Qe Qe.go Qz QB Qc goInt
def Qca {α : Type} (k : ByteArray) (v : α) : List (ByteArray × α) → List (ByteArray × α)
  | [] => [(k, v)]
  | p :: l => if k = p.1 then (k, v) :: l else p :: Qca k v l
theorem Qgw {α : Type} (A : Enc α) (k : ByteArray) (v : α) : ∀ l : List (ByteArray × α),
    putKey (.string k) (A.enc v) (l.map fun p => .string p.1) (l.map fun p => A.enc p.2) = some ((Qca k v l).map (fun p => .string p.1), (Qca k v l).map fun p => A.enc p.2)
  | [] => rfl
  | p :: l => by
    simp only [List.map_cons, putKey, Qax, Qca]
    by_cases h : k = p.1
    · simp [h]
    · simp [h, Qgw A k v l]
theorem setOpd (o : OpD) : setAt [.lit (.string ⟨#[]⟩), .lit (.slice none 0 0), .lit (.string ⟨#[]⟩), .lit (.slice none 0 0), .lit (.int .i64 0), .lit (.int .i64 0), .lit (.slice none 0 0)] 0 (Ql.opd.enc o) = Ql.opd.enc o := rfl
def Qbq (l : List OpD) : List (ByteArray × OpD) := l.foldl (fun m o => Qca o.name o m) []
theorem byName_take {l : List OpD} {i : Nat} (h : i < l.length) : Qbq (l.take (i + 1)) = Qca l[i].name l[i] (Qbq (l.take i)) := by
  unfold Qbq
  rw [List.take_succ_eq_append_getElem h, List.foldl_append]; rfl
def s322 : Sp := sp (QM Enc.ops) (Enc.map Enc.opd) (fun l => if l.length ≤ lim then some (Qbq l) else none)
def inv322 (l : List OpD) : Nat → (Nat → DV) → St → Prop := fun k a σ => ∃ i, i ≤ l.length ∧ k = l.length - i ∧ a 3 = .map 1 ∧
  σ.objs 1 = some (.map ((Qbq (l.take i)).map fun p => .string p.1) ((Qbq (l.take i)).map fun p => .agg (Ql.opd.enc p.2))) ∧
  a 7 = .slice 7 .none (l.map Ql.opd.enc) ∧ a 8 = .lit (.int .i64 l.length) ∧ a 9 = .lit (.int .i64 i) ∧ 1 < σ.n
theorem c322 : Qb Tryz.prog 322 s322 := by
  refine Qb.of_sp (T := Qf []) Tryz.func322 rfl (Nat.le_of_ble_eq_true rfl) fun E l y hy => ?_
  by_cases hlim : l.length ≤ lim <;> simp [hlim] at hy
  subst hy
  unfold lim at hlim
  refine Dwp.step Q9 rfl fun K hK => ?_
  simp [dcall, Qf, setAt]
  refine hK _ _ ?_ rfl; clear hK K
  refine Dwp.step Q9 rfl fun K hK => ?_
  simp [dcall, Qf, setAt]
  refine hK _ _ ?_ rfl; clear hK K
  refine Dwp.seq ?_
  refine Dwp.step Q9 rfl fun K hK => ?_
  simp [dcall, Qf, setAt, init, QM, Ql.one, Enc.ops, Enc.slice, Qer]
  refine hK _ _ ?_ rfl; clear hK K
  refine Dwp.block (Dwp.loop (inv322 l) l.length ⟨0, by simp, by simp, by simp [upd, σ0], by simp [upd, σ0, Qbq], by simp [upd], by simp [upd], by simp [upd], by simp [σ0]⟩ ?_)
  rintro k a σ ⟨i, hi, rfl, h3, hobj, h7, h8, h9, hn⟩
  refine Dwp.step Q9 rfl fun K hK => ?_
  simp [dcall, Qf, setAt, h8, h9]
  refine hK _ _ ?_ rfl; clear hK K
  by_cases hlt : i < l.length
  · refine Dwp.seq (Dwp.condT (by simp [eval, upd, hlt]) (Dwp.skip ?_))
    refine Dwp.seq (Dwp.block ?_)
    have hne : (1 : Nat) ≠ σ.n + 1 + 2 := by omega
    refine Dwp.step Q9 rfl fun K hK => ?_
    simp [dcall, Qf, setAt, h7, h9, Qer, QbY, hlt, setOpd]
    refine hK _ _ ?_ rfl; clear hK K
    refine Dwp.reg Q9 rfl fun K hK => ?_
    have hP := Qgw Enc.opd l[i].name l[i] (Qbq (l.take i))
    simp only [Enc.opd, Enc.agg] at hP
    simp [dcall, Qf, setAt, h3, hobj, hne, QbY, ty9, Qkn, hP]
    refine hK _ _ ?_ rfl; clear hK K
    refine Dwp.reg Q9 rfl fun K hK => ?_
    simp [dcall, Qf, setAt, h9]
    refine hK _ _ ?_ rfl; clear hK K
    have hbt := byName_take hlt
    exact ⟨l.length - (i + 1), by omega, i + 1, by omega, rfl, by simp [upd, h3], by simp [upd, hbt], by simp [upd, h7], by simp [upd, h8], by simp [upd, wrap_small (n := (i : Int) + 1) (by omega) (by omega)], by simp <;> omega⟩
  · refine Dwp.seq (Dwp.condF (by simp [eval, upd, hlt]) (Dwp.exit ?_))
    rw [List.take_of_length_le (by omega)] at hobj
    refine Dwp.step Q9 rfl fun K hK => ?_
    simp [dcall, Qf, setAt, h3]
    refine hK _ _ (Dwp.ret ?_) rfl
    have hd := Qc6 Enc.opd (Qbq l)
    simp [Q3, Qh, QW, frz, Q2, Q0, upd, hobj, Enc.map]
    exact hd
theorem e322 : Go.FA.Good Tryz.prog (322, s322) := ⟨c322, Tryz.f322, _, Tryz.func322, rfl, by decide⟩
def Qdj (m : List (ByteArray × List ByteArray)) (x : Bel) : List (ByteArray × List ByteArray) := match Qc2 x.low m with | some l => Qca x.low (l ++ [x.high]) m | none => m
def Qdn (s : SigD) : Book := ⟨s.below.foldl Qdj ((QbR ++ s.sorts).foldl (fun m n => Qca n [] m) []), Qbq s.ops, Qbq s.funs⟩
def s309 : Sp := sp (QM Enc.sigd) Enc.book (fun s => if s.within then some (Qdn s) else none)
def Qjj : DV := .agg [.lit (.map none), .lit (.map none), .lit (.map none)]
def Enc.opened : Enc (Option Book × Int) where
  enc x := .tuple [(match x.1 with | some b => Enc.book.enc b | none => Qjj), .lit (.int .i64 x.2)]
  dec d := match d with
    | .tuple [x, .lit (.int .i64 e)] => match x with
      | .agg [.lit (.map none), .lit (.map none), .lit (.map none)] => some (none, e)
      | x => (Enc.book.dec x).map fun b => (some b, e)
    | _ => none
  le d x h := by
    split at h
    · intro C w v hv
      simp only [Qy] at hv ⊢
      obtain ⟨ys, h1, h2⟩ := hv
      split at h
      · simp at h; subst h; exact ⟨ys, h1, h2⟩
      · obtain ⟨b, hb, rfl⟩ := Option.map_eq_some_iff.1 h
        exact ⟨ys, h1, Qbk (.cons (Enc.book.le _ _ hb) (.cons (DLe.refl _) .nil)) h2⟩
    · simp at h
  pure x := by
    obtain ⟨o, e⟩ := x
    cases o <;> simp [QaV, QaX, Qjj, Enc.book.pure]
  de x := by
    obtain ⟨o, e⟩ := x
    cases o with
    | none => rfl
    | some b => simp [Enc.book, Enc.agg, Ql.book, Enc.map]; exact Ql.book.de b
def Qit (s : SigD) (names : List ByteArray) : Option (Option Book × Int) :=
  if s.ops.length ≤ lim ∧ s.funs.length ≤ lim ∧ names.length ≤ lim then
    (if s.within then (match QiQ (Qdn s) s with
      | none => none
      | some false => some (none, 2)
      | some true => if names.all (Qdn s).has then some (some (Qdn s), 0) else some (none, 13)) else some (none, 2)) else none
def s284 : Sp := sp (QR Enc.sigd Enc.strs) Enc.opened (fun x => Qit x.1 x.2)
abbrev T44 : Tab := Qf [(308, s308), (309, s309), (310, s310), (311, s311)]
theorem frzBook (σ : St) (b : Book) : (Ql.book.enc b).map (Q2 σ) = Ql.book.enc b := rfl
theorem QgL (b : Book) : setAt [.lit (.map none), .lit (.map none), .lit (.map none)] 0 (Ql.book.enc b) = Ql.book.enc b := rfl
theorem c284 (e309 : Go.FA.Good Tryz.prog (309, s309)) (e310 : Go.FA.Good Tryz.prog (310, s310)) : Qb Tryz.prog 284 s284 := by
  have t44 : QH Tryz.prog T44 := .cons e308 (.cons e309 (.cons e310 (.cons Qk6 .nil)))
  refine Qb.of_sp (T := T44) Tryz.func284 rfl (Nat.le_of_ble_eq_true rfl) fun E x y hy => ?_
  obtain ⟨s, names⟩ := x
  simp only [Qit] at hy
  split at hy
  case isFalse => cases hy
  next hsz =>
  obtain ⟨z1, z2, z3⟩ := hsz
  have g1 : dcall T44 308 [Enc.sigd.enc s] = some (Enc.bool.enc s.within) := Qad (A := Enc.sigd) (B := Enc.bool) rfl (if_pos ⟨z1, z2⟩)
  simp only [Enc.bool, Enc.sigd, Enc.agg] at g1
  refine Dwp.step t44 rfl fun K hK => ?_
  simp [dcall, Qf, setAt, init, QR, Ql.and, Ql.one, Enc.sigd, Enc.agg, Q1]
  refine hK _ _ ?_ rfl; clear hK K
  refine Dwp.seq ?_
  refine Dwp.step t44 rfl fun K hK => ?_
  cases k1 : s.within with
  | false =>
    simp only [k1, Bool.false_eq_true, if_false] at hy
    cases hy
    repeat ((first | refine Qn.stepD rfl rfl ?_ | refine Qn.stepG rfl rfl rfl ?_ | refine Qn.stepN rfl rfl ?_ | refine Qn.stepGN rfl rfl rfl ?_); intro K1 hK1; simp [QO, Qw, QJ, dop, eval, Qr, upd, Qv, Qx, TyI.agg, Qdm, Qi, g1, k1]; refine hK1 _ _ ?_; clear hK1 K1)
    refine Qn.done ?_
    refine hK _ _ ?_ rfl; clear hK K
    refine Dwp.condT (by simp [eval, upd]) ?_
    refine Dwp.step t44 rfl fun K hK => ?_
    simp [dcall, Qf, setAt, Q1, Qdp, Qkn]
    refine hK _ _ (Dwp.ret ?_) rfl
    simp [Q3, Qh, QW, frz, Q2, Q0, Ex.then, upd, Qv, Qx, TyI.agg, Q1, Enc.opened]
  | true =>
  simp only [k1, if_true] at hy
  repeat ((first | refine Qn.stepD rfl rfl ?_ | refine Qn.stepG rfl rfl rfl ?_ | refine Qn.stepN rfl rfl ?_ | refine Qn.stepGN rfl rfl rfl ?_); intro K1 hK1; simp [QO, Qw, QJ, dop, eval, Qr, upd, Qv, Qx, TyI.agg, Qdm, Qi, g1, k1]; refine hK1 _ _ ?_; clear hK1 K1)
  refine Qn.done ?_
  refine hK _ _ ?_ rfl; clear hK K
  refine Dwp.condF (by simp [eval, upd]) (Dwp.skip ?_)
  have g2 : dcall T44 309 [Enc.sigd.enc s] = some (Enc.book.enc (Qdn s)) := Qad (A := Enc.sigd) (B := Enc.book) rfl (if_pos k1)
  simp only [Enc.book, Enc.sigd, Enc.agg] at g2
  have h88 : T44 310 = some s310 := rfl
  have h54 : T44 311 = some s311 := rfl
  generalize Qdn s = b at *
  refine Dwp.step t44 rfl fun K hK => ?_
  simp [QF, Qo, QJ, own, dop, QN, eval, Qr, Qn, upd, Qv, Qx, TyI.agg, Qdm, Q1, Qi, g2, DV.cells, QI, QgL]
  refine hK _ _ ?_ rfl; clear hK K
  refine Dwp.seq ?_
  cases k2 : QiQ b s with
  | none => rw [k2] at hy; cases hy
  | some r =>
  rw [k2] at hy
  have g3 : dcall T44 310 [Enc.book.enc b, Enc.sigd.enc s] = some (Enc.bool.enc r) := Qcd (B := Enc.sigd) (C := Enc.bool) (y := s) h88 k2
  simp only [Enc.book, Enc.sigd, Enc.agg, Enc.bool] at g3
  refine Dwp.step t44 rfl fun K hK => ?_
  cases r with
  | false =>
    cases hy
    simp [QF, Qo, QJ, own, dop, QN, eval, Qr, Qn, upd, Qv, Qx, TyI.agg, Qdm, Q1, Qi, g3]
    refine hK _ _ ?_ rfl; clear hK K
    refine Dwp.condT (by simp [eval, upd]) ?_
    refine Dwp.step t44 rfl fun K hK => ?_
    simp [dcall, Qf, setAt, Q1, Qdp, Qkn]
    refine hK _ _ (Dwp.ret ?_) rfl
    simp [Q3, Qh, QW, frz, Q2, Q0, Ex.then, upd, Qv, Qx, TyI.agg, Q1, Enc.opened]
  | true =>
    simp [QF, Qo, QJ, own, dop, QN, eval, Qr, Qn, upd, Qv, Qx, TyI.agg, Qdm, Q1, Qi, g3]
    refine hK _ _ ?_ rfl; clear hK K
    refine Dwp.condF (by simp [eval, upd]) (Dwp.skip ?_)
    refine Dwp.seq ?_
    have g4 := Qeq T44 h54 b (Enc.strs.enc names) names (Enc.strs.de _) z3
    refine Dwp.step t44 rfl fun K hK => ?_
    cases k3 : names.all b.has with
    | false =>
      simp only [k3, Bool.false_eq_true, if_false] at hy
      cases hy
      rw [k3] at g4
      simp [QF, Qo, QJ, own, dop, QN, eval, Qr, Qn, upd, init, QR, Ql.and, Ql.one, Qv, Qx, TyI.agg, Qdm, Q1, Qi, g4]
      refine hK _ _ ?_ rfl; clear hK K
      refine Dwp.condT (by simp [eval, upd]) ?_
      refine Dwp.step t44 rfl fun K hK => ?_
      simp [dcall, Qf, setAt, Q1, Qdp, Qkn]
      refine hK _ _ (Dwp.ret ?_) rfl
      simp [Q3, Qh, QW, frz, Q2, Q0, Ex.then, upd, Qv, Qx, TyI.agg, Q1, Enc.opened]
    | true =>
      simp only [k3, if_true] at hy
      cases hy
      rw [k3] at g4
      simp [QF, Qo, QJ, own, dop, QN, eval, Qr, Qn, upd, init, QR, Ql.and, Ql.one, Qv, Qx, TyI.agg, Qdm, Q1, Qi, g4]
      refine hK _ _ ?_ rfl; clear hK K
      refine Dwp.condF (by simp [eval, upd]) (Dwp.skip ?_)
      refine Dwp.step t44 rfl fun K hK => ?_
      simp [QF, Qo, QJ, own, dop, QN, eval, Qr, Qn, upd, Qv, Qx, TyI.agg, Q1, DV.cells, QI, QgL]
      refine hK _ _ (Dwp.ret ?_) rfl
      have := Enc.opened.de (some b, 0)
      simp [Q3, Qh, QW, frz, Q2, Q0, upd, Qv, Qx, TyI.agg, Q1, frzBook]
      exact this
end
theorem QkH (T : Tab) (hT : T 284 = some s284) (s : SigD) (d : DV) (names : List ByteArray) (r : Option Book × Int) (hd : Enc.strs.dec d = some names) (hr : Qit s names = some r) : dcall T 284 [.agg (Ql.sigd.enc s), d] = some (Enc.opened.enc r) := by
  simp [dcall, hT, s284, sp, QR, Ql.and, Ql.one, Enc.sigd, Enc.agg, Ql.sigd.de, hd, hr]
theorem setNo : setAt [DV.lit (.map none), .lit (.map none), .lit (.map none)] 0 [DV.lit (.map none), .lit (.map none), .lit (.map none)] = [DV.lit (.map none), .lit (.map none), .lit (.map none)] := rfl
def s237 : Sp := sp (QM Enc.sigd) Enc.bool (fun s => (Qit s []).map fun r => decide (r.2 = 0))
theorem c237 (e284 : Go.FA.Good Tryz.prog (284, s284)) : Qb Tryz.prog 237 s237 := by
  have t12 : QH Tryz.prog (Qf [(284, s284)]) := .cons e284 .nil
  refine Qb.of_sp (T := Qf [(284, s284)]) Tryz.func237 rfl (Nat.le_of_ble_eq_true rfl) fun E s y hy => ?_
  obtain ⟨⟨o, e⟩, hr, rfl⟩ := Option.map_eq_some_iff.1 hy
  have g := QkH (Qf [(284, s284)]) rfl s (.lit (.slice none 0 0)) [] _ rfl hr
  refine Dwp.step t12 rfl fun K hK => ?_
  simp [QF, QZ, Qo, QJ, own, Qm, dop, QN, eval, Qr, Qn, Ex.then, Ex.inBlock, upd, QV, Tag.isNN, Qp, intCmp, Qv, Qx, TyI.agg, Qa, Qu, Qg, Qs, QX, QA, QD, mapOf, QQ, QC, Qq, Qi, dcall, Qf, Qj, QI, DV.cells, setAt, Qt, Qk, QE, QK, rowsOf, QL, Qd, Qe, Qe.go, Qz, QB, Qc, goInt, init, QM, Ql.one, Enc.sigd, Enc.agg]
  refine hK _ _ ?_ rfl; clear hK K
  refine Dwp.step t12 rfl fun K hK => ?_
  generalize Qf [(284, s284)] = T at *
  have h2 : (e == 0) = decide (e = 0) := rfl
  cases o with
  | none =>
    simp only [Enc.opened, Qjj] at g
    simp [QF, Qo, QJ, own, dop, QN, eval, Qr, Qn, upd, Qv, Qx, TyI.agg, Qdm, Q1, Qi, g, DV.cells, QI, setNo]
    refine hK _ _ ?_ rfl; clear hK K
    refine Dwp.step t12 rfl fun K hK => ?_
    simp [QF, Qo, QJ, own, dop, QN, eval, Qr, Qn, upd, QV, intCmp]
    refine hK _ _ (Dwp.ret ?_) rfl
    simp [Q3, Qh, QW, frz, Q2, Q0, Enc.bool, upd, h2]
  | some b =>
    simp only [Enc.opened, Enc.book, Enc.agg] at g
    simp [QF, Qo, QJ, own, dop, QN, eval, Qr, Qn, upd, Qv, Qx, TyI.agg, Qdm, Q1, Qi, g, DV.cells, QI, QgL]
    refine hK _ _ ?_ rfl; clear hK K
    refine Dwp.step t12 rfl fun K hK => ?_
    simp [QF, Qo, QJ, own, dop, QN, eval, Qr, Qn, upd, QV, intCmp]
    refine hK _ _ (Dwp.ret ?_) rfl
    simp [Q3, Qh, QW, frz, Q2, Q0, Enc.bool, upd, h2]
def Enc.boolErr : Enc (Bool × Int) := Enc.tup (QR Enc.bool Enc.i64)
def Qg0 {β : Type} (r : Option (Option Book × Int)) (no : β) (f : Book → Option β) : Option (β × Int) := match r with
  | some (some b, e) => if e = 0 then (f b).map (·, 0) else none
  | some (none, e) => if e = 0 then none else some (no, e)
  | none => none
end Go.Proofs.Yt


namespace Go.Proofs.Yt
open Go Go.FA Go.Proofs
set_option maxRecDepth 100000
/-! a map under way whose values are slices that are appended to: each has its own token -/
abbrev Tk := List ByteArray × Option (Nat × Nat)
def Tk.dv (v : Tk) : DV := match v.2 with
  | some (t, g) => .slice 1 (.tok t g) (v.1.map fun s => [DV.lit (.string s)])
  | none => .lit (.slice none 0 0)
def tkl (m : List (ByteArray × Tk)) : List Nat := m.filterMap fun p => p.2.2.map (·.1)
def QcZ (toks : Nat → Option Nat) (n : Nat) : List (ByteArray × Tk) → Prop
  | [] => True
  | p :: m => (match p.2.2 with | none => p.2.1 = [] | some (t, g) => toks t = some g ∧ t < n ∧ t ∉ tkl m) ∧ QcZ toks n m
def strip (m : List (ByteArray × Tk)) : List (ByteArray × List ByteArray) := m.map fun p => (p.1, p.2.1)
theorem Qiv {α : Type} (f : α → DV) (k : ByteArray) : ∀ m : List (ByteArray × α), assoc (.string k) (m.map fun p => .string p.1) (m.map fun p => f p.2) = some ((Qc2 k m).map f)
  | [] => rfl
  | p :: m => by
    simp only [List.map_cons, assoc, Qax, Qc2, Qiv f k m]
    by_cases h : k = p.1
    · simp [h]
    · simp [h]
theorem Qh1 {α : Type} (f : α → DV) (k : ByteArray) (v : α) : ∀ m : List (ByteArray × α),
    putKey (.string k) (f v) (m.map fun p => .string p.1) (m.map fun p => f p.2) = some ((Qca k v m).map (fun p => .string p.1), (Qca k v m).map fun p => f p.2)
  | [] => rfl
  | p :: m => by
    simp only [List.map_cons, putKey, Qax, Qca]
    by_cases h : k = p.1
    · simp [h]
    · simp [h, Qh1 f k v m]
theorem Qea (k : ByteArray) (v : Tk) : ∀ m, strip (Qca k v m) = Qca k v.1 (strip m)
  | [] => rfl
  | p :: m => by
    simp only [Qca, strip, List.map_cons]
    by_cases h : k = p.1
    · simp [h]
    · simp only [h, if_false, List.map_cons]
      congr 1
      exact Qea k v m
theorem QhO (k : ByteArray) : ∀ m, Qc2 k (strip m) = (Qc2 k m).map (·.1)
  | [] => rfl
  | p :: m => by
    simp only [Qc2, strip, List.map_cons]
    by_cases h : k = p.1
    · simp [h]
    · simp only [h, if_false]
      exact QhO k m
theorem Qj0 {toks : Nat → Option Nat} {n : Nat} : ∀ {m}, QcZ toks n m → ∀ t ∈ tkl m, t < n
  | [], _, t, ht => by simp [tkl] at ht
  | p :: m, h, t, ht => by
    obtain ⟨h1, h2⟩ := h
    obtain ⟨k, l, o⟩ := p
    cases o with
    | none => exact Qj0 h2 t (by simpa [tkl] using ht)
    | some x =>
      simp only [tkl, List.filterMap_cons, Option.map_some, List.mem_cons] at ht
      rcases ht with rfl | ht
      · exact h1.2.1
      · exact Qj0 h2 t ht
theorem QcZ.other {toks : Nat → Option Nat} {n n' t : Nat} {x : Option Nat} (hn : n ≤ n') : ∀ {m}, QcZ toks n m → t ∉ tkl m → QcZ (upd toks t x) n' m
  | [], _, _ => trivial
  | p :: m, h, ht => by
    obtain ⟨h1, h2⟩ := h
    obtain ⟨k, l, o⟩ := p
    cases o with
    | none => exact ⟨h1, QcZ.other hn h2 (by simpa [tkl] using ht)⟩
    | some y =>
      simp only [tkl, List.filterMap_cons, Option.map_some, List.mem_cons, not_or] at ht
      refine ⟨⟨?_, by have := h1.2.1; omega, h1.2.2⟩, QcZ.other hn h2 ht.2⟩
      have : ¬ y.1 = t := fun e => ht.1 e.symm
      simp only [upd, this, if_false]; exact h1.1
theorem QcZ.grow {toks : Nat → Option Nat} {n n' : Nat} (hn : n ≤ n') : ∀ {m}, QcZ toks n m → QcZ toks n' m
  | [], _ => trivial
  | p :: m, h => by
    obtain ⟨h1, h2⟩ := h
    refine ⟨?_, QcZ.grow hn h2⟩
    split at h1
    · exact h1
    · exact ⟨h1.1, by have := h1.2.1; omega, h1.2.2⟩
theorem Qkg {k : ByteArray} {l : List ByteArray} {t g : Nat} : ∀ {m}, Qc2 k m = some (l, some (t, g)) → t ∈ tkl m
  | [], h => by simp [Qc2] at h
  | p :: m, h => by
    simp only [Qc2] at h
    split at h
    · simp only [Option.some.injEq] at h; simp [tkl, h]
    · have := Qkg h
      simp only [tkl, List.filterMap_cons]
      split
      · exact this
      · exact List.mem_cons_of_mem _ this
theorem Qih {k : ByteArray} {l' : List ByteArray} {t g : Nat} : ∀ {m} {x}, x ∈ tkl (Qca k (l', some (t, g)) m) → x = t ∨ x ∈ tkl m
  | [], x, h => by simp [Qca, tkl] at h; exact .inl h
  | p :: m, x, h => by
    simp only [Qca] at h
    split at h
    · simp only [tkl, List.filterMap_cons, Option.map_some, List.mem_cons] at h
      rcases h with h | h
      · exact .inl h
      · right; simp only [tkl, List.filterMap_cons]; split
        · exact h
        · exact List.mem_cons_of_mem _ h
    · simp only [tkl, List.filterMap_cons] at h ⊢
      split at h
      · exact Qih h
      · rcases List.mem_cons.1 h with h | h
        · right; rw [h]; exact List.mem_cons_self
        · rcases Qih h with h | h
          · exact .inl h
          · exact .inr (List.mem_cons_of_mem _ h)
theorem QcZ.put {toks : Nat → Option Nat} {n n' t g' : Nat} {k : ByteArray} {l l' : List ByteArray} {o : Option (Nat × Nat)} (hn : n ≤ n') (ht : t < n') (ho : match o with | none => n ≤ t | some x => t = x.1) :
    ∀ {m}, QcZ toks n m → Qc2 k m = some (l, o) → QcZ (upd toks t (some g')) n' (Qca k (l', some (t, g')) m)
  | [], _, h => by simp [Qc2] at h
  | p :: m, h, hg => by
    obtain ⟨h1, h2⟩ := h
    simp only [Qc2] at hg
    simp only [Qca]
    split at hg
    · next hk =>
      rw [if_pos hk]
      simp only [Option.some.injEq] at hg
      have hnm : t ∉ tkl m := by
        cases o with
        | none => intro hm; have := Qj0 h2 t hm; omega
        | some x => simp only [hg] at h1; rw [ho]; exact h1.2.2
      exact ⟨⟨by simp [upd], ht, hnm⟩, h2.other hn hnm⟩
    · next hk =>
      rw [if_neg hk]
      refine ⟨?_, QcZ.put hn ht ho h2 hg⟩
      split at h1
      · exact h1
      · next y z e =>
        have hne : ¬ y = t := by
          cases o with
          | none => intro e; have := h1.2.1; omega
          | some x => intro e; subst e; exact h1.2.2 (by rw [ho]; exact Qkg (g := x.2) hg)
        refine ⟨by simp only [upd, hne, if_false]; exact h1.1, by have := h1.2.1; omega, fun hm => ?_⟩
        rcases Qih hm with q | q
        · exact hne q
        · exact h1.2.2 q
theorem Qkt {toks : Nat → Option Nat} {n : Nat} : ∀ {m}, QcZ toks n m → QcQ Enc.strs (m.map fun p => .string p.1) (m.map fun p => Tk.dv p.2) = some (strip m)
  | [], _ => rfl
  | p :: m, h => by
    obtain ⟨h1, h2⟩ := h
    have hd : Enc.strs.dec (Tk.dv p.2) = some p.2.1 := by
      obtain ⟨k, l, o⟩ := p
      cases o with
      | none => simp only at h1; subst h1; rfl
      | some x =>
        have := QaF (Ql.one Enc.str) l
        simp only [Ql.one, Enc.str] at this
        simp [Tk.dv, Enc.strs, Enc.slice, Ql.one, Enc.str]; exact this
    simp only [List.map_cons, QcQ, hd, Qkt h2]
    rfl
def QbW (l : List ByteArray) : List (ByteArray × Tk) := l.foldl (fun m n => Qca n ([], none) m) []
theorem names0_take {l : List ByteArray} {i : Nat} (h : i < l.length) : QbW (l.take (i + 1)) = Qca l[i] ([], none) (QbW (l.take i)) := by
  unfold QbW; rw [List.take_succ_eq_append_getElem h, List.foldl_append]; rfl
theorem QgU {k : ByteArray} {t : Nat} : ∀ {m}, t ∉ tkl m → t ∉ tkl (Qca k ([], none) m)
  | [], _ => by simp [Qca, tkl]
  | p :: m, h => by
    have h2 : t ∉ tkl m := by
      intro hm; apply h
      simp only [tkl, List.filterMap_cons]; split
      · exact hm
      · exact List.mem_cons_of_mem _ hm
    simp only [Qca]
    split
    · simpa [tkl] using h2
    · simp only [tkl, List.filterMap_cons] at h ⊢
      split
      · exact QgU h2
      · next y e =>
        rw [e] at h
        intro hm
        rcases List.mem_cons.1 hm with q | q
        · exact h (by rw [q]; exact List.mem_cons_self)
        · exact QgU h2 q
theorem QcZ.blank {toks : Nat → Option Nat} {n : Nat} {k : ByteArray} : ∀ {m}, QcZ toks n m → QcZ toks n (Qca k ([], none) m)
  | [], _ => ⟨rfl, trivial⟩
  | p :: m, h => by
    obtain ⟨h1, h2⟩ := h
    simp only [Qca]
    split
    · exact ⟨rfl, h2⟩
    · refine ⟨?_, QcZ.blank h2⟩
      split at h1
      · exact h1
      · exact ⟨h1.1, h1.2.1, QgU h1.2.2⟩
theorem QcZ.names (toks : Nat → Option Nat) (n : Nat) (l : List ByteArray) : QcZ toks n (QbW l) := by
  unfold QbW
  have : ∀ (l : List ByteArray) (m : List (ByteArray × Tk)), QcZ toks n m → QcZ toks n (l.foldl (fun m n => Qca n ([], none) m) m) := by
    intro l
    induction l with
    | nil => exact fun m h => h
    | cons x l ih => exact fun m h => ih _ h.blank
  exact this l [] trivial
theorem strip_names (l : List ByteArray) : strip (QbW l) = l.foldl (fun m n => Qca n [] m) [] := by
  unfold QbW
  have : ∀ (l : List ByteArray) (m : List (ByteArray × Tk)), strip (l.foldl (fun m n => Qca n ([], none) m) m) = l.foldl (fun m n => Qca n [] m) (strip m) := by
    intro l
    induction l with
    | nil => exact fun m => rfl
    | cons x l ih => intro m; simp only [List.foldl_cons, ih, Qea]
  exact this l []
theorem foldBel_take {l : List Bel} {i : Nat} (h : i < l.length) (m : List (ByteArray × List ByteArray)) : (l.take (i + 1)).foldl Qdj m = Qdj ((l.take i).foldl Qdj m) l[i] := by
  rw [List.take_succ_eq_append_getElem h, List.foldl_append]; rfl
section
attribute [local simp] QF QZ Qo QJ own Qm dop QN eval Qr Qn Ex.then Ex.inBlock upd QV Tag.isNN Qp intCmp Qv Qx TyI.agg Qa Qu Qg Qs QX QA QD mapOf QQ QC Qq Qi Qj QI DV.cells Qt Qk QE QK rowsOf QL Qd Qe Qe.go Qz QB Qc goInt
def QkJ (m : List (ByteArray × Tk)) : List Value := m.map fun p => .string p.1
def QkP (m : List (ByteArray × Tk)) : List DV := m.map fun p => Tk.dv p.2
def mapD (m : List (ByteArray × OpD)) : DV := .fmap (m.map fun p => .string p.1) (m.map fun p => .agg (Ql.opd.enc p.2))
theorem Qf6 (T : Tab) (hT : T 322 = some s322) (l : List OpD) (h : l.length ≤ lim) : dcall T 322 [Enc.ops.enc l] = some (mapD (Qbq l)) := by
  have : dcall T 322 [Enc.ops.enc l] = some ((Enc.map Enc.opd).enc (Qbq l)) := Qad (A := Enc.ops) (B := Enc.map Enc.opd) hT (if_pos h)
  exact this
def QiE (s : SigD) (L : List ByteArray) (a : Nat → DV) (σ : St) : Prop :=
  a 1 = .row (Ql.sigd.enc s) 0 ∧ a 2 = .ptr 1 0 ∧ a 3 = .ptr 10 0 ∧ 12 ≤ σ.n ∧
  σ.objs 10 = some (.cells 229 [.map 2, mapD (Qbq s.ops), mapD (Qbq s.funs)]) ∧ σ.objs 1 = some (.cells 229 [.lit (.map none), .lit (.map none), .lit (.map none)])
def inv87a (s : SigD) (L : List ByteArray) : Nat → (Nat → DV) → St → Prop := fun k a σ => ∃ i, i ≤ L.length ∧ k = L.length - i ∧ QiE s L a σ ∧
  a 20 = .slice 1 .none (L.map fun s => [DV.lit (.string s)]) ∧ a 21 = .lit (.int .i64 L.length) ∧ a 22 = .lit (.int .i64 i) ∧
  σ.objs 2 = some (.map (QkJ (QbW (L.take i))) (QkP (QbW (L.take i))))
def Qf0 (n : Nat) (m : List (ByteArray × Tk)) : Prop := ∀ p ∈ m, p.2.1.length ≤ n
def Qlk (s : SigD) (L : List ByteArray) : Nat → (Nat → DV) → St → Prop := fun k a σ => ∃ i m, i ≤ s.below.length ∧ k = s.below.length - i ∧ QiE s L a σ ∧
  a 31 = .slice 2 .none (s.below.map Ql.bel.enc) ∧ a 32 = .lit (.int .i64 s.below.length) ∧ a 33 = .lit (.int .i64 i) ∧
  σ.objs 2 = some (.map (QkJ m) (QkP m)) ∧ QcZ σ.toks σ.n m ∧ Qf0 i m ∧ strip m = (s.below.take i).foldl Qdj (L.foldl (fun m n => Qca n [] m) [])
abbrev T87 : Tab := Qf [(322, s322), (324, s324), (323, s323), (311, s311)]
theorem t87 : QH Tryz.prog T87 := .cons e322 (.cons e324 (.cons e323 (.cons Qk6 .nil)))
theorem strsC (l : List ByteArray) : Enc.strs.enc l = .slice 1 .none (l.map fun s => [DV.lit (.string s)]) := rfl
theorem put1 (k : ByteArray) (v : Tk) (m : List (ByteArray × Tk)) : putKey (.string k) (Tk.dv v) (QkJ m) (QkP m) = some (QkJ (Qca k v m), QkP (Qca k v m)) := Qh1 Tk.dv k v m
theorem get1 (k : ByteArray) (m : List (ByteArray × Tk)) : assoc (.string k) (QkJ m) (QkP m) = some ((Qc2 k m).map Tk.dv) := Qiv Tk.dv k m
theorem set3 (x y z : DV) : setAt [DV.lit (.map none), .lit (.map none), .lit (.map none)] 0 [x, y, z] = [x, y, z] := rfl
theorem set2 (x y : DV) : setAt [DV.lit (.string ⟨#[]⟩), .lit (.string ⟨#[]⟩)] 0 [x, y] = [x, y] := rfl
theorem QgK {α : Type} {k : ByteArray} {v : α} {p : ByteArray × α} : ∀ {m : List (ByteArray × α)}, p ∈ Qca k v m → p = (k, v) ∨ p ∈ m
  | [], h => by simp [Qca] at h; exact .inl h
  | q :: m, h => by
    simp only [Qca] at h
    split at h
    · rcases List.mem_cons.1 h with h | h
      · exact .inl h
      · exact .inr (List.mem_cons_of_mem _ h)
    · rcases List.mem_cons.1 h with h | h
      · exact .inr (by rw [h]; exact List.mem_cons_self)
      · rcases QgK h with h | h
        · exact .inl h
        · exact .inr (List.mem_cons_of_mem _ h)
theorem QiO {α : Type} {k : ByteArray} {v : α} : ∀ {m : List (ByteArray × α)}, Qc2 k m = some v → (k, v) ∈ m
  | [], h => by simp [Qc2] at h
  | p :: m, h => by
    simp only [Qc2] at h
    split at h
    · next hk => simp at h; rw [← h, hk]; exact List.mem_cons_self
    · exact List.mem_cons_of_mem _ (QiO h)
theorem Qf0.names (l : List ByteArray) : Qf0 0 (QbW l) := by
  unfold QbW
  have : ∀ (l : List ByteArray) (m : List (ByteArray × Tk)), Qf0 0 m → Qf0 0 (l.foldl (fun m n => Qca n ([], none) m) m) := by
    intro l
    induction l with
    | nil => exact fun m h => h
    | cons x l ih =>
      refine fun m h => ih _ fun p hp => ?_
      rcases QgK hp with rfl | hp
      · simp
      · exact h p hp
  exact this l [] (fun p hp => by simp at hp)
@[simp] theorem frz1_mapD (σ : St) (m : List (ByteArray × OpD)) : Q2 σ (mapD m) = mapD m := rfl
theorem has87 (T : Tab) (hT : T 311 = some s311) {toks : Nat → Option Nat} {n : Nat} {m : List (ByteArray × Tk)} (h : QcZ toks n m) (A B : List (ByteArray × OpD)) (k : ByteArray) :
    dcall T 311 [.agg [.fmap (QkJ m) (QkP m), mapD A, mapD B], .slice 1 .full [[.lit (.string k)]]] = some (.lit (.bool (Qc2 k (strip m)).isSome)) ∧
    dcall T 311 [.agg [.map 2, mapD A, mapD B], .slice 1 .full [[.lit (.string k)]]] = none := by
  have h1 : (Enc.map Enc.strs).dec (.fmap (QkJ m) (QkP m)) = some (strip m) := Qkt h
  have h2 : ∀ A, (Enc.map Enc.opd).dec (mapD A) = some A := fun A => (Enc.map Enc.opd).de A
  have h3 : Enc.strs.dec (.slice 1 .full [[.lit (.string k)]]) = some [k] := rfl
  have h4 : (Enc.map Enc.strs).dec (.map 2) = none := rfl
  constructor
  · simp [dcall, hT, s311, sp, QR, Ql.and, Ql.one, Enc.book, Enc.agg, Ql.book, h1, h2, h3, Enc.bool, Book.has, lim]
  · simp [dcall, hT, s311, sp, QR, Ql.and, Ql.one, Enc.book, Enc.agg, Ql.book, h4]
theorem QcZ.nil {toks : Nat → Option Nat} {n : Nat} {k : ByteArray} {l : List ByteArray} : ∀ {m}, QcZ toks n m → Qc2 k m = some (l, none) → l = []
  | [], _, h => by simp [Qc2] at h
  | p :: m, h, hg => by
    obtain ⟨h1, h2⟩ := h
    simp only [Qc2] at hg
    split at hg
    · simp only [Option.some.injEq] at hg; rw [hg] at h1; exact h1
    · exact h2.nil hg
theorem QcZ.get {toks : Nat → Option Nat} {n : Nat} {k : ByteArray} {l : List ByteArray} {t g : Nat} : ∀ {m}, QcZ toks n m → Qc2 k m = some (l, some (t, g)) → toks t = some g ∧ t < n
  | [], _, h => by simp [Qc2] at h
  | p :: m, h, hg => by
    obtain ⟨h1, h2⟩ := h
    simp only [Qc2] at hg
    split at hg
    · simp only [Option.some.injEq] at hg; rw [hg] at h1; exact ⟨h1.1, h1.2.1⟩
    · exact h2.get hg
theorem Qf0.put {n : Nat} {m : List (ByteArray × Tk)} (h : Qf0 n m) {k : ByteArray} {v : Tk} (hv : v.1.length ≤ n + 1) : Qf0 (n + 1) (Qca k v m) := fun p hp => by
  rcases QgK hp with rfl | hp
  · exact hv
  · have := h p hp; omega
theorem c309 : Qb Tryz.prog 309 s309 := by
  refine Qb.of_sp (T := T87) Tryz.func309 rfl (Nat.le_of_ble_eq_true rfl) fun E s y hy => ?_
  by_cases hw : s.within = true <;> simp [hw] at hy
  subst hy
  have hw' := hw
  simp only [SigD.within, Bool.and_eq_true, decide_eq_true_eq] at hw'
  obtain ⟨⟨w1, w2⟩, w3⟩ := hw'
  have hL : (QbR ++ s.sorts).length ≤ 47 := by simp [QbR]; omega
  have g1 := Qf6 T87 rfl s.ops (by unfold lim; omega)
  have g2 := Qf6 T87 rfl s.funs (by unfold lim; omega)
  have g3 := Qis T87 rfl
  have g4 := call323 T87 rfl QbR s.sorts (by simp [QbR]; omega)
  simp only [strsC] at g3 g4
  have g5 : T87 311 = some s311 := rfl
  refine Dwp.step t87 rfl fun K hK => ?_
  simp [dcall, Qf, setAt, init, QM, Ql.one, Enc.sigd, Enc.agg, Q1]
  refine hK _ _ ?_ rfl; clear hK K
  refine Dwp.drawStep [.newobj 2, .none, .none, .none, .none, .none, .none, .none, .newobj 10, .wobj 10] mixed t87 rfl (by decide) fun K hK => ?_
  obtain ⟨L, hLe⟩ : ∃ L, L = QbR ++ s.sorts := ⟨_, rfl⟩
  rw [← hLe] at hL g4
  have tT := t87
  generalize T87 = T at *
  simp [QbI, touch, QaO, setAt, init, QM, Ql.one, Enc.sigd, Enc.agg, Qdm, Qer, Q1, Qdp, Qkn, g1, g2, mapD, set3]
  refine hK _ _ ?_ rfl; clear hK K
  refine Dwp.seq ?_
  refine Dwp.drawStep [] mixed tT rfl (by decide) fun K hK => ?_
  simp [QbI, touch, QaO, setAt, Qdm, Qah, Qjn, g3, g4, strsC]
  refine hK _ _ ?_ rfl; clear hK K
  refine (Dwp.block (Dwp.loop (inv87a s L) L.length ⟨0, by simp, by simp, ⟨by simp [upd], by simp [upd, σ0], by simp [upd, σ0], by simp, by simp [upd, σ0, mapD], by simp [upd, σ0]⟩, by simp [upd], by simp [upd], by simp [upd], by simp [upd, σ0, QbW, QkJ, QkP]⟩ ?_))
  rintro k a σ ⟨i, hi, rfl, ⟨h1, h2, h3, hn, ho3, ho2⟩, h20, h21, h22, hobj⟩
  refine Dwp.step tT rfl fun K hK => ?_
  simp [dcall, Qf, setAt, h21, h22]
  refine hK _ _ ?_ rfl; clear hK K
  by_cases hlt : i < L.length
  · refine Dwp.seq (Dwp.condT (by simp [eval, upd, hlt]) (Dwp.skip ?_))
    refine Dwp.seq (Dwp.block ?_)
    refine Dwp.step tT rfl fun K hK => ?_
    simp [dcall, Qf, setAt, h20, h22, Qah, ty9, hlt]
    refine hK _ _ ?_ rfl; clear hK K
    refine Dwp.reg tT rfl fun K hK => ?_
    have hP := put1 L[i] ([], none) (QbW (L.take i))
    simp only [Tk.dv] at hP
    simp [dcall, Qf, setAt, h3, ho3, hobj, Q1, Qdp, ty9, Qah, hP]
    refine hK _ _ ?_ rfl; clear hK K
    refine Dwp.reg tT rfl fun K hK => ?_
    simp [dcall, Qf, setAt, h22]
    refine hK _ _ ?_ rfl; clear hK K
    have hnt := names0_take hlt
    refine ⟨L.length - (i + 1), by omega, i + 1, by omega, rfl, ⟨by simp [upd, h1], by simp [upd, h2], by simp [upd, h3], by simp <;> omega, by simp [upd, ho3], by simp [upd, ho2]⟩, by simp [upd, h20], by simp [upd, h21], by simp [upd, wrap_small (n := (i : Int) + 1) (by omega) (by omega)], ?_⟩
    rw [hnt]
    simp [upd]
  refine Dwp.seq (Dwp.condF (by simp [eval, upd, hlt]) (Dwp.exit ?_))
  simp only [Ex.then, Ex.inBlock, if_true]
  rw [List.take_of_length_le (by omega)] at hobj
  have hbase : QiE s L a σ := ⟨h1, h2, h3, hn, ho3, ho2⟩
  refine Dwp.seq ?_
  refine Dwp.step tT rfl fun K hK => ?_
  simp [setAt, h1, Qdm, QfT, Enc.bels, Enc.slice]
  refine hK _ _ ?_ rfl; clear hK K
  refine (Dwp.block (Dwp.loop (Qlk s L) s.below.length ⟨0, QbW L, by simp, by simp, ⟨by simp [upd, h1], by simp [upd, h2], by simp [upd, h3], by simp <;> omega, by simp [ho3], by simp [ho2]⟩, by simp [upd], by simp [upd], by simp [upd], by simpa using hobj, QcZ.names _ _ _, Qf0.names _, by simp [strip_names]⟩ ?_))
  clear hobj hbase h1 h2 h3 hn ho3 ho2
  rintro k a σ ⟨i, m, hi, rfl, ⟨h1, h2, h3, hn, ho3, ho2⟩, h31, h32, h33, hobj, htk, hlen, hst⟩
  refine Dwp.step tT rfl fun K hK => ?_
  simp [dcall, Qf, setAt, h32, h33]
  refine hK _ _ ?_ rfl; clear hK K
  by_cases hlt : i < s.below.length
  · refine Dwp.seq (Dwp.condT (by simp [eval, upd, hlt]) (Dwp.skip ?_))
    refine Dwp.seq (Dwp.block ?_)
    refine Dwp.step tT rfl fun K hK => ?_
    simp [dcall, Qf, setAt, h31, h33, QfT, QdS, hlt, Ql.bel, set2]
    refine hK _ _ ?_ rfl; clear hK K
    have hf := foldBel_take hlt (L.foldl (fun m n => Qca n [] m) [])
    generalize s.below[i] = b at *
    obtain ⟨g6, g7⟩ := has87 T g5 htk (Qbq s.ops) (Qbq s.funs) b.low
    simp only [mapD] at g6 g7 ho3
    have hn10 : ¬ (10 = σ.n + 1 + 2) := by omega
    have hn2 : ¬ (2 = σ.n + 1 + 2) := by omega
    have hn1 : ¬ (1 = σ.n + 1 + 2) := by omega
    refine Dwp.step tT rfl fun K hK => ?_
    simp [QF, Qo, QJ, own, Qm, dop, QN, eval, Qr, Qn, upd, Qv, Qx, TyI.agg, Qa, Qi, Qc, Qd, DV.cells, h3, ho3, hobj, hn10, hn2, hn1, Q1, QdS, ty9, Qah, g7, Q0, Q2, g6, mapD]
    refine hK _ _ ?_ rfl; clear hK K
    have hfin : ∀ (m' : List (ByteArray × Tk)) (a' : Nat → DV) (σ' : St), QiE s L a' σ' → a' 31 = a 31 → a' 32 = a 32 → a' 33 = .lit (.int .i64 ((i : Int) + 1)) → σ'.objs 2 = some (.map (QkJ m') (QkP m')) → QcZ σ'.toks σ'.n m' → Qf0 (i + 1) m' →
        strip m' = Qdj ((s.below.take i).foldl Qdj (L.foldl (fun m n => Qca n [] m) [])) b → ∃ k', k' < s.below.length - i ∧ Qlk s L k' a' σ' := by
      intro m' a' σ' hb e31 e32 e33 ho' ht' hl' hs'
      exact ⟨s.below.length - (i + 1), by omega, i + 1, m', by omega, rfl, hb, by rw [e31, h31], by rw [e32, h32], by rw [e33]; simp, ho', ht', hl', by rw [hf, hs']⟩
    have hwi : IntKind.i64.wrap ((i : Int) + 1) = (i : Int) + 1 := wrap_small (n := (i : Int) + 1) (by omega) (by omega)
    have hg := QhO b.low m
    cases hm : Qc2 b.low m with
    | none =>
      rw [hm] at hg
      rw [hg]
      refine Dwp.condF (by simp [eval, upd]) (Dwp.skip ?_)
      refine Dwp.reg tT rfl fun K hK => ?_
      simp [dcall, Qf, setAt, h33, hwi]
      refine hK _ _ ?_ rfl; clear hK K
      refine hfin m _ _ ⟨by simp [upd, h1], by simp [upd, h2], by simp [upd, h3], by simp <;> omega, by simp [upd, hn10, ho3, mapD], by simp [upd, hn1, ho2]⟩ (by simp [upd]) (by simp [upd]) (by simp [upd]) (by simp [upd, hn2, hobj]) (htk.grow (by simp <;> omega)) (fun p hp => by have := hlen p hp; omega) ?_
      rw [← hst, Qdj, hg]; rfl
    | some v =>
      obtain ⟨l, o⟩ := v
      rw [hm] at hg
      rw [hg]
      refine Dwp.condT (by simp [eval, upd]) ?_
      refine Dwp.draw [.none, .robj 10, .none, .robj (σ.n + 1 + 2), .none, .robj 10, .none, .robj (σ.n + 1 + 2), .robj 2, .none, .robj (σ.n + 1 + 2), .none, .tok, .wobj 2] mixed tT rfl (by rfl) fun K hK => ?_
      have hga := get1 b.low m
      rw [hm] at hga
      cases o with
      | none =>
        have hpu := put1 b.low (l ++ [b.high], some (σ.n + 1 + 4 + 5 + 12, 0)) m
        have hl0 : l = [] := htk.nil hm
        subst hl0
        simp only [Option.map_some, Tk.dv, List.nil_append, List.map_cons, List.map_nil] at hga hpu
        simp [QbI, touch, QaO, setAt, h3, ho3, hobj, hn10, hn2, hn1, Q1, QdS, ty9, Qah, Qdp, hga, hpu]
        refine hK _ _ ?_ rfl; clear hK K
        refine Dwp.reg tT rfl fun K hK => ?_
        simp [dcall, Qf, setAt, h33, hwi]
        refine hK _ _ ?_ rfl; clear hK K
        refine hfin (Qca b.low ([b.high], some (σ.n + 1 + 4 + 5 + 12, 0)) m) _ _ ⟨by simp [upd, h1], by simp [upd, h2], by simp [upd, h3], by simp <;> omega, by simp [upd, hn10, ho3, mapD], by simp [upd, hn1, ho2]⟩ (by simp [upd]) (by simp [upd]) (by simp [upd]) (by simp [upd]) (QcZ.put (by simp <;> omega) (by simp <;> omega) (by simp <;> omega) htk hm) (hlen.put (by simp)) ?_
        rw [← hst, Qdj, hg, Qea]; rfl
      | some x =>
        obtain ⟨t, g⟩ := x
        obtain ⟨q1, q2⟩ := htk.get hm
        have hlb : l.length ≤ i := hlen _ (QiO hm)
        have hlb2 : l.length + 1 ≤ 16777216 := by omega
        have hpu := put1 b.low (l ++ [b.high], some (t, g + 1)) m
        simp only [Option.map_some, Tk.dv, List.map_append, List.map_cons, List.map_nil] at hga hpu
        simp [QbI, touch, QaO, setAt, h3, ho3, hobj, hn10, hn2, hn1, Q1, QdS, ty9, Qah, Qdp, hga, hpu, q1, hlb2]
        refine hK _ _ ?_ rfl; clear hK K
        refine Dwp.reg tT rfl fun K hK => ?_
        simp [dcall, Qf, setAt, h33, hwi]
        refine hK _ _ ?_ rfl; clear hK K
        refine hfin (Qca b.low (l ++ [b.high], some (t, g + 1)) m) _ _ ⟨by simp [upd, h1], by simp [upd, h2], by simp [upd, h3], by simp <;> omega, by simp [upd, hn10, ho3, mapD], by simp [upd, hn1, ho2]⟩ (by simp [upd]) (by simp [upd]) (by simp [upd]) (by simp [upd]) (QcZ.put (by simp <;> omega) (by simp <;> omega) rfl htk hm) (hlen.put (by simp <;> omega)) ?_
        rw [← hst, Qdj, hg, Qea]; rfl
  refine Dwp.seq (Dwp.condF (by simp [eval, upd, hlt]) (Dwp.exit ?_))
  simp only [Ex.then, Ex.inBlock, if_true]
  rw [List.take_of_length_le (by omega)] at hst
  refine Dwp.step tT rfl fun K hK => ?_
  simp only [mapD] at ho3
  simp [dcall, Qf, setAt, h2, h3, ho3, ho2, Q1, set3]
  refine hK _ _ (Dwp.ret ?_) rfl
  have hd1 := Qkt htk
  have hd2 := fun A => Qc6 Enc.opd A
  simp only [Enc.opd, Enc.agg] at hd2
  simp [Q3, Qh, QW, frz, Q2, Q0, upd, h2, hobj, Q1, Qv, Qx, TyI.agg]
  have e1 : (Enc.map Enc.strs).dec (.fmap (QkJ m) (QkP m)) = some (strip m) := hd1
  have e2 : ∀ A, (Enc.map Enc.opd).dec (mapD A) = some A := fun A => (Enc.map Enc.opd).de A
  simp only [mapD] at e2
  simp only [Enc.book, Enc.agg, Ql.book, e1, e2, hst, Qdn, hLe]
theorem e309 : Go.FA.Good Tryz.prog (309, s309) := ⟨c309, Tryz.f309, _, Tryz.func309, rfl, by decide⟩
theorem e326 : Go.FA.Good Tryz.prog (326, s326) := ⟨c326 e340, Tryz.f326, _, Tryz.func326, rfl, by decide⟩
theorem e310 : Go.FA.Good Tryz.prog (310, s310) := ⟨c310 e326, Tryz.f310, _, Tryz.func310, rfl, by decide⟩
theorem e284 : Go.FA.Good Tryz.prog (284, s284) := ⟨c284 e309 e310, Tryz.f284, _, Tryz.func284, rfl, by decide⟩
end
end Go.Proofs.Yt
namespace Go.Proofs.Yt
open Go Go.FA Go.Proofs Go.Shelf
set_option maxRecDepth 100000
def ren190 : Go.Shelf.Ren := ⟨fun n => if n = 190 then 94 else if n = 125 then 160 else if n = 258 then 159 else if n = 128 then 260 else if n = 129 then 261 else if n = 302 then 251 else if n = 303 then 252 else if n = 304 then 253 else if n = 305 then 254 else if n = 306 then 255 else if n = 307 then 256 else if n = 308 then 257 else if n = 309 then 258 else if n = 310 then 259 else if n = 333 then 289 else if n = 329 then 290 else if n = 330 then 291 else if n = 334 then 292 else if n = 335 then 293 else if n = 336 then 250 else if n = 344 then 315 else n, fun n => if n = 31 then 22 else if n = 9 then 9 else if n = 3 then 3 else if n = 46 then 167 else if n = 0 then 0 else if n = 51 then 216 else if n = 53 then 218 else if n = 4 then 4 else if n = 183 then 209 else if n = 182 then 208 else if n = 131 then 213 else if n = 5 then 5 else if n = 218 then 238 else if n = 222 then 90 else if n = 228 then 257 else if n = 229 then 221 else n, fun n => n⟩
theorem Qg5 : Lays.n190 Tryz.prog ren190 :=
{ mixed := Eq.refl true, f125 := Eq.trans Tryz.func160 (congrArg some (Eq.refl (Body.n125 ren190))),
  f128 := Eq.trans Tryz.func260 (congrArg some (Eq.refl (Body.n128 ren190))),
  f129 := Eq.trans Tryz.func261 (congrArg some (Eq.refl (Body.n129 ren190))),
  f190 := Eq.trans Tryz.func94 (congrArg some (Eq.refl (Body.n190 ren190))),
  f258 := Eq.trans Tryz.func159 (congrArg some (Eq.refl (Body.n258 ren190))),
  f302 := Eq.trans Tryz.func251 (congrArg some (Eq.refl (Body.n302 ren190))),
  f303 := Eq.trans Tryz.func252 (congrArg some (Eq.refl (Body.n303 ren190))),
  f304 := Eq.trans Tryz.func253 (congrArg some (Eq.refl (Body.n304 ren190))),
  f305 := Eq.trans Tryz.func254 (congrArg some (Eq.refl (Body.n305 ren190))),
  f306 := Eq.trans Tryz.func255 (congrArg some (Eq.refl (Body.n306 ren190))),
  f307 := Eq.trans Tryz.func256 (congrArg some (Eq.refl (Body.n307 ren190))),
  f308 := Eq.trans Tryz.func257 (congrArg some (Eq.refl (Body.n308 ren190))),
  f309 := Eq.trans Tryz.func258 (congrArg some (Eq.refl (Body.n309 ren190))),
  f310 := Eq.trans Tryz.func259 (congrArg some (Eq.refl (Body.n310 ren190))),
  f329 := Eq.trans Tryz.func290 (congrArg some (Eq.refl (Body.n329 ren190))),
  f330 := Eq.trans Tryz.func291 (congrArg some (Eq.refl (Body.n330 ren190))),
  f333 := Eq.trans Tryz.func289 (congrArg some (Eq.refl (Body.n333 ren190))),
  f334 := Eq.trans Tryz.func292 (congrArg some (Eq.refl (Body.n334 ren190))),
  f335 := Eq.trans Tryz.func293 (congrArg some (Eq.refl (Body.n335 ren190))),
  f336 := Eq.trans Tryz.func250 (congrArg some (Eq.refl (Body.n336 ren190))),
  f344 := Eq.trans Tryz.func315 (congrArg some (Eq.refl (Body.n344 ren190))), t0 := Tryz.underlying0,
  a0 := Tryz.isAgg0, z0 := Tryz.sizeOf0, v0 := Tryz.zeroValue0, t3 := Tryz.underlying3, a3 := Tryz.isAgg3,
  z3 := Tryz.sizeOf3, v3 := Tryz.zeroValue3, t4 := Tryz.underlying4, a4 := Tryz.isAgg4, z4 := Tryz.sizeOf4,
  v4 := Tryz.zeroValue4, t5 := Tryz.underlying5, a5 := Tryz.isAgg5, z5 := Tryz.sizeOf5, v5 := Tryz.zeroValue5,
  t9 := Tryz.underlying9, a9 := Tryz.isAgg9, z9 := Tryz.sizeOf9, v9 := Tryz.zeroValue9, t31 := Tryz.underlying22,
  a31 := Tryz.isAgg22, z31 := Tryz.sizeOf22, v31 := Tryz.zeroValue22, t46 := Tryz.underlying167, a46 := Tryz.isAgg167,
  z46 := Tryz.sizeOf167, v46 := Tryz.zeroValue167, t51 := Tryz.underlying216, a51 := Tryz.isAgg216,
  z51 := Tryz.sizeOf216, v51 := Tryz.zeroValue216, t53 := Tryz.underlying218, a53 := Tryz.isAgg218,
  z53 := Tryz.sizeOf218, v53 := Tryz.zeroValue218, t131 := Tryz.underlying213, a131 := Tryz.isAgg213,
  z131 := Tryz.sizeOf213, v131 := Tryz.zeroValue213, t182 := Tryz.underlying208, a182 := Tryz.isAgg208,
  z182 := Tryz.sizeOf208, v182 := Tryz.zeroValue208, t183 := Tryz.underlying209, a183 := Tryz.isAgg209,
  z183 := Tryz.sizeOf209, v183 := Tryz.zeroValue209, t218 := Tryz.underlying238, a218 := Tryz.isAgg238,
  z218 := Tryz.sizeOf238, v218 := Tryz.zeroValue238, t222 := Tryz.underlying90, a222 := Tryz.isAgg90,
  z222 := Tryz.sizeOf90, v222 := Tryz.zeroValue90, t228 := Tryz.underlying257, a228 := Tryz.isAgg257,
  z228 := Tryz.sizeOf257, v228 := Tryz.zeroValue257, t229 := Tryz.underlying221, a229 := Tryz.isAgg221,
  z229 := Tryz.sizeOf221, v229 := Tryz.zeroValue221 }
end Go.Proofs.Yt
namespace Go.FA
open Go.RowKit Go.Sort Go.Proofs
variable {P : Program} {T : Tab} {E : Entry} {F : Nat → Prop} {C : Ctx} {w : World} {σ : St} {n : Nat} {Q : Ex → (Nat → DV) → St → Prop} {a : Nat → DV}
structure Qj2 (P : Program) (f : FuncId) : Prop where
  some : ∀ (blk off cap : Nat) (ss : List (List UInt8)) (w : World), Holds encStr w blk off ss.toArray → blk < w.heap.size → ss.length < 4611686018427387904 →
    Calls P f #[.slice (some ⟨blk, off, none⟩) ss.length cap] w fun e w' => e = .returned (.tuple #[]) ∧ ∃ n os, w' = grow (putRow encStr (Sort.ahead w n) blk off (ss.mergeSort fun x y => decide (x ≤ y)).toArray) os
  none : ∀ (p : Option Addr) (cap : Nat) (w : World), Calls P f #[.slice p 0 cap] w fun e w' => e = .returned (.tuple #[]) ∧ w' = w
def bl (s : ByteArray) : List UInt8 := s.data.toList
def lb (l : List UInt8) : ByteArray := ⟨l.toArray⟩
theorem bl_lb (l : List UInt8) : bl (lb l) = l := rfl
def QaT (l : List ByteArray) : List ByteArray := ((l.map bl).mergeSort fun x y => decide (x ≤ y)).map lb
theorem Qbs (l : List ByteArray) : (QaT l).length = l.length := by simp [QaT]
def Qal (l : List ByteArray) : List (List DV) := l.map fun x => [DV.lit (.string x)]
theorem Qgj {b : Nat} : ∀ (l : List ByteArray) (o : Nat), QaP C w 1 b o (Qal l) → ∀ j x, l[j]? = some x → w.cell? ⟨b, o + j, none⟩ = some (.string x)
  | [], o, h, j, x, hx => by simp at hx
  | y :: l, o, h, j, x, hx => by
    simp only [Qal, List.map_cons, QaP] at h
    cases j with
    | zero =>
      simp at hx; subst hx
      have := h.2.1
      simp only [Qa6, Qy] at this
      obtain ⟨⟨_, v, h1, _, h2⟩, _⟩ := this
      rw [h2] at h1; exact h1
    | succ j =>
      have := Qgj l (o + 1) h.2.2 j x (by simpa using hx)
      rwa [show o + 1 + j = o + (j + 1) by omega] at this
theorem Qec {b : Nat} : ∀ (l : List ByteArray) (o : Nat), (∀ j x, l[j]? = some x → C.pc b (o + j) ∧ w.cell? ⟨b, o + j, none⟩ = some (.string x)) → QaP C w 1 b o (Qal l)
  | [], o, h => by simp [Qal, QaP]
  | y :: l, o, h => by
    simp only [Qal, List.map_cons, QaP, Qa6, Qy]
    have h0 := h 0 y rfl
    refine ⟨rfl, ⟨⟨h0.1, _, h0.2, rfl, rfl⟩, trivial⟩, Qec l (o + 1) fun j x hx => ?_⟩
    have := h (j + 1) x (by simpa using hx)
    rwa [show o + (j + 1) = o + 1 + j by omega] at this
theorem Dwp.sortS {f : FuncId} (hE : E.Lone) (hs : Qj2 P f) (hfn : ∃ fn c, P.funcs[f]? = some fn ∧ fn.body = some c ∧ fn.name ≠ "runtime.NumGoroutine") {rid : Nat} {ops : Array Oper} {o0 o1 : Oper} {s d0 : Tmp} {tys : Array TypeId}
    (hops : ops = #[o0, o1]) (h0 : o0.op = .move (.tmp s)) (hd0 : o0.dst = some d0) (hg0 : o0.guard = none) (h1 : o1.op = .call ⟨.value (.func f), #[.tmp d0], tys⟩) (hg1 : o1.guard = none) (hne : s ≠ d0) (hd1 : o1.dst ≠ some s)
    (hd : Q8 n ops = true) (l : List ByteArray) (ha : (a s = .lit (.slice none 0 0) ∧ l = []) ∨ ∃ t g, a s = .slice 1 (.tok t g) (Qal l)) (hl : l.length < 1099511627776)
    (h : Q .normal (fun t => if t = s then .slice 1 .none (Qal (QaT l)) else .junk) { n := σ.n + ops.size, objs := fun _ => none, toks := fun _ => none }) :
    Dwp P T E n (.region rid ops false) Q a σ := by
  subst hops
  refine ⟨fun ca w ds hok => wp_region ?_⟩
  obtain ⟨hn, C, hf, hS⟩ := hok
  have hb0 : d0 < ca.size := by
    have := List.all_eq_true.1 hd o0 (by simp)
    rw [hd0] at this; rw [hn]; simpa using this
  have hr : List.range (#[o0, o1] : Array Oper).size = [0, 1] := rfl
  rw [hr]
  simp only [wpOps, List.getElem?_toArray, List.getElem?_cons_zero, List.getElem?_cons_succ]
  rw [if_pos (by unfold Region.wanted; rw [hg0])]
  left
  have e0 : (execOp (Act.eval ⟨ca, ds⟩) o0).run P w = .ok (.value (ca.getD s undef)) w := by simp only [execOp, h0]; rfl
  unfold Oper.wp
  rw [e0]
  show (if Region.wanted o1 _ = true then _ else _)
  rw [if_pos (by unfold Region.wanted; rw [hg1])]
  left
  generalize hca : (Act.put ⟨ca, ds⟩ o0.dst (ca.getD s undef)) = act1
  have hact : act1 = ⟨ca.setIfInBounds d0 (ca.getD s undef), ds⟩ := by
    rw [← hca, hd0]; simp [Act.put]
  have hev : Act.eval act1 (.tmp d0) = ca.getD s undef := by
    rw [hact]; simp [Act.eval, hb0]
  have e1 : (execOp (Act.eval act1) o1).run P w = .ok (.enter f #[ca.getD s undef]) w := by
    obtain ⟨fn, c, q1, q2, q3⟩ := hfn
    have : Act.eval act1 (.func f) = .func (.func f) #[] #[] := rfl
    simp only [execOp, h1, resolve, this, Deferred.ofValue, Sem.run_bind, Sem.run_pure, Result.andThen_ok, invoke, callFunc, run_program, q1]
    simp [q2, q3, hev]
  rw [e1]
  unfold Oper.upon
  have hv := hf.rel s
  generalize hvv : ca.getD s undef = v at *
  -- what is left behind
  have fin : ∀ (C' : Ctx) (w' : World) (r : Value), Qav E (fun i => σ.n + 2 ≤ i) C' w' { n := σ.n + 2, objs := fun _ => none, toks := fun _ => none } → Qy C' w' (.slice 1 .none (Qal (QaT l))) v → (∀ b o, E.P0 b o → C'.pc b o) → (∀ b, E.M0 b → C'.pm b) → C'.lo = E.B →
      Post E n ds Q .normal (act1.put o1.dst r) w' := by
    intro C' w' r hS' hv' hpc hpm hlo
    rw [hact, put_eq]
    refine ⟨rfl, .normal, _, _, rfl, h, ?_, C', ?_, hS'⟩
    · rw [Qaq]; simp [hn]
    · refine ⟨?_, ⟨fun i b e => (by rw [hE.obj] at e; cases e), fun t x e => (by rw [hE.tk] at e; cases e), fun b o p => hpc _ _ (hE.pc _ _ p), fun b p => hpm _ (hE.pm _ p), hlo.trans hE.lo.symm⟩, ?_⟩
      · intro t
        by_cases ht : t = s
        · subst ht
          simp only [if_true]
          have hg : (Act.put ⟨ca.setIfInBounds d0 v, ds⟩ o1.dst r).tmps.getD t undef = v := by
            unfold Act.put
            cases hdd : o1.dst with
            | none => simp [Array.getD_eq_getD_getElem?, Array.getElem?_setIfInBounds, Ne.symm hne]; simpa [Array.getD_eq_getD_getElem?] using hvv
            | some d =>
              have hdt : d ≠ t := fun e => hd1 (by rw [hdd, e])
              simp [Array.getD_eq_getD_getElem?, Array.getElem?_setIfInBounds, Ne.symm hne, hdt]; simpa [Array.getD_eq_getD_getElem?] using hvv
          rw [hg]; exact hv'
        · simp only [ht, if_false, Qy]
      · have hb := hS'.below
        refine ⟨fun b o p => ?_, fun b p => ?_, fun b c e p1 p2 => ?_⟩
        · rw [hE.w]; exact World.cell?_of_block (w := E.w0) (hb.block b (hS.pB _ _ (hE.pc _ _ p)))
        · rw [hE.w]; exact hb.block b (hS.mB _ (hE.pm _ p))
        · exfalso
          rw [hE.lo] at p1
          have : b < E.gw.heap.size := by
            rcases Nat.lt_or_ge b E.gw.heap.size with q | q
            · exact q
            · simp [Array.getElem?_eq_none q] at p2
          rw [hE.size] at this; omega
  have lone : ∀ (w' : World) (C' : Ctx), C'.lo = E.B → Below E.B w w' → (∀ b o, E.P0 b o → C'.pc b o) → (∀ b, E.M0 b → C'.pm b) → (∀ b o, C'.pc b o → E.P0 b o ∨ (E.B ≤ b ∧ b < w'.heap.size)) → (∀ b, C'.pm b → E.M0 b) →
      (∀ i, C'.obj i = none ∧ C'.tk i = none) → Qav E (fun i => σ.n + 2 ≤ i) C' w' { n := σ.n + 2, objs := fun _ => none, toks := fun _ => none } := by
    intro w' C' q0 q1 q2 q3 q4 q5 q6
    exact ⟨q0, hS.below.trans q1, Nat.le_trans hS.bsize q1.size, hS.pB, hS.mB, q2, q3, q4, fun b p => .inl (q5 b p), fun i o hi => by simp at hi, fun i j oi oj b hi => by simp at hi, fun t g ht => by simp at ht, fun t t' g g' x x' ht => by simp at ht, fun t g x i o ht => by simp at ht, fun i _ => q6 i⟩
  have empty : ∀ ad : Option Addr, v = .slice ad 0 0 → l = [] → Calls P f #[v] w fun e w' => e = .returned (.tuple #[]) ∧ Post E n ds Q .normal (act1.put o1.dst (.tuple #[])) w' := by
    intro ad hve hle
    rw [hve]
    refine (hs.none ad 0 w).mono ?_
    rintro e w' ⟨rfl, rfl⟩
    refine ⟨rfl, fin ⟨fun _ => none, fun _ => none, E.P0, E.M0, E.B⟩ w' _ (lone w' _ rfl (Below.refl _ _) (fun _ _ p => p) (fun _ p => p) (fun _ _ p => .inl p) (fun _ p => p) fun _ => ⟨rfl, rfl⟩) ?_ (fun _ _ p => p) (fun _ p => p) rfl⟩
    subst hle
    simp only [Qy]
    exact .inr ⟨ad, hve, by simp [QaT, Qal], trivial⟩
  rcases ha with ⟨ha, hle⟩ | ⟨t, g, ha⟩
  · rw [ha] at hv
    simp only [Qy] at hv
    refine (empty _ hv hle).mono ?_
    rintro e w' ⟨rfl, hp⟩; exact hp
  · rw [ha] at hv
    simp only [Qy] at hv
    rcases hv with ⟨b, o, cap, hve, hcap, hR, _, how, c, e, hc⟩ | ⟨ad, hve, hle, _⟩
    · have hlt : b < w.heap.size := by
        rcases Nat.lt_or_ge b w.heap.size with r | r
        · exact r
        · simp [Array.getElem?_eq_none r] at hc
      have hlen : (Qal l).length = (l.map bl).length := by simp [Qal]
      have hH : Holds encStr w b o (l.map bl).toArray := by
        intro j hj
        have hjl : j < l.length := by simpa using hj
        refine ⟨?_, ?_⟩
        · have := Qgj l o hR j l[j] (by simp [hjl])
          rw [this]
          simp [hjl, encStr, bl]
        · simp [World.frozen?, hc]
      rw [hve, hlen]
      refine (hs.some b o cap (l.map bl) w hH hlt (by simp; omega)).mono ?_
      rintro e w' ⟨rfl, m, os, rfl⟩
      obtain ⟨ls, hls⟩ : ∃ ls, ls = (l.map bl).mergeSort fun x y => decide (x ≤ y) := ⟨_, rfl⟩
      have hlsl : ls.length = l.length := by rw [hls]; simp
      rw [← hls]
      have hsz : (putRow encStr (Sort.ahead w m) b o ls.toArray).heap.size = w.heap.size := by simp
      have hcell : ∀ (j : Nat) (x : ByteArray), (QaT l)[j]? = some x → (grow (putRow encStr (Sort.ahead w m) b o ls.toArray) os).cell? ⟨b, o + j, none⟩ = some (.string x) := by
        intro j x hx
        have hjl : j < ls.length := by
          have : j < (QaT l).length := by
            rcases Nat.lt_or_ge j (QaT l).length with q | q
            · exact q
            · simp [List.getElem?_eq_none q] at hx
          rw [Qbs] at this; omega
        rw [cell?_grow _ _ _ (by rw [hsz]; exact hlt), cell?_putRow encStr (Sort.ahead w m) b o (l.map bl).toArray ls.toArray (holds_ahead _ _ _ _ _ _ hH) (by simp [hlsl]) j (by simpa using hjl)]
        simp only [QaT, ← hls, List.getElem?_map, List.getElem?_eq_getElem hjl, Option.map_some, Option.some.injEq] at hx
        rw [← hx]
        simp [hjl, encStr, lb]
      have hbel : Below E.B w (grow (putRow encStr (Sort.ahead w m) b o ls.toArray) os) := by
        refine ⟨rfl, rfl, rfl, by rw [size_grow, hsz]; omega, fun k hk => ?_⟩
        have hkb : k ≠ b := by have := hS.lo; omega
        have hks : k < w.heap.size := by have := hS.bsize; omega
        rw [heap_grow_old _ _ (by rw [hsz]; exact hks)]
        simp [putRow, mapBlock, Array.getElem?_modify, Ne.symm hkb]
      refine fin ⟨fun _ => none, fun _ => none, fun k j => E.P0 k j ∨ (k = b ∧ o ≤ j), E.M0, E.B⟩ _ _ (lone _ _ rfl hbel (fun _ _ p => .inl p) (fun _ p => p) (fun k j p => p.imp (fun q => q) fun q => by rw [q.1, size_grow, hsz]; exact ⟨by have := hS.lo; omega, by omega⟩) (fun _ p => p) fun _ => ⟨rfl, rfl⟩) ?_ (fun _ _ p => .inl p) (fun _ p => p) rfl
      have hls2 : (Qal (QaT l)).length = (Qal l).length := by simp [Qal, Qbs]
      simp only [Qy]
      refine .inl ⟨b, o, cap, by rw [hve, hls2], by rw [hls2]; exact hcap, Qec _ _ fun j x hx => ⟨.inr ⟨rfl, by omega⟩, hcell j x hx⟩, trivial⟩
    · refine (empty ad hve (by simpa [Qal] using hle)).mono ?_
      rintro e w' ⟨rfl, hp⟩; exact hp
end Go.FA
namespace Go.Proofs.Yt
open Go Go.FA Go.Proofs
set_option maxRecDepth 100000
theorem e237 : Go.FA.Good Tryz.prog (237, s237) := ⟨c237 e284, Tryz.f237, _, Tryz.func237, rfl, by decide⟩
theorem Qib : Qj2 Tryz.prog 94 := ⟨fun blk off cap ss w h1 h2 h3 => Any.slices_Sort_string Qg5 blk off cap ss w h1 h2 h3, fun p cap w => Any.slices_Sort_string_none Qg5 p cap w⟩
def OpD.fits (o : OpD) : Prop := o.args.length ≤ 1048576 ∧ o.pieces.length ≤ 1048576 ∧ o.strict.length ≤ 1048576
instance (o : OpD) : Decidable o.fits := by unfold OpD.fits; infer_instance
end Go.Proofs.Yt

namespace Go.Proofs.Yt
open Go Go.FA Go.Proofs
set_option maxRecDepth 100000
def Enc.boxed {α : Type} (A : Ql α) : Enc α where
  enc x := .row (A.enc x) 0
  dec d := match d with | .row cells 0 => A.dec cells | _ => none
  le d x h := by
    split at h
    · intro C w v hv
      simp only [Qy] at hv ⊢
      obtain ⟨b, o, h1, h2⟩ := hv
      exact ⟨b, o, h1, QfA (A.le _ _ h) h2⟩
    · simp at h
  pure x := by simp [QaV, A.pure]
  de x := A.de x
def Enc.clo : Enc (Nat × Book × ByteArray) where
  enc p := .func (.func p.1) [] [.row (Ql.book.enc p.2.1) 0, .row [.lit (.string p.2.2)] 0]
  dec d := match d with
    | .func (.func f) [] [x, y] => match (Enc.boxed Ql.book).dec x, (Enc.boxed (Ql.one Enc.str)).dec y with
      | some b, some s => some (f, b, s)
      | _, _ => none
    | _ => none
  le d x h := by
    intro C w v hv
    split at h
    · split at h
      · next b s hb hs =>
        simp at h; subst h
        simp only [Qy] at hv ⊢
        obtain ⟨f', c', h1, h2, h3⟩ := hv
        exact ⟨f', c', h1, h2, Qbk (.cons ((Enc.boxed Ql.book).le _ _ hb) (.cons ((Enc.boxed (Ql.one Enc.str)).le _ _ hs) .nil)) h3⟩
      · simp at h
    · simp at h
  pure p := by
    have h1 := (Enc.boxed Ql.book).pure p.2.1
    have h2 := (Enc.boxed (Ql.one Enc.str)).pure p.2.2
    simp only [Enc.boxed, Ql.one, Enc.str] at h1 h2
    simp [QaV, QaX, h1] at h2 ⊢
    simpa [QaV] using h1
  de p := by
    have h1 := (Enc.boxed Ql.book).de p.2.1
    have h2 := (Enc.boxed (Ql.one Enc.str)).de p.2.2
    simp only [Enc.boxed] at h1 h2
    simp only [Ql.one, Enc.str] at h2
    simp [Enc.boxed, Ql.one, Enc.str, h1]
def Book.clo (b : Book) (f : Nat) (x y : ByteArray) : Option Bool := if f = 313 then b.atMost x y else none
def sclo (f : Nat) : Sp := sp (Q6 Enc.str (Enc.boxed Ql.book) (Enc.boxed (Ql.one Enc.str))) Enc.bool (fun x => x.2.1.clo f x.2.2 x.1)
theorem t50c : QH Tryz.prog (Qf [(314, s314)]) := .cons e314 .nil
theorem c313 : Qb Tryz.prog 313 (sclo 313) := by
  refine Qb.of_sp (T := Qf [(314, s314)]) Tryz.func313 rfl (Nat.le_of_ble_eq_true rfl) fun E x y hy => ?_
  obtain ⟨z, b, x⟩ := x
  have g : dcall (Qf [(314, s314)]) 314 [Enc.book.enc b, Enc.str.enc x, Enc.str.enc z] = some (Enc.bool.enc y) := QiA (B := Enc.str) (C := Enc.str) (D := Enc.bool) rfl hy
  have tT := t50c
  simp only [Enc.book, Enc.agg, Enc.str, Enc.bool] at g
  generalize Qf [(314, s314)] = T at *
  refine Dwp.step tT rfl fun K hK => ?_
  simp [QF, QZ, Qo, QJ, own, Qm, dop, QN, eval, Qr, Qn, Ex.then, Ex.inBlock, upd, QV, Tag.isNN, Qp, intCmp, Qv, Qx, TyI.agg, Qa, Qu, Qg, Qs, QX, QA, QD, mapOf, QQ, QC, Qq, Qi, dcall, Qf, Qj, QI, DV.cells, setAt, Qt, Qk, QE, QK, rowsOf, QL, Qd, Qe, Qe.go, Qz, QB, Qc, goInt]
  refine hK _ _ ?_ rfl; clear hK K
  refine Dwp.step tT rfl fun K hK => ?_
  simp [QF, QZ, Qo, QJ, own, Qm, dop, QN, eval, Qr, Qn, Ex.then, Ex.inBlock, upd, QV, Tag.isNN, Qp, intCmp, Qv, Qx, TyI.agg, Qa, Qu, Qg, Qs, QX, QA, QD, mapOf, QQ, QC, Qq, Qi, Qj, QI, DV.cells, setAt, Qt, Qk, QE, QK, rowsOf, QL, Qd, Qe, Qe.go, Qz, QB, Qc, goInt, init, Q6, Ql.and, Ql.one, Enc.boxed, Enc.str, Q1, ty9, g]
  refine hK _ _ (Dwp.ret ?_) rfl
  simp [Q3, Qh, QW, frz, Q2, Q0, Enc.bool, upd]
theorem e313 : Go.FA.Good Tryz.prog (313, sclo 313) := ⟨c313, Tryz.f313, _, Tryz.func313, rfl, by decide⟩
theorem callClo (T : Tab) (f : Nat) (hT : T f = some (sclo f)) (b : Book) (x y : ByteArray) (r : Bool) (h : b.clo f x y = some r) :
    dcall T f [.lit (.string y), .row (Ql.book.enc b) 0, .row [.lit (.string x)] 0] = some (.lit (.bool r)) :=
  QiA (A := Enc.str) (B := Enc.boxed Ql.book) (C := Enc.boxed (Ql.one Enc.str)) (D := Enc.bool) hT h
def Qjr (b : Book) (f : Nat) (x y : ByteArray) : Bool := (b.clo f x y).getD false
section
attribute [local simp] QF QZ Qo QJ own Qm dop QN eval Qr Qn Ex.then Ex.inBlock upd QV Tag.isNN Qp intCmp Qv Qx TyI.agg Qa Qu Qg Qs QX QA QD mapOf QQ QC Qq Qi Qj QI DV.cells Qt Qk QE QK rowsOf QL Qd Qe Qe.go Qz QB Qc goInt
theorem sortB_perm {l m : List ByteArray} (h : l.Perm m) : QaT l = QaT m := by
  unfold QaT
  congr 1
  have tr : ∀ (a b c : List UInt8), decide (a ≤ b) = true → decide (b ≤ c) = true → decide (a ≤ c) = true := fun a b c h1 h2 => by
    simp only [decide_eq_true_eq] at *; exact List.le_trans h1 h2
  have to : ∀ (a b : List UInt8), (decide (a ≤ b) || decide (b ≤ a)) = true := fun a b => by
    simp only [Bool.or_eq_true, decide_eq_true_eq]; exact List.le_total a b
  refine List.Perm.eq_of_pairwise (le := fun a b => decide (a ≤ b) = true) (fun a b _ _ h1 h2 => ?_) (List.pairwise_mergeSort tr to _) (List.pairwise_mergeSort tr to _) ?_
  · simp only [decide_eq_true_eq] at h1 h2; exact List.le_antisymm h1 h2
  · exact (List.mergeSort_perm _ _).trans ((h.map bl).trans (List.mergeSort_perm _ _).symm)
theorem range_get {α β : Type} (g : α → β) : ∀ (m : List α), (List.range m.length).filterMap (fun j => (m[j]?).map g) = m.map g := by
  intro m
  induction m with
  | nil => rfl
  | cons x m ih =>
    rw [List.length_cons, List.range_succ_eq_map, List.filterMap_cons]
    simp only [List.getElem?_cons_zero, Option.map_some, List.map_cons, List.cons.injEq, true_and]
    rw [List.filterMap_map]
    rw [← ih]
    congr 1
def Qkb (k : Book) (f : Nat) (b : Book) (x : ByteArray) : Option (List ByteArray) :=
  if k.highs.length ≤ 1000 ∧ f = 313 ∧ (k.highs.all fun p => (b.clo f x p.1).isSome) = true then some (QaT ((k.highs.map (·.1)).filter (Qjr b f x))) else none
def s312 : Sp := sp (QR Enc.book Enc.clo) Enc.strs (fun x => Qkb x.1 x.2.1 x.2.2.1 x.2.2.2)
def picked (m : List (ByteArray × List ByteArray)) (q : ByteArray → Bool) (seen : List Nat) : List ByteArray := (seen.filterMap fun j => (m[j]?).map (·.1)).filter q
theorem picked_all {m : List (ByteArray × List ByteArray)} {q : ByteArray → Bool} {seen : List Nat} (hn : seen.Nodup) (hl : ∀ j ∈ seen, j < m.length) (ha : ∀ j, j < m.length → j ∈ seen) : (picked m q seen).Perm ((m.map (·.1)).filter q) := by
  unfold picked
  refine List.Perm.filter q ?_
  have hp : seen.Perm (List.range m.length) := (List.perm_ext_iff_of_nodup hn List.nodup_range).2 fun j => ⟨fun h => by simpa using hl j h, fun h => ha j (by simpa using h)⟩
  refine (hp.filterMap _).trans (List.Perm.of_eq ?_)
  exact range_get (·.1) m
theorem Qgh {m : List (ByteArray × List ByteArray)} {q : ByteArray → Bool} {seen : List Nat} : (picked m q seen).length ≤ seen.length :=
  Nat.le_trans (List.length_filter_le _ _) (List.length_filterMap_le _ _)
theorem picked_app {m : List (ByteArray × List ByteArray)} {q : ByteArray → Bool} {seen : List Nat} {j : Nat} {p : ByteArray × List ByteArray} (h : m[j]? = some p) : picked m q (seen ++ [j]) = picked m q seen ++ (if q p.1 then [p.1] else []) := by
  unfold picked
  rw [List.filterMap_append, List.filter_append]
  simp only [List.filterMap_cons, List.filterMap_nil, h, Option.map_some, List.filter_cons, List.filter_nil]
theorem QiJ {seen : List Nat} {n : Nat} (hn : seen.Nodup) (hl : ∀ j ∈ seen, j < n) : seen.length ≤ n := by
  have := List.Nodup.length_le_of_subset hn (l₂ := List.range n) (fun j h => by simpa using hl j h)
  simpa using this
def inv312 (k : Book) (f : Nat) (b : Book) (x : ByteArray) : Nat → (Nat → DV) → St → Prop := fun m a σ => ∃ seen, m = left k.highs.length seen ∧ seen.Nodup ∧ (∀ j ∈ seen, j < k.highs.length) ∧
  a 1 = .func (.func f) [] [.row (Ql.book.enc b) 0, .row [.lit (.string x)] 0] ∧ a 9 = .ptr 5 0 ∧ 5 < σ.n ∧ Acc σ 1 (Qal (picked k.highs (Qjr b f x) seen)) (a 5) ∧ (∀ t g r, a 5 = .slice 1 (.tok t g) r → t < σ.n) ∧
  σ.objs 5 = some (.mapIter (k.highs.map fun p => .string p.1) (k.highs.map fun p => Enc.strs.enc p.2) seen)
abbrev T61 : Tab := Qf [(313, sclo 313)]
theorem c312 : Qb Tryz.prog 312 s312 := by
  have tT : QH Tryz.prog T61 := .cons e313 .nil
  refine Qb.of_sp (T := T61) Tryz.func312 rfl (Nat.le_of_ble_eq_true rfl) fun E xx y hy => ?_
  obtain ⟨k, f, b, x⟩ := xx
  simp only [Qkb] at hy
  split at hy
  case isFalse => cases hy
  next hc =>
  cases hy
  obtain ⟨hlim, hf, hall⟩ := hc
  have hT : T61 f = some (sclo f) := by subst hf; rfl
  generalize T61 = T at *
  refine Dwp.step tT rfl fun K hK => ?_
  simp [dcall, Qf, setAt, init, QR, Ql.and, Ql.one, Enc.book, Enc.agg]
  refine hK _ _ ?_ rfl; clear hK K
  refine Dwp.step tT rfl fun K hK => ?_
  simp [dcall, Qf, setAt]
  refine hK _ _ ?_ rfl; clear hK K
  refine Dwp.seq ?_
  refine Dwp.step tT rfl fun K hK => ?_
  simp [dcall, Qf, setAt, Q1, Qdp]
  refine hK _ _ ?_ rfl; clear hK K
  refine (Dwp.block (Dwp.loop (inv312 k f b x) (left k.highs.length []) ⟨[], rfl, by simp, by simp, by simp [upd, init, Enc.clo], by simp [upd, σ0], by simp [σ0], .inl ⟨by simp [picked, Qal], by simp [upd]⟩, by simp [upd], by simp [upd, σ0]⟩ ?_))
  rintro m a σ ⟨seen, rfl, hnd, hlt, h1, h9, hn, hacc, htn, hobj⟩
  refine Dwp.seq (Dwp.next tT rfl rfl rfl rfl h9 hobj ?_ ?_)
  · intro hend K hK
    simp [dcall, Qf, setAt]
    refine hK _ _ ?_ rfl; clear hK K
    refine Dwp.seq (Dwp.condF (by simp [eval, upd]) (Dwp.exit ?_))
    simp only [Ex.then, Ex.inBlock, if_true]
    have hperm := picked_all (q := Qjr b f x) hnd hlt (fun j hj => hend j (by simpa using hj))
    have hsl := QiJ hnd hlt
    have hpl := Qgh (m := k.highs) (q := Qjr b f x) (seen := seen)
    refine Dwp.seq (Dwp.sortS E.2 Qib ⟨Tryz.f94, _, Tryz.func94, rfl, by decide⟩ rfl rfl rfl rfl rfl rfl (by decide) (by decide) rfl (picked k.highs (Qjr b f x) seen) ?_ (by omega) ?_)
    · rcases hacc with ⟨q1, q2⟩ | ⟨t, g, q1, _⟩
      · exact .inl ⟨by simpa [upd] using q2, by simpa [Qal] using q1⟩
      · exact .inr ⟨t, g, by simpa [upd] using q1⟩
    simp only [Ex.then]
    refine Dwp.step tT rfl fun K hK => ?_
    simp [dcall, Qf, setAt]
    refine hK _ _ (Dwp.ret ?_) rfl
    rw [sortB_perm hperm]
    have := QaF (Ql.one Enc.str) (QaT (List.filter (Qjr b f x) (List.map (·.1) k.highs)))
    simp only [Ql.one, Enc.str] at this
    simp [Q3, Qh, QW, frz, Q2, Q0, Enc.strs, Enc.slice, Ql.one, Enc.str, upd, Qal, this]
  · intro j kk v hns hk hx K hK
    obtain ⟨p, hp, rfl⟩ : ∃ p, k.highs[j]? = some p ∧ Value.string p.1 = kk := by
      rw [List.getElem?_map, Option.map_eq_some_iff] at hk; exact hk
    have hjl : j < k.highs.length := by
      rcases Nat.lt_or_ge j k.highs.length with q | q
      · exact q
      · rw [List.getElem?_eq_none q] at hp; cases hp
    obtain ⟨r, hr⟩ := Option.isSome_iff_exists.1 (List.all_eq_true.1 hall p (List.mem_of_getElem? hp))
    have g := callClo T f hT b x p.1 r hr
    have hq : Qjr b f x p.1 = r := by simp [Qjr, hr]
    have happ := picked_app (q := Qjr b f x) (seen := seen) hp
    rw [hq] at happ
    have hnd' : (seen ++ [j]).Nodup := by rw [List.nodup_append]; exact ⟨hnd, by simp, fun a ha b hb e => by simp at hb; subst hb; subst e; exact hns ha⟩
    have hlt' : ∀ i ∈ seen ++ [j], i < k.highs.length := fun i hi => by
      rcases List.mem_append.1 hi with h | h
      · exact hlt i h
      · simp at h; subst h; exact hjl
    simp [dcall, Qf, setAt]
    refine hK _ _ ?_ rfl; clear hK K
    refine Dwp.seq (Dwp.condT (by simp [eval, upd]) (Dwp.skip ?_))
    refine Dwp.block ?_
    refine Dwp.step tT rfl fun K hK => ?_
    simp [dcall, Qf, setAt, h9, Qez, hk, hx]
    refine hK _ _ ?_ rfl; clear hK K
    refine Dwp.step tT rfl fun K hK => ?_
    simp [QF, Qo, QJ, own, dop, QN, eval, Qr, Qn, upd, h1, Qi, g]
    refine hK _ _ ?_ rfl; clear hK K
    cases r with
    | false =>
      refine Dwp.condF (by simp [eval, upd]) (Dwp.skip ?_)
      simp only [Bool.false_eq_true, if_false, List.append_nil] at happ
      refine ⟨_, QgC hjl hns, seen ++ [j], rfl, hnd', hlt', by simp [upd, h1], by simp [upd, h9], by simp <;> omega, ?_, ?_, by simp [upd]⟩
      · rw [happ]; simpa [Acc, upd] using hacc
      · intro t g' r h; have := htn t g' r (by simpa [upd] using h); simp; omega
    | true =>
      refine Dwp.condT (by simp [eval, upd]) ?_
      simp only [if_true] at happ
      refine Dwp.reg tT rfl fun K hK => ?_
      rcases hacc with ⟨q1, q2⟩ | ⟨t, gg, q1, q3⟩
      · have q0 : picked k.highs (Qjr b f x) seen = [] := by simpa [Qal] using q1
        simp [dcall, Qf, setAt, q2, Qah, ty9]
        refine hK _ _ ?_ rfl; clear hK K
        refine ⟨_, QgC hjl hns, seen ++ [j], rfl, hnd', hlt', by simp [upd, h1], by simp [upd, h9], by simp <;> omega, ?_, ?_, by simp [upd]⟩
        · rw [happ, q0]; exact .inr ⟨_, 0, by simp [upd, Qal]; rfl, by simp [upd]⟩
        · intro t g' r h
          simp [upd] at h
          simp; omega
      · have hl1 := QiJ hnd hlt
        have hl2 := Qgh (m := k.highs) (q := Qjr b f x) (seen := seen)
        have hl3 : (Qal (picked k.highs (Qjr b f x) seen)).length + 1 ≤ 16777216 := by simp [Qal]; omega
        simp [dcall, Qf, setAt, q1, q3, Qah, ty9, hl3]
        refine hK _ _ ?_ rfl; clear hK K
        refine ⟨_, QgC hjl hns, seen ++ [j], rfl, hnd', hlt', by simp [upd, h1], by simp [upd, h9], by simp <;> omega, ?_, ?_, by simp [upd]⟩
        · rw [happ]; exact .inr ⟨t, gg + 1, by simp [upd, Qal], by simp [upd]⟩
        · intro t' g' r h
          simp [upd] at h
          have := htn t gg _ q1
          simp; omega
theorem e312 : Go.FA.Good Tryz.prog (312, s312) := ⟨c312, Tryz.f312, _, Tryz.func312, rfl, by decide⟩
def Enc.strsErr : Enc (List ByteArray × Int) := Enc.tup (QR Enc.strs Enc.i64)
abbrev T27 : Tab := Qf [(284, s284), (312, s312), (311, s311)]
theorem t27 : QH Tryz.prog T27 := .cons e284 (.cons e312 (.cons Qk6 .nil))
def s285 : Sp := sp (QR Enc.sigd Enc.str) Enc.strsErr (fun x => Qg0 (Qit x.1 [x.2]) [] fun b => Qkb b 313 b x.2)
theorem c285 : Qb Tryz.prog 285 s285 := by
  refine Qb.of_sp (T := T27) Tryz.func285 rfl (Nat.le_of_ble_eq_true rfl) fun E xx y hy => ?_
  obtain ⟨s, x⟩ := xx
  simp only [Qg0] at hy
  cases hr : Qit s [x] with
  | none => rw [hr] at hy; cases hy
  | some r =>
  rw [hr] at hy
  have g := QkH T27 rfl s (.slice 1 .full [[.lit (.string x)]]) [x] r rfl hr
  have h61 : T27 312 = some s312 := rfl
  have tT := t27
  generalize T27 = T at *
  refine Dwp.step tT rfl fun K hK => ?_
  simp [setAt, init, QR, Ql.and, Ql.one, Enc.sigd, Enc.agg, Enc.str]
  refine hK _ _ ?_ rfl; clear hK K
  refine Dwp.step tT rfl fun K hK => ?_
  obtain ⟨o, e⟩ := r
  cases o with
  | none =>
    simp only [Enc.opened, Qjj] at g
    simp only [] at hy
    split at hy
    case isTrue => cases hy
    next he =>
    cases hy
    have he' : (e != 0) = true := by simp [he]
    simp [QF, Qo, QJ, own, dop, QN, eval, Qr, Qn, upd, Qv, Qx, TyI.agg, Qdm, Q1, Qah, ty9, Qc, Qd, Qi, g, DV.cells, QI, setNo]
    refine hK _ _ ?_ rfl; clear hK K
    refine Dwp.seq ?_
    refine Dwp.step tT rfl fun K hK => ?_
    simp [QF, Qo, QJ, own, dop, QN, eval, Qr, Qn, upd, QV, intCmp, he']
    refine hK _ _ ?_ rfl; clear hK K
    refine Dwp.condT (by simp [eval, upd]) ?_
    refine Dwp.step tT rfl fun K hK => ?_
    simp [dcall, Qf, setAt]
    refine hK _ _ (Dwp.ret ?_) rfl
    simp [Q3, Qh, QW, frz, Q2, Q0, Ex.then, upd, Enc.strsErr, Enc.tup, QR, Ql.and, Ql.one, Enc.strs, Enc.slice, Enc.str, Enc.i64, Enc.int]
  | some b =>
    simp only [Enc.opened, Enc.book, Enc.agg] at g
    simp only [] at hy
    split at hy
    case isFalse => cases hy
    next he =>
    subst he
    obtain ⟨v, hv, rfl⟩ := Option.map_eq_some_iff.1 hy
    simp [QF, Qo, QJ, own, dop, QN, eval, Qr, Qn, upd, Qv, Qx, TyI.agg, Qdm, Q1, Qah, ty9, Qc, Qd, Qi, g, DV.cells, QI, QgL]
    refine hK _ _ ?_ rfl; clear hK K
    refine Dwp.seq ?_
    refine Dwp.step tT rfl fun K hK => ?_
    simp [QF, Qo, QJ, own, dop, QN, eval, Qr, Qn, upd, QV, intCmp]
    refine hK _ _ ?_ rfl; clear hK K
    refine Dwp.condF (by simp [eval, upd]) (Dwp.skip ?_)
    refine Dwp.freeze 11 (o := .cells 229 (Ql.book.enc b)) (fun t => if t = 6 then .row (Ql.book.enc b) 0 else if t = 2 then .row (Ql.sigd.enc s) 0 else if t = 3 then .row [.lit (.string x)] 0 else .junk) (by simp [upd, σ0]) (fun t => ?_) ?_
    · by_cases h6 : t = 6
      · subst h6; simp [upd]; exact .box (t := 229) 0 (by simp [upd, σ0])
      by_cases h2 : t = 2
      · subst h2; simp [upd]; exact .keep _
      by_cases h3 : t = 3
      · subst h3; simp [upd]; exact .keep _
      simp [h6, h2, h3]; exact .junk _
    have g2 : dcall T 312 [Enc.book.enc b, Enc.clo.enc (313, b, x)] = some (Enc.strs.enc v) := Qcd (A := Enc.book) (B := Enc.clo) (C := Enc.strs) h61 hv
    simp only [Enc.book, Enc.agg, Enc.clo, strsC] at g2
    refine Dwp.step tT rfl fun K hK => ?_
    simp [setAt, Q1, g2]
    refine hK _ _ (Dwp.ret ?_) rfl
    have := QaF (Ql.one Enc.str) v
    simp only [Ql.one, Enc.str] at this
    simp [Q3, Qh, QW, frz, Q2, Q0, Ex.then, upd, Enc.strsErr, Enc.tup, QR, Ql.and, Ql.one, Enc.strs, Enc.slice, Enc.str, Enc.i64, Enc.int, this]
theorem e285 : Go.FA.Good Tryz.prog (285, s285) := ⟨c285, Tryz.f285, _, Tryz.func285, rfl, by decide⟩
end
end Go.Proofs.Yt
namespace Go.FA
open Go.RowKit Go.Sort Go.Proofs
def leL : List UInt8 → List UInt8 → Bool
  | [], _ => true
  | _ :: _, [] => false
  | a :: xs, b :: bs => match Nat.blt a.toNat b.toNat with
    | true => true
    | false => match Nat.blt b.toNat a.toNat with
      | true => false
      | false => leL xs bs
theorem QjN : ∀ x y : List UInt8, leL x y = decide (x ≤ y)
  | [], y => by simp [leL]
  | a :: xs, [] => by simp [leL]
  | a :: xs, b :: bs => by
    simp only [leL]
    cases h1 : Nat.blt a.toNat b.toNat with
    | true =>
      have h : a < b := UInt8.lt_iff_toNat_lt.2 (by simpa [Nat.blt_eq] using h1)
      simp [List.cons_le_cons_iff, h]
    | false =>
      have h1' : ¬ a.toNat < b.toNat := by
        intro q; rw [← Nat.blt_eq] at q; rw [h1] at q; cases q
      cases h2 : Nat.blt b.toNat a.toNat with
      | true =>
        have h : b.toNat < a.toNat := by simpa [Nat.blt_eq] using h2
        have hl : ¬ a < b := fun q => h1' (UInt8.lt_iff_toNat_lt.1 q)
        have he : a ≠ b := fun q => by subst q; omega
        simp [List.cons_le_cons_iff, hl, he]
      | false =>
        have h2' : ¬ b.toNat < a.toNat := by
          intro q; rw [← Nat.blt_eq] at q; rw [h2] at q; cases q
        have he : a = b := UInt8.toNat_inj.1 (by omega)
        subst he
        simp [List.cons_le_cons_iff, QjN xs bs]
def insL (x : List UInt8) : List (List UInt8) → List (List UInt8)
  | [] => [x]
  | y :: l => match leL x y with
    | true => x :: y :: l
    | false => y :: insL x l
def Qhn : List (List UInt8) → List (List UInt8)
  | [] => []
  | x :: l => insL x (Qhn l)
theorem Qe5 (x : List UInt8) : ∀ l, (insL x l).Perm (x :: l)
  | [] => .refl _
  | y :: l => by
    simp only [insL]
    cases leL x y with
    | true => exact .refl _
    | false => exact ((Qe5 x l).cons y).trans (.swap x y l)
theorem Qgt : ∀ l, (Qhn l).Perm l
  | [] => .refl _
  | x :: l => (Qe5 x (Qhn l)).trans ((Qgt l).cons x)
theorem le_total (x y : List UInt8) : (decide (x ≤ y) || decide (y ≤ x)) = true := by
  rcases List.le_total x y with h | h <;> simp [h]
theorem Qhm (x : List UInt8) : ∀ l : List (List UInt8), l.Pairwise (fun a b => decide (a ≤ b) = true) → (insL x l).Pairwise (fun a b => decide (a ≤ b) = true)
  | [], _ => by simp [insL]
  | y :: l, h => by
    obtain ⟨h1, h2⟩ := List.pairwise_cons.1 h
    simp only [insL]
    cases hb : leL x y with
    | true =>
      rw [QjN] at hb
      refine List.pairwise_cons.2 ⟨fun z hz => ?_, h⟩
      rcases List.mem_cons.1 hz with rfl | hz
      · exact hb
      · have := h1 z hz
        simp only [decide_eq_true_eq] at hb this ⊢
        exact List.le_trans hb this
    | false =>
      rw [QjN] at hb
      have hyx : decide (y ≤ x) = true := by have := le_total x y; rw [hb] at this; simpa using this
      refine List.pairwise_cons.2 ⟨fun z hz => ?_, Qhm x l h2⟩
      have hz' := (Qe5 x l).mem_iff.1 hz
      rcases List.mem_cons.1 hz' with rfl | hz'
      · exact hyx
      · exact h1 z hz'
theorem Qgb : ∀ l, (Qhn l).Pairwise (fun a b => decide (a ≤ b) = true)
  | [] => .nil
  | x :: l => Qhm x _ (Qgb l)
theorem mergeSort_eq (l : List (List UInt8)) : (l.mergeSort fun x y => decide (x ≤ y)) = Qhn l := by
  refine List.Perm.eq_of_pairwise (le := fun a b => decide (a ≤ b) = true) (fun a b _ _ h1 h2 => ?_) (List.pairwise_mergeSort (fun a b c h1 h2 => ?_) (fun a b => le_total a b) l) (Qgb l) ((List.mergeSort_perm _ _).trans (Qgt l).symm)
  · simp only [decide_eq_true_eq] at h1 h2
    exact List.le_antisymm h1 h2
  · simp only [decide_eq_true_eq] at h1 h2 ⊢
    exact List.le_trans h1 h2
theorem Qhx (l : List ByteArray) : QaT l = (Qhn (l.map bl)).map lb := by rw [QaT, mergeSort_eq]
end Go.FA
namespace Go.Proofs.Yt
open Go Go.FA Go.Proofs
def sortI (l : List ByteArray) : List ByteArray := (Qhn (l.map bl)).map lb
def thatI (k : Book) (f : Nat) (b : Book) (x : ByteArray) : Option (List ByteArray) :=
  if k.highs.length ≤ 1000 ∧ f = 313 ∧ (k.highs.all fun p => (b.clo f x p.1).isSome) = true then some (sortI ((k.highs.map (·.1)).filter (Qjr b f x))) else none
theorem thatI_eq (k : Book) (f : Nat) (b : Book) (x : ByteArray) : thatI k f b x = Qkb k f b x := by
  unfold thatI Qkb sortI
  rw [Qhx]
def Qh9 : Sp := sp (QR Enc.sigd Enc.str) Enc.strsErr (fun x => Qg0 (Qit x.1 [x.2]) [] fun b => thatI b 313 b x.2)
theorem e285i : Go.FA.Good Tryz.prog (285, Qh9) := by
  have : Qh9 = s285 := by
    unfold Qh9 s285
    congr 1; funext x; congr 1; funext b; exact thatI_eq _ _ _ _
  rw [this]; exact e285
end Go.Proofs.Yt
namespace Go.Proofs
open Go.Shelf
def keys118_ren : Go.Shelf.Ren := ⟨fun | 7 => 118 | 10 => 224 | n => n, fun | 23 => 129 | 26 => 9 | 3 => 128 | 28 => 138 | 0 => 0 | 27 => 137 | 33 => 70 | 4 => 4 | n => n, fun | n => n⟩
theorem keys118 : Go.Proofs.SlLaysZ.n7 Tryz.prog keys118_ren := {
  mixed := by kernel_rfl
  f7 := ⟨Tryz.f118.name, by decide, Tryz.func118.trans (congrArg some (by kernel_rfl))⟩
  f10 := ⟨Tryz.f224.name, by decide, Tryz.func224.trans (congrArg some (by kernel_rfl))⟩
  t0 := Tryz.underlying0
  a0 := Tryz.isAgg0
  z0 := Tryz.sizeOf0
  v0 := Tryz.zeroValue0
  t4 := Tryz.underlying4
  a4 := Tryz.isAgg4
  z4 := Tryz.sizeOf4
  v4 := Tryz.zeroValue4
  t23 := Tryz.underlying129
  a23 := Tryz.isAgg129
  z23 := Tryz.sizeOf129
  v23 := Tryz.zeroValue129
  t26 := Tryz.underlying9
  a26 := Tryz.isAgg9
  z26 := Tryz.sizeOf9
  v26 := Tryz.zeroValue9
  t27 := Tryz.underlying137
  a27 := Tryz.isAgg137
  z27 := Tryz.sizeOf137
  v27 := Tryz.zeroValue137
  t28 := Tryz.underlying138
  a28 := Tryz.isAgg138
  z28 := Tryz.sizeOf138
  v28 := Tryz.zeroValue138
  t33 := Tryz.underlying70
  a33 := Tryz.isAgg70
  z33 := Tryz.sizeOf70
  v33 := Tryz.zeroValue70 }
def sorted117_ren : Go.Shelf.Ren := ⟨fun | 6 => 117 | 8 => 223 | 9 => 94 | 11 => 283 | 13 => 160 | 12 => 159 | 23 => 260 | 24 => 261 | 14 => 251 | 15 => 252 | 16 => 253 | 17 => 254 | 18 => 255 | 19 => 256 | 20 => 257 | 21 => 258 | 22 => 259 | 25 => 289 | 26 => 290 | 27 => 291 | 28 => 292 | 29 => 293 | 30 => 250 | 31 => 315 | n => n, fun | 26 => 9 | 28 => 138 | 24 => 22 | 0 => 0 | 3 => 3 | 37 => 167 | 48 => 216 | 50 => 218 | 4 => 4 | 40 => 209 | 39 => 208 | 45 => 213 | 5 => 5 | 9 => 9 | 51 => 238 | 55 => 90 | 57 => 257 | 58 => 221 | 33 => 70 | n => n, fun | n => n⟩
theorem sorted117 : Go.Proofs.SlLaysZ.n6 Tryz.prog sorted117_ren := {
  mixed := by kernel_rfl
  f6 := ⟨Tryz.f117.name, by decide, Tryz.func117.trans (congrArg some (by kernel_rfl))⟩
  f8 := ⟨Tryz.f223.name, by decide, Tryz.func223.trans (congrArg some (by kernel_rfl))⟩
  f11 := ⟨Tryz.f283.name, by decide, Tryz.func283.trans (congrArg some (by kernel_rfl))⟩
  t0 := Tryz.underlying0
  a0 := Tryz.isAgg0
  z0 := Tryz.sizeOf0
  v0 := Tryz.zeroValue0
  t24 := Tryz.underlying22
  a24 := Tryz.isAgg22
  z24 := Tryz.sizeOf22
  v24 := Tryz.zeroValue22
  t26 := Tryz.underlying9
  a26 := Tryz.isAgg9
  z26 := Tryz.sizeOf9
  v26 := Tryz.zeroValue9
  t28 := Tryz.underlying138
  a28 := Tryz.isAgg138
  z28 := Tryz.sizeOf138
  v28 := Tryz.zeroValue138
  i26 := by kernel_rfl }
end Go.Proofs
namespace Go.Proofs.Yt
open Go Go.FA Go.Proofs Go.RowKit Go.Maps Go.Sort Go.Shelf
set_option maxRecDepth 1000000
def QjA : Value → ByteArray
  | .string s => s
  | _ => ⟨#[]⟩
def strK : Value → Bool
  | .string s => decide (s.size ≤ 1048576)
  | _ => false
theorem Qhb {v : Value} (h : strK v = true) : v = .string (QjA v) ∧ (QjA v).size ≤ 1048576 := by
  cases v <;> simp [strK] at h
  exact ⟨rfl, h⟩
theorem Qix : Qj2 Tryz.prog 94 := ⟨fun blk off cap ss w h1 h2 h3 => Any.slices_Sort_string Qg5 blk off cap ss w h1 h2 h3, fun p cap w => Any.slices_Sort_string_none Qg5 p cap w⟩
theorem sortsIn (m : Nat) : AnyZ.SortsIn Tryz.prog sorted117_ren Fence.wide m :=
  ⟨fun blk off cap ss W h1 h2 h3 => callsIn_wide.2 (Qix.some blk off cap ss W h1 h2 h3), fun p cap W => callsIn_wide.2 (Qix.none p cap W)⟩
def QhA : List Value → Bool
  | [] => true
  | k :: ks => strK k && QcL k ks && QhA ks
theorem Qdr : ∀ {l : List Value}, QhA l = true → l.Nodup ∧ ∀ k ∈ l, strK k = true
  | [], _ => by simp
  | k :: ks, h => by
    simp only [QhA, Bool.and_eq_true] at h
    obtain ⟨i1, i2⟩ := Qdr h.2
    refine ⟨List.nodup_cons.2 ⟨fun hin => ?_, i1⟩, fun x hx => ?_⟩
    · have := QbX h.1.2 k hin
      rw [(Qhb h.1.1).1] at this
      simp [Qax] at this
    · rcases List.mem_cons.1 hx with rfl | q
      · exact h.1.1
      · exact i2 x q
def anyV : Value → Option (DataW Unit × List MemPlace) := fun _ => some (.nil, [])
theorem under9 : Tryz.prog.underlying 9 = some .string := by kernel_rfl
theorem hc117 {σ : St} {id mid : Nat} {t : TypeId} {sl : Sl} (h1 : σ.objs id = some (.cells t [.map mid])) (h2 : σ.objs mid = some (.slots sl)) (hk : QhA ((fil sl).map (·.1)) = true) (hn : (fil sl).length ≤ 1048576) :
    HC Tryz.prog 117 [.func (.func 224) [] [.ptr id 0]] σ (fun d σ' => d = .slice 1 .none (Qal (QaT ((fil sl).map fun p => QjA p.1))) ∧ σ' = σ) := by
  refine ⟨⟨Tryz.f117, _, Tryz.func117, rfl, by decide⟩, fun E C w args hl hs => ?_⟩
  match args, hl with
  | [v], hl =>
    simp only [QP, Qy] at hl
    obtain ⟨⟨f', c', rfl, hf', hc'⟩, _⟩ := hl
    match f', c', hf', hc' with
    | [], [p], _, hc' =>
      simp only [QP, Qy] at hc'
      obtain ⟨⟨Bm, hB, rfl⟩, _⟩ := hc'
      obtain ⟨b1, hb1, _, hlt1, _, _, vs, hv1, hv2, _⟩ := hs.obj _ _ h1
      obtain rfl : Bm = b1 := by rw [hB] at hb1; exact Option.some.inj hb1
      match vs, hv1, hv2 with
      | [u], hv1, hv2 =>
        simp only [QP, Qy] at hv2
        obtain ⟨⟨b, hb, rfl⟩, _⟩ := hv2
        obtain ⟨b2, hb2, _, hlt2, _, _, es, clock, es', k1, k2, k3, k4⟩ := hs.obj _ _ h2
        obtain rfl : b = b2 := by rw [hb] at hb2; exact Option.some.inj hb2
        have hcell : w.cell? ⟨Bm, 0, none⟩ = some (.map (some b)) := by rw [cell?_of_cells hv1]; simp
        have hkeys := (QcP.keys k3).1
        have hall : ∀ e ∈ es.toList, strK e.key = true := by
          intro e he
          have h3 : e.key ∈ es'.map (·.key) := List.mem_map.2 ⟨e, k2.mem_iff.2 he, rfl⟩
          rw [hkeys] at h3
          obtain ⟨p, hp, hpe⟩ := List.mem_map.1 h3
          rw [← hpe]; exact (Qdr hk).2 _ (List.mem_map.2 ⟨p, hp, rfl⟩)
        have hlen : es.size = (fil sl).length := by
          have := k2.length_eq
          have h4 := congrArg List.length hkeys
          simp at this h4; omega
        have hrd : ∀ e ∈ es.toList, WideElems.rd Tryz.prog 9 anyV e = some (.string (bl (QjA e.key)), .nil) := by
          intro e he
          obtain ⟨q1, q2⟩ := Qhb (hall e he)
          obtain ⟨key, val, born⟩ := e
          simp only at q1 q2 ⊢
          have := WideMaps.keyOf_string_mk under9 (s := QjA key) (Nat.le_trans q2 (by decide))
          rw [← q1] at this
          exact WideElems.rd_mk this (yv := (.nil, [])) rfl
        have hfit : WideElems.Fit Tryz.prog 9 anyV es clock := ⟨by rw [hlen]; exact Nat.le_trans hn (by decide), ⟨k4.1, k4.2, by
          have h5 : (es'.map (·.key)).Perm (es.toList.map (·.key)) := k2.map _
          rw [hkeys] at h5
          exact h5.nodup_iff.1 (Qdr hk).1⟩, fun e he => ⟨_, hrd e he⟩⟩
        obtain ⟨D0, hD0⟩ : ∃ D0, D0 = DataW.map ((es.toList.map (WideElems.rg Tryz.prog 9 anyV)).foldr DataW.insert []) := ⟨_, rfl⟩
        have hown : w.ownsMap Tryz.prog 9 anyV b es.size D0 := ⟨es, clock, k1, hfit, Nat.le_refl _, hD0⟩
        have hsz : Maps.size D0 = (fil sl).length := by
          rw [hD0, Maps.size_eq, (WideShapes.sorted_perm _).length_eq, List.length_map, Array.length_toList, hlen]
        have hperm : (strKeys D0).Perm (((fil sl).map fun p => QjA p.1).map bl) := by
          rw [hD0]
          refine ((WideShapes.sorted_perm _).map _).trans ?_
          have e1 : (es.toList.map (WideElems.rg Tryz.prog 9 anyV)).map (fun p => strOf p.1) = (es.toList.map (·.key)).map fun k => bl (QjA k) := by
            rw [List.map_map, List.map_map]
            refine List.map_congr_left fun e he => ?_
            simp only [Function.comp, WideElems.rg_of (hrd e he), strOf]
          rw [e1]
          have e2 : ((fil sl).map fun p => QjA p.1).map bl = (es'.map (·.key)).map fun k => bl (QjA k) := by rw [hkeys]; simp [List.map_map, Function.comp_def]
          rw [e2]
          exact ((k2.symm.map _).map _)
        have hseq : SeqGives Fence.wide 2 Tryz.prog 224 #[.pointer (some ⟨Bm, 0, none⟩)] encStr (fun ss => ss.Perm (strKeys D0)) (Maps.size D0) w :=
          AnyZ.keys_gives (ρ := keys118_ren) { keys118 with } Fence.wide _ trivial rfl (by omega) Bm b es.size D0 w hlt1 hcell hown
        have hS := AnyZ.sorted_in sorted117 Fence.wide 5 trivial trivial trivial trivial rfl (by omega) (sortsIn _) (enters_of Tryz.func94 (by kernel_rfl) rfl) 224 #[.pointer (some ⟨Bm, 0, none⟩)] trivial (enters_of Tryz.func224 (by kernel_rfl) rfl) _ _ (by rw [hsz]; exact Nat.le_trans hn (by decide)) (by rw [hsz]; exact Nat.le_trans (Nat.mul_le_mul_right 16 hn) (by decide)) w hseq
        refine (callsIn_wide.1 hS).mono fun e w' ⟨v, ss, he, hP, hrow, hnil, hbel⟩ => ⟨v, he, _, _, ⟨rfl, rfl⟩, ?_⟩
        have hms : ss.mergeSort (fun x y => decide (x ≤ y)) = (((fil sl).map fun p => QjA p.1).map bl).mergeSort (fun x y => decide (x ≤ y)) := mergeSort_of_perm (hP.trans hperm)
        refine Res.of_call hs hbel ?_ ?_
        · rfl
        · have hrows : QaT ((fil sl).map fun p => QjA p.1) = (ss.mergeSort fun x y => decide (x ≤ y)).map lb := by unfold QaT; rw [hms]
          rw [hrows]
          simp only [Qy]
          have hl1 : ((ss.mergeSort fun x y => decide (x ≤ y)).map lb).length = ss.length := by simp
          rcases hrow.2 with ⟨rfl, hz⟩ | ⟨g, cap, cur, rfl, hg, hblk, r1, r2, r3, r4⟩
          · right
            have : ss = [] := List.eq_nil_of_length_eq_zero hz
            subst this
            exact ⟨none, rfl, by simp [Qal], trivial⟩
          · left
            have hgl : g < w'.heap.size := (Array.getElem?_eq_some_iff.1 hblk).1
            refine ⟨g, 0, cap, by simp [Qal], by simpa [Qal] using r1, ?_, trivial⟩
            refine Qec _ 0 fun j x hx => ⟨.inr ⟨hg, hgl⟩, ?_⟩
            rw [cell?_of_cells hblk]
            have h5 : (cur.toList.take (ss.length * 1))[j]? = some (.string x) := by
              rw [r4]
              simp only [List.getElem?_map] at hx ⊢
              obtain ⟨y, hy, rfl⟩ := Option.map_eq_some_iff.1 hx
              rw [hy]; rfl
            have hj : j < ss.length := by
              have := (List.getElem?_eq_some_iff.1 hx).1
              omega
            rw [List.getElem?_take] at h5
            simp only [Nat.mul_one, hj, if_true] at h5
            simpa using h5
end Go.Proofs.Yt
namespace Go.Proofs.Yt
open Go Go.FA Go.Proofs Go.RowKit Go.Proofs.Y
set_option maxRecDepth 1000000
def isB (r : Option (DV × EvS)) : Bool := match r with
  | some (.lit (.bool b), _) => b
  | _ => false
def ok0 (r : Option (DV × EvS)) : Bool := match r with
  | some (.tuple [_, .lit (.int _ 0)], _) => true
  | _ => false
noncomputable def T1 : Tab := Qf [(237, s237), (285, Qh9), (296, s296)]
def fnKeys : List Value := [.string ⟨#[97, 100, 100]⟩, .string ⟨#[115, 117, 98]⟩, .string ⟨#[109, 117, 108]⟩, .string ⟨#[100, 105, 118]⟩, .string ⟨#[109, 111, 100]⟩, .string ⟨#[110, 101, 103]⟩, .string ⟨#[108, 116]⟩, .string ⟨#[108, 101]⟩, .string ⟨#[103, 116]⟩, .string ⟨#[103, 101]⟩, .string ⟨#[101, 113]⟩, .string ⟨#[110, 101]⟩, .string ⟨#[97, 110, 100]⟩, .string ⟨#[111, 114]⟩, .string ⟨#[110, 111, 116]⟩, .string ⟨#[112, 105, 99, 107]⟩, .string ⟨#[99, 97, 116]⟩, .string ⟨#[108, 101, 110, 103, 116, 104]⟩, .string ⟨#[116, 101, 120, 116]⟩, .string ⟨#[106, 111, 105, 110]⟩, .string ⟨#[103, 101, 116]⟩, .string ⟨#[112, 117, 116]⟩, .string ⟨#[104, 97, 115]⟩, .string ⟨#[100, 101, 108]⟩, .string ⟨#[107, 101, 121, 115]⟩, .string ⟨#[115, 105, 122, 101]⟩, .string ⟨#[105, 115]⟩, .string ⟨#[105, 115, 118, 97, 108, 117, 101]⟩]
def L1 : FuncId → Bool := fun g => g == 278 || g == 277 || g == 300 || g == 118 || g == 112 || g == 127 || g == 78 || g == 110 || g == 101 || g == 172
def M1 : FuncId → Go.FA.Mode := fun g => match g with
  | 112 => ⟨false, [], fnKeys, false, []⟩
  | 118 => ⟨false, [1], [], false, []⟩
  | 172 => ⟨true, [], [], false, []⟩
  | 101 => ⟨false, [1], [], false, []⟩
  | 106 => ⟨false, [3], [], false, []⟩
  | 179 => ⟨false, [3], [], false, []⟩
  | 213 => ⟨false, [], [], false, [(1, [5, 6])]⟩
  | 278 => ⟨false, [], [], false, []⟩
  | 218 => ⟨false, [], [], true, []⟩
  | 199 => ⟨false, [], [], true, []⟩
  | _ => ⟨false, [], [], false, []⟩
def S117 : List DV → EvS → Option (DV × EvS) := fun xs s => match xs with
  | [.func (.func g) [] [.ptr id 0]] => match Nat.beq g 224 with
    | true => match s.h.get id with
      | some (.cells _ [.map mid]) => match s.h.get mid with
        | some (.slots sl) => match QhA ((fil sl).map (·.1)) && Nat.ble (fil sl).length 1048576 with
          | true => some (.slice 1 .none (Qal ((Qhn (((fil sl).map fun p => QjA p.1).map bl)).map lb)), s)
          | false => none
        | _ => none
      | _ => none
    | false => none
  | _ => none
def H1 : Hs := fun g => match Nat.beq g 117 with
  | true => some S117
  | false => none
theorem H1ok : QkR Tryz.prog H1 := by
  intro g S hg xs s d s' h
  unfold H1 at hg
  split at hg
  · next hb =>
    have := Nat.eq_of_beq_eq_true hb
    subst this
    simp only [Option.some.injEq] at hg; subst hg
    unfold S117 at h
    split at h
    · next g id =>
      split at h
      · next hg2 =>
        have := Nat.eq_of_beq_eq_true hg2
        subst this
        split at h
        · next t mid h1 =>
          split at h
          · next sl h2 =>
            split at h
            · next hk =>
              simp only [Bool.and_eq_true] at hk
              simp only [Option.some.injEq, Prod.mk.injEq] at h; obtain ⟨rfl, rfl⟩ := h
              refine (hc117 (σ := s.st) h1 h2 hk.1 (Nat.le_of_ble_eq_true hk.2)).mono ?_
              rintro d σ' ⟨rfl, rfl⟩
              exact ⟨by rw [Qhx], rfl⟩
            · simp at h
          · simp at h
        · simp at h
      · simp at h
    · simp at h
  · simp at hg
noncomputable def call (f : Nat) (g : Nat) (xs : List DV) : Option (DV × EvS) := evC Tryz.prog T1 H1 L1 M1 (ev Tryz.prog T1 H1 L1 M1 f) g xs ⟨0, .leaf, .leaf⟩
end Go.Proofs.Yt
namespace Go.Proofs.Yt
open Go Go.Proofs Go.RowKit
set_option maxRecDepth 1000000
theorem un105 : Tryz.prog.underlying 105 = some (.pointer 108) := by kernel_rfl
theorem un243 : Tryz.prog.underlying 243 = some .unsafePointer := by kernel_rfl
theorem mixedB : Tryz.prog.follows .mixedOrders = true := by kernel_rfl
theorem size108 : (Tryz.prog.info? 108).map (·.size) = some 2 := by kernel_rfl
theorem Qki : ∃ j, Tryz.prog.info? 108 = some j ∧ j.size = 2 := Option.map_eq_some_iff.1 size108
theorem copyCheck_used (b : Nat) (w : World) (h0 : w.cell? ⟨b, 0, none⟩ = some (.pointer (some ⟨b, 0, none⟩))) :
    Calls Tryz.prog 262 #[.pointer (some ⟨b, 0, none⟩)] w fun e w' => e = .returned (.tuple #[]) ∧ w' = w := by
  obtain ⟨j, hj, _⟩ := Qki
  go_enter Tryz.func262, Tryz.ntmps262
  go_wp2
  rw [Lib.run_neq_ptr_same w _ un105 hj]
  go_wp2
  go_end0
  exact ⟨rfl, rfl⟩
theorem copyCheck_fresh (b : Nat) (w : World) (h0 : w.cell? ⟨b, 0, none⟩ = some (.pointer none)) (hsh : w.shape? b = some (110, 2)) (hfz : w.frozen? ⟨b, 0, none⟩ = false) :
    Calls Tryz.prog 262 #[.pointer (some ⟨b, 0, none⟩)] w fun e w' => e = .returned (.tuple #[]) ∧ w' = w.setCell ⟨b, 0, none⟩ (.pointer (some ⟨b, 0, none⟩)) := by
  obtain ⟨j, hj, hjs⟩ := Qki
  go_enter Tryz.func262, Tryz.ntmps262
  go_wp2
  rw [Lib.run_to_unsafe w ⟨b, 0, none⟩ un105 un243 hj (by rw [hjs]; decide) hsh (Nat.zero_lt_succ 1)]
  simp only [Result.andThen]
  rw [Oper.upon_value]
  go_wp2
  rw [run_callFunc_extern Tryz.func294 (by kernel_rfl) (by kernel_rfl) (by kernel_rfl) (e := Extern.AbiNoEscape.same) (by kernel_rfl)]
  rw [Lib.run_noEscape]
  simp only [Result.andThen]
  rw [Oper.upon_value]
  go_wp2
  rw [Lib.run_from_unsafe w ⟨b, 0, none⟩ un243 un105 hj hsh (by kernel_rfl)]
  simp only [Result.andThen]
  rw [Oper.upon_value]
  go_wp2
  go_end0
  exact ⟨rfl, rfl⟩
end Go.Proofs.Yt
namespace Go.Proofs.Yt
open Go Go.FA Go.Proofs Go.RowKit
set_option maxRecDepth 1000000
variable {σ : St}
theorem setCell_turned {w : World} {b j : Nat} {c : Array Value} {t : TypeId} {v : Value} (h : w.heap[b]? = some (.cells c t)) : QcW w (w.setCell ⟨b, j, none⟩ v) b (.cells (c.setIfInBounds j v) t) := by
  have hlt : b < w.heap.size := by
    rcases Nat.lt_or_ge b w.heap.size with q | q
    · exact q
    · simp [Array.getElem?_eq_none q] at h
  constructor
  · rfl
  · rfl
  · rfl
  · simp [World.setCell]
  · simp [World.setCell, Array.getElem?_modify, h]
  · intro k hk; exact Below.heap_setCell _ _ _ _ (fun e => hk (by simpa using e))
theorem hc262 {id : Nat} {x p : DV} (h : σ.objs id = some (.cells 110 [p, x])) (hp : p = .lit (.pointer none) ∨ p = .ptr id 0) :
    HC Tryz.prog 262 [.ptr id 0] σ (fun d σ' => d = .lit (.tuple #[]) ∧ σ' = { σ with objs := upd σ.objs id (some (.cells 110 [.ptr id 0, x])) }) := by
  refine ⟨⟨Tryz.f262, _, Tryz.func262, rfl, by decide⟩, fun E C w args hl hs => ?_⟩
  match args, hl with
  | [u], hl =>
    simp only [QP, Qy] at hl
    obtain ⟨⟨b, hb, rfl⟩, _⟩ := hl
    obtain ⟨b1, hb1, hB, hlt, hnp, hnm, vs, hv1, hv2, hfl⟩ := hs.obj _ _ h
    obtain rfl : b = b1 := by rw [hb] at hb1; exact Option.some.inj hb1
    match vs, hv1, hv2, hfl with
    | [v0, v1], hv1, hv2, hfl =>
      simp only [QP] at hv2
      have hc0 : w.cell? ⟨b, 0, none⟩ = some v0 := by rw [cell?_of_cells hv1]; simp
      rcases hp with rfl | rfl
      · simp only [Qy] at hv2
        obtain ⟨rfl, hv2, _⟩ := hv2
        refine (copyCheck_fresh b w hc0 (by simp [World.shape?, hv1]) (by simp [World.frozen?, hv1])).mono ?_
        rintro e w' ⟨rfl, rfl⟩
        have hT := setCell_turned (j := 0) (v := .pointer (some ⟨b, 0, none⟩)) hv1
        have hkk : ∀ c2 e2, w.heap[b]? = some (.cells c2 e2) → ∃ c' e', Obj.cells (#[.pointer none, v1].setIfInBounds 0 (.pointer (some ⟨b, 0, none⟩))) 110 = .cells c' e' ∧ c'.size = c2.size := fun c2 e2 q => by
          rw [hv1] at q; cases q; exact ⟨_, _, rfl, rfl⟩
        have hstep := hT.step hnp hnm hkk
        obtain ⟨hst, hS⟩ := hs.turn (o' := .cells 110 [.ptr id 0, x]) h hb hT hkk ⟨[.pointer (some ⟨b, 0, none⟩), v1], by rw [hT.at_]; rfl, by
          simp only [QP, Qy]; exact ⟨⟨b, hb, rfl⟩, QaH (.refl C) hstep _ _ hv2, trivial⟩, by
          intro y hy
          simp only [List.mem_cons, List.not_mem_nil, or_false] at hy
          rcases hy with rfl | rfl
          · rfl
          · exact hfl _ (by simp)⟩
        exact ⟨_, rfl, _, _, ⟨rfl, rfl⟩, C, .refl C, hst, by simp [Qy], hS⟩
      · simp only [Qy] at hv2
        obtain ⟨⟨b2, hb2, rfl⟩, hv2, _⟩ := hv2
        obtain rfl : b2 = b := by rw [hb] at hb2; exact (Option.some.inj hb2).symm
        refine (copyCheck_used b2 w hc0).mono ?_
        rintro e w' ⟨rfl, rfl⟩
        have : ({ σ with objs := upd σ.objs id (some (.cells 110 [.ptr id 0, x])) } : St) = σ := by
          cases σ; simp only [St.mk.injEq, true_and, and_true]
          funext j; simp only [upd]; split
          · next q => rw [q]; exact h.symm
          · rfl
        exact ⟨_, rfl, _, _, ⟨rfl, rfl⟩, C, .refl C, .refl C _, by simp [Qy], by rw [this]; exact hs⟩
end Go.Proofs.Yt
namespace Go.Proofs
open Go.Shelf
def itoa163_ren : Go.Shelf.Ren := ⟨fun | 171 => 163 | 243 => 263 | 246 => 295 | 283 => 316 | 284 => 317 | 285 => 318 | 286 => 319 | 129 => 261 | 317 => 333 | 318 => 334 | 319 => 335 | 320 => 336 | 337 => 350 | 338 => 351 | n => n, fun | 3 => 3 | 9 => 9 | 2 => 2 | 4 => 4 | 171 => 259 | 0 => 0 | 53 => 218 | 37 => 106 | 5 => 5 | 173 => 261 | 212 => 270 | 51 => 216 | 20 => 20 | 213 => 271 | 46 => 167 | 232 => 282 | 233 => 283 | n => n, fun | 17 => 0 | 18 => 2 | 19 => 3 | n => n⟩
theorem itoa163 : Go.Proofs.LaysM.n171 Tryz.prog itoa163_ren := {
  mixed := by kernel_rfl
  f129 := Tryz.func261.trans (congrArg some (by kernel_rfl))
  f171 := Tryz.func163.trans (congrArg some (by kernel_rfl))
  f243 := Tryz.func263.trans (congrArg some (by kernel_rfl))
  f246 := Tryz.func295.trans (congrArg some (by kernel_rfl))
  f283 := Tryz.func316.trans (congrArg some (by kernel_rfl))
  f284 := Tryz.func317.trans (congrArg some (by kernel_rfl))
  f285 := Tryz.func318.trans (congrArg some (by kernel_rfl))
  f286 := Tryz.func319.trans (congrArg some (by kernel_rfl))
  f317 := Tryz.func333.trans (congrArg some (by kernel_rfl))
  f318 := Tryz.func334.trans (congrArg some (by kernel_rfl))
  f319 := Tryz.func335.trans (congrArg some (by kernel_rfl))
  f320 := Tryz.func336.trans (congrArg some (by kernel_rfl))
  f337 := Tryz.func350.trans (congrArg some (by kernel_rfl))
  f338 := Tryz.func351.trans (congrArg some (by kernel_rfl))
  t0 := Tryz.underlying0
  a0 := Tryz.isAgg0
  z0 := Tryz.sizeOf0
  v0 := Tryz.zeroValue0
  t2 := Tryz.underlying2
  a2 := Tryz.isAgg2
  z2 := Tryz.sizeOf2
  v2 := Tryz.zeroValue2
  t3 := Tryz.underlying3
  a3 := Tryz.isAgg3
  z3 := Tryz.sizeOf3
  v3 := Tryz.zeroValue3
  t4 := Tryz.underlying4
  a4 := Tryz.isAgg4
  z4 := Tryz.sizeOf4
  v4 := Tryz.zeroValue4
  t5 := Tryz.underlying5
  a5 := Tryz.isAgg5
  z5 := Tryz.sizeOf5
  v5 := Tryz.zeroValue5
  t9 := Tryz.underlying9
  a9 := Tryz.isAgg9
  z9 := Tryz.sizeOf9
  v9 := Tryz.zeroValue9
  t20 := Tryz.underlying20
  a20 := Tryz.isAgg20
  z20 := Tryz.sizeOf20
  v20 := Tryz.zeroValue20
  t37 := Tryz.underlying106
  a37 := Tryz.isAgg106
  z37 := Tryz.sizeOf106
  v37 := Tryz.zeroValue106
  t46 := Tryz.underlying167
  a46 := Tryz.isAgg167
  z46 := Tryz.sizeOf167
  v46 := Tryz.zeroValue167
  t51 := Tryz.underlying216
  a51 := Tryz.isAgg216
  z51 := Tryz.sizeOf216
  v51 := Tryz.zeroValue216
  t53 := Tryz.underlying218
  a53 := Tryz.isAgg218
  z53 := Tryz.sizeOf218
  v53 := Tryz.zeroValue218
  t171 := Tryz.underlying259
  a171 := Tryz.isAgg259
  z171 := Tryz.sizeOf259
  v171 := Tryz.zeroValue259
  t173 := Tryz.underlying261
  a173 := Tryz.isAgg261
  z173 := Tryz.sizeOf261
  v173 := Tryz.zeroValue261
  t212 := Tryz.underlying270
  a212 := Tryz.isAgg270
  z212 := Tryz.sizeOf270
  v212 := Tryz.zeroValue270
  t213 := Tryz.underlying271
  a213 := Tryz.isAgg271
  z213 := Tryz.sizeOf271
  t232 := Tryz.underlying282
  a232 := Tryz.isAgg282
  z232 := Tryz.sizeOf282
  v232 := Tryz.zeroValue282
  t233 := Tryz.underlying283
  a233 := Tryz.isAgg283
  z233 := Tryz.sizeOf283
  v233 := Tryz.zeroValue283
  g17 := by kernel_rfl
  g18 := by kernel_rfl
  g19 := by kernel_rfl
  i0 := by kernel_rfl
  i2 := by kernel_rfl
  i3 := by kernel_rfl
  i4 := by kernel_rfl
  i5 := by kernel_rfl
  i9 := by kernel_rfl
  i20 := by kernel_rfl
  i37 := by kernel_rfl
  i46 := by kernel_rfl
  i51 := by kernel_rfl
  i53 := by kernel_rfl
  i171 := by kernel_rfl
  i173 := by kernel_rfl
  i212 := by kernel_rfl
  i232 := by kernel_rfl
  i233 := by kernel_rfl
  m17 := by kernel_rfl
  m18 := by kernel_rfl
  m19 := by kernel_rfl }
end Go.Proofs
namespace Go.Proofs.Yt
open Go Go.FA Go.Proofs Go.RowKit
set_option maxRecDepth 100000
theorem pow10_tab {C : Ctx} {w : World} (h : Qkm C w) : Lib.TabIs Tryz.prog w "internal/strconv.uint64pow10" .u64 Lib.pow10Tab := by
  obtain ⟨_, e, f, h1⟩ := h (0, _) (List.mem_cons_self ..)
  have hg : Tryz.prog.globalNamed "internal/strconv.uint64pow10" = some 0 := by kernel_rfl
  show World.var? Tryz.prog w _ = _
  unfold World.var?
  rw [hg]
  simp only [Option.bind_some]
  simp only [] at h1
  rw [h1]
  have : (Lib.pow10Tab.map fun z => Value.int .u64 z) = [.int .u64 1, .int .u64 10, .int .u64 100, .int .u64 1000, .int .u64 10000, .int .u64 100000, .int .u64 1000000, .int .u64 10000000, .int .u64 100000000, .int .u64 1000000000, .int .u64 10000000000, .int .u64 100000000000, .int .u64 1000000000000, .int .u64 10000000000000, .int .u64 100000000000000, .int .u64 1000000000000000, .int .u64 10000000000000000, .int .u64 100000000000000000, .int .u64 1000000000000000000, .int .u64 10000000000000000000] := by kernel_rfl
  rw [this]
def s163 : Sp := fun xs => match xs with
  | [.lit (.int .i64 n)] => if -9223372036854775808 ≤ n ∧ n ≤ 9223372036854775807 then some (.lit (.string ⟨(Lib.itoa n).toArray⟩)) else none
  | _ => none
theorem c163 : Qb Tryz.prog 163 s163 := by
  intro args r hr
  unfold s163 at hr
  split at hr
  · next n =>
    split at hr
    · next hn =>
      simp only [Option.some.injEq] at hr; subst hr
      refine .inl ⟨rfl, fun C w cargs hgl hpc hpm hl => ?_⟩
      match cargs, hl with
      | [v], hl =>
        simp only [QP, Qy] at hl
        obtain ⟨rfl, _⟩ := hl
        refine (Any.strconv_Itoa itoa163 n hn.1 hn.2 w (pow10_tab hgl)).mono ?_
        rintro e w' ⟨rfl, k, os, rfl⟩
        exact ⟨_, rfl, Lib.below_grow _ w (Nat.le_refl _) k os, by simp [Qy]⟩
    · simp at hr
  · simp at hr
end Go.Proofs.Yt
namespace Go.Proofs.Yt
open Go Go.FA Go.Proofs Go.RowKit
set_option maxRecDepth 1000000
def isSelf (id : Nat) : DV → Bool
  | .lit (.pointer none) => true
  | .ptr i o => Nat.beq i id && Nat.beq o 0
  | _ => false
theorem isSelf_spec {id : Nat} {p : DV} (h : isSelf id p = true) : p = .lit (.pointer none) ∨ p = .ptr id 0 := by
  unfold isSelf at h
  split at h
  · exact .inl rfl
  · simp only [Bool.and_eq_true] at h
    rw [Nat.eq_of_beq_eq_true h.1, Nat.eq_of_beq_eq_true h.2]; exact .inr rfl
  · simp at h
def S262 : List DV → EvS → Option (DV × EvS) := fun xs s => match xs with
  | [.ptr id 0] => match s.h.get id with
    | some (.cells t [p, x]) => match Nat.beq t 110 && isSelf id p with
      | true => some (.lit (.tuple #[]), ⟨s.n, s.h.put id (some (.cells 110 [.ptr id 0, x])), s.tk⟩)
      | false => none
    | _ => none
  | _ => none
theorem S262ok {xs : List DV} {s s' : EvS} {d : DV} (h : S262 xs s = some (d, s')) : HC Tryz.prog 262 xs s.st (fun d2 σ2 => d2 = d ∧ σ2 = s'.st) := by
  unfold S262 at h
  split at h
  · next id =>
    split at h
    · next t p x ho =>
      split at h
      · next hc =>
        simp only [Bool.and_eq_true] at hc
        have ht := Nat.eq_of_beq_eq_true hc.1
        subst ht
        simp only [Option.some.injEq, Prod.mk.injEq] at h; obtain ⟨rfl, rfl⟩ := h
        refine (hc262 (σ := s.st) (x := x) (p := p) (by simp only [EvS.st]; exact ho) (isSelf_spec hc.2)).mono ?_
        rintro d2 σ2 ⟨rfl, rfl⟩
        refine ⟨rfl, ?_⟩
        simp only [EvS.st, St.mk.injEq, true_and, and_true]
        funext j; rw [Tr.get_put]; rfl
      · simp at h
    · simp at h
  · simp at h
end Go.Proofs.Yt
namespace Go.Proofs.Yt
open Go Go.FA Go.Proofs Go.RowKit Go.Proofs.Y
set_option maxRecDepth 1000000
noncomputable def T7 : Tab := Qf [(163, s163), (237, s237), (285, Qh9), (296, s296)]
def H7 : Hs := fun g => match Nat.beq g 262 with
  | true => some S262
  | false => H1 g
theorem H7ok : QkR Tryz.prog H7 := by
  intro g S hg xs s d s' h
  unfold H7 at hg
  split at hg
  · next hb =>
    have := Nat.eq_of_beq_eq_true hb
    subst this
    simp only [Option.some.injEq] at hg; subst hg
    exact S262ok h
  · exact H1ok g S hg xs s d s' h
def M7 : FuncId → Go.FA.Mode := fun g => match g with
  | 93 => ⟨true, [], [], false, []⟩
  | 162 => ⟨true, [], [], false, []⟩
  | 167 => ⟨false, [], [], false, [(3, [5])]⟩
  | 22 => ⟨false, [], [], false, [(1, [1]), (2, [2]), (3, [3]), (10, [16]), (11, [18]), (12, [20])]⟩
  | g => M1 g
noncomputable def QjC (m : Go.FA.Mode) : List Code → Tr DV → EvS → Option (Tr DV × EvS)
  | [], r, s => some (r, s)
  | c :: cs, r, s => match ev Tryz.prog T7 H7 L1 M7 1000 m c r s with
    | some (.normal, r', s') => QjC m cs r' s'
    | _ => none
end Go.Proofs.Yt
namespace Go.FA
open Go.RowKit
variable {P : Program} {T : Tab} {E : Entry} {σ : St} {n : Nat} {a : Nat → DV} {ops : Array Oper} {K : (Nat → DV) → St → Prop} {i : Nat} {rest : List Nat} {o : Oper}
theorem Rg.reset (hE : E.Lone) {f : FuncId} {x : Operand} {tys : Array TypeId} {r : Value} (hd : Q8 n ops = true) (ho : ops[i]? = some o) (hw : Qo ops a o.guard = some true)
    (hop : o.op = .call ⟨.value (.func f), #[x], tys⟩) (hfn : ∃ fn c, P.funcs[f]? = some fn ∧ fn.body = some c ∧ fn.name ≠ "runtime.NumGoroutine")
    (hcall : ∀ (C : Ctx) (w : World) (v : Value), Qav E (fun k => σ.n ≤ k) C w σ → Qy C w (eval a x) v → Calls P f #[v] w fun e w' => e = .returned r ∧ Below E.B w w')
    (h : Rg P E n ops K rest (QN (fun _ => .junk) o.dst (.lit r)) { n := σ.n, objs := fun _ => none, toks := fun _ => none }) : Rg P E n ops K (i :: rest) a σ := by
  intro ca w ds Q hok hq
  obtain ⟨hn, C, hg, hs⟩ := hok
  have hf := hg.rel
  simp only [wpOps, ho]
  rw [if_pos (Qaf hw hf hn hd)]
  left
  have hr : (execOp (Act.eval ⟨ca, ds⟩) o).run P w = .ok (.enter f #[Act.eval ⟨ca, ds⟩ x]) w := by
    obtain ⟨fn, c, q1, q2, q3⟩ := hfn
    have : Act.eval ⟨ca, ds⟩ (.func f) = .func (.func f) #[] #[] := rfl
    simp only [execOp, hop, resolve, this, Deferred.ofValue, Sem.run_bind, Sem.run_pure, Result.andThen_ok, invoke, callFunc, run_program, q1]
    simp [q2, q3]
  unfold Oper.wp Oper.upon
  rw [hr]
  refine (hcall C w _ hs (Qae (ds := ds) hf x)).mono ?_
  rintro e w' ⟨rfl, hb⟩
  have hS' : Qav E (fun k => σ.n ≤ k) ⟨fun _ => none, fun _ => none, E.P0, E.M0, E.B⟩ w' { n := σ.n, objs := fun _ => none, toks := fun _ => none } :=
    ⟨rfl, hs.below.trans hb, Nat.le_trans hs.bsize hb.size, hs.pB, hs.mB, fun _ _ p => p, fun _ p => p, fun b o p => .inl p, fun b p => .inl p, fun i o hi => by simp at hi, fun i j oi oj b hi => by simp at hi, fun t g ht => by simp at ht, fun t t' g g' x x' ht => by simp at ht, fun t g x i o ht => by simp at ht, fun i _ => ⟨rfl, rfl⟩⟩
  have hbw := hS'.below
  have hG : QjX E ⟨fun _ => none, fun _ => none, E.P0, E.M0, E.B⟩ w' (fun _ => .junk) ca := by
    refine ⟨fun t => by simp only [Qy], ⟨fun i b e => (by rw [hE.obj] at e; cases e), fun t x e => (by rw [hE.tk] at e; cases e), fun b o p => hE.pc _ _ p, fun b p => hE.pm _ p, hE.lo.symm⟩, ?_⟩
    refine ⟨fun b o p => ?_, fun b p => ?_, fun b c e p1 p2 => ?_⟩
    · rw [hE.w]; exact World.cell?_of_block (w := E.w0) (hbw.block b (hs.pB _ _ (hE.pc _ _ p)))
    · rw [hE.w]; exact hbw.block b (hs.mB _ (hE.pm _ p))
    · exfalso
      rw [hE.lo] at p1
      have : b < E.gw.heap.size := by
        rcases Nat.lt_or_ge b E.gw.heap.size with q | q
        · exact q
        · simp [Array.getElem?_eq_none q] at p2
      rw [hE.size] at this; omega
  show wpOps P ops Q rest (Act.put ⟨ca, ds⟩ o.dst r) w'
  rw [put_eq]
  exact h _ _ _ _ ⟨by rw [Qaq]; exact hn, _, hG.put (by simp only [Qy]) (Ok.dst hn hd ho), hS'⟩ hq
end Go.FA
namespace Go.Proofs.Yt
open Go Go.Proofs Go.RowKit
set_option maxRecDepth 1000000
theorem un177 : Tryz.prog.underlying 177 = some (.pointer 5) := by kernel_rfl
theorem cells5 : Tryz.prog.cellsOf 5 = 1 := by kernel_rfl
set_option maxHeartbeats 1000000 in
theorem string_raw (B b g n cap : Nat) (p : Value) (cur : Array Value) (l : List UInt8) (w : World) (hbk : w.heap[b]? = some (.cells #[p, .slice (some ⟨g, 0, none⟩) n cap] 110 (0, 0)))
    (hbg : B ≤ g) (hg : w.heap[g]? = some (.cells cur 5 (0, 0))) (hn : n = l.length) (h0 : l ≠ []) (hnc : n ≤ cap) (hcs : cap ≤ cur.size) (h63 : l.length ≤ 9223372036854775807)
    (hcell : ∀ j x, l[j]? = some x → w.cell? ⟨g, j, none⟩ = some (.int .u8 x.toNat)) :
    Calls Tryz.prog 99 #[.pointer (some ⟨b, 0, none⟩)] w fun e w' => e = .returned (.string ⟨l.toArray⟩) ∧ Below B w w' := by
  subst hn
  have hl0 : l.length ≠ 0 := by simpa using h0
  have c1 : w.drew.cell? ⟨b, 1, none⟩ = some (.slice (some ⟨g, 0, none⟩) l.length cap) := by
    have : w.drew.heap[b]? = some (.cells #[p, .slice (some ⟨g, 0, none⟩) l.length cap] 110 (0, 0)) := hbk
    rw [Lib.cell_of_heap this]; rfl
  have hSD : (Builtin.unsafeSliceData_ #[106] 177 #[.slice (some ⟨g, 0, none⟩) l.length cap]).run Tryz.prog w.drew = .ok (.pointer (some ⟨g, 0, none⟩)) w.drew :=
    Lib.run_unsafeSliceData_row _ _ _ _ _ _ (by omega)
  have hUS : (Builtin.unsafeString_ #[177, 3] 9 #[.pointer (some ⟨g, 0, none⟩), .int .i64 l.length]).run Tryz.prog w.drew = .ok (.string ⟨l.toArray⟩) (w.drew.freeze ⟨g, 0, none⟩ l.length) := by
    refine Lib.run_unsafeString_row w.drew 177 3 9 5 un177 cells5 g cur.size (by have hg' : w.drew.heap[g]? = some (.cells cur 5 (0, 0)) := hg; simp [World.shape?, hg']) l h0 (by omega) h63 ?_
    intro j x hx
    have := hcell j x hx
    rw [Addr.add_lit, Nat.zero_add]; exact this
  have mixed := mixedB
  have t108 := Tryz.underlying108; have a108 := Tryz.isAgg108; have z108 := Tryz.sizeOf108; have v108 := Tryz.zeroValue108; have u108 := run_underlying Tryz.underlying108
  have t105 := Tryz.underlying105; have a105 := Tryz.isAgg105; have z105 := Tryz.sizeOf105; have v105 := Tryz.zeroValue105; have u105 := run_underlying Tryz.underlying105
  have t106 := Tryz.underlying106; have a106 := Tryz.isAgg106; have z106 := Tryz.sizeOf106; have v106 := Tryz.zeroValue106; have u106 := run_underlying Tryz.underlying106
  have t177 := Tryz.underlying177; have a177 := Tryz.isAgg177; have z177 := Tryz.sizeOf177; have v177 := Tryz.zeroValue177; have u177 := run_underlying Tryz.underlying177
  have t3 := Tryz.underlying3; have a3 := Tryz.isAgg3; have z3 := Tryz.sizeOf3; have v3 := Tryz.zeroValue3; have u3 := run_underlying Tryz.underlying3
  have t9 := Tryz.underlying9; have a9 := Tryz.isAgg9; have z9 := Tryz.sizeOf9; have v9 := Tryz.zeroValue9; have u9 := run_underlying Tryz.underlying9
  have t5 := Tryz.underlying5; have a5 := Tryz.isAgg5; have z5 := Tryz.sizeOf5; have v5 := Tryz.zeroValue5; have u5 := run_underlying Tryz.underlying5
  go_enter Tryz.func99, Tryz.ntmps99
  go_wp2
  go_region_o
  all_goals (go_wp2; go_ret; exact ⟨rfl, Lib.below_freeze (Below.drew (Below.refl B w)) (p := ⟨g, 0, none⟩) hbg _⟩)
end Go.Proofs.Yt
namespace Go.Proofs.Yt
open Go Go.FA Go.Proofs Go.RowKit Go.Proofs.Y
set_option maxRecDepth 1000000
theorem T7ok : QH Tryz.prog T7 := QH.cons ⟨c163, Tryz.f163, _, Tryz.func163, rfl, by decide⟩ (QH.cons e237 (QH.cons e285i (QH.cons e296 QH.nil)))
def QkF : List Code → Code → Code
  | [], r => r
  | c :: cs, r => .seq c (QkF cs r)
def QkY (n : Nat) : List Code → Bool
  | [] => true
  | c :: cs => codeOk n c && QkY n cs
theorem QjT {m : Go.FA.Mode} {E : Entry} {n : Nat} {rest : Code} {Q : Ex → (Nat → DV) → St → Prop} : ∀ (cs : List Code) (r : Tr DV) (s : EvS) (r' : Tr DV) (s' : EvS), QkY n cs = true → QjC m cs r s = some (r', s') →
    Dwp Tryz.prog T7 E n rest Q (rg r') s'.st → Dwp Tryz.prog T7 E n (QkF cs rest) Q (rg r) s.st
  | [], r, s, r', s', _, h, hd => by
    simp only [QjC, Option.some.injEq, Prod.mk.injEq] at h
    obtain ⟨rfl, rfl⟩ := h; exact hd
  | c :: cs, r, s, r', s', hok, h, hd => by
    simp only [QkY, Bool.and_eq_true] at hok
    simp only [QjC] at h
    split at h
    · next r1 s1 he =>
      refine Dwp.seq ((Qi5 mixed T7ok H7ok unnamed 1000 m c r s _ r1 s1 he n hok.1 E).mono ?_)
      rintro e a σ ⟨rfl, rfl, rfl⟩
      exact QjT cs r1 s1 r' s' hok.2 h hd
    · simp at h
end Go.Proofs.Yt
namespace Go.Proofs.Yt
open Go Go.FA Go.Proofs Go.RowKit
set_option maxRecDepth 1000000
def Enc.strErr : Enc (ByteArray × Int) := Enc.tup (QR Enc.str Enc.i64)
def regOf (n : Nat) : Code → Option (Array Oper)
  | .region r ops _ => if Nat.beq r n then some ops else none
  | .seq a b => match regOf n a with | some o => some o | none => regOf n b
  | _ => none
noncomputable def opsOf (g n : Nat) : Array Oper := match Tryz.prog.funcs[g]? with
  | some fn => match fn.body with
    | some c => match regOf n c with | some o => o | none => #[]
    | none => #[]
  | none => #[]
theorem bytes_vals {C : Ctx} {w : World} {s : ByteArray} {vs : List Value} (h : QP C w (bytesD s) vs) : vs = bytesV s := by
  unfold bytesD at h; unfold bytesV
  generalize s.data.toList = l at h ⊢
  induction l generalizing vs with
  | nil => match vs, h with
    | [], _ => rfl
  | cons b l ih => match vs, h with
    | v :: vs, h =>
      simp only [List.map_cons, QP, Qy] at h ⊢
      obtain ⟨rfl, h⟩ := h
      rw [ih h]
theorem QfI {E : Entry} {σ : St} {id bid : Nat} {p : DV} {s : ByteArray} (h1 : σ.objs id = some (.cells 110 [p, .live bid 1 0 s.size])) (h2 : σ.objs bid = some (.buf 5 (bytesD s))) (h0 : s.size ≠ 0) (h63 : s.size ≤ 9223372036854775807) :
    ∀ (C : Ctx) (w : World) (v : Value), Qav E (fun k => σ.n ≤ k) C w σ → Qy C w (.ptr id 0) v → Calls Tryz.prog 99 #[v] w fun e w' => e = .returned (.string s) ∧ Below E.B w w' := by
  intro C w v hs hv
  simp only [Qy] at hv
  obtain ⟨b, hb, rfl⟩ := hv
  obtain ⟨b1, hb1, hB, hlt, hnp, hnm, vs, hv1, hv2, hfl⟩ := hs.obj _ _ h1
  obtain rfl : b = b1 := by rw [hb] at hb1; exact Option.some.inj hb1
  match vs, hv1, hv2 with
  | [v0, v1], hv1, hv2 =>
    simp only [QP, Qy] at hv2
    obtain ⟨_, ⟨g, cap, cur, e, hg1, rfl, hcap, hlo, hheap, hsz⟩, _⟩ := hv2
    obtain ⟨g1, hg2, hgB, hglt, hgp, hgm, vs2, tl, hh, hl, hf⟩ := hs.obj _ _ h2
    obtain rfl : g = g1 := by rw [hg1] at hg2; exact Option.some.inj hg2
    have hvs := bytes_vals hl
    subst hvs
    rw [hh] at hheap
    cases hheap
    have hlen : s.data.toList.length = s.size := by simp
    refine (string_raw E.B b g s.size cap v0 _ s.data.toList w hv1 hgB hh hlen.symm (fun e => h0 (by rw [← hlen, e]; rfl)) hcap (by omega) (by omega) ?_).mono ?_
    · intro j x hx
      rw [cell?_of_cells hh]
      have hjl : j < (bytesV s).length := by
        rcases Nat.lt_or_ge j s.data.toList.length with q | q
        · rw [Qh5, ← hlen]; exact q
        · rw [List.getElem?_eq_none q] at hx; cases hx
      simp only [List.getElem?_toArray]
      rw [List.getElem?_append_left hjl]
      simp [bytesV, hx]
    · rintro e w' ⟨rfl, hb⟩
      exact ⟨by simp, hb⟩
end Go.Proofs.Yt

namespace Go.Proofs.Yt
open Go Go.FA Go.Proofs Go.RowKit Go.Proofs.Y
set_option maxRecDepth 1000000
noncomputable def body43 : Code := match Tryz.f43.body with
  | some c => c
  | none => .skip
def spine : Code → List Code
  | .seq a b => a :: spine b
  | c => [c]
noncomputable def QkZ : List Code := (spine body43).take 5
theorem body43_eq : Tryz.f43.body = some (QkF QkZ (.seq (.region 7 (opsOf 43 7) false) .ret)) := by kernel_rfl
def Qeo : List DV → List UInt8 → Bool
  | [], [] => true
  | .lit (.int .u8 k) :: ds, b :: bs => (match k with | .ofNat m => Nat.beq m b.toNat | _ => false) && Qeo ds bs
  | _, _ => false
theorem Qex : ∀ {ds : List DV} {bs : List UInt8}, Qeo ds bs = true → ds = bs.map fun b => .lit (.int .u8 b.toNat)
  | [], [], _ => rfl
  | d :: ds, b :: bs, h => by
    unfold Qeo at h
    split at h
    · next heq => cases heq
    · next k ds' b' bs' h1 h2 =>
      cases h1; cases h2
      simp only [Bool.and_eq_true] at h
      obtain ⟨h1, h2⟩ := h
      split at h1
      · next m => rw [Nat.eq_of_beq_eq_true h1, Qex h2]; rfl
      · simp at h1
    · simp at h
  | [], _ :: _, h => by simp [Qeo] at h
  | _ :: _, [], h => by simp [Qeo] at h
def wrote (l : List UInt8) (r : Option (Tr DV × EvS)) : Bool := match r with
  | some (r, s) => match rg r 4 with
    | .ptr id 0 => match s.h.get id with
      | some (.cells t [_, .live bid 1 0 n]) => match s.h.get bid with
        | some (.buf u bs) => Nat.beq t 110 && Nat.beq u 5 && Nat.beq n l.length && Qeo bs l && Nat.beq 4 4
        | _ => false
      | _ => false
    | _ => false
  | none => false
theorem wrote_spec {l : List UInt8} {q : Option (Tr DV × EvS)} (h : wrote l q = true) : ∃ r s id bid p, q = some (r, s) ∧ rg r 4 = .ptr id 0 ∧ s.st.objs id = some (.cells 110 [p, .live bid 1 0 l.length]) ∧ s.st.objs bid = some (.buf 5 (l.map fun b => .lit (.int .u8 b.toNat))) := by
  unfold wrote at h
  split at h
  · next r s =>
    split at h
    · next id h4 =>
      split at h
      · next t p bid n h1 =>
        split at h
        · next u bs h2 =>
          simp only [Bool.and_eq_true] at h
          obtain ⟨⟨⟨⟨e1, e2⟩, e3⟩, e4⟩, _⟩ := h
          have e1 := Nat.eq_of_beq_eq_true e1; have e2 := Nat.eq_of_beq_eq_true e2; have e3 := Nat.eq_of_beq_eq_true e3
          subst e1 e2 e3
          rw [Qex e4] at h2
          exact ⟨r, s, id, bid, p, rfl, h4, h1, h2⟩
        · simp at h
      · simp at h
    · simp at h
  · simp at h
theorem text_end (E : Qkl) {σ : St} {a : Nat → DV} {id bid : Nat} {p : DV} {s : ByteArray} (ha : a 4 = .ptr id 0) (h1 : σ.objs id = some (.cells 110 [p, .live bid 1 0 s.size])) (h2 : σ.objs bid = some (.buf 5 (bytesD s))) (h0 : s.size ≠ 0) (h63 : s.size ≤ 9223372036854775807) :
    Dwp Tryz.prog T7 E.1 Tryz.f43.ntmps (.seq (.region 7 (opsOf 43 7) false) .ret) (Q3 Tryz.prog Tryz.f43.results Enc.strErr (s, 0)) a σ := by
  have hd : Q8 Tryz.f43.ntmps (opsOf 43 7) = true := by kernel_rfl
  have o0 : ((opsOf 43 7)[0]?).map (fun o => (o.op, o.dst, o.guard)) = some (.fieldAddr 110 (.tmp 4) 0, some 13, .none) := by kernel_rfl
  have o1 : ((opsOf 43 7)[1]?).map (fun o => (o.op, o.dst, o.guard)) = some (.call ⟨.value (.func 99), #[.tmp 13], #[108]⟩, some 14, .none) := by kernel_rfl
  have o2 : ((opsOf 43 7)[2]?).map (fun o => (o.op, o.dst, o.guard)) = some (.assign (.tmp 14), some 2, .none) := by kernel_rfl
  have o3 : ((opsOf 43 7)[3]?).map (fun o => (o.op, o.dst, o.guard)) = some (.assign (.const (.int .i64 0)), some 3, .none) := by kernel_rfl
  obtain ⟨p0, q0, e0⟩ := Option.map_eq_some_iff.1 o0
  obtain ⟨p1, q1, e1⟩ := Option.map_eq_some_iff.1 o1
  obtain ⟨p2, q2, e2⟩ := Option.map_eq_some_iff.1 o2
  obtain ⟨p3, q3, e3⟩ := Option.map_eq_some_iff.1 o3
  simp only [Prod.mk.injEq] at e0 e1 e2 e3
  refine Dwp.stepH fun K hK => ?_
  have hsz : List.range (opsOf 43 7).size = [0, 1, 2, 3] := by kernel_rfl
  rw [hsz]
  refine Rg.op0 (d := .ptr id 0) (σ1 := σ) (id := 0) T7ok hd q0 (by rw [e0.2.2]; rfl) (by rw [e0.1]; rfl) (by rw [e0.1]; simp [dop, Qa, QbS, Qbr, eval, ha]) rfl ?_
  rw [e0.2.1]
  refine Rg.reset (f := 99) (x := .tmp 13) (tys := #[108]) (r := .string s) E.2 hd q1 (by rw [e1.2.2]; rfl) e1.1 ⟨Tryz.f99, _, Tryz.func99, rfl, by decide⟩ ?_ ?_
  · intro C w v hs hv
    simp only [eval, QN, upd] at hv
    exact QfI h1 h2 h0 h63 C w v hs (by simpa using hv)
  · rw [e1.2.1]
    refine Rg.op0 (d := .lit (.string s)) (σ1 := { n := σ.n, objs := fun _ => none, toks := fun _ => none }) (id := 0) T7ok hd q2 (by rw [e2.2.2]; rfl) (by rw [e2.1]; rfl) (by rw [e2.1]; simp [dop, eval, QN, upd]) rfl ?_
    rw [e2.2.1]
    refine Rg.op0 (d := .lit (.int .i64 0)) (σ1 := { n := σ.n, objs := fun _ => none, toks := fun _ => none }) (id := 0) T7ok hd q3 (by rw [e3.2.2]; rfl) (by rw [e3.1]; rfl) (by rw [e3.1]; simp [dop, eval, Qr]) rfl ?_
    rw [e3.2.1]
    refine Rg.nil (hK _ _ (Dwp.ret ?_))
    refine ⟨.inr rfl, .tuple [.lit (.string s), .lit (.int .i64 0)], ?_, ?_⟩
    · show Qh Tryz.prog _ _ [.tmp 2, .tmp 3] = _
      simp [Qh, QW, QN, upd]
    · simp [Enc.strErr, Enc.tup, QR, Ql.and, Ql.one, Enc.str, Enc.i64, Enc.int, frz, Q0, Q2]
def beqB (a b : ByteArray) : Bool := decide (a.data.toList = b.data.toList)
theorem Qfq {a b : ByteArray} (h : beqB a b = true) : a = b := by
  have := of_decide_eq_true h
  cases a; cases b; simp only [ByteArray.mk.injEq]; exact Array.ext' this
mutual
def QkU : Tm → Tm → Bool
  | .mk k n t s ks r, .mk k' n' t' s' ks' r' => decide (k = k') && decide (n = n') && beqB t t' && beqB s s' && Qif ks ks' && Qif r r'
def Qif : List Tm → List Tm → Bool
  | [], [] => true
  | x :: xs, y :: ys => QkU x y && Qif xs ys
  | _, _ => false
end
mutual
theorem QdB : ∀ (x y : Tm), QkU x y = true → x = y
  | .mk k n t s ks r, .mk k' n' t' s' ks' r', h => by
    simp only [QkU, Bool.and_eq_true, decide_eq_true_eq] at h
    obtain ⟨⟨⟨⟨⟨rfl, rfl⟩, h1⟩, h2⟩, h3⟩, h4⟩ := h
    rw [Qfq h1, Qfq h2, Qes _ _ h3, Qes _ _ h4]
theorem Qes : ∀ (xs ys : List Tm), Qif xs ys = true → xs = ys
  | [], [], _ => rfl
  | x :: xs, y :: ys, h => by
    simp only [Qif, Bool.and_eq_true] at h
    rw [QdB x y h.1, Qes xs ys h.2]
  | [], _ :: _, h => by simp [Qif] at h
  | _ :: _, [], h => by simp [Qif] at h
end
def Qkr (k n : Int) (t s : List UInt8) : Tm := .mk k n ⟨t.toArray⟩ ⟨s.toArray⟩ [] []
def t0T : Tm := .mk 5 0 ⟨#[112, 108, 117, 115]⟩ ⟨#[]⟩ [Qkr 6 0 [88] [73, 110, 116], .mk 7 0 ⟨#[]⟩ ⟨#[]⟩ [Qkr 1 (-1) [] []] [Qkr 6 0 [76] [76, 105, 115, 116]]] []
def t0S : List UInt8 := [112, 108, 117, 115, 40, 88, 58, 73, 110, 116, 44, 32, 91, 45, 49, 32, 124, 32, 76, 93, 41]
theorem wrote0 : wrote t0S (QjC (M7 43) QkZ (QhW 0 [.agg t0T.cells] .leaf) ⟨0, .leaf, .leaf⟩) = true := by kernel_rfl
theorem pre43_ok : QkY Tryz.f43.ntmps QkZ = true := by kernel_rfl
def s43 : Sp := sp (Ql.one Enc.tm) Enc.strErr (fun t => if QkU t t0T then some (⟨t0S.toArray⟩, 0) else none)
theorem c43 : Qb Tryz.prog 43 s43 := by
  refine Qb.of_sp (T := T7) Tryz.func43 body43_eq (by decide) fun E t y hy => ?_
  split at hy
  · next ht =>
    have := QdB _ _ ht
    subst this
    simp only [Option.some.injEq] at hy; subst hy
    obtain ⟨r, s, id, bid, p, hrun, h4, h1, h2⟩ := wrote_spec wrote0
    have key := QjT (E := E.1) (n := Tryz.f43.ntmps) (rest := .seq (.region 7 (opsOf 43 7) false) .ret) (Q := Q3 Tryz.prog Tryz.f43.results Enc.strErr (⟨t0S.toArray⟩, 0)) QkZ _ _ r s pre43_ok hrun
      (text_end E h4 (s := ⟨t0S.toArray⟩) h1 h2 (by decide) (by decide))
    rw [QjV] at key
    exact key
  · simp at hy
noncomputable def T8 : Tab := Qf [(43, s43), (163, s163), (237, s237), (285, Qh9), (296, s296)]
theorem T8ok : QH Tryz.prog T8 := QH.cons ⟨c43, Tryz.f43, _, Tryz.func43, rfl, by decide⟩ (QH.cons ⟨c163, Tryz.f163, _, Tryz.func163, rfl, by decide⟩ (QH.cons e237 (QH.cons e285i (QH.cons e296 QH.nil))))
noncomputable def call8 (f : Nat) (g : Nat) (xs : List DV) : Option (DV × EvS) := evC Tryz.prog T8 H7 L1 M7 (ev Tryz.prog T8 H7 L1 M7 f) g xs ⟨0, .leaf, .leaf⟩
end Go.Proofs.Yt
namespace Go.FA
open Go.RowKit
variable {P : Program} {T : Tab} {E : Entry} {n : Nat} {Q : Ex → (Nat → DV) → St → Prop} {a : Nat → DV} {σ : St}
def QiW (L : List Nat) (a0 a : Nat → DV) : Prop := ∀ r ∈ L, a r = a0 r
theorem QiW.refl (L : List Nat) (a : Nat → DV) : QiW L a a := fun _ _ => rfl
theorem QiW.upd {L : List Nat} {a0 a : Nat → DV} (h : QiW L a0 a) {t : Nat} (ht : t ∉ L) (d : DV) : QiW L a0 (upd a t d) := fun r hr => by
  have : r ≠ t := fun e => ht (e ▸ hr)
  rw [Qe6 _ _ _ _ this]; exact h r hr
theorem QiW.trans {L : List Nat} {a0 a1 a2 : Nat → DV} (h : QiW L a0 a1) (h' : QiW L a1 a2) : QiW L a0 a2 := fun r hr => (h' r hr).trans (h r hr)
@[simp] theorem Keep_nil (a0 a : Nat → DV) : QiW [] a0 a ↔ True := by simp [QiW]
@[simp] theorem Keep_cons (r : Nat) (L : List Nat) (a0 a : Nat → DV) : QiW (r :: L) a0 a ↔ a r = a0 r ∧ QiW L a0 a := by simp [QiW]
def Qjs (b0 b1 t' idx : Nat) (len : Nat) (N i : Nat) (J : Nat → (Nat → DV) → St → Prop) (Q : Ex → (Nat → DV) → St → Prop) : Ex → (Nat → DV) → St → Prop
  | .exit id, a, σ => if id = b1 then a idx = .lit (.int .i64 i) ∧ a len = .lit (.int .i64 N) ∧ J (i + 1) (upd (upd a t' (.lit (.int .i64 (i + 1 : Nat)))) idx (.lit (.int .i64 (i + 1 : Nat)))) { σ with n := σ.n + 2 } else if id = b0 then Q .normal a σ else Q (.exit id) a σ
  | .normal, a, σ => a idx = .lit (.int .i64 i) ∧ a len = .lit (.int .i64 N) ∧ J (i + 1) (upd (upd a t' (.lit (.int .i64 (i + 1 : Nat)))) idx (.lit (.int .i64 (i + 1 : Nat)))) { σ with n := σ.n + 2 }
  | .ret, a, σ => Q .ret a σ
theorem Qg4 (i : Nat) (h : i < 4611686018427387904) : IntKind.i64.wrap ((i : Int) + 1) = ((i + 1 : Nat) : Int) := by
  simp [IntKind.wrap, IntKind.bits, IntKind.signed]; omega
theorem Dwp.range {b0 b1 r1 r2 : Nat} {body : Code} {o1 o2 o3 : Oper} {t idx len t' ty ty' : Nat} (hT : QH P T) (N : Nat) (J : Nat → (Nat → DV) → St → Prop)
    (e1 : o1.op = .binOp .lss ty (.tmp idx) (.tmp len) ty ∧ o1.dst = some t ∧ o1.guard = none) (e2 : o2.op = .binOp .add ty' (.tmp idx) (.const (.int .i64 1)) ty' ∧ o2.dst = some t' ∧ o2.guard = none)
    (e3 : o3.op = .move (.tmp t') ∧ o3.dst = some idx ∧ o3.guard = none) (hd : t < n ∧ t' < n ∧ idx < n) (hne : b1 ≠ b0 ∧ t ≠ idx ∧ t ≠ len ∧ t' ≠ idx ∧ t' ≠ len ∧ idx ≠ len)
    (hN : N < 4611686018427387904) (hidx : a idx = .lit (.int .i64 (0 : Nat))) (hlen : a len = .lit (.int .i64 N)) (h0 : J 0 a σ)
    (round : ∀ i a σ, i < N → a idx = .lit (.int .i64 i) → a len = .lit (.int .i64 N) → J i a σ → Dwp P T E n body (Qjs b0 b1 t' idx len N i J Q) (upd a t (.lit (.bool true))) { σ with n := σ.n + 1 })
    (after : ∀ a σ, a idx = .lit (.int .i64 N) → a len = .lit (.int .i64 N) → J N a σ → Q .normal (upd a t (.lit (.bool false))) { σ with n := σ.n + 1 }) :
    Dwp P T E n (.block b0 (.loop (.seq (.region r1 #[o1] false) (.seq (.cond (.tmp t) .skip (.exit b0)) (.seq (.block b1 body) (.region r2 #[o2, o3] false)))))) Q a σ := by
  obtain ⟨p1, p2, p3⟩ := e1
  obtain ⟨q1, q2, q3⟩ := e2
  obtain ⟨s1, s2, s3⟩ := e3
  obtain ⟨d1, d2, d3⟩ := hd
  obtain ⟨n0, n1, n2, n3, n4, n5⟩ := hne
  refine Dwp.block (Dwp.loop (fun k a σ => ∃ i, i ≤ N ∧ k = N - i ∧ a idx = .lit (.int .i64 i) ∧ a len = .lit (.int .i64 N) ∧ J i a σ) N ⟨0, Nat.zero_le _, rfl, hidx, hlen, h0⟩ ?_)
  rintro k a σ ⟨i, hi, rfl, h1, h2, hJ⟩
  refine Dwp.step hT (by simp [Q8, p2, d1]) fun K hK => ?_
  simp only [QF, Qo, p1, p2, p3, QJ, dop, eval, h1, h2, QV, if_true, intCmp, Option.map_some, Qn, QN]
  refine hK _ _ ?_ rfl; clear hK K
  by_cases hlt : i < N
  · have hb : decide ((i : Int) < (N : Int)) = true := by simp; omega
    rw [hb]
    refine Dwp.seq (Dwp.condT (by simp [eval, Go.FA.upd]) (Dwp.skip ?_))
    refine Dwp.seq (Dwp.block ((round i a σ hlt h1 h2 hJ).mono fun e a σ hq => ?_))
    have fin : ∀ a σ, a idx = .lit (.int .i64 i) → a len = .lit (.int .i64 N) → J (i + 1) (Go.FA.upd (Go.FA.upd a t' (.lit (.int .i64 (i + 1 : Nat)))) idx (.lit (.int .i64 (i + 1 : Nat)))) { σ with n := σ.n + 2 } →
        Dwp P T E n (.region r2 #[o2, o3] false) (Ex.then (fun a' σ' => ∃ k', k' < N - i ∧ ∃ i, i ≤ N ∧ k' = N - i ∧ a' idx = .lit (.int .i64 i) ∧ a' len = .lit (.int .i64 N) ∧ J i a' σ') (Ex.inBlock b0 Q)) a σ := by
      intro a σ g1 g2 g3
      refine Dwp.reg hT (by simp [Q8, q2, s2, d2, d3]) fun K hK => ?_
      simp only [QF, Qo, q1, q2, q3, s1, s2, s3, QJ, dop, eval, Qr, g1, QV, if_true, Option.map_some, Qn, QN, upd_same]
      refine hK _ _ ?_ rfl
      rw [Qg4 i (by omega)]
      exact ⟨N - (i + 1), by omega, i + 1, hlt, rfl, upd_same _ _ _, by rw [Qe6 _ _ _ _ (Ne.symm n5), Qe6 _ _ _ _ (Ne.symm n4)]; exact g2, g3⟩
    cases e with
    | normal => exact fin a σ hq.1 hq.2.1 hq.2.2
    | ret => exact hq
    | exit id =>
      simp only [Qjs] at hq
      simp only [Ex.inBlock]
      split at hq
      · next he => rw [if_pos he]; exact fin a σ hq.1 hq.2.1 hq.2.2
      · next he =>
        rw [if_neg he]
        simp only [Ex.then, Ex.inBlock]; exact hq
  · obtain rfl : i = N := by omega
    have hb : decide ((i : Int) < (i : Int)) = false := by simp
    rw [hb]
    refine Dwp.seq (Dwp.condF (by simp [eval, Go.FA.upd]) (Dwp.exit ?_))
    simp only [Ex.then, Ex.inBlock, if_true]
    exact after a σ h1 h2 hJ
end Go.FA
namespace Go.Proofs.Yt
open Go Go.FA Go.Proofs Go.RowKit
set_option maxRecDepth 100000
mutual
def tsz : Tm → Nat
  | .mk _ _ _ _ ks r => 1 + QaI ks + QaI r
def QaI : List Tm → Nat
  | [] => 0
  | t :: l => tsz t + QaI l
end
theorem tsz_eq (t : Tm) : tsz t = 1 + QaI t.kids + QaI t.rest := by cases t; simp [tsz, Tm.kids, Tm.rest]
theorem Qeg (t : Tm) : 1 ≤ tsz t := by rw [tsz_eq]; omega
theorem Qac : ∀ (l : List Tm) (t : Tm), t ∈ l → tsz t ≤ QaI l
  | x :: l, t, h => by
    simp only [QaI]
    rcases List.mem_cons.1 h with rfl | h
    · omega
    · have := Qac l t h; omega
theorem Qao : ∀ l : List Tm, l.length ≤ QaI l
  | [] => by simp [QaI]
  | x :: l => by have := Qao l; have := Qeg x; simp [QaI]; omega
theorem tmsC (l : List Tm) : Enc.tms.enc l = .slice 6 .none (l.map Tm.cells) := rfl
theorem tmC (t : Tm) : Enc.tm.enc t = .agg t.cells := rfl
theorem QT (t : Tm) : t.cells.take 6 = t.cells := List.take_of_length_le (by rw [Tm.cells_len]; omega)
def tlim : Nat := 1048576
theorem QG (k n : Int) (x s : ByteArray) (ks r : List Tm) : (Tm.mk k n x s ks r).cells = [.lit (.int .i64 k), .lit (.int .i64 n), .lit (.string x), .lit (.string s), .slice 6 .none (ks.map Tm.cells), .slice 6 .none (r.map Tm.cells)] := by
  simp [Tm.cells, Tm.rows_map]
end Go.Proofs.Yt

namespace Go.Proofs.Yt
open Go Go.FA Go.Proofs Go.RowKit
set_option maxRecDepth 100000
theorem setT (t : Tm) : setAt [DV.lit (.int .i64 0), .lit (.int .i64 0), .lit (.string ⟨#[]⟩), .lit (.string ⟨#[]⟩), .lit (.slice none 0 0), .lit (.slice none 0 0)] 0 t.cells = t.cells := by
  cases t; rfl
end Go.Proofs.Yt







namespace Go.Proofs.Yt
open Go Go.FA Go.Proofs Go.RowKit
set_option maxRecDepth 100000
section
attribute [local simp] QF QZ Qo QJ own Qm dop QN eval Qr Qn Ex.then Ex.inBlock upd QV Tag.isNN Qp intCmp Qv Qx TyI.agg Qa Qu Qg Qs QX QA QD mapOf QQ QC Qq Qi Qj QI DV.cells Qt Qk QE QK rowsOf QL Qd Qe Qe.go Qz QB Qc goInt
mutual
def okT : Tm → Prop
  | .mk _ _ t s ks r => t.size ≤ lim ∧ s.size ≤ lim ∧ ks.length ≤ 16777216 ∧ r.length ≤ 16777216 ∧ QfS ks ∧ QfS r
def QfS : List Tm → Prop
  | [] => True
  | t :: l => okT t ∧ QfS l
end
theorem QaQ : ∀ (l : List Tm) (t : Tm), QfS l → t ∈ l → okT t
  | x :: l, t, h, hm => by
    simp only [QfS] at h
    rcases List.mem_cons.1 hm with rfl | hm
    · exact h.1
    · exact QaQ l t h.2 hm
def Qb1 (t s : ByteArray) : Int := 1 + ((t.size : Int) + (s.size : Int)).tdiv 50
theorem QhK (t s : ByteArray) : 1 ≤ Qb1 t s := by
  unfold Qb1
  have : 0 ≤ ((t.size : Int) + (s.size : Int)).tdiv 50 := Int.tdiv_nonneg (by omega) (by omega)
  omega
theorem tcost_le (t s : ByteArray) (h1 : t.size ≤ lim) (h2 : s.size ≤ lim) : Qb1 t s ≤ 1 + 2 * lim := by
  unfold Qb1
  rw [Int.tdiv_eq_ediv_of_nonneg (by omega)]
  unfold lim at *
  omega
mutual
def Qd5 : Tm → Int → Int → Int
  | .mk _ _ t s ks r, a, d => if a - Qb1 t s < 0 then -1 else if 80 < d + 1 then -1 else QbA r (QbA ks (a - Qb1 t s) (d + 1)) (d + 1)
def QbA : List Tm → Int → Int → Int
  | [], a, _ => a
  | t :: l, a, d => if Qd5 t a d < 0 then -1 else QbA l (Qd5 t a d) d
end
def QaL (l : List Tm) (a d : Int) : Int := if 80 < d then -1 else QbA l a d
mutual
theorem partsT_bd : ∀ (t : Tm) (a d : Int), -1 ≤ a → -1 ≤ Qd5 t a d ∧ Qd5 t a d ≤ a
  | .mk _ _ t s ks r, a, d, h => by
    rw [Qd5]
    split
    · omega
    · next hh =>
      split
      · omega
      · have h1 := Qc3 ks (a - Qb1 t s) (d + 1) (by omega)
        have h2 := Qc3 r _ (d + 1) h1.1
        have h3 := QhK t s
        omega
theorem Qc3 : ∀ (l : List Tm) (a d : Int), -1 ≤ a → -1 ≤ QbA l a d ∧ QbA l a d ≤ a
  | [], a, d, h => by rw [QbA]; omega
  | t :: l, a, d, h => by
    rw [QbA]
    have h1 := partsT_bd t a d h
    split
    · omega
    · have h2 := Qc3 l _ d h1.1
      omega
end
theorem Qhd (l : List Tm) (a d : Int) (h : -1 ≤ a) : -1 ≤ QaL l a d ∧ QaL l a d ≤ a := by
  unfold QaL
  have := Qc3 l a d h
  split <;> omega
open Classical in
noncomputable def QkN (n : Nat) : Sp := sp (Q6 Enc.tms (Enc.int .i64) (Enc.int .i64)) (Enc.int .i64) (fun x => if QaI x.1 < n ∧ QfS x.1 ∧ x.1.length ≤ 16777216 ∧ -1 ≤ x.2.1 ∧ x.2.1 ≤ 1099511627776 ∧ 0 ≤ x.2.2 ∧ x.2.2 ≤ 81 then some (QaL x.1 x.2.1 x.2.2) else none)
theorem call123 {n : Nat} (T : Tab) (hT : T 123 = some (QkN n)) (l : List Tm) (a d : Int) (h1 : QaI l < n) (h2 : QfS l) (h3 : l.length ≤ 16777216) (h4 : -1 ≤ a) (h5 : a ≤ 1099511627776) (h6 : 0 ≤ d) (h7 : d ≤ 81) : dcall T 123 [.slice 6 .none (l.map Tm.cells), .lit (.int .i64 a), .lit (.int .i64 d)] = some (.lit (.int .i64 (QaL l a d))) :=
  QiA (A := Enc.tms) (B := Enc.int .i64) (C := Enc.int .i64) (D := Enc.int .i64) hT (if_pos ⟨h1, h2, h3, h4, h5, h6, h7⟩)
theorem QkG {n : Int} (h0 : -4611686018427387904 < n) (h : n < 4611686018427387904) : IntKind.i64.wrap n = n := by
  simp [IntKind.wrap, IntKind.bits, IntKind.signed]; omega
theorem partsT_eq (k n : Int) (t s : ByteArray) (ks r : List Tm) (a d : Int) (h : ¬ a - Qb1 t s < 0) : Qd5 (.mk k n t s ks r) a d = QaL r (QaL ks (a - Qb1 t s) (d + 1)) (d + 1) := by
  rw [Qd5, if_neg h]
  unfold QaL
  split <;> rfl
theorem partsT_neg (k n : Int) (t s : ByteArray) (ks r : List Tm) (a d : Int) (h : a - Qb1 t s < 0) : Qd5 (.mk k n t s ks r) a d = -1 := by
  rw [Qd5, if_pos h]
set_option maxHeartbeats 2000000 in
theorem c123 (n : Nat) (cB : Qb Tryz.prog 123 (QkN n)) : Qb Tryz.prog 123 (QkN (n + 1)) := by
  refine Qb.of_sp (T := Qf [(123, QkN n)]) Tryz.func123 rfl (Nat.le_of_ble_eq_true rfl) fun E xx y hy => ?_
  obtain ⟨l, a0, d⟩ := xx
  simp only [] at hy
  split at hy
  case isFalse => cases hy
  next hlim =>
  obtain ⟨hn, hok, hl, ha1, ha2, hd1, hd2⟩ := hlim
  cases hy
  have tT : QH Tryz.prog (Qf [(123, QkN n)]) := .cons ⟨cB, Tryz.f123, _, Tryz.func123, rfl, by decide⟩ .nil
  have gc := fun (l : List Tm) (a d : Int) => call123 (n := n) (Qf [(123, QkN n)]) rfl l a d
  generalize Qf [(123, QkN n)] = T at *
  refine Dwp.step tT rfl fun K hK => ?_
  simp [init, Q6, Ql.and, Ql.one, Enc.int]
  refine hK _ _ ?_ rfl; clear hK K
  refine Dwp.seq ?_
  refine Dwp.step tT rfl fun K hK => ?_
  by_cases hd : 80 < d
  · simp [ty3, init, hd]
    refine hK _ _ ?_ rfl; clear hK K
    refine Dwp.condT (by simp [eval, upd]) ?_
    refine Dwp.step tT rfl fun K hK => ?_
    simp
    refine hK _ _ (Dwp.ret ?_) rfl
    simp [Q3, Qh, QW, frz, Q2, Q0, Ex.then, Ex.inBlock, upd, Enc.int, QaL, hd]
  simp [ty3, init, hd]
  refine hK _ _ ?_ rfl; clear hK K
  refine Dwp.condF (by simp [eval, upd]) (Dwp.skip ?_)
  refine Dwp.seq ?_
  refine Dwp.step tT rfl fun K hK => ?_
  simp [init, Qak, tmsC]
  refine hK _ _ ?_ rfl; clear hK K
  refine Dwp.range tT l.length (fun i a σ => ∃ b : Int, -1 ≤ b ∧ b ≤ 1099511627776 ∧ a 1 = .lit (.int .i64 b) ∧ a 2 = .lit (.int .i64 d) ∧ a 11 = .slice 6 .none (l.map Tm.cells) ∧ QbA l a0 d = QbA (l.drop i) b d) ⟨rfl, rfl, rfl⟩ ⟨rfl, rfl, rfl⟩ ⟨rfl, rfl, rfl⟩ (by decide) (by decide) (by omega) (by simp [upd]) (by simp [upd]) ⟨a0, ha1, ha2, by simp [upd, init], by simp [upd, init], by simp [upd, init, tmsC], by simp⟩ ?_ ?_
  · rintro i a σ hi hidx hlen2 ⟨b, hb1, hb2, k1, k2, k11, hc⟩
    obtain ⟨o, ho⟩ : ∃ o, o = l[i] := ⟨_, rfl⟩
    have hom : o ∈ l := by rw [ho]; exact List.getElem_mem hi
    have hz := Qac l o hom
    have hko := QaQ l o hok hom
    rw [List.drop_eq_getElem_cons hi, ← ho, QbA] at hc
    obtain ⟨k, nn, x, s, ks, r⟩ := o
    rw [tsz] at hz
    rw [okT] at hko
    obtain ⟨hx, hs, hks, hr, oks, okr⟩ := hko
    have hp := QhK x s
    have hq := tcost_le x s hx hs
    unfold lim at hx hs hq
    have w1 : IntKind.i64.wrap ((x.size : Int) + (s.size : Int)) = (x.size : Int) + (s.size : Int) := QkG (by omega) (by omega)
    have hcost : Qb1 x s = 1 + ((x.size : Int) + (s.size : Int)).tdiv 50 := rfl
    have w2 : IntKind.i64.wrap (((x.size : Int) + (s.size : Int)).tdiv 50) = ((x.size : Int) + (s.size : Int)).tdiv 50 := QkG (by omega) (by omega)
    have w3 : IntKind.i64.wrap (1 + ((x.size : Int) + (s.size : Int)).tdiv 50) = Qb1 x s := by rw [hcost]; exact QkG (by omega) (by omega)
    have w4 : IntKind.i64.wrap (b - Qb1 x s) = b - Qb1 x s := QkG (by omega) (by omega)
    have w5 : IntKind.i64.wrap (d + 1) = d + 1 := QkG (by omega) (by omega)
    refine Dwp.step tT rfl fun K hK => ?_
    simp [hidx, k11, Qak, Q5, hi, ← ho, setT, Tm.cells_len, QT]
    refine hK _ _ ?_ rfl; clear hK K
    refine Dwp.step tT rfl fun K hK => ?_
    simp [k1, ty9, ty3, Q5, Qdx, QG, w1, w2, w3, w4]
    refine hK _ _ ?_ rfl; clear hK K
    refine Dwp.seq ?_
    refine Dwp.step tT rfl fun K hK => ?_
    by_cases hneg : b - Qb1 x s < 0
    · simp [ty3, hneg]
      refine hK _ _ ?_ rfl; clear hK K
      refine Dwp.condT (by simp [eval, upd]) ?_
      refine Dwp.step tT rfl fun K hK => ?_
      simp
      refine hK _ _ (Dwp.ret ?_) rfl
      rw [partsT_neg _ _ _ _ _ _ _ _ hneg] at hc
      simp at hc
      simp [Q3, Qh, QW, frz, Q2, Q0, Qjs, Ex.then, Ex.inBlock, upd, Enc.int, QaL, hd, hc]
    rw [partsT_eq _ _ _ _ _ _ _ _ hneg] at hc
    have q1 := Qhd ks (b - Qb1 x s) (d + 1) (by omega)
    have q2 := Qhd r (QaL ks (b - Qb1 x s) (d + 1)) (d + 1) (by omega)
    have g1 := gc ks (b - Qb1 x s) (d + 1) (by omega) oks hks (by omega) (by omega) (by omega) (by omega)
    have g2 := gc r (QaL ks (b - Qb1 x s) (d + 1)) (d + 1) (by omega) okr hr (by omega) (by omega) (by omega) (by omega)
    generalize QaL r (QaL ks (b - Qb1 x s) (d + 1)) (d + 1) = v at *
    generalize QaL ks (b - Qb1 x s) (d + 1) = u at *
    simp [ty3, hneg]
    refine hK _ _ ?_ rfl; clear hK K
    refine Dwp.condF (by simp [eval, upd]) (Dwp.skip ?_)
    refine Dwp.step tT rfl fun K hK => ?_
    simp [k2, Qak, Q5, ty3, QG, w5, g1]
    refine hK _ _ ?_ rfl; clear hK K
    refine Dwp.step tT rfl fun K hK => ?_
    simp [k2, Qak, Q5, ty3, QG, w5, g2]
    refine hK _ _ ?_ rfl; clear hK K
    refine Dwp.step tT rfl fun K hK => ?_
    by_cases hv : v < 0
    · simp [ty3, hv]
      refine hK _ _ ?_ rfl; clear hK K
      refine Dwp.condT (by simp [eval, upd]) ?_
      refine Dwp.step tT rfl fun K hK => ?_
      simp
      refine hK _ _ (Dwp.ret ?_) rfl
      simp [hv] at hc
      simp [Q3, Qh, QW, frz, Q2, Q0, Qjs, Ex.then, Ex.inBlock, upd, Enc.int, QaL, hd, hc]
    · simp [ty3, hv]
      refine hK _ _ ?_ rfl; clear hK K
      refine Dwp.condF (by simp [eval, upd]) (Dwp.skip ?_)
      rw [if_neg hv] at hc
      exact ⟨by simp [upd, hidx], by simp [upd, hlen2], v, by omega, by omega, by simp [upd], by simp [upd, k2], by simp [upd, k11], hc⟩
  · rintro a σ hidx hlen2 ⟨b, hb1, hb2, k1, k2, k11, hc⟩
    rw [List.drop_eq_nil_of_le (Nat.le_refl _), QbA] at hc
    refine Dwp.step tT rfl fun K hK => ?_
    simp [k1]
    refine hK _ _ (Dwp.ret ?_) rfl
    simp [Q3, Qh, QW, frz, Q2, Q0, Ex.then, Ex.inBlock, upd, Enc.int, QaL, hd, hc]
theorem c123_0 : Qb Tryz.prog 123 (QkN 0) := by
  refine Qb.of_sp (T := Qf []) Tryz.func123 rfl (Nat.le_of_ble_eq_true rfl) fun E xx y hy => ?_
  obtain ⟨t, u⟩ := xx
  simp only [] at hy
  split at hy
  · next h => omega
  · cases hy
theorem parts_all : ∀ n, Qb Tryz.prog 123 (QkN n)
  | 0 => c123_0
  | n + 1 => c123 n (parts_all n)
end
end Go.Proofs.Yt
namespace Go.Proofs.Yt
open Go Go.FA Go.Proofs Go.RowKit Go.ChangeShapes
open YtfpejlbfdpeofaaGreatDoor
set_option maxRecDepth 100000
theorem bulk_leT {H : Type} {l : List (DataW H)} (hk : Rows.uptoSmall H l = true) : Rows.uptoBulkAll l ≤ 1048576 := of_decide_eq_true hk
mutual
theorem Qlu : ∀ t : Tm, tsz t ≤ szTm t
  | .mk k n x s ks r => by have := QdD ks; have := QdD r; simp only [tsz, szTm]; omega
theorem QdD : ∀ l : List Tm, QaI l ≤ QfV l
  | [] => by simp [QaI, QfV]
  | t :: l => by have := Qlu t; have := QdD l; simp only [QaI, QfV]; omega
end
mutual
theorem Qlj : ∀ t : Tm, szTm t ≤ 1048576 → okT t
  | .mk k n x s ks r, h => by
    simp only [szTm] at h
    have h1 := Qic ks (by omega)
    have h2 := Qic r (by omega)
    have h3 := QdD ks; have h4 := Qao ks; have h5 := QdD r; have h6 := Qao r
    simp only [okT]
    unfold lim
    exact ⟨by omega, by omega, by omega, by omega, h1, h2⟩
theorem Qic : ∀ l : List Tm, QfV l ≤ 1048576 → QfS l
  | [], _ => by simp [QfS]
  | t :: l, h => by
    simp only [QfV] at h
    exact ⟨Qlj t (by omega), Qic l (by omega)⟩
end
theorem sz_fit {t : Tm} (h : szTm t ≤ 1048576) : okT t ∧ tsz t ≤ tlim := ⟨Qlj t h, by have := Qlu t; unfold tlim; omega⟩
abbrev laidL : List (String × DataW Unit) := [("math/bits.deBruijn32tab", Rows.laid_math_bits_deBruijn32tab), ("math/bits.deBruijn64tab", Rows.laid_math_bits_deBruijn64tab), ("internal/strconv.uint64pow10", Rows.laid_internal_strconv_uint64pow10)]
theorem gPow : Tryz.prog.globalNamed "internal/strconv.uint64pow10" = some 0 := by kernel_rfl
theorem gPowType : (Tryz.prog.globals[0]?).map (·.type) = some 270 := by kernel_rfl
theorem under270 : Tryz.prog.underlying 270 = some (.array 20 218) := by kernel_rfl
theorem under218 : Tryz.prog.underlying 218 = some (.int .u64) := by kernel_rfl
theorem cells218 : Tryz.prog.cellsOf 218 = 1 := by kernel_rfl
theorem cells270 : Tryz.prog.cellsOf 270 = 20 := by kernel_rfl
theorem glob_of_laid {W : World} (h : laidMet Tryz.prog laidL W) : Qkm (QdH W) W := by
  obtain ⟨ps, ⟨_, _, _, _, _, _, _, _, _, _, ⟨_, _, _, _, _, _, _, _, _, _, ⟨g, t, cs, fuel, p, q, hg, ht, hvar, hd, _, _⟩, _⟩, _⟩, _⟩ := h
  obtain rfl := Option.some.inj (gPow.symm.trans hg)
  obtain rfl := Option.some.inj (gPowType.symm.trans ht)
  have hcs := Lib.cells_of_tab (zs := Lib.pow10Tab) (k := .u64) under270 under218 cells218 cells270 hd
  unfold World.var? at hvar
  rw [gPow] at hvar
  simp only [Option.bind_some] at hvar
  intro p' hp'
  have hp2 : p' ∈ [((0 : Nat), Lib.pow10Tab.map fun z => Value.int .u64 z)] := hp'
  simp only [List.mem_singleton] at hp2
  subst hp2
  split at hvar
  · next cs' e f hheap =>
    simp only [Option.some.injEq] at hvar
    subst hvar
    refine ⟨?_, e, f, ?_⟩
    · show 0 < W.heap.size
      rcases Nat.lt_or_ge 0 W.heap.size with q | q
      · exact q
      · rw [Array.getElem?_eq_none q] at hheap; cases hheap
    · simp only []
      rw [← hcs]; simpa using hheap
  · cases hvar
theorem readable30 : Tryz.prog.readableRec 30 = true := by kernel_rfl
theorem types30 : 30 < Tryz.prog.types.size := of_decide_eq_true (by kernel_rfl)
def valsOf : DataW Unit → Array Value
  | .agg l => (l.map fun d => match d with | .lit (.int k n) => Value.int k n | _ => Value.int .i64 0).toArray
  | _ => #[]
def setCells (x : Array Value) : Obj → Obj
  | .cells _ t fz => .cells x t fz
  | o => o
noncomputable def laidWorld (os : Os) : World :=
  { World.holding Tryz.prog os ⟨#[], #[], []⟩ with heap := (((World.holding Tryz.prog os ⟨#[], #[], []⟩).heap.modify 0 (setCells (valsOf Rows.laid_internal_strconv_uint64pow10))).modify 2 (setCells (valsOf Rows.laid_math_bits_deBruijn32tab))).modify 3 (setCells (valsOf Rows.laid_math_bits_deBruijn64tab)) }
end Go.Proofs.Yt
namespace Go.Proofs.Yt
open Go Go.FA Go.Proofs Go.RowKit
set_option maxRecDepth 100000
section
attribute [local simp] QF QZ Qo QJ own Qm dop QN eval Qr Qn Ex.then Ex.inBlock upd QV Tag.isNN Qp intCmp Qv Qx TyI.agg Qa Qu Qg Qs QX QA QD mapOf QQ QC Qq Qi Qj QI DV.cells Qt Qk QE QK rowsOf QL Qd Qe Qe.go Qz QB Qc goInt
open Classical in
noncomputable def s123a : Sp := sp (Q6 Enc.tms (Enc.int .i64) (Enc.int .i64)) (Enc.int .i64) (fun x => if QfS x.1 ∧ x.1.length ≤ 16777216 ∧ -1 ≤ x.2.1 ∧ x.2.1 ≤ 1099511627776 ∧ 0 ≤ x.2.2 ∧ x.2.2 ≤ 81 then some (QaL x.1 x.2.1 x.2.2) else none)
theorem c123a : Qb Tryz.prog 123 s123a := by
  intro args r hr
  unfold s123a sp at hr
  cases hd : (Q6 Enc.tms (Enc.int .i64) (Enc.int .i64)).dec args with
  | none => simp [hd] at hr
  | some x =>
    refine parts_all (QaI x.1 + 1) args r ?_
    unfold QkN sp
    rw [hd] at hr ⊢
    simp only [Option.bind_some] at hr ⊢
    split at hr
    · next h => rw [if_pos ⟨by omega, h⟩]; exact hr
    · simp at hr
theorem e123a : Go.FA.Good Tryz.prog (123, s123a) := ⟨c123a, Tryz.f123, _, Tryz.func123, rfl, by decide⟩
theorem call123a (T : Tab) (hT : T 123 = some s123a) (l : List Tm) (a d : Int) (h2 : QfS l) (h3 : l.length ≤ 16777216) (h4 : -1 ≤ a) (h5 : a ≤ 1099511627776) (h6 : 0 ≤ d) (h7 : d ≤ 81) : dcall T 123 [.slice 6 .none (l.map Tm.cells), .lit (.int .i64 a), .lit (.int .i64 d)] = some (.lit (.int .i64 (QaL l a d))) :=
  QiA (A := Enc.tms) (B := Enc.int .i64) (C := Enc.int .i64) (D := Enc.int .i64) hT (if_pos ⟨h2, h3, h4, h5, h6, h7⟩)
open Classical in
noncomputable def s73 : Sp := sp (QR (Enc.int .i64) Enc.tms) Enc.bool (fun x => if QfS x.2 ∧ x.2.length ≤ 16777216 ∧ -1 ≤ x.1 ∧ x.1 ≤ 1099511627776 then some (decide (0 ≤ QaL x.2 x.1 0)) else none)
theorem call73 (T : Tab) (hT : T 73 = some s73) (a : Int) (l : List Tm) (h2 : QfS l) (h3 : l.length ≤ 16777216) (h4 : -1 ≤ a) (h5 : a ≤ 1099511627776) : dcall T 73 [.lit (.int .i64 a), .slice 6 .none (l.map Tm.cells)] = some (.lit (.bool (decide (0 ≤ QaL l a 0)))) :=
  Qcd (A := Enc.int .i64) (B := Enc.tms) (C := Enc.bool) hT (if_pos ⟨h2, h3, h4, h5⟩)
theorem c73 : Qb Tryz.prog 73 s73 := by
  refine Qb.of_sp (T := Qf [(123, s123a)]) Tryz.func73 rfl (Nat.le_of_ble_eq_true rfl) fun E xx y hy => ?_
  obtain ⟨a, l⟩ := xx
  simp only [] at hy
  split at hy
  case isFalse => cases hy
  next hlim =>
  obtain ⟨hok, hl, h1, h2⟩ := hlim
  cases hy
  have tT : QH Tryz.prog (Qf [(123, s123a)]) := .cons e123a .nil
  have g := call123a (Qf [(123, s123a)]) rfl l a 0 hok hl h1 h2 (by omega) (by omega)
  generalize Qf [(123, s123a)] = T at *
  refine Dwp.step tT rfl fun K hK => ?_
  simp [init, QR, Ql.and, Ql.one, Enc.int]
  refine hK _ _ ?_ rfl; clear hK K
  refine Dwp.step tT rfl fun K hK => ?_
  simp [init, tmsC, ty3, g]
  refine hK _ _ (Dwp.ret ?_) rfl
  simp [Q3, Qh, QW, frz, Q2, Q0, Ex.then, upd, Enc.bool]
theorem e73 : Go.FA.Good Tryz.prog (73, s73) := ⟨c73, Tryz.f73, _, Tryz.func73, rfl, by decide⟩
open Classical in
noncomputable def s21 : Sp := sp (QM Enc.tms) Enc.bool (fun l => if QfS l ∧ l.length ≤ 16777216 then some (decide (0 ≤ QaL l 2600 0)) else none)
theorem call21 (T : Tab) (hT : T 21 = some s21) (t : Tm) (h : okT t) : dcall T 21 [.slice 6 .full [t.cells]] = some (.lit (.bool (decide (0 ≤ QaL [t] 2600 0)))) := by
  have h1 : QfS [t] := by simp [QfS, h]
  have hd : (QM Enc.tms).dec [.slice 6 .full [t.cells]] = some [t] := by
    simp [QM, Ql.one, Enc.tms, Enc.slice, Qat, Ql.tm, Tm.dec_cells]
  simp [dcall, hT, s21, sp, hd, h1, Enc.bool]
theorem c21 : Qb Tryz.prog 21 s21 := by
  refine Qb.of_sp (T := Qf [(73, s73)]) Tryz.func21 rfl (Nat.le_of_ble_eq_true rfl) fun E l y hy => ?_
  split at hy
  case isFalse => cases hy
  next hlim =>
  obtain ⟨hok, hl⟩ := hlim
  cases hy
  have tT : QH Tryz.prog (Qf [(73, s73)]) := .cons e73 .nil
  have g := call73 (Qf [(73, s73)]) rfl 2600 l hok hl (by omega) (by omega)
  generalize Qf [(73, s73)] = T at *
  refine Dwp.step tT rfl fun K hK => ?_
  simp [init, QM, Ql.one]
  refine hK _ _ ?_ rfl; clear hK K
  refine Dwp.step tT rfl fun K hK => ?_
  simp [init, tmsC, ty3, g]
  refine hK _ _ (Dwp.ret ?_) rfl
  simp [Q3, Qh, QW, frz, Q2, Q0, Ex.then, upd, Enc.bool]
theorem e21 : Go.FA.Good Tryz.prog (21, s21) := ⟨c21, Tryz.f21, _, Tryz.func21, rfl, by decide⟩
end
end Go.Proofs.Yt
