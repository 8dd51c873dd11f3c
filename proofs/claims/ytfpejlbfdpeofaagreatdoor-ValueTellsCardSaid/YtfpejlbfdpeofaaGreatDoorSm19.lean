/- Contracts of functions of the program, by a machine over abstract values; part 20. No condition beyond those of each theorem. -/
import Derived.Test.YtfpejlbfdpeofaaGreatDoorSm18
import Derived.Carry
import Derived.ChangeArms
import Derived.DataReads
import Derived.ChangeSame
import Derived.WideKeyArgs
import Derived.RowKit
import Derived.OpenShut
import Derived.JoinedCond
namespace Go.Proofs.Yt
open Go Go.FA Go.Proofs Go.RowKit Go.Proofs.Y
set_option maxRecDepth 1000000
def sTells : Sp := fun xs => match xs with
  | [.lit (.string _)] => some (.lit (.bool true))
  | _ => none
/-- a call that the kernel finds true, from whatever the arguments stand for -/
theorem liftTrue {g : Nat} {xs0 : List DV} (hp : pureL xs0 = true) (h : HC Tryz.prog g xs0 σ0 (fun d _ => d = .lit (.bool true))) : ∃ S : Sp, CallSound Tryz.prog g S ∧ S xs0 = some (.lit (.bool true)) := by
  classical
  refine ⟨fun ys => if ys = xs0 then some (.lit (.bool true)) else none, CallSound.of_pure fun ys r hr => ?_, by simp⟩
  try dsimp only at hr
  split at hr
  · next e => subst e; simp only [Option.some.injEq] at hr; subst hr; exact ⟨hp, rfl, 0, h⟩
  · simp at hr
theorem via {g : Nat} {xs xs0 : List DV} (hp : pureL xs0 = true) (h : HC Tryz.prog g xs0 σ0 (fun d _ => d = .lit (.bool true))) (hl : ∀ (C : Ctx) (w : World) (vs : List Value), LRel C w xs vs → LRel C w xs0 vs) :
    ∃ S : Sp, CallSound Tryz.prog g S ∧ S xs = some (.lit (.bool true)) := by
  classical
  obtain ⟨S, h1, h2⟩ := liftTrue hp h
  refine ⟨fun ys => if ys = xs then some (.lit (.bool true)) else none, fun args r hr => ?_, by simp⟩
  try dsimp only at hr
  split at hr
  · next e =>
    subst e
    simp only [Option.some.injEq] at hr; subst hr
    rcases h1 _ _ h2 with ⟨q1, q2⟩ | ⟨k, rows, q, _⟩
    · exact .inl ⟨q1, fun C w cargs p1 p2 hll => q2 C w cargs p1 p2 (hl C w cargs hll)⟩
    · cases q
  · simp at hr
theorem tells (s : ByteArray) : ∃ S : Sp, CallSound Tryz.prog 14 S ∧ S [.lit (.string s)] = some (.lit (.bool true)) := by
  by_cases hs : s ∈ outs
  · simp only [outs, List.mem_cons, List.not_mem_nil, or_false] at hs
    rcases hs with rfl | rfl | rfl | rfl | rfl | rfl | rfl | rfl | rfl | rfl | rfl | rfl | rfl | rfl | rfl | rfl | rfl | rfl | rfl | rfl | rfl | rfl | rfl | rfl | rfl | rfl | rfl | rfl
    · exact liftTrue rfl (hcTrue2 tell_add)
    · exact liftTrue rfl (hcTrue2 tell_sub)
    · exact liftTrue rfl (hcTrue2 tell_mul)
    · exact liftTrue rfl (hcTrue2 tell_div)
    · exact liftTrue rfl (hcTrue2 tell_mod)
    · exact liftTrue rfl (hcTrue2 tell_neg)
    · exact liftTrue rfl (hcTrue2 tell_lt)
    · exact liftTrue rfl (hcTrue2 tell_le)
    · exact liftTrue rfl (hcTrue2 tell_gt)
    · exact liftTrue rfl (hcTrue2 tell_ge)
    · exact liftTrue rfl (hcTrue2 tell_eq)
    · exact liftTrue rfl (hcTrue2 tell_ne)
    · exact liftTrue rfl (hcTrue2 tell_and)
    · exact liftTrue rfl (hcTrue2 tell_or)
    · exact liftTrue rfl (hcTrue2 tell_not)
    · exact liftTrue rfl (hcTrue2 tell_pick)
    · exact liftTrue rfl (hcTrue2 tell_cat)
    · exact liftTrue rfl (hcTrue2 tell_length)
    · exact liftTrue rfl (hcTrue2 tell_text)
    · exact liftTrue rfl (hcTrue2 tell_join)
    · exact liftTrue rfl (hcTrue2 tell_get)
    · exact liftTrue rfl (hcTrue2 tell_put)
    · exact liftTrue rfl (hcTrue2 tell_has)
    · exact liftTrue rfl (hcTrue2 tell_del)
    · exact liftTrue rfl (hcTrue2 tell_keys)
    · exact liftTrue rfl (hcTrue2 tell_size)
    · exact liftTrue rfl (hcTrue2 tell_is)
    · exact liftTrue rfl (hcTrue2 tell_isvalue)
  · refine via (xs0 := [.strNot outs]) rfl (hcTrue2 tell_none) fun C w vs hl => ?_
    match vs, hl with
    | [v], hl =>
      simp only [LRel, VRel] at hl ⊢
      exact ⟨⟨s, hl.1, hs⟩, trivial⟩
theorem cTells : CallSound Tryz.prog 14 sTells := by
  intro args r hr
  unfold sTells at hr
  split at hr
  · next s =>
    simp only [Option.some.injEq] at hr; subst hr
    obtain ⟨S, h1, h2⟩ := tells s
    exact h1 _ _ h2
  · simp at hr
theorem eTells : Go.FA.Good Tryz.prog (14, sTells) := ⟨cTells, Tryz.f14, _, Tryz.func14, rfl, by decide⟩
end Go.Proofs.Yt
namespace Go.FA
open Go.RowKit Go.ChangeShapes
set_option linter.unusedVariables false
set_option linter.unusedSimpArgs false

/-- how much a reading holds, as a statement counts it -/
structure Bulk (H : Type) where
  b : DataW H → Nat
  ba : List (DataW H) → Nat
  str : ∀ l, l.length + 1 ≤ b (.lit (.string l))
  one : ∀ d, 1 ≤ b d
  agg : ∀ l, ba l + 1 ≤ b (.agg l)
  slice : ∀ l r, ba l + 1 ≤ b (.slice l r)
  cons : ∀ d l, b d + ba l ≤ ba (d :: l)

/-- a call's arguments lie in memory that was there before -/
def ctxOf (W : World) : Ctx := ⟨fun _ => none, fun _ => none, fun b _ => b < W.heap.size, fun b => b < W.heap.size, W.heap.size⟩

section
variable {H : Type} (K : Bulk H) (enc : TypeId × Value → H) (P : Program) (W : World)
/-- cells of a type that can be read are data -/
def Rd {α : Type} (t : TypeId) (A : EncR α) (sz : α → Nat) : Prop :=
  ∀ (fuel : Nat) (cs : List Value) (x : DataW H × List MemPlace), DataW.trod enc P W 0 (fun _ => true) true fuel t cs = some x → ∃ y, LRel (ctxOf W) W (A.enc y) cs ∧ Flat cs ∧ sz y ≤ K.b x.1
def FRd {α : Type} (fs : List Field) (off : Nat) (A : EncR α) (sz : α → Nat) : Prop :=
  ∀ (fuel : Nat) (cs : List Value) (xs : List (DataW H × List MemPlace)), cs.length = off + A.k → xs.length = fs.length →
    (∀ (i : Nat) (f : Field), fs[i]? = some f → DataW.trod enc P W 0 (fun _ => true) true fuel f.type ((cs.drop f.offset).take (P.cellsOf f.type)) = xs[i]?) →
    ∃ y, LRel (ctxOf W) W (A.enc y) (cs.drop off) ∧ Flat (cs.drop off) ∧ sz y ≤ K.ba (xs.map (·.1))
variable {K enc P W}

theorem Rd.str {t : TypeId} (ht : P.underlying t = some .string) : Rd K enc P W t (EncR.one Enc.str) (fun s => s.size + 1) := by
  intro fuel cs x h
  obtain ⟨s, rfl, rfl, _⟩ := DataW.trod_string ht h
  refine ⟨s, by simp [EncR.one, Enc.str, LRel, VRel], by simp [Flat, Value.oneCell'], ?_⟩
  have := K.str s.data.toList
  simpa using this
theorem Rd.int {t : TypeId} {k : IntKind} (ht : P.underlying t = some (.int k)) : Rd K enc P W t (EncR.one (Enc.int k)) (fun _ => 1) := by
  intro fuel cs x h
  obtain ⟨n, rfl, rfl, _⟩ := DataW.trod_int ht h
  exact ⟨n, by simp [EncR.one, Enc.int, LRel, VRel], by simp [Flat, Value.oneCell'], K.one _⟩
theorem Rd.iso {α β : Type} {t : TypeId} {A : EncR α} {sz : α → Nat} (h : Rd K enc P W t A sz) (f : β → α) (g : α → β) (hf : ∀ x, f (g x) = x) (hg : ∀ y, g (f y) = y) : Rd K enc P W t (A.iso f g hf hg) (fun y => sz (f y)) := by
  intro fuel cs x hx
  obtain ⟨y, h1, h2, h3⟩ := h fuel cs x hx
  exact ⟨g y, by show LRel _ _ (A.enc (f (g y))) cs; rw [hf]; exact h1, h2, by show sz (f (g y)) ≤ _; rw [hf]; exact h3⟩

theorem CRel_in {b : Nat} (hb : b < W.heap.size) : ∀ (ds : List DV) (cs : List Value) (o : Nat), LRel (ctxOf W) W ds cs → Flat cs → (∀ j, j < cs.length → W.cell? ⟨b, o + j, none⟩ = cs[j]?) → CRel (ctxOf W) W b o ds
  | [], _, _, _, _, _ => by simp [CRel]
  | d :: ds, [], _, h, _, _ => by simp [LRel] at h
  | d :: ds, c :: cs, o, h, hf, hc => by
    simp only [LRel] at h
    simp only [CRel]
    refine ⟨⟨hb, c, by have := hc 0 (by simp); simpa using this, hf c (by simp), h.1⟩, CRel_in hb ds cs (o + 1) h.2 (fun y hy => hf y (by simp [hy])) fun j hj => ?_⟩
    have := hc (j + 1) (by simp; omega)
    rw [show o + 1 + j = o + (j + 1) by omega]; simpa using this

theorem rows_of {α : Type} {e : TypeId} {B : EncR α} {sz : α → Nat} (h : Rd K enc P W e B sz) (hk : B.k = P.cellsOf e) {b : Nat} (hb : b < W.heap.size) {n : Nat} :
    ∀ (xs : List (DataW H × List MemPlace)) (o : Nat), (∀ i, i < xs.length → ∃ cs : List Value, cs.length = B.k ∧ (∀ j, j < B.k → W.cell? ⟨b, o + i * B.k + j, none⟩ = cs[j]?) ∧ DataW.trod enc P W 0 (fun _ => true) true n e cs = xs[i]?) →
      ∃ ys : List α, ys.length = xs.length ∧ RRel (ctxOf W) W B.k b o (ys.map B.enc) ∧ (ys.map sz).sum ≤ K.ba (xs.map (·.1))
  | [], o, _ => ⟨[], rfl, by simp [RRel], by simp⟩
  | x :: xs, o, hx => by
    obtain ⟨cs, h1, h2, h3⟩ := hx 0 (by simp)
    obtain ⟨y, q1, q2, q3⟩ := h n cs x (by simpa using h3)
    obtain ⟨ys, r1, r2, r3⟩ := rows_of h hk hb xs (o + B.k) fun i hi => by
      obtain ⟨cs', p1, p2, p3⟩ := hx (i + 1) (by simp; omega)
      refine ⟨cs', p1, fun j hj => ?_, by simpa using p3⟩
      rw [← p2 j hj, show o + B.k + i * B.k + j = o + (i + 1) * B.k + j by rw [Nat.succ_mul]; omega]
    refine ⟨y :: ys, by simp [r1], ?_, ?_⟩
    · simp only [List.map_cons, RRel]
      exact ⟨B.len y, CRel_in hb _ _ _ q1 q2 (fun j hj => by have := h2 j (by omega); simpa using this), r2⟩
    · have := K.cons x.1 (xs.map (·.1))
      simp only [List.map_cons, List.sum_cons]; omega

theorem Rd.slice {α : Type} {t e : TypeId} {B : EncR α} {sz : α → Nat} (ht : P.underlying t = some (.slice e)) (h : Rd K enc P W e B sz) (hk : B.k = P.cellsOf e) (hpos : 0 < B.k) :
    Rd K enc P W t (EncR.one (Enc.slice B)) (fun l => (l.map sz).sum + 1) := by
  intro fuel cs x hx
  rcases DataW.trod_slice ht hx with ⟨rfl, rfl⟩ | ⟨a, len, cap, elems, rest, n, _, rfl, rfl, _, hl, _, hlen, hel, hsp, _⟩
  · exact ⟨[], by simp only [EncR.one, Enc.slice, LRel, VRel]; exact ⟨.inr ⟨none, rfl, rfl, trivial⟩, trivial⟩, by simp [Flat, Value.oneCell'], by simpa using K.one _⟩
  · obtain ⟨hrl, hr⟩ := hsp rfl
    have hflat : Flat [Value.slice (some a) len cap] := by simp [Flat, Value.oneCell']
    rcases Nat.eq_zero_or_pos cap with h0 | h0
    · obtain rfl : len = 0 := by omega
      subst h0
      exact ⟨[], by simp only [EncR.one, Enc.slice, LRel, VRel]; exact ⟨.inr ⟨some a, rfl, rfl, trivial⟩, trivial⟩, hflat, by simpa using K.one _⟩
    · -- the first cell is read: it has no spot
      have hcell : W.cell? a ≠ none := by
        have hb : ∃ y, (W.cells? 0 (a.add (0 * P.cellsOf e)) (P.cellsOf e)).bind (DataW.trod enc P W 0 (fun _ => true) true n e) = some y := by
          by_cases hz : 0 < len
          · have := hel 0 hz
            rw [this]; exact ⟨elems[0]'(by omega), by simp⟩
          · have := hr 0 (by omega)
            rw [show len + 0 = 0 by omega] at this
            rw [this]; exact ⟨rest[0]'(by omega), by simp⟩
        obtain ⟨y, hy⟩ := hb
        obtain ⟨cs', hcs, _⟩ := Option.bind_eq_some_iff.1 hy
        obtain ⟨_, hcl, hci⟩ := World.cells?_some hcs
        have := hci 0 (by omega)
        simp only [Nat.zero_mul, Addr.add, if_true] at this
        rw [this, List.getElem?_eq_getElem (by omega)]; simp
      obtain ⟨blk, off, spot⟩ := a
      have hspot : spot = none := by
        cases spot with
        | none => rfl
        | some s => exact absurd (by unfold World.cell?; split <;> simp) hcell
      subst hspot
      have hblk : blk < W.heap.size := by
        rcases Nat.lt_or_ge blk W.heap.size with q | q
        · exact q
        · exact absurd (by unfold World.cell?; simp [Array.getElem?_eq_none q]) hcell
      have hadd : ∀ m j, (Addr.add ⟨blk, off, none⟩ m).add j = ⟨blk, off + m + j, none⟩ := by
        intro m j
        unfold Addr.add
        split <;> split <;> simp_all <;> omega
      obtain ⟨ys, r1, r2, r3⟩ := rows_of h hk hblk (n := n) elems off fun i hi => by
        have := hel i (by omega)
        rw [List.getElem?_eq_getElem hi] at this ⊢
        obtain ⟨cs', hcs, hd⟩ := Option.bind_eq_some_iff.1 this
        obtain ⟨_, hcl, hci⟩ := World.cells?_some hcs
        refine ⟨cs', by omega, fun j hj => ?_, hd⟩
        rw [← hci j (by omega), hadd, hk]
      refine ⟨ys, ?_, hflat, ?_⟩
      · simp only [EncR.one, Enc.slice, LRel, VRel]
        refine ⟨.inl ⟨blk, off, cap, ?_, ?_, r2, trivial⟩, trivial⟩
        · simp [r1, hlen]
        · simp [r1, hlen]; exact hl
      · have := K.slice (elems.map (·.1)) (rest.map (·.1))
        simp only []; omega

theorem FRd.one {α : Type} {f : Field} {off : Nat} {A : EncR α} {sz : α → Nat} (h : Rd K enc P W f.type A sz) (hk : A.k = P.cellsOf f.type) (ho : f.offset = off) : FRd K enc P W [f] off A sz := by
  intro fuel cs xs hcl hxl hx
  obtain ⟨x, rfl⟩ : ∃ x, xs = [x] := by
    match xs, hxl with
    | [x], _ => exact ⟨x, rfl⟩
  have := hx 0 f (by simp)
  subst ho
  rw [List.take_of_length_le (by simp; omega)] at this
  obtain ⟨y, q1, q2, q3⟩ := h fuel _ x (by simpa using this)
  have := K.cons x.1 []
  exact ⟨y, q1, q2, by simp only [List.map_cons, List.map_nil]; omega⟩
theorem LRel_cat {C : Ctx} {w : World} : ∀ {a b : List DV} {x y : List Value}, LRel C w a x → LRel C w b y → LRel C w (a ++ b) (x ++ y)
  | [], _, [], _, _, h => h
  | _ :: _, _, _ :: _, _, h, h' => by simp only [LRel, List.cons_append] at h ⊢; exact ⟨h.1, LRel_cat h.2 h'⟩
  | [], _, _ :: _, _, h, _ => by simp [LRel] at h
  | _ :: _, _, [], _, h, _ => by simp [LRel] at h
theorem FRd.cons {α β : Type} {f : Field} {fs : List Field} {off : Nat} {A : EncR α} {B : EncR β} {sz : α → Nat} {sz' : β → Nat} (h : Rd K enc P W f.type A sz) (hk : A.k = P.cellsOf f.type) (ho : f.offset = off)
    (ht : FRd K enc P W fs (off + A.k) B sz') : FRd K enc P W (f :: fs) off (A.and B) (fun x => sz x.1 + sz' x.2) := by
  intro fuel cs xs hcl hxl hx
  have hcl' : cs.length = off + (A.k + B.k) := hcl
  match xs, hxl with
  | x :: xs, hxl =>
    have h0 := hx 0 f (by simp)
    subst ho
    obtain ⟨y, q1, q2, q3⟩ := h fuel _ x (by simpa using h0)
    obtain ⟨z, r1, r2, r3⟩ := ht fuel cs xs (by omega) (by simpa using hxl) fun i g hg => by have := hx (i + 1) g (by simpa using hg); simpa using this
    have hsplit : cs.drop f.offset = (cs.drop f.offset).take (P.cellsOf f.type) ++ cs.drop (f.offset + A.k) := by
      rw [hk, ← List.drop_drop, List.take_append_drop]
    refine ⟨(y, z), ?_, ?_, ?_⟩
    · rw [hsplit]; exact LRel_cat q1 r1
    · rw [hsplit]; intro v hv
      rcases List.mem_append.1 hv with hv | hv
      · exact q2 v hv
      · exact r2 v hv
    · have := K.cons x.1 (xs.map (·.1))
      simp only [List.map_cons]; omega
theorem Rd.struct {α : Type} {t : TypeId} {fs : Array Field} {A : EncR α} {sz : α → Nat} (ht : P.underlying t = some (.struct fs)) (hk : A.k = P.cellsOf t) (h : FRd K enc P W fs.toList 0 A sz) : Rd K enc P W t A (fun y => sz y + 1) := by
  intro fuel cs x hx
  obtain ⟨xs, n, _, rfl, hcl, hxl, hx⟩ := DataW.trod_struct ht hx
  obtain ⟨y, q1, q2, q3⟩ := h n cs xs (by omega) (by simpa using hxl) fun i f hf => hx i f (by simpa using hf)
  have := K.agg (xs.map (·.1))
  exact ⟨y, by simpa using q1, by simpa using q2, by simp only []; omega⟩
end
end Go.FA
namespace Go.FA
open Go.RowKit Go.ChangeShapes
set_option linter.unusedVariables false
set_option linter.unusedSimpArgs false

section
variable {H : Type} (K : Bulk H) (enc : TypeId × Value → H) (P : Program) (W : World)
/-- an argument of a type is data -/
def ARd1 {α : Type} (t : TypeId) (A : Enc α) (sz : α → Nat) : Prop :=
  ∀ (base : Nat) (v : Value) (d : DataW H) (ps : List MemPlace), Value.okWide P W .any base t v → DataW.Trod enc P W 0 (fun _ => true) true t v d ps → ∃ y, VRel (ctxOf W) W (A.enc y) v ∧ sz y ≤ K.b d
/-- a call's arguments are data -/
def ARd {α : Type} (ts : List TypeId) (A : EncR α) (sz : α → Nat) : Prop :=
  ∀ (base : Nat) (args : List Value) (ds : List (DataW H)) (ps : List MemPlace), (∀ (j : Nat) t v, ts[j]? = some t → args[j]? = some v → Value.okWide P W .any base t v) →
    DataW.TrodAll enc P W 0 (fun _ => true) true ts args ds ps → ∃ y, LRel (ctxOf W) W (A.enc y) args ∧ sz y ≤ K.ba ds
variable {K enc P W}
theorem ARd1.cell {α : Type} {t : TypeId} {A : Enc α} {sz : α → Nat} (h : Rd K enc P W t (EncR.one A) sz) (hna : ∀ base cs, ¬ Value.okWide P W .any base t (.agg cs)) : ARd1 K enc P W t A sz := by
  intro base v d ps hok hd
  obtain ⟨fuel, hf⟩ := hd
  obtain ⟨y, q1, _, q3⟩ := h fuel _ _ hf
  refine ⟨y, ?_, q3⟩
  have hc : v.cells = #[v] := by
    unfold Value.cells
    split
    · exact absurd hok (hna _ _)
    · rfl
  rw [hc] at q1
  simp only [EncR.one, LRel] at q1
  exact q1.1
theorem ARd1.agg {α : Type} {t : TypeId} {fs : Array Field} {A : EncR α} {sz : α → Nat} (ht : P.underlying t = some (.struct fs)) (h : Rd K enc P W t A sz) : ARd1 K enc P W t (Enc.agg A) sz := by
  intro base v d ps hok hd
  obtain ⟨fuel, hf⟩ := hd
  obtain ⟨y, q1, q2, q3⟩ := h fuel _ _ hf
  simp only [Value.okWide, ht] at hok
  obtain ⟨cs, rfl, _⟩ := hok
  refine ⟨y, ?_, q3⟩
  simp only [Enc.agg, VRel]
  exact ⟨cs.toList, by simp, by simpa [Value.cells] using q1, by simpa [Value.cells] using q2⟩
theorem ARd.one {α : Type} {t : TypeId} {A : Enc α} {sz : α → Nat} (h : ARd1 K enc P W t A sz) : ARd K enc P W [t] (EncR.one A) sz := by
  intro base args ds ps hok hd
  obtain ⟨v, vs, d, ds', p, q, rfl, rfl, rfl, h1, h2⟩ := trodAll_cons hd
  obtain ⟨rfl, rfl, rfl⟩ := trodAll_nil h2
  obtain ⟨y, q1, q2⟩ := h base v d p (hok 0 t v rfl rfl) h1
  have := K.cons d []
  exact ⟨y, by simp only [EncR.one, LRel]; exact ⟨q1, trivial⟩, by omega⟩
theorem ARd.cons {α β : Type} {t : TypeId} {ts : List TypeId} {A : Enc α} {B : EncR β} {sz : α → Nat} {sz' : β → Nat} (h : ARd1 K enc P W t A sz) (ht : ARd K enc P W ts B sz') : ARd K enc P W (t :: ts) ((EncR.one A).and B) (fun x => sz x.1 + sz' x.2) := by
  intro base args ds ps hok hd
  obtain ⟨v, vs, d, ds', p, q, rfl, rfl, rfl, h1, h2⟩ := trodAll_cons hd
  obtain ⟨y, q1, q2⟩ := h base v d p (hok 0 t v rfl rfl) h1
  obtain ⟨z, r1, r2⟩ := ht base vs ds' q (fun j t' v' a b => hok (j + 1) t' v' (by simpa using a) (by simpa using b)) h2
  have := K.cons d ds'
  exact ⟨(y, z), by simp only [EncR.and, EncR.one, List.cons_append, List.nil_append, LRel]; exact ⟨q1, r1⟩, by simp only []; omega⟩

theorem trodAll_stays (hl : laidOutB P = true) {W' : World} (hb : Below W.heap.size W W') : ∀ {ts : List TypeId} {vs : List Value} {ds : List (DataW H)} {ps : List MemPlace} {sp : Nat → Bool},
    (∀ t ∈ ts, P.readableRec t = true ∧ t < P.types.size) → DataW.TrodAll enc P W 0 (fun _ => true) true ts vs ds ps → (∀ p ∈ ps, p.block < W.heap.size) → (∀ p ∈ ps, sp p.block = true) → DataW.TrodAll enc P W' 0 sp true ts vs ds ps
  | [], _, _, _, _, _, h, _, _ => by
    obtain ⟨rfl, rfl, rfl⟩ := trodAll_nil h
    rfl
  | t :: ts, _, _, _, _, hr, h, hlt, hsp => by
    obtain ⟨v, vs, d, ds', p, q, rfl, rfl, rfl, h1, h2⟩ := trodAll_cons h
    exact ⟨p, q, WideElems.Trod_stays hl (hr t (by simp)).1 (hr t (by simp)).2 h1 (fun x hx => hb.same (hlt x (by simp [hx]))) (fun x hx => hsp x (by simp [hx])),
      trodAll_stays hl hb (fun t' ht' => hr t' (by simp [ht'])) h2 (fun x hx => hlt x (by simp [hx])) (fun x hx => hsp x (by simp [hx])), rfl⟩

/-- A LAW OUT OF A CONTRACT: the call returns true, its arguments read as before -/
theorem law_post {f : FuncId} {fn : Func} {S : Sp} {dvs : List DV} {args : Array Value} {ds gs : List (DataW H)} {before : List MemPlace} {s : ChangeSpec} {t : TypeId}
    (hl : laidOutB P = true) (hcs : CallSound P f S) (hS : S dvs = some (.lit (.bool true))) (hvars : s.vars = []) (hrd : ∀ t ∈ fn.params.toList, P.readableRec t = true ∧ t < P.types.size)
    (hfn : (s.fn H (ds ++ gs)).results = [.lit (.bool true)] ∧ (s.fn H (ds ++ gs)).args = ds ∧ (s.fn H (ds ++ gs)).vars = []) (hrt : fn.resultTypes = #[t]) (hbool : P.underlying t = some .bool)
    (hW : DataW.Whole enc P fn.params.toList s.vars false W args.toList ds gs before) (hrel : LRel (ctxOf W) W dvs args.toList) :
    Calls P f args W fun e W' => ∃ v, e = .returned v ∧ s.post enc P fn false true false false W args v W' := by
  have hlt := hW.lt
  have hW' := hW
  obtain ⟨p, q, hA, hV, rfl, hfz, hnd⟩ := hW
  rw [hvars] at hV
  obtain ⟨rfl, rfl⟩ := trodVars_none hV
  rcases hcs dvs _ hS with ⟨_, hc⟩ | ⟨k, rows, hr, _⟩
  · refine (hc (ctxOf W) W args.toList (fun b o h => h) (fun b h => h) hrel).mono fun e W' ⟨v, he, hb, hv⟩ => ?_
    subst he
    simp only [VRel] at hv
    subst hv
    have hpl : ∀ x ∈ p, x.block < W.heap.size := fun x hx => hlt x (by simp [hx])
    have hres : ∀ (b : Nat) (sp : Nat → Bool) (hd : Bool), DataW.TrodAll enc P W' b sp hd fn.resultTypes.toList ((Value.bool true).resultList fn.resultTypes.size) (s.fn H (ds ++ [])).results [] := fun b sp hd => by
      rw [hfn.1, hrt]; exact trodAll_cons_mk (shut_bool hbool _) trodAll_mk0
    have hargs : ∀ sp : Nat → Bool, (∀ x ∈ p, sp x.block = true) → DataW.TrodAll enc P W' 0 sp true fn.params.toList args.toList (s.fn H (ds ++ [])).args p := fun sp hsp => by
      rw [hfn.2.1]; exact trodAll_stays hl hb hrd hA hpl hsp
    have hvs : ∀ sp : Nat → Bool, DataW.TrodVars enc P W' sp s.vars (s.fn H (ds ++ [])).vars [] := fun sp => by rw [hfn.2.2, hvars]; rfl
    refine ⟨_, rfl, ds, [], p ++ [], [], p, [], hW', hres _ _ _, hargs _ (fun x hx => by simpa using hpl x hx), hvs _, ?_, fun _ => ⟨ok_one hrt rfl (okWide_bool_mk hbool _), (s.fn H (ds ++ [])).results ++ (s.fn H (ds ++ [])).args, _, p ++ [], ⟨p, [], ?_, hvs (fun _ => true), rfl, ?_, ?_⟩, ?_⟩⟩
    · exact World.keptBut_mono (fun x hx => ⟨hx, .inr (by simpa using hx)⟩) (hb.frame (· ∈ p ++ []))
    · have := trodAll_append (hargs _ fun _ _ => rfl) (hres 0 (fun _ => true) true)
      simpa using this
    · intro b off hx
      rw [hb.frozen (hlt _ hx)]; exact hfz b off hx
    · intro q; cases q
    · intro x hx _; simpa using hx
  · cases hr
end
end Go.FA
namespace Go.Proofs.Yt
open Go Go.FA Go.Proofs Go.RowKit Go.ChangeShapes
open YtfpejlbfdpeofaaGreatDoor
set_option linter.unusedVariables false
set_option linter.unusedSimpArgs false
set_option maxRecDepth 100000

theorem under_of_ty {P : Program} {t : TypeId} {i : TyI} (h : tyOf P t = some i) : P.underlying t = some i.desc := by
  unfold tyOf at h
  split at h
  · next d j h1 h2 => split at h
                      · simp at h; subst h; exact h1
                      · simp at h
  · simp at h
theorem cells_of_ty {P : Program} {t : TypeId} {i : TyI} (h : tyOf P t = some i) : P.cellsOf t = i.size := by
  unfold tyOf at h
  split at h
  · next d j h1 h2 => split at h
                      · simp at h; subst h; simp [Program.cellsOf, h2]
                      · simp at h
  · simp at h

open YtfpejlbfdpeofaaGreatDoor in
def blk (H : Type) : Bulk H where
  b := Rows.uptoBulk
  ba := Rows.uptoBulkAll
  str l := by simp [Rows.uptoBulk]
  one d := by cases d with
    | lit l => cases l <;> simp [Rows.uptoBulk]
    | nil => simp [Rows.uptoBulk]
    | ptr d => simp [Rows.uptoBulk]
    | slice elems spare => simp [Rows.uptoBulk]
    | agg parts => simp [Rows.uptoBulk]
    | iface t d => simp [Rows.uptoBulk]
    | map entries => simp [Rows.uptoBulk]
    | held h => simp [Rows.uptoBulk]
  agg l := by simp [Rows.uptoBulk]
  slice l r := by simp only [Rows.uptoBulk]; omega
  cons d l := by simp [Rows.uptoBulkAll]

theorem _root_.Go.FA.Rd.to {H : Type} {K : Bulk H} {enc : TypeId × Value → H} {P : Program} {W : World} {α β : Type} {t : TypeId} {A : EncR α} {B : EncR β} {sz : α → Nat} {sz' : β → Nat} (h : Rd K enc P W t A sz) (g : α → β)
    (he : ∀ y, B.enc (g y) = A.enc y) (hs : ∀ y, sz' (g y) ≤ sz y) : Rd K enc P W t B sz' := by
  intro fuel cs x hx
  obtain ⟨y, q1, q2, q3⟩ := h fuel cs x hx
  exact ⟨g y, by rw [he]; exact q1, q2, Nat.le_trans (hs y) q3⟩

def szS (s : ByteArray) : Nat := s.size + 1
def szL {α : Type} (sz : α → Nat) (l : List α) : Nat := (l.map sz).sum + 1

section
variable {H : Type} {enc : TypeId × Value → H} {W : World}
theorem rdStr : Rd (blk H) enc Tryz.prog W 9 (EncR.one Enc.str) szS := Rd.str (under_of_ty ty9)
theorem argStr : ARd1 (blk H) enc Tryz.prog W 9 Enc.str szS := ARd1.cell rdStr fun base cs h => by
  simp [Value.okWide, under_of_ty ty9, Cell.okWide, Cell.ok] at h
end
theorem own_ : ownKnob Tryz.prog.godebug = none := by kernel_rfl
theorem laidOut_ : laidOutB Tryz.prog = true := by kernel_rfl
theorem readable9 : Tryz.prog.readableRec 9 = true := by kernel_rfl
theorem types9 : 9 < Tryz.prog.types.size := of_decide_eq_true (by kernel_rfl)
theorem bulk_le {H : Type} {l : List (DataW H)} (hk : Rows.uptoSmall H l = true) : Rows.uptoBulkAll l ≤ 1048576 := of_decide_eq_true hk
end Go.Proofs.Yt
