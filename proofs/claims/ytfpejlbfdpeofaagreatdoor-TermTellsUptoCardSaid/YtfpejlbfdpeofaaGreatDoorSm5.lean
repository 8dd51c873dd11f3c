/- Contracts of functions of the program, by a machine over abstract values; part 6. No condition beyond those of each theorem. -/
import Derived.Test.YtfpejlbfdpeofaaGreatDoorSm4
import Derived.Orders
import Derived.Carry
import Derived.ChangeArms
import Derived.DataReads
import Derived.ChangeSame
import Derived.WideKeyArgs
import Derived.RowKit
import Derived.OpenShut
import Derived.Test.YtfpejlbfdpeofaaGreatDoorProg
import Derived.JoinedCond
import Derived.Lib.LaidTab
import Derived.Laws.MakeOwn
import Derived.Lib.AppendStr
set_option linter.unusedVariables false
set_option linter.unusedSimpArgs false
namespace Go.FA
open Go.RowKit
variable {P : Program} {T : Tab} {E : Entry} {F : Nat → Prop} {C : Ctx} {w : World} {σ : St} {n : Nat} {Q : Ex → (Nat → DV) → St → Prop} {a : Nat → DV}
def QW (P : Program) (σ : St) (a : Nat → DV) : List ResultVar → Option (List DV)
  | [] => some []
  | .tmp t :: rest => (QW P σ a rest).map fun ds => a t :: ds
  | .cell ad t :: rest => match Qv P σ t (a ad), QW P σ a rest with
    | some d, some ds => some (d :: ds)
    | _, _ => none
def Qh (P : Program) (σ : St) (a : Nat → DV) (l : List ResultVar) : Option DV :=
  match QW P σ a l with
  | some [d] => some d
  | some ds => some (.tuple ds)
  | none => none
def σ0 : St := ⟨0, fun _ => none, fun _ => none⟩
def init (args : List DV) : Nat → DV := fun t => (args[t]?).getD (.lit (.tuple #[]))
def Qir (ca : Array Value) : ResultVar → Sem Value
  | .tmp t => pure (ca.getD t undef)
  | .cell a t => do loadVar t (← asAddr (ca.getD a undef))
theorem results_eq (fn : Func) (ca : Array Value) : results fn ca = (do
    let vs ← fn.results.mapM (Qir ca)
    pure (if h : vs.size = 1 then vs[0] else .tuple vs)) := by
  unfold results
  have : (fun x => match x with | ResultVar.tmp t => pure (ca.getD t undef) | ResultVar.cell a t => do loadVar t (← asAddr (ca.getD a undef)) : ResultVar → Sem Value) = Qir ca := by
    funext x; cases x <;> rfl
  rw [← this]
  rfl
theorem Qen {ca : Array Value} (hf : QfC C w a ca) (hs : Qav E F C w σ) : ∀ (l : List ResultVar) (ds : List DV), QW P σ a l = some ds →
    ∃ vs : List Value, (l.mapM (Qir ca)).run P w = .ok vs w ∧ QP C w ds vs
  | [], ds, h => by simp [QW] at h; subst h; exact ⟨[], rfl, by simp [QP]⟩
  | .tmp t :: rest, ds, h => by
    simp only [QW, Option.map_eq_some_iff] at h
    obtain ⟨ds', h1, rfl⟩ := h
    obtain ⟨vs, h2, h3⟩ := Qen hf hs rest ds' h1
    exact ⟨ca.getD t undef :: vs, by simp only [List.mapM_cons, Qir, Sem.run_bind, Sem.run_pure, Result.andThen_ok, h2], by simp only [QP]; exact ⟨hf t, h3⟩⟩
  | .cell ad t :: rest, ds, h => by
    simp only [QW] at h
    split at h
    · next d ds' hd hds =>
      simp at h; subst h
      obtain ⟨vs, h2, h3⟩ := Qen hf hs rest ds' hds
      obtain ⟨u, h4, h5⟩ := Qet hd (hf ad) hs
      have h6 : ∃ addr, ca.getD ad undef = .pointer (some addr) := by
        have hv := hf ad
        unfold Qv at hd
        split at hd
        · next cells off he => rw [he] at hv; simp only [Qy] at hv; obtain ⟨b, o, q, _⟩ := hv; exact ⟨_, q⟩
        · next id off he => rw [he] at hv; simp only [Qy] at hv; obtain ⟨b, _, q⟩ := hv; exact ⟨_, q⟩
        · simp at hd
      obtain ⟨addr, h7⟩ := h6
      rw [h7] at h4
      simp only [Instr.loadAt, Instr.sureAddr, Sem.run_bind, Sem.run_pure, Result.andThen_ok] at h4
      have h8 : (Qir ca (.cell ad t)).run P w = .ok u w := by simp only [Qir, h7, asAddr, Sem.run_bind, Sem.run_pure, Result.andThen_ok, h4]
      exact ⟨u :: vs, by simp only [List.mapM_cons, Sem.run_bind, h8, Sem.run_pure, Result.andThen_ok, h2], by simp only [QP]; exact ⟨h5, h3⟩⟩
    · simp at h
theorem Qcm {ca : Array Value} {fn : Func} {r : DV} (hf : QfC C w a ca) (hs : Qav E F C w σ) (h : Qh P σ a fn.results.toList = some r) :
    ∃ v, (results fn ca).run P w = .ok v w ∧ Qy C w r v := by
  unfold Qh at h
  have key : ∀ ds, QW P σ a fn.results.toList = some ds → ∃ vs : List Value, (fn.results.mapM (Qir ca)).run P w = .ok vs.toArray w ∧ QP C w ds vs := by
    intro ds hd
    obtain ⟨vs, h1, h2⟩ := Qen hf hs _ _ hd
    refine ⟨vs, ?_, h2⟩
    rw [Array.mapM_eq_mapM_toList]
    simp [h1]
  rw [results_eq]
  split at h
  · next d hd =>
    simp at h; subst h
    obtain ⟨vs, h1, h2⟩ := key _ hd
    have hl := QY h2
    match vs, hl, h2 with
    | [v], _, h2 =>
      simp only [QP] at h2
      exact ⟨v, by simp only [Sem.run_bind, h1, Result.andThen_ok]; rfl, h2.1⟩
  · next ds hne hd =>
    simp at h; subst h
    obtain ⟨vs, h1, h2⟩ := key _ hd
    have hl := QY h2
    have hvs : vs.toArray.size ≠ 1 := by
      intro e
      simp at e
      rw [e] at hl
      match ds, hl with
      | [d], _ => exact hne d rfl
    refine ⟨.tuple vs.toArray, ?_, by simp only [Qy]; exact ⟨vs, rfl, h2⟩⟩
    simp only [Sem.run_bind, h1, Result.andThen_ok, Sem.run_pure]
    rw [dif_neg hvs]
  · simp at h
def DLe (d d' : DV) : Prop := ∀ (C : Ctx) (w : World) (v : Value), Qy C w d v → Qy C w d' v
inductive LLe : List DV → List DV → Prop where
  | nil : LLe [] []
  | cons {d d' : DV} {ds ds' : List DV} (h : DLe d d') (t : LLe ds ds') : LLe (d :: ds) (d' :: ds')
theorem DLe.refl (d : DV) : DLe d d := fun _ _ _ h => h
theorem LLe.refl : ∀ ds : List DV, LLe ds ds
  | [] => .nil
  | d :: ds => .cons (.refl d) (.refl ds)
theorem LLe.length : ∀ {ds ds' : List DV}, LLe ds ds' → ds.length = ds'.length
  | _, _, .nil => rfl
  | _, _, .cons _ t => by simp [t.length]
theorem Qbk : ∀ {ds ds' : List DV} {vs : List Value}, LLe ds ds' → QP C w ds vs → QP C w ds' vs
  | _, _, [], .nil, h => h
  | _, _, _ :: _, .nil, h => by simp [QP] at h
  | _, _, [], .cons _ _, h => by simp [QP] at h
  | _, _, v :: vs, .cons h1 t, h => by simp only [QP] at h ⊢; exact ⟨h1 _ _ _ h.1, Qbk t h.2⟩
theorem QfA {b : Nat} : ∀ {ds ds' : List DV} {o : Nat}, LLe ds ds' → Qa6 C w b o ds → Qa6 C w b o ds'
  | _, _, _, .nil, h => h
  | _, _, o, .cons h1 t, h => by
    simp only [Qa6] at h ⊢
    obtain ⟨⟨hp, v, hv, hf, hr⟩, ht⟩ := h
    exact ⟨⟨hp, v, hv, hf, h1 _ _ _ hr⟩, QfA t ht⟩
structure Enc (α : Type) where
  enc : α → DV
  dec : DV → Option α
  le : ∀ d x, dec d = some x → DLe d (enc x)
  pure : ∀ x, QaV (enc x) = true
  de : ∀ x, dec (enc x) = some x
structure Ql (α : Type) where
  k : Nat
  enc : α → List DV
  dec : List DV → Option α
  len : ∀ x, (enc x).length = k
  le : ∀ r x, dec r = some x → LLe r (enc x)
  pure : ∀ x, QaX (enc x) = true
  de : ∀ x, dec (enc x) = some x
def Qbd {α : Type} (A : Ql α) : List (List DV) → Option (List α)
  | [] => some []
  | r :: rs => match A.dec r, Qbd A rs with
    | some x, some xs => some (x :: xs)
    | _, _ => none
theorem QcK {α : Type} (A : Ql α) : ∀ (rs : List (List DV)) (l : List α), Qbd A rs = some l → rs.length = l.length
  | [], l, h => by simp [Qbd] at h; subst h; rfl
  | r :: rs, l, h => by
    simp only [Qbd] at h
    split at h
    · next x xs h1 h2 => simp at h; subst h; simp [QcK A rs xs h2]
    · simp at h
theorem Qi3 {α : Type} (A : Ql α) {b : Nat} : ∀ (rs : List (List DV)) (l : List α) (o : Nat), Qbd A rs = some l → QaP C w A.k b o rs → QaP C w A.k b o (l.map A.enc)
  | [], l, o, h, _ => by simp [Qbd] at h; subst h; simp [QaP]
  | r :: rs, l, o, h, hr => by
    simp only [Qbd] at h
    split at h
    · next x xs h1 h2 =>
      simp at h; subst h
      simp only [QaP, List.map_cons] at hr ⊢
      exact ⟨A.len x, QfA (A.le _ _ h1) hr.2.1, Qi3 A rs xs (o + A.k) h2 hr.2.2⟩
    · simp at h
theorem Qee {α : Type} (A : Ql α) : ∀ l : List α, Qeh (l.map A.enc) = true
  | [] => rfl
  | x :: l => by simp [Qeh, A.pure, Qee A l]
def sp {α β : Type} (A : Ql α) (B : Enc β) (f : α → Option β) : Sp := fun args => (A.dec args).bind fun x => (f x).map B.enc
def frz (σ : St) : DV → DV
  | .tuple ds => .tuple (ds.map (Q0 σ))
  | d => Q0 σ d
def Q3 {β : Type} (P : Program) (res : Array ResultVar) (B : Enc β) (y : β) : Ex → (Nat → DV) → St → Prop := fun ex a σ =>
  (ex = .normal ∨ ex = .ret) ∧ ∃ d, Qh P σ a res.toList = some d ∧ B.dec (frz σ d) = some y
theorem Qap {C C' : Ctx} {f : DV → DV} (h : ∀ d v, Qy C w d v → Qy C' w (f d) v) : ∀ {ds : List DV} {vs : List Value}, QP C w ds vs → QP C' w (ds.map f) vs
  | [], [], _ => by simp [QP]
  | d :: ds, v :: vs, hh => by simp only [QP, List.map_cons] at hh ⊢; exact ⟨h _ _ hh.1, Qap h hh.2⟩
  | [], _ :: _, hh => by simp [QP] at hh
  | _ :: _, [], hh => by simp [QP] at hh
theorem QjY (hs : Qav E F C w σ) {d : DV} {v : Value} (hv : Qy C w d v) :
    Qy { C with pm := fun b => C.pm b ∨ (E.B ≤ b ∧ b < w.heap.size) } w (frz σ d) v := by
  have hle : C.Le { C with pm := fun b => C.pm b ∨ (E.B ≤ b ∧ b < w.heap.size) } := ⟨fun _ _ e => e, fun _ x e => ⟨x, e, Nat.le_refl _, fun _ => rfl⟩, fun _ _ p => p, fun _ p => .inl p, rfl⟩
  have keep : ∀ {d v}, Qy C w d v → Qy { C with pm := fun b => C.pm b ∨ (E.B ≤ b ∧ b < w.heap.size) } w d v := fun h => QaH hle (.refl C w) _ _ h
  have h1 : ∀ d v, Qy C w d v → Qy { C with pm := fun b => C.pm b ∨ (E.B ≤ b ∧ b < w.heap.size) } w (Q2 σ d) v := by
    intro d v hv
    unfold Q2
    split
    · next id =>
      split
      · next ks vs ho =>
        simp only [Qy] at hv ⊢
        obtain ⟨b, hb, rfl⟩ := hv
        obtain ⟨b', hb', hB, hlt, _, _, es, clock, q1, q2, q3, q4⟩ := hs.obj _ _ ho
        obtain rfl : b = b' := by rw [hb] at hb'; exact Option.some.inj hb'
        exact ⟨b, es, clock, rfl, .inr ⟨hB, hlt⟩, q1, q2, QS hle (.refl C w) _ _ q3, q4⟩
      · exact keep hv
    · exact keep hv
  have h2 : ∀ d v, Qy C w d v → Qy { C with pm := fun b => C.pm b ∨ (E.B ≤ b ∧ b < w.heap.size) } w (Q0 σ d) v := by
    intro d v hv
    unfold Q0
    split
    · simp only [Qy] at hv ⊢
      obtain ⟨ys, rfl, q1, q2⟩ := hv
      exact ⟨ys, rfl, Qap h1 q1, q2⟩
    · exact h1 _ _ hv
  unfold frz
  split
  · simp only [Qy] at hv ⊢
    obtain ⟨ys, rfl, q1⟩ := hv
    exact ⟨ys, rfl, Qap h2 q1⟩
  · exact h2 _ _ hv
theorem Qjh {C : Ctx} {w : World} {dvs : List DV} {cargs : List Value} (n : Nat) (hl : QP C w dvs cargs) : QfC C w (init dvs) (cargs.toArray ++ Array.replicate (n - cargs.toArray.size) undef) := by
  have hll := QY hl
  intro t
  simp only [init]
  cases ha : dvs[t]? with
  | some d =>
    obtain ⟨v, hv, hr⟩ := Qc1 hl ha
    have htl : t < cargs.length := by
      rcases Nat.lt_or_ge t cargs.length with q | q
      · exact q
      · simp [List.getElem?_eq_none q] at hv
    have : (cargs.toArray ++ Array.replicate (n - cargs.toArray.size) undef).getD t undef = v := by
      rw [Array.getD_eq_getD_getElem?, Array.getElem?_append_left (by simpa using htl)]
      simp [hv]
    rw [this]; exact hr
  | none =>
    have htl : ¬ t < cargs.length := by
      intro q
      rw [← hll] at q
      simp [List.getElem?_eq_getElem q] at ha
    have : (cargs.toArray ++ Array.replicate (n - cargs.toArray.size) undef).getD t undef = undef := by
      rw [Array.getD_eq_getD_getElem?, Array.getElem?_append_right (by simpa using Nat.le_of_not_lt htl), Array.getElem?_replicate]
      split <;> rfl
    rw [this]; simp [Qy, undef]
theorem QdK {C : Ctx} {w : World} {dvs : List DV} {cargs : List Value} {n : Nat} (hgl : Qkm C w) (hpc : ∀ b o, C.pc b o → b < w.heap.size) (hpm : ∀ b, C.pm b → b < w.heap.size) (hp : QaX dvs = true) (hl : QP C w dvs cargs) (hn : dvs.length ≤ n) :
    Ok ⟨w.heap.size, w, C.pc, C.pm, ⟨fun _ => none, fun _ => none, C.pc, C.pm, w.heap.size⟩, w, hgl⟩ (fun i => σ0.n ≤ i) n (init dvs) σ0 (cargs.toArray ++ Array.replicate (n - cargs.toArray.size) undef) w := by
  have hll := QY hl
  refine ⟨by simp; omega, ⟨fun _ => none, fun _ => none, C.pc, C.pm, w.heap.size⟩, ⟨Qjh n (Qbb (C := C) (C' := ⟨fun _ => none, fun _ => none, C.pc, C.pm, w.heap.size⟩) (fun _ _ p => p) (fun _ p => p) _ _ hp hl), .refl _, .refl _ _⟩, ?_⟩
  refine ⟨rfl, Below.refl _ _, Nat.le_refl _, hpc, hpm, fun _ _ p => p, fun _ p => p, fun _ _ p => .inl p, fun _ p => .inl p, ?_, ?_, ?_, ?_, ?_, fun _ _ => ⟨rfl, rfl⟩⟩
  · intro i o hi; simp [σ0] at hi
  · intro i j oi oj b hi; simp [σ0] at hi
  · intro t g ht; simp [σ0] at ht
  · intro t t' g g' x x' ht; simp [σ0] at ht
  · intro t g x i o ht; simp [σ0] at ht
theorem Qgg {C : Ctx} {w : World} (hgl : Qkm C w) : Entry.Lone ⟨w.heap.size, w, C.pc, C.pm, ⟨fun _ => none, fun _ => none, C.pc, C.pm, w.heap.size⟩, w, hgl⟩ := ⟨fun _ => rfl, fun _ => rfl, fun _ _ p => p, fun _ p => p, rfl, rfl, rfl⟩
theorem Qb.of_sp {α β : Type} {A : Ql α} {B : Enc β} {g : α → Option β} {f : FuncId} {fn : Func} {c : Code} (hf : P.funcs[f]? = some fn) (hb : fn.body = some c) (hk : A.k ≤ fn.ntmps)
    (h : ∀ (E : Qkl) x y, g x = some y → Dwp P T E.1 fn.ntmps c (Q3 P fn.results B y) (init (A.enc x)) σ0) : Qb P f (sp A B g) := by
  intro args r hr
  simp only [sp, Option.bind_eq_some_iff, Option.map_eq_some_iff] at hr
  obtain ⟨x, hx, y, hy, rfl⟩ := hr
  refine .inl ⟨QeR (B.pure y), fun C w cargs hgl hpc hpm hl1 => ?_⟩
  have hl : QP C w (A.enc x) cargs := Qbk (A.le _ _ hx) hl1
  have hp := A.pure x
  have hok := QdK (n := fn.ntmps) hgl hpc hpm hp hl (by have := A.len x; omega)
  have hw := (h ⟨_, Qgg hgl⟩ x y hy).out _ _ [] hok
  refine calls_of_wp hf hb (wp_mono hw fun e act w' ⟨hd, ex, a', σ', he, ⟨hex, d, hres, hdec⟩, hn, C', hf', hs'⟩ => ?_)
  have hfin : ∃ v, (results fn act.tmps).run P w' = .ok v w' ∧ Qy C' w' d v := Qcm hf'.rel hs' hres
  obtain ⟨v, hv1, hv2⟩ := hfin
  have hgoal : act.defers = [] ∧ ∃ v, (results fn act.tmps).run P w' = .ok v w' ∧ (∃ v', Ending.returned v = .returned v' ∧ Below w.heap.size w w' ∧
      Qy { C with pc := fun b o => C.pc b o ∨ (w.heap.size ≤ b ∧ b < w'.heap.size), pm := fun b => C.pm b ∨ (w.heap.size ≤ b ∧ b < w'.heap.size) } w' (B.enc y) v') :=
    ⟨hd, v, hv1, v, rfl, hs'.below, Qcl (C := { C' with pm := fun b => C'.pm b ∨ (w.heap.size ≤ b ∧ b < w'.heap.size) }) (fun b o p => hs'.psub b o p) (fun b p => Or.elim p (fun q => hs'.msub b q) (fun q => Or.inr q)) _ _ (B.pure y) (B.le _ _ hdec _ _ _ (QjY hs' hv2))⟩
  subst he
  rcases hex with rfl | rfl <;> exact hgoal
def QhI {α β : Type} (A : Ql α) (B : Ql β) (f : α → Option (List β)) : Sp := fun args => (A.dec args).bind fun x => (f x).map fun l => .slice B.k (.tok 0 0) (l.map B.enc)
def Qkc {β : Type} (P : Program) (res : Array ResultVar) (B : Ql β) (l : List β) : Ex → (Nat → DV) → St → Prop := fun ex a σ =>
  (ex = .normal ∨ ex = .ret) ∧ ∃ d, Qh P σ a res.toList = some d ∧ ((d = .lit (.slice none 0 0) ∧ l = []) ∨ ∃ t gg rows, d = .slice B.k (.tok t gg) rows ∧ σ.toks t = some gg ∧ Qbd B rows = some l)
theorem Qb.of_own {α β : Type} {A : Ql α} {B : Ql β} {g : α → Option (List β)} {f : FuncId} {fn : Func} {c : Code} (hf : P.funcs[f]? = some fn) (hb : fn.body = some c) (hk : A.k ≤ fn.ntmps)
    (h : ∀ (E : Qkl) x y, g x = some y → Dwp P T E.1 fn.ntmps c (Qkc P fn.results B y) (init (A.enc x)) σ0) : Qb P f (QhI A B g) := by
  intro args r hr
  simp only [QhI, Option.bind_eq_some_iff, Option.map_eq_some_iff] at hr
  obtain ⟨x, hx, y, hy, rfl⟩ := hr
  refine .inr ⟨_, _, rfl, Qee B y, fun C w cargs hgl hpc hpm hl1 => ?_⟩
  have hl : QP C w (A.enc x) cargs := Qbk (A.le _ _ hx) hl1
  have hp := A.pure x
  have hok := QdK (n := fn.ntmps) hgl hpc hpm hp hl (by have := A.len x; omega)
  have hw := (h ⟨_, Qgg hgl⟩ x y hy).out _ _ [] hok
  refine calls_of_wp hf hb (wp_mono hw fun e act w' ⟨hd, ex, a', σ', he, ⟨hex, d, hres, hown⟩, hn, C', hf', hs'⟩ => ?_)
  have hfin : ∃ v, (results fn act.tmps).run P w' = .ok v w' ∧ Qy C' w' d v := Qcm hf'.rel hs' hres
  obtain ⟨v, hv1, hv2⟩ := hfin
  have hgoal : act.defers = [] ∧ ∃ v, (results fn act.tmps).run P w' = .ok v w' ∧ (∃ v', Ending.returned v = .returned v' ∧ Below w.heap.size w w' ∧ Qkp C w w' B.k (y.map B.enc) v') := by
    refine ⟨hd, v, hv1, v, rfl, hs'.below, ?_⟩
    rcases hown with ⟨rfl, rfl⟩ | ⟨t, gg, rows, rfl, htok, hdec⟩
    · simp only [Qy] at hv2
      exact ⟨⟨0, 0, 0, 0⟩, rfl, fun q => by simp at q, by simp only [Qy]; exact .inr ⟨none, hv2, rfl, _, rfl, Nat.le_refl _⟩⟩
    · obtain ⟨x, hx1, hx2, hx3⟩ := hs'.tok t gg htok
      have hpcs : ∀ b o, C'.pc b o → QhB C w w' { x with gen := 0 } b o := by
        intro b o p
        rcases hs'.psub b o p with q | q
        · exact .inl q
        · exact .inr ⟨q.1, q.2, fun ⟨r1, r2, r3⟩ => (hx3 r1).2.2.1 o r3 (by rw [← r2]; exact p)⟩
      have hpms : ∀ b, C'.pm b → Qhj C w w' { x with gen := 0 } b := by
        intro b p
        rcases hs'.msub b p with q | q
        · exact .inl q
        · exact .inr ⟨q.1, q.2, fun ⟨r1, r2⟩ => (hx3 r1).2.2.2 (by rw [← r2]; exact p)⟩
      have hlen := QcK B rows y hdec
      refine ⟨{ x with gen := 0 }, rfl, fun q => ⟨(hx3 q).1, (hx3 q).2.1⟩, ?_⟩
      simp only [Qy] at hv2 ⊢
      rcases hv2 with ⟨b, o, cap, e1, e2, e3, ⟨x', e4, e5, e6⟩, e7⟩ | ⟨ad, e1, e2, e3⟩
      · rw [hx1] at e4; cases e4
        refine .inl ⟨b, o, cap, by simp [e1, hlen], by simp [← hlen, e2], QdJ (C := C') hpcs hpms B.k b _ o (Qee B y) (Qi3 B rows y o hdec e3), ⟨_, rfl, Nat.le_refl _, fun _ => ?_⟩, by have := e7.1; rw [hs'.lo] at this; exact this, e7.2⟩
        have := e6 hx2.symm
        simpa [hlen] using this
      · subst e2
        simp [Qbd] at hdec; subst hdec
        exact .inr ⟨ad, e1, rfl, _, rfl, Nat.le_refl _⟩
  subst he
  rcases hex with rfl | rfl <;> exact hgoal
def Qf (l : List (FuncId × Sp)) : Tab := fun f => (l.find? fun p => p.1 == f).map (·.2)
theorem QH.of_list {l : List (FuncId × Sp)} (h : ∀ p ∈ l, Qb P p.1 p.2 ∧ ∃ fn c, P.funcs[p.1]? = some fn ∧ fn.body = some c ∧ fn.name ≠ "runtime.NumGoroutine") : QH P (Qf l) := by
  intro f s hs
  unfold Qf at hs
  obtain ⟨p, hp, rfl⟩ := Option.map_eq_some_iff.1 hs
  have hm := List.mem_of_find?_eq_some hp
  have he := List.find?_some hp
  simp at he; subst he
  exact h p hm
end Go.FA
namespace Go.FA
open Go.RowKit
variable {P : Program} {T : Tab} {E : Entry} {F : Nat → Prop} {C : Ctx} {w : World} {σ : St} {n : Nat} {Q : Ex → (Nat → DV) → St → Prop} {a : Nat → DV}
def QF (P : Program) (T : Tab) (ops : Array Oper) (n0 : Nat) : Nat → List Oper → (Nat → DV) → St → Option ((Nat → DV) × St)
  | _, [], a, σ => some (a, σ)
  | i, o :: rest, a, σ => match Qo ops a o.guard with
    | some true => match QJ P T (n0 + i) a σ o.op with
      | some (d, σ') => QF P T ops n0 (i + 1) rest (QN a o.dst d) σ'
      | none => none
    | some false => QF P T ops n0 (i + 1) rest (QN a o.dst (.lit (.tuple #[]))) σ
    | none => none
theorem QeU (P : Program) (T : Tab) (ops : Array Oper) (n0 : Nat) : ∀ (l : List Oper) (i : Nat) (a : Nat → DV) (σ : St), (∀ j, l[j]? = ops[i + j]?) → QF P T ops n0 i l a σ = QZ P T ops n0 (List.range' i l.length) a σ
  | [], i, a, σ, h => by simp [QF, QZ]
  | o :: rest, i, a, σ, h => by
    have h0 : ops[i]? = some o := by have := h 0; simpa using this.symm
    have ht : ∀ j, rest[j]? = ops[i + 1 + j]? := fun j => by have := h (j + 1); rw [show i + 1 + j = i + (j + 1) by omega]; simpa using this
    simp only [List.length_cons, List.range'_succ, QZ, QF, h0]
    cases Qo ops a o.guard with
    | none => rfl
    | some b =>
      cases b with
      | false => exact QeU P T ops n0 rest (i + 1) _ _ ht
      | true =>
        cases QJ P T (n0 + i) a σ o.op with
        | none => rfl
        | some r => obtain ⟨d, σ'⟩ := r; exact QeU P T ops n0 rest (i + 1) _ _ ht
def Qn (x : Option ((Nat → DV) × St)) (K : (Nat → DV) → St → Prop) : Prop :=
  match x with
  | some (a, σ) => K a σ
  | none => False
theorem Dwp.run {id : Nat} {ops : Array Oper} (hT : QH P T) (hd : Q8 n ops = true)
    (h : Qn (QF P T ops σ.n 0 ops.toList a σ) fun a' σ' => σ'.n = σ.n ∧ Q .normal a' { σ' with n := σ.n + ops.size }) : Dwp P T E n (.region id ops false) Q a σ := by
  have he := QeU P T ops σ.n ops.toList 0 a σ (fun j => by simp)
  have hr : List.range' 0 ops.toList.length = List.range ops.size := by rw [List.range_eq_range']; simp
  rw [hr] at he
  unfold Qn at h
  split at h
  · next a' σ' heq => exact Dwp.regionO hT hd (he ▸ heq) h.1 h.2
  · exact h.elim
theorem Dwp.reg {id : Nat} {ops : Array Oper} (hT : QH P T) (hd : Q8 n ops = true)
    (h : ∀ K : (Nat → DV) → St → Prop, (∀ a' σ', Q .normal a' { σ' with n := σ.n + ops.size } → σ'.n = σ.n → K a' σ') → Qn (QF P T ops σ.n 0 ops.toList a σ) K) : Dwp P T E n (.region id ops false) Q a σ :=
  Dwp.run hT hd (h _ fun _ _ h1 h2 => ⟨h2, h1⟩)
theorem Dwp.step {id : Nat} {ops : Array Oper} {y : Code} (hT : QH P T) (hd : Q8 n ops = true)
    (h : ∀ K : (Nat → DV) → St → Prop, (∀ a' σ', Dwp P T E n y Q a' { σ' with n := σ.n + ops.size } → σ'.n = σ.n → K a' σ') → Qn (QF P T ops σ.n 0 ops.toList a σ) K) : Dwp P T E n (.seq (.region id ops false) y) Q a σ :=
  Dwp.seq (Dwp.reg hT hd h)
theorem Dwp.condT {c : Operand} {x y : Code} (hc : eval a c = .lit (.bool true)) (h : Dwp P T E n x Q a σ) : Dwp P T E n (.cond c x y) Q a σ := Dwp.cond hc h
theorem Dwp.condF {c : Operand} {x y : Code} (hc : eval a c = .lit (.bool false)) (h : Dwp P T E n y Q a σ) : Dwp P T E n (.cond c x y) Q a σ := Dwp.cond hc h
theorem upd_same {α : Type} (f : Nat → α) (i : Nat) (x : α) : upd f i x i = x := by simp [upd]
theorem Qe6 {α : Type} (f : Nat → α) (i j : Nat) (x : α) (h : j ≠ i) : upd f i x j = f j := by simp [upd, h]
end Go.FA
namespace Go.FA
theorem Q9 {P : Program} : QH P (Qf []) := QH.of_list (by simp)
end Go.FA
namespace Go.FA
open Go.RowKit
variable {C : Ctx} {w : World} {α β γ : Type}
@[simp] theorem own_enc (B : Enc β) (x : β) (id : Nat) (σ : St) : own id σ (B.enc x) = (B.enc x, σ) := Qg2 (QeR (B.pure x))
@[simp] theorem plainOf_enc (B : Enc β) (x : β) : Qm (B.enc x) = some (B.enc x) := by
  have := B.pure x
  unfold Qm
  split
  · next h => rw [h] at this; simp [QaV, Tag.pure] at this
  · rfl
def Enc.bool : Enc Bool where
  enc b := .lit (.bool b)
  dec d := match d with | .lit (.bool b) => some b | _ => none
  le d x h := by split at h <;> simp_all [DLe.refl]
  pure _ := rfl
  de _ := rfl
def Enc.int (k : IntKind) : Enc Int where
  enc n := .lit (.int k n)
  dec d := match d with | .lit (.int k' n) => if k' = k then some n else none | _ => none
  le d x h := by
    split at h
    · split at h <;> simp_all [DLe.refl]
    · simp at h
  pure _ := rfl
  de _ := by simp
def Enc.str : Enc ByteArray where
  enc s := .lit (.string s)
  dec d := match d with | .lit (.string s) => some s | _ => none
  le d x h := by split at h <;> simp_all [DLe.refl]
  pure _ := rfl
  de _ := rfl
def Ql.one (A : Enc α) : Ql α where
  k := 1
  enc x := [A.enc x]
  dec r := match r with | [d] => A.dec d | _ => none
  len _ := rfl
  le r x h := by
    split at h
    · exact .cons (A.le _ _ h) .nil
    · simp at h
  pure x := by simp [QaX, A.pure]
  de x := A.de x
theorem LLe.append : ∀ {r r' s s' : List DV}, LLe r r' → LLe s s' → LLe (r ++ s) (r' ++ s')
  | _, _, _, _, .nil, h => h
  | _, _, _, _, .cons h t, h' => .cons h (t.append h')
theorem QeC : ∀ {r s : List DV}, QaX r = true → QaX s = true → QaX (r ++ s) = true
  | [], _, _, h => h
  | d :: r, s, h, h' => by
    simp only [QaX, List.cons_append, Bool.and_eq_true] at h ⊢
    exact ⟨h.1, QeC h.2 h'⟩
def Ql.and (A : Ql α) (B : Ql β) : Ql (α × β) where
  k := A.k + B.k
  enc x := A.enc x.1 ++ B.enc x.2
  dec r := match A.dec (r.take A.k), B.dec (r.drop A.k) with
    | some x, some y => some (x, y)
    | _, _ => none
  len x := by simp [A.len, B.len]
  le r x h := by
    split at h
    · next a b ha hb =>
      simp at h; subst h
      have := (A.le _ _ ha).append (B.le _ _ hb)
      rwa [List.take_append_drop] at this
    · simp at h
  pure x := QeC (A.pure _) (B.pure _)
  de x := by
    have h1 : (A.enc x.1 ++ B.enc x.2).take A.k = A.enc x.1 := by rw [← A.len x.1]; simp
    have h2 : (A.enc x.1 ++ B.enc x.2).drop A.k = B.enc x.2 := by rw [← A.len x.1]; simp
    simp only [h1, h2, A.de, B.de]
def Enc.agg (A : Ql α) : Enc α where
  enc x := .agg (A.enc x)
  dec d := match d with | .agg cs => A.dec cs | _ => none
  le d x h := by
    split at h
    · intro C w v hv
      simp only [Qy] at hv ⊢
      obtain ⟨ys, h1, h2, h3⟩ := hv
      exact ⟨ys, h1, Qbk (A.le _ _ h) h2, h3⟩
    · simp at h
  pure x := by simp [QaV, A.pure]
  de x := A.de x
def Enc.tup (A : Ql α) : Enc α where
  enc x := .tuple (A.enc x)
  dec d := match d with | .tuple cs => A.dec cs | _ => none
  le d x h := by
    split at h
    · intro C w v hv
      simp only [Qy] at hv ⊢
      obtain ⟨ys, h1, h2⟩ := hv
      exact ⟨ys, h1, Qbk (A.le _ _ h) h2⟩
    · simp at h
  pure x := by simp [QaV, A.pure]
  de x := A.de x
def Qat (A : Ql α) : List (List DV) → Option (List α)
  | [] => some []
  | r :: rs => match A.dec r, Qat A rs with
    | some x, some xs => some (x :: xs)
    | _, _ => none
theorem Qfb (A : Ql α) : ∀ rs, Qbd A rs = Qat A rs
  | [] => rfl
  | r :: rs => by simp only [Qbd, Qat, Qfb A rs]; all_goals rfl
theorem QaF (A : Ql α) : ∀ l : List α, Qat A (l.map A.enc) = some l
  | [] => rfl
  | x :: l => by simp [Qat, A.de, QaF A l]
theorem Qdf (A : Ql α) : ∀ (rs : List (List DV)) (l : List α), Qat A rs = some l → rs.length = l.length
  | [], l, h => by simp [Qat] at h; subst h; rfl
  | r :: rs, l, h => by
    simp only [Qat] at h
    split at h
    · next x xs h1 h2 => simp at h; subst h; simp [Qdf A rs xs h2]
    · simp at h
theorem QjH (A : Ql α) {b : Nat} : ∀ (rs : List (List DV)) (l : List α) (o : Nat), Qat A rs = some l → QaP C w A.k b o rs → QaP C w A.k b o (l.map A.enc)
  | [], l, o, h, _ => by simp [Qat] at h; subst h; simp [QaP]
  | r :: rs, l, o, h, hr => by
    simp only [Qat] at h
    split at h
    · next x xs h1 h2 =>
      simp at h; subst h
      simp only [QaP, List.map_cons] at hr ⊢
      exact ⟨A.len x, QfA (A.le _ _ h1) hr.2.1, QjH A rs xs (o + A.k) h2 hr.2.2⟩
    · simp at h
theorem QhM (A : Ql α) : ∀ l : List α, Qeh (l.map A.enc) = true
  | [] => rfl
  | x :: l => by simp [Qeh, A.pure, QhM A l]
def Enc.slice (A : Ql α) : Enc (List α) where
  enc l := .slice A.k .none (l.map A.enc)
  dec d := match d with
    | .lit (.slice none 0 0) => some []
    | .slice k _ rows => if k = A.k then Qat A rows else none
    | _ => none
  le d x h := by
    intro C w v hv
    split at h
    · simp at h; subst h
      simp only [Qy] at hv ⊢
      exact .inr ⟨none, hv, rfl, trivial⟩
    · next k tag rows =>
      split at h
      · next hk =>
        subst hk
        have hl := Qdf A _ _ h
        simp only [Qy] at hv ⊢
        rcases hv with ⟨b, o, cap, h1, h2, h3, _⟩ | ⟨ad, h1, h2, _⟩
        · exact .inl ⟨b, o, cap, by simp [h1, hl], by simp [← hl, h2], QjH A _ _ _ h h3, trivial⟩
        · subst h2; simp [Qat] at h; subst h; exact .inr ⟨ad, h1, rfl, trivial⟩
      · simp at h
    · simp at h
  pure x := by simp [QaV, Tag.pure, QhM]
  de x := by simp [QaF]
def Enc.err : Enc Int := Enc.int .i64
def Enc.strs : Enc (List ByteArray) := Enc.slice (Ql.one Enc.str)
def QM (A : Enc α) : Ql α := Ql.one A
def QR (A : Enc α) (B : Enc β) : Ql (α × β) := (Ql.one A).and (Ql.one B)
def Q6 (A : Enc α) (B : Enc β) (D : Enc γ) : Ql (α × β × γ) := (Ql.one A).and ((Ql.one B).and (Ql.one D))
end Go.FA
namespace Go.FA
open Go.RowKit
variable {P : Program} {T : Tab} {E : Entry} {F : Nat → Prop} {C : Ctx} {w : World} {σ : St} {n : Nat} {Q : Ex → (Nat → DV) → St → Prop} {a : Nat → DV}
inductive Touch where
  | none | robj (i : Nat) | wobj (i : Nat) | newobj (i : Nat) | tok
  deriving DecidableEq
def QaO (d : DV) : Touch := match d with | .ptr i _ => .robj i | .map i => .robj i | _ => .none
def Qbt (n : Nat) (d : DV) : Touch := match d with | .ptr i _ => .wobj i | .map i => .wobj i | _ => .wobj n
def touch (id : Nat) (a : Nat → DV) : Op → Touch
  | .load _ x => QaO (eval a x)
  | .lookup _ m _ _ => QaO (eval a m)
  | .store _ ad _ => Qbt 0 (eval a ad)
  | .mapUpdate _ m _ _ => Qbt 0 (eval a m)
  | .insert _ m _ _ => Qbt 0 (eval a m)
  | .makeMap .. | .alloc _ | .range .. => .newobj id
  | .entry x => QaO (eval a x)
  | .call ⟨.builtin .append, _, _⟩ => .tok
  | _ => .none
def clash : Touch → Touch → Bool
  | .wobj i, .robj j => i == j
  | .robj i, .wobj j => i == j
  | .wobj i, .wobj j => i == j
  | .newobj i, .robj j => i == j
  | .robj i, .newobj j => i == j
  | .newobj i, .wobj j => i == j
  | .wobj i, .newobj j => i == j
  | .newobj i, .newobj j => i == j
  | .tok, .tok => true
  | _, _ => false
def Qek (P : Program) (T : Tab) (id : Nat) (a : Nat → DV) (σ : St) (f : St → Option (DV × St)) (d : DV) (σ1 : St) : Touch → Prop
  | .none => σ1 = σ ∧ ∀ σ', f σ' = some (d, σ')
  | .robj i => σ1 = σ ∧ ∀ σ', σ'.objs i = σ.objs i → f σ' = some (d, σ')
  | .wobj i => ∃ ob, σ1 = { σ with objs := upd σ.objs i (some ob) } ∧ ∀ σ', σ'.objs i = σ.objs i → f σ' = some (d, { σ' with objs := upd σ'.objs i (some ob) })
  | .newobj i => ∃ ob, σ1 = { σ with objs := upd σ.objs i (some ob) } ∧ ∀ σ', f σ' = some (d, { σ' with objs := upd σ'.objs i (some ob) })
  | .tok => σ1.objs = σ.objs ∧ σ1.n = σ.n ∧ ∀ σ', σ'.toks = σ.toks → f σ' = some (d, { σ' with toks := σ1.toks })
theorem appTag_hangs {id : Nat} {s : DV} {tk g' : Nat} {σ σ1 : St} (h : QK σ id s = some (tk, g', σ1)) : σ1.objs = σ.objs ∧ σ1.n = σ.n ∧ ∀ σ' : St, σ'.toks = σ.toks → QK σ' id s = some (tk, g', { σ' with toks := σ1.toks }) := by
  unfold QK at h
  split at h
  · split at h
    · next hg =>
      simp at h; obtain ⟨rfl, rfl, rfl⟩ := h
      exact ⟨rfl, rfl, fun σ' hσ => by simp only [QK, hσ, hg, if_true]⟩
    · simp at h
  · simp at h; obtain ⟨rfl, rfl, rfl⟩ := h
    exact ⟨rfl, rfl, fun σ' hσ => by simp only [QK, hσ]⟩
  · simp at h; obtain ⟨rfl, rfl, rfl⟩ := h
    exact ⟨rfl, rfl, fun σ' hσ => by simp only [QK, hσ]⟩
  · simp at h
theorem Qbw {id : Nat} {o : Op} {d : DV} {σ1 : St} (h : dop P T id a σ o = some (d, σ1)) : Qek P T id a σ (fun σ' => dop P T id a σ' o) d σ1 (touch id a o) := by
  have plain : ∀ {f : Option DV}, f.map (fun d => (d, σ)) = some (d, σ1) → σ1 = σ ∧ ∀ σ' : St, f.map (fun d => (d, σ')) = some (d, σ') := by
    intro f hf
    obtain ⟨d', h1, h0⟩ := Option.map_eq_some_iff.1 hf
    cases h0; exact ⟨rfl, fun σ' => by simp [h1]⟩
  cases o with
  | move x => simp [dop] at h; obtain ⟨rfl, rfl⟩ := h; exact ⟨rfl, fun _ => rfl⟩
  | assign x => simp [dop] at h; obtain ⟨rfl, rfl⟩ := h; exact ⟨rfl, fun _ => rfl⟩
  | pick c x y =>
    simp only [dop] at h
    split at h
    · next b hb => simp at h; obtain ⟨rfl, rfl⟩ := h; exact ⟨rfl, fun σ' => by simp [dop, hb]⟩
    · simp at h
  | extract x i =>
    simp only [dop] at h
    split at h
    · next vs hv => obtain ⟨h1, h2⟩ := plain h; exact ⟨h1, fun σ' => by simp only [dop, hv]; exact h2 σ'⟩
    · simp at h
  | load t x =>
    simp only [dop] at h
    obtain ⟨d', h1, h0⟩ := Option.map_eq_some_iff.1 h
    cases h0
    show Qek P T id a σ _ d σ (QaO (eval a x))
    cases he : eval a x with
    | ptr i o =>
      refine ⟨rfl, fun σ' hσ => ?_⟩
      have : Qv P σ' t (eval a x) = Qv P σ t (eval a x) := by rw [he]; simp only [Qv, hσ]
      simp only [dop, this, h1, Option.map_some]
    | row cells off => exact ⟨rfl, fun σ' => by rw [he] at h1; simp only [dop, he]; simp only [Qv] at h1 ⊢; simp only [h1, Option.map_some]⟩
    | _ => rw [he] at h1; simp [Qv] at h1
  | store t ad x =>
    simp only [dop] at h
    obtain ⟨σ2, h1, h0⟩ := Option.map_eq_some_iff.1 h
    cases h0
    show Qek P T id a σ _ _ σ1 (Qbt 0 (eval a ad))
    unfold QI at h1
    split at h1
    · next id' off i xs q1 q2 q3 =>
      split at h1
      · next e cs q4 =>
        split at h1
        · next q5 =>
          simp at h1; subst h1
          rw [q1]
          refine ⟨_, rfl, fun σ' hσ => ?_⟩
          have : QI P σ' t (eval a ad) (eval a x) = some { σ' with objs := upd σ'.objs id' (some (.cells e (setAt cs off xs))) } := by
            unfold QI
            rw [q1, q2, q3]
            simp only [hσ, q4, q5, if_true]
          simp only [dop, this, Option.map_some]
        · simp at h1
      · next e cs q4 =>
        split at h1
        · next q5 =>
          simp at h1; subst h1
          rw [q1]
          refine ⟨_, rfl, fun σ' hσ => ?_⟩
          have : QI P σ' t (eval a ad) (eval a x) = some { σ' with objs := upd σ'.objs id' (some (.buf e (setAt cs off xs))) } := by
            unfold QI
            rw [q1, q2, q3]
            simp only [hσ, q4, q5, if_true]
          simp only [dop, this, Option.map_some]
        · simp at h1
      · simp at h1
    · simp at h1
  | fieldAddr s x f => simp only [dop] at h; obtain ⟨h1, h2⟩ := plain h; exact ⟨h1, h2⟩
  | field s x f => simp only [dop] at h; obtain ⟨h1, h2⟩ := plain h; exact ⟨h1, h2⟩
  | indexAddr t x i => simp only [dop] at h; obtain ⟨h1, h2⟩ := plain h; exact ⟨h1, h2⟩
  | index t x i => simp only [dop] at h; obtain ⟨h1, h2⟩ := plain h; exact ⟨h1, h2⟩
  | binOp op t x y yt => simp only [dop] at h; obtain ⟨h1, h2⟩ := plain h; exact ⟨h1, h2⟩
  | unOp op t x =>
    simp only [dop] at h
    split at h
    · next b hb => simp at h; obtain ⟨rfl, rfl⟩ := h; exact ⟨rfl, fun σ' => by simp [dop, hb]⟩
    · next k n hb => simp at h; obtain ⟨rfl, rfl⟩ := h; exact ⟨rfl, fun σ' => by simp [dop, hb]⟩
    · simp at h
  | lookup t m k ok =>
    simp only [dop] at h
    obtain ⟨d', h1, h0⟩ := Option.map_eq_some_iff.1 h
    cases h0
    show Qek P T id a σ _ d σ (QaO (eval a m))
    have other : (∀ i, eval a m ≠ .map i) → ∀ σ', dop P T id a σ' (.lookup t m k ok) = some (d, σ') := by
      intro hne σ'
      have : mapOf σ' (eval a m) = mapOf σ (eval a m) := by
        cases he : eval a m with
        | map i => exact absurd he (hne i)
        | lit v => cases v with
          | map r => cases r <;> rfl
          | _ => rfl
        | _ => rfl
      simp only [QD] at h1
      simp only [dop, QD, this, h1, Option.map_some]
    cases he : eval a m with
    | map i =>
      refine ⟨rfl, fun σ' hσ => ?_⟩
      have : QD P σ' t (eval a m) (eval a k) ok = QD P σ t (eval a m) (eval a k) ok := by rw [he]; simp only [QD, mapOf, hσ]
      simp only [dop, this, h1, Option.map_some]
    | ptr i o => exact ⟨rfl, fun σ' _ => other (fun i e => by rw [he] at e; cases e) σ'⟩
    | _ => exact ⟨rfl, other (fun i e => by rw [he] at e; cases e)⟩
  | mapUpdate t m k x =>
    simp only [dop] at h
    obtain ⟨σ2, h1, h0⟩ := Option.map_eq_some_iff.1 h
    cases h0
    show Qek P T id a σ _ _ σ1 (Qbt 0 (eval a m))
    unfold Qq at h1
    split at h1
    · next kt et _ _ _ id' kv q1 q2 q3 =>
      split at h1
      · next ki ks vs q4 q5 =>
        split at h1
        · next q6 =>
          obtain ⟨r, q7, rfl⟩ := Option.map_eq_some_iff.1 h1
          rw [q2]
          refine ⟨_, rfl, fun σ' hσ => ?_⟩
          have : Qq P σ' t (eval a m) (eval a k) (eval a x) = some { σ' with objs := upd σ'.objs id' (some (.map r.1 r.2)) } := by
            unfold Qq
            rw [q1, q2, q3]
            simp only [hσ, q4, q5, q6, if_true, q7, Option.map_some]
          simp only [dop, this, Option.map_some]
        · simp at h1
      · simp at h1
    · simp at h1
  | insert t m k x =>
    simp only [dop] at h
    obtain ⟨σ2, h1, h0⟩ := Option.map_eq_some_iff.1 h
    cases h0
    show Qek P T id a σ _ _ σ1 (Qbt 0 (eval a m))
    unfold Qq at h1
    split at h1
    · next kt et _ _ _ id' kv q1 q2 q3 =>
      split at h1
      · next ki ks vs q4 q5 =>
        split at h1
        · next q6 =>
          obtain ⟨r, q7, rfl⟩ := Option.map_eq_some_iff.1 h1
          rw [q2]
          refine ⟨_, rfl, fun σ' hσ => ?_⟩
          have : Qq P σ' t (eval a m) (eval a k) (eval a x) = some { σ' with objs := upd σ'.objs id' (some (.map r.1 r.2)) } := by
            unfold Qq
            rw [q1, q2, q3]
            simp only [hσ, q4, q5, q6, if_true, q7, Option.map_some]
          simp only [dop, this, Option.map_some]
        · simp at h1
      · simp at h1
    · simp at h1
  | nilCheck x => simp only [dop] at h; obtain ⟨h1, h2⟩ := plain h; exact ⟨h1, h2⟩
  | convert s t x => simp only [dop] at h; obtain ⟨h1, h2⟩ := plain h; exact ⟨h1, h2⟩
  | makeMap t r =>
    cases r with
    | some _ => simp [dop] at h
    | none => simp [dop] at h; obtain ⟨rfl, rfl⟩ := h; exact ⟨_, rfl, fun _ => rfl⟩
  | alloc t =>
    simp only [dop, Option.bind_eq_some_iff] at h
    obtain ⟨i, h1, cs, h2, h0⟩ := h
    cases h0
    exact ⟨_, rfl, fun σ' => by simp [dop, h1, h2]⟩
  | range t x =>
    simp only [dop] at h
    split at h
    · next kt et _ _ _ ks vs ht he => simp at h; obtain ⟨rfl, rfl⟩ := h; exact ⟨_, rfl, fun σ' => by simp only [dop, ht, he]⟩
    · simp at h
  | entry x =>
    simp only [dop] at h
    split at h
    · next i he =>
      obtain ⟨d', h1, h0⟩ := Option.map_eq_some_iff.1 h
      cases h0
      show Qek P T id a σ _ _ _ (QaO (eval a x))
      rw [he]
      refine ⟨rfl, fun σ' hσ => ?_⟩
      have : Qez σ' i = Qez σ i := by simp only [Qez, hσ]
      simp only [dop, he, this, h1, Option.map_some]
    · simp at h
  | box t x =>
    simp only [dop] at h
    obtain ⟨cs, h1, h0⟩ := Option.map_eq_some_iff.1 h
    cases h0
    exact ⟨rfl, fun σ' => by simp [dop, h1]⟩
  | build t parts =>
    simp only [dop] at h
    split at h
    · next hok =>
      obtain ⟨cs, h1, h0⟩ := Option.map_eq_some_iff.1 h
      cases h0
      exact ⟨rfl, fun σ' => by simp only [dop, hok, if_true, h1, Option.map_some]⟩
    · simp at h
  | buildSlice t len parts =>
    simp only [dop] at h
    split at h
    · next e _ _ _ ht =>
      split at h
      · next i hi =>
        split at h
        · next hc =>
          obtain ⟨rs, h1, h0⟩ := Option.map_eq_some_iff.1 h
          cases h0
          exact ⟨rfl, fun σ' => by simp only [dop, ht, hi]; rw [if_pos hc, h1]; rfl⟩
        · simp at h
      · simp at h
    · simp at h
  | makeFunc fn first captured => simp [dop] at h; obtain ⟨rfl, rfl⟩ := h; exact ⟨rfl, fun _ => rfl⟩
  | slice t x lo hi mx => simp only [dop] at h; obtain ⟨h1, h2⟩ := plain h; exact ⟨h1, h2⟩
  | call c =>
    obtain ⟨callee, args, tys⟩ := c
    cases callee with
    | value x =>
      simp only [dop, Option.bind_eq_some_iff] at h
      obtain ⟨⟨g, xs⟩, h1, h2⟩ := h
      obtain ⟨q1, q2⟩ := plain h2
      exact ⟨q1, fun σ' => by simp only [dop, h1, Option.bind_some]; exact q2 σ'⟩
    | invoke r m => simp [dop] at h
    | builtin b =>
      simp only [dop] at h
      unfold Qj at h
      split at h
      · next t x hty hargs =>
        split at h
        · next i hi =>
          split at h
          · next hl =>
            obtain ⟨q1, q2⟩ := plain h
            exact ⟨q1, fun σ' => by simp only [dop, hty, hargs, Qj, hi, hl, if_true]; exact q2 σ'⟩
          · simp at h
        · simp at h
      · next t t' s x hty hargs =>
        split at h
        · next htt =>
          subst htt
          unfold QE at h
          split at h
          · next e _ _ _ ht =>
            split at h
            · next i hi =>
              split at h
              · next rs xs tk g' σ2 q1 q2 q3 =>
                split at h
                · next hc =>
                  simp at h; obtain ⟨rfl, rfl⟩ := h
                  obtain ⟨r1, r2, r3⟩ := appTag_hangs q3
                  refine ⟨r1, r2, fun σ' hσ => ?_⟩
                  simp only [dop, hty, hargs, Qj, if_true, QE, ht, hi, q1, q2, r3 σ' hσ]
                  rw [if_pos hc]
                · simp at h
              · simp at h
            · simp at h
          · simp at h
        · simp at h
      · next k a' k' b' hargs => simp at h; obtain ⟨rfl, rfl⟩ := h; exact ⟨rfl, fun σ' => by simp only [dop, hargs, Qj]⟩
      · next k a' k' b' hargs => simp at h; obtain ⟨rfl, rfl⟩ := h; exact ⟨rfl, fun σ' => by simp only [dop, hargs, Qj]⟩
      · simp at h
  | _ => simp [dop] at h
theorem Qcg {id : Nat} {a' : Nat → DV} {o : Op} (h : ∀ x ∈ o.operands, eval a x = eval a' x) : dop P T id a σ o = dop P T id a' σ o ∧ touch id a o = touch id a' o := by
  have ml : ∀ (l : Array Operand), (∀ x ∈ l, eval a x = eval a' x) → l.toList.map (eval a) = l.toList.map (eval a') := fun l hl => List.map_congr_left fun x hx => hl x (by simpa using hx)
  have mo : ∀ (l : Option Operand), (∀ x, l = some x → eval a x = eval a' x) → l.map (eval a) = l.map (eval a') := fun l hl => by cases l with
    | none => rfl
    | some x => simp [hl x rfl]
  cases o with
  | build t parts =>
    have : parts.toList.map (fun p => (p.1, eval a p.2)) = parts.toList.map (fun p => (p.1, eval a' p.2)) := List.map_congr_left fun p hp => by
      rw [h p.2 (by simp [Op.operands]; exact ⟨p.1, by simpa using hp⟩)]
    exact ⟨by simp only [dop, this], rfl⟩
  | buildSlice t len parts =>
    have : parts.toList.map (fun p => (p.1, eval a p.2)) = parts.toList.map (fun p => (p.1, eval a' p.2)) := List.map_congr_left fun p hp => by
      rw [h p.2 (by simp [Op.operands]; exact ⟨p.1, by simpa using hp⟩)]
    exact ⟨by simp only [dop, this], rfl⟩
  | makeFunc fn first captured =>
    exact ⟨by simp only [dop]; rw [ml first (fun x hx => h x (by simp [Op.operands, hx])), ml captured (fun x hx => h x (by simp [Op.operands, hx]))], rfl⟩
  | slice t x lo hi mx =>
    refine ⟨?_, rfl⟩
    simp only [dop]
    rw [h x (by simp [Op.operands]), mo lo (fun y hy => h y (by subst hy; simp [Op.operands])), mo hi (fun y hy => h y (by subst hy; simp [Op.operands])), mo mx (fun y hy => h y (by subst hy; simp [Op.operands]))]
  | call c =>
    obtain ⟨callee, args, tys⟩ := c
    cases callee with
    | value x =>
      have hx : eval a x = eval a' x := h x (by simp [Op.operands, Call.operands])
      have ha := ml args (fun y hy => h y (by simp [Op.operands, Call.operands, hy]))
      exact ⟨by simp only [dop, Qi, hx, ha], rfl⟩
    | builtin b =>
      have ha := ml args (fun y hy => h y (by simp [Op.operands, Call.operands, hy]))
      exact ⟨by simp only [dop, ha], by cases b <;> rfl⟩
    | invoke r m => exact ⟨rfl, rfl⟩
  | makeMap t r => cases r <;> exact ⟨rfl, rfl⟩
  | _ =>
    simp only [Op.operands] at h
    first
      | exact ⟨rfl, rfl⟩
      | (simp at h; simp [dop, touch, h]; done)
      | (simp at h; simp [dop, touch, h.1, h.2]; done)
      | (simp at h; simp [dop, touch, h.1, h.2.1, h.2.2])
end Go.FA
namespace Go.FA
open Go.RowKit
variable {P : Program} {T : Tab} {E : Entry} {F : Nat → Prop} {C : Ctx} {w : World} {σ : St} {n : Nat} {Q : Ex → (Nat → DV) → St → Prop} {a : Nat → DV}
def done (P : Program) (T : Tab) (ops : Array Oper) (n0 i : Nat) (a : Nat → DV) (σ : St) : Option (DV × St) :=
  match ops[i]? with
  | none => none
  | some o => match Qo ops a o.guard with
    | some true => dop P T (n0 + i) a σ o.op
    | some false => some (.lit (.tuple #[]), σ)
    | none => none
def Qaa (ops : Array Oper) (i : Nat) : Option Tmp := (ops[i]?).bind (·.dst)
theorem Qa4 {ops : Array Oper} {n0 i : Nat} {rest : List Nat} : QbV P T ops n0 (i :: rest) a σ = match done P T ops n0 i a σ with
    | some (d, σ') => QbV P T ops n0 rest (QN a (Qaa ops i) d) σ'
    | none => none := by
  simp only [QbV, done, Qaa]
  cases ops[i]? with
  | none => rfl
  | some o =>
    simp only [Option.bind_some]
    cases Qo ops a o.guard with
    | none => rfl
    | some b => cases b <;> rfl
def QbZ (ops : Array Oper) (n0 i : Nat) (a : Nat → DV) : Touch :=
  match ops[i]? with
  | none => .none
  | some o => match Qo ops a o.guard with
    | some true => touch (n0 + i) a o.op
    | _ => .none
theorem Qgl {ops : Array Oper} {n0 i : Nat} {d : DV} {σ1 : St} (h : done P T ops n0 i a σ = some (d, σ1)) : Qek P T (n0 + i) a σ (fun σ' => done P T ops n0 i a σ') d σ1 (QbZ ops n0 i a) := by
  unfold done at h
  unfold QbZ
  split at h
  · simp at h
  · next o ho =>
    split at h
    · next hw =>
      have := Qbw h
      simp only [ho, hw]
      have e : (fun σ' => done P T ops n0 i a σ') = fun σ' => dop P T (n0 + i) a σ' o.op := by funext σ'; simp only [done, ho, hw]
      rw [e]; exact this
    · next hw =>
      simp at h; obtain ⟨rfl, rfl⟩ := h
      simp only [ho, hw]
      exact ⟨rfl, fun σ' => by simp only [done, ho, hw]⟩
    · simp at h
theorem Qd4 {x : Operand} {dst : Option Tmp} {d : DV} (h : ∀ t, dst = some t → x ≠ .tmp t) : eval (QN a dst d) x = eval a x := by
  cases dst with
  | none => rfl
  | some t =>
    cases x with
    | tmp u =>
      have : u ≠ t := fun e => h t rfl (by rw [e])
      simp [eval, QN, upd, this]
    | _ => rfl
theorem Qco {ops : Array Oper} {o : Oper} {dst : Option Tmp} {d : DV} (h : ∀ t, dst = some t → t ∉ o.looksAt ops) : Qo ops (QN a dst d) o.guard = Qo ops a o.guard := by
  unfold Qo
  cases hg : o.guard with
  | none => rfl
  | some p =>
    obtain ⟨j, want⟩ := p
    simp only []
    cases ho : (ops[j]?).bind (·.dst) with
    | none => rfl
    | some t =>
      simp only []
      cases dst with
      | none => rfl
      | some u =>
        have hne : t ≠ u := fun e => h u rfl (by
          unfold Oper.looksAt
          rw [hg]
          simp only [ho, List.mem_append]
          right; simp [e])
        simp [QN, upd, hne]
theorem Qhi {ops : Array Oper} {n0 i : Nat} {dst : Option Tmp} {d : DV} {o : Oper} (ho : ops[i]? = some o) (h : ∀ t, dst = some t → t ∉ o.looksAt ops) :
    (∀ σ, done P T ops n0 i (QN a dst d) σ = done P T ops n0 i a σ) ∧ QbZ ops n0 i (QN a dst d) = QbZ ops n0 i a := by
  have hx : ∀ x ∈ o.op.operands, eval (QN a dst d) x = eval a x := fun x hx => Qd4 fun t ht e => h t ht (by
    unfold Oper.looksAt
    rw [List.mem_append]; left
    rw [List.mem_filterMap]
    exact ⟨x, by simpa using hx, by rw [e]⟩)
  have hw := Qco (a := a) (d := d) h
  constructor
  · intro σ
    simp only [done, ho, hw]
    rw [(Qcg (P := P) (T := T) (σ := σ) (id := n0 + i) hx).1]
  · simp only [QbZ, ho, hw]
    rw [(Qcg (P := P) (T := T) (σ := σ0) (id := n0 + i) hx).2]
theorem QdP {x y : Option Tmp} {d e : DV} (h : ∀ t, x = some t → y ≠ some t) : QN (QN a x d) y e = QN (QN a y e) x d := by
  cases x with
  | none => rfl
  | some t =>
    cases y with
    | none => rfl
    | some u =>
      have : u ≠ t := fun q => h t rfl (by rw [q])
      funext k
      simp only [QN, upd]
      by_cases h1 : k = u
      · subst h1; simp [this]
      · simp [h1]
theorem hangs_comm {id id' : Nat} {a a' : Nat → DV} {f g : St → Option (DV × St)} {d e : DV} {σ σ1 σ2 : St} {t u : Touch} (hc : clash t u = false)
    (hf : Qek P T id a σ f d σ1 t) (hg : Qek P T id' a' σ1 g e σ2 u) : ∃ σ1', g σ = some (e, σ1') ∧ f σ1' = some (d, σ2) := by
  have ne : ∀ {i j : Nat} {x y : Qjt} {f : Nat → Option Qjt}, i ≠ j → upd (upd f i (some x)) j (some y) = upd (upd f j (some y)) i (some x) := by
    intro i j x y f h
    funext k
    simp only [upd]
    by_cases h3 : k = j
    · subst h3; simp [Ne.symm h]
    · simp [h3]
  cases t <;> cases u <;> simp [clash] at hc <;> simp only [Qek] at hf hg
  case none.none => obtain ⟨rfl, h1⟩ := hf; obtain ⟨rfl, h2⟩ := hg; exact ⟨_, h2 _, h1 _⟩
  case none.robj => obtain ⟨rfl, h1⟩ := hf; obtain ⟨rfl, h2⟩ := hg; exact ⟨_, h2 _ rfl, h1 _⟩
  case none.wobj => obtain ⟨rfl, h1⟩ := hf; obtain ⟨ob, rfl, h2⟩ := hg; exact ⟨_, h2 _ rfl, h1 _⟩
  case none.newobj => obtain ⟨rfl, h1⟩ := hf; obtain ⟨ob, rfl, h2⟩ := hg; exact ⟨_, h2 _, h1 _⟩
  case none.tok =>
    obtain ⟨rfl, h1⟩ := hf; obtain ⟨h3, h4, h2⟩ := hg
    refine ⟨_, h2 _ rfl, ?_⟩
    rw [h1]; congr 2
    cases σ1; cases σ2; simp_all
  case robj.none => obtain ⟨rfl, h1⟩ := hf; obtain ⟨rfl, h2⟩ := hg; exact ⟨_, h2 _, h1 _ rfl⟩
  case robj.robj => obtain ⟨rfl, h1⟩ := hf; obtain ⟨rfl, h2⟩ := hg; exact ⟨_, h2 _ rfl, h1 _ rfl⟩
  case robj.wobj i j =>
    obtain ⟨rfl, h1⟩ := hf; obtain ⟨ob, rfl, h2⟩ := hg
    exact ⟨_, h2 _ rfl, h1 _ (by simp [upd, hc])⟩
  case robj.newobj i j =>
    obtain ⟨rfl, h1⟩ := hf; obtain ⟨ob, rfl, h2⟩ := hg
    exact ⟨_, h2 _, h1 _ (by simp [upd, hc])⟩
  case robj.tok =>
    obtain ⟨rfl, h1⟩ := hf; obtain ⟨h3, h4, h2⟩ := hg
    refine ⟨_, h2 _ rfl, ?_⟩
    rw [h1 ⟨σ1.n, σ1.objs, σ2.toks⟩ rfl]; congr 2
    cases σ1; cases σ2; simp_all
  case wobj.none => obtain ⟨ob, rfl, h1⟩ := hf; obtain ⟨rfl, h2⟩ := hg; exact ⟨_, h2 _, h1 _ rfl⟩
  case wobj.robj i j =>
    obtain ⟨ob, rfl, h1⟩ := hf; obtain ⟨rfl, h2⟩ := hg
    exact ⟨_, h2 σ (by simp [upd, Ne.symm hc]), h1 _ rfl⟩
  case wobj.wobj i j =>
    obtain ⟨ob, rfl, h1⟩ := hf; obtain ⟨ob', rfl, h2⟩ := hg
    refine ⟨_, h2 σ (by simp [upd, Ne.symm hc]), ?_⟩
    rw [h1 _ (by simp [upd, hc])]
    simp only [ne hc]
  case wobj.newobj i j =>
    obtain ⟨ob, rfl, h1⟩ := hf; obtain ⟨ob', rfl, h2⟩ := hg
    refine ⟨_, h2 σ, ?_⟩
    rw [h1 _ (by simp [upd, hc])]
    simp only [ne hc]
  case wobj.tok =>
    obtain ⟨ob, rfl, h1⟩ := hf; obtain ⟨h5, h6, h2⟩ := hg
    refine ⟨_, h2 σ rfl, ?_⟩
    rw [h1 ⟨σ.n, σ.objs, σ2.toks⟩ rfl]; congr 2
    cases σ; cases σ2; simp_all
  case newobj.none => obtain ⟨ob, rfl, h1⟩ := hf; obtain ⟨rfl, h2⟩ := hg; exact ⟨_, h2 _, h1 _⟩
  case newobj.robj i j =>
    obtain ⟨ob, rfl, h1⟩ := hf; obtain ⟨rfl, h2⟩ := hg
    exact ⟨_, h2 σ (by simp [upd, Ne.symm hc]), h1 _⟩
  case newobj.wobj i j =>
    obtain ⟨ob, rfl, h1⟩ := hf; obtain ⟨ob', rfl, h2⟩ := hg
    refine ⟨_, h2 σ (by simp [upd, Ne.symm hc]), ?_⟩
    rw [h1]
    simp only [ne hc]
  case newobj.newobj i j =>
    obtain ⟨ob, rfl, h1⟩ := hf; obtain ⟨ob', rfl, h2⟩ := hg
    refine ⟨_, h2 _, ?_⟩
    rw [h1]
    simp only [ne hc]
  case newobj.tok =>
    obtain ⟨ob, rfl, h1⟩ := hf; obtain ⟨h3, h4, h2⟩ := hg
    refine ⟨_, h2 _ rfl, ?_⟩
    rw [h1]; congr 2
    cases σ; cases σ2; simp_all
  case tok.none => obtain ⟨h3, h4, h1⟩ := hf; obtain ⟨rfl, h2⟩ := hg; refine ⟨_, h2 _, ?_⟩; rw [h1 _ rfl]; congr 2; cases σ; cases σ2; simp_all
  case tok.robj i =>
    obtain ⟨h3, h4, h1⟩ := hf; obtain ⟨rfl, h2⟩ := hg
    refine ⟨_, h2 _ (by rw [h3]), ?_⟩
    rw [h1 _ rfl]; congr 2; cases σ; cases σ2; simp_all
  case tok.wobj i =>
    obtain ⟨h3, h4, h1⟩ := hf; obtain ⟨ob, rfl, h2⟩ := hg
    refine ⟨_, h2 σ (by rw [h3]), ?_⟩
    rw [h1 ⟨σ.n, upd σ.objs i (some ob), σ.toks⟩ rfl]; congr 2
    cases σ; cases σ1; simp_all
  case tok.newobj i =>
    obtain ⟨h3, h4, h1⟩ := hf; obtain ⟨ob, rfl, h2⟩ := hg
    refine ⟨_, h2 _, ?_⟩
    rw [h1 ⟨σ.n, upd σ.objs i (some ob), σ.toks⟩ rfl]; congr 2
    cases σ; cases σ1; simp_all
def Qju (ops : Array Oper) (τ : Nat → Touch) (i j : Nat) : Bool :=
  match ops[i]?, ops[j]? with
  | some x, some y => x.apart ops y && !clash (τ i) (τ j) && !clash (τ j) (τ i)
  | _, _ => false
def Qan (P : Program) (T : Tab) (ops : Array Oper) (n0 : Nat) (τ : Nat → Touch) : List Nat → (Nat → DV) → St → Prop
  | [], _, _ => True
  | i :: rest, a, σ => QbZ ops n0 i a = τ i ∧ match done P T ops n0 i a σ with
    | some (d, σ') => Qan P T ops n0 τ rest (QN a (Qaa ops i) d) σ'
    | none => True
theorem swap {ops : Array Oper} {n0 j i : Nat} {rest : List Nat} {τ : Nat → Touch} {r : (Nat → DV) × St} (hl : Qju ops τ j i = true) (hij : j ≠ i)
    (h : QbV P T ops n0 (j :: i :: rest) a σ = some r) (ht : Qan P T ops n0 τ (j :: i :: rest) a σ) :
    QbV P T ops n0 (i :: j :: rest) a σ = some r ∧ Qan P T ops n0 τ (i :: j :: rest) a σ := by
  unfold Qju at hl
  split at hl
  · next oj oi hoj hoi =>
    simp only [Bool.and_eq_true, Bool.not_eq_true'] at hl
    obtain ⟨⟨hap, hc1⟩, hc2⟩ := hl
    obtain ⟨s1, s2, s3⟩ := Oper.apart_spec hap
    have hdj : Qaa ops j = oj.dst := by simp [Qaa, hoj]
    have hdi : Qaa ops i = oi.dst := by simp [Qaa, hoi]
    rw [Qa4] at h
    simp only [Qan] at ht
    obtain ⟨ht1, ht2⟩ := ht
    cases hj : done P T ops n0 j a σ with
    | none => rw [hj] at h; simp at h
    | some p =>
      obtain ⟨dj, σ1⟩ := p
      rw [hj] at h ht2
      simp only [] at h ht2
      rw [Qa4] at h
      obtain ⟨ht3, ht4⟩ := ht2
      have e1 := Qhi (P := P) (T := T) (n0 := n0) (a := a) (d := dj) (dst := Qaa ops j) hoi (fun t q => s1 t (hdj ▸ q))
      rw [e1.1] at h ht4
      rw [e1.2] at ht3
      cases hi : done P T ops n0 i a σ1 with
      | none => rw [hi] at h; simp at h
      | some q =>
        obtain ⟨di, σ2⟩ := q
        rw [hi] at h ht4
        simp only [] at h ht4
        have hg1 := Qgl hj
        have hg2 := Qgl hi
        rw [ht1] at hg1
        rw [ht3] at hg2
        obtain ⟨σ1', k1, k2⟩ := hangs_comm hc1 hg1 hg2
        have e2 := Qhi (P := P) (T := T) (n0 := n0) (a := a) (d := di) (dst := Qaa ops i) hoj (fun t q => s3 t (hdi ▸ q))
        have hcomm : QN (QN a (Qaa ops j) dj) (Qaa ops i) di = QN (QN a (Qaa ops i) di) (Qaa ops j) dj :=
          QdP fun t q => by rw [hdi]; exact s2 t (hdj ▸ q)
        constructor
        · rw [Qa4, k1]
          simp only []
          rw [Qa4, e2.1, k2]
          simp only []
          rw [← hcomm]; exact h
        · simp only [Qan]
          refine ⟨ht3, ?_⟩
          rw [k1]
          simp only []
          refine ⟨e2.2 ▸ ht1, ?_⟩
          rw [e2.1, k2]
          simp only []
          rw [← hcomm]; exact ht4
  · simp at hl
theorem front {ops : Array Oper} {n0 i : Nat} {τ : Nat → Touch} {r : (Nat → DV) × St} : ∀ (pre post : List Nat) (a : Nat → DV) (σ : St), (∀ j ∈ pre, Qju ops τ j i = true ∧ j ≠ i) →
    QbV P T ops n0 (pre ++ i :: post) a σ = some r → Qan P T ops n0 τ (pre ++ i :: post) a σ →
    QbV P T ops n0 (i :: (pre ++ post)) a σ = some r ∧ Qan P T ops n0 τ (i :: (pre ++ post)) a σ
  | [], post, a, σ, _, h, ht => ⟨h, ht⟩
  | j :: pre, post, a, σ, hl, h, ht => by
    obtain ⟨hlj, hne⟩ := hl j (by simp)
    simp only [List.cons_append] at h ht ⊢
    -- first the rest
    have hrest : QbV P T ops n0 (j :: i :: (pre ++ post)) a σ = some r ∧ Qan P T ops n0 τ (j :: i :: (pre ++ post)) a σ := by
      rw [Qa4] at h ⊢
      simp only [Qan] at ht
      have htt : Qan P T ops n0 τ (j :: i :: (pre ++ post)) a σ ↔ (QbZ ops n0 j a = τ j ∧ match done P T ops n0 j a σ with
        | some (d, σ') => Qan P T ops n0 τ (i :: (pre ++ post)) (QN a (Qaa ops j) d) σ'
        | none => True) := Iff.rfl
      rw [htt]
      cases hd : done P T ops n0 j a σ with
      | none => rw [hd] at h; simp at h
      | some p =>
        obtain ⟨d, σ'⟩ := p
        rw [hd] at h ht
        simp only [] at h ht ⊢
        obtain ⟨h1, h2⟩ := front pre post _ _ (fun k hk => hl k (by simp [hk])) h ht.2
        exact ⟨h1, ht.1, h2⟩
    exact swap hlj hne hrest.1 hrest.2
def direct (ops : Array Oper) (i : Nat) : List Nat := ((ops[i]?).map fun o => (o.after.toList.filter (Region.binds .any)).map (·.on)).getD []
def anc (ops : Array Oper) : Nat → List Nat → List Nat
  | 0, xs => xs
  | f + 1, xs => xs ++ anc ops f ((xs.flatMap (direct ops)).eraseDups)
theorem Qed {ops : Array Oper} {L : Nat → Prop} (hclosed : ∀ m, L m → ∀ e ∈ direct ops m, L e) : ∀ (f : Nat) (xs : List Nat), (∀ x ∈ xs, L x) → ∀ y ∈ anc ops f xs, L y
  | 0, xs, h, y, hy => h y hy
  | f + 1, xs, h, y, hy => by
    simp only [anc, List.mem_append] at hy
    rcases hy with hy | hy
    · exact h y hy
    · refine Qed hclosed f _ (fun x hx => ?_) y hy
      have : x ∈ xs.flatMap (direct ops) := List.mem_eraseDups.1 hx
      obtain ⟨z, h1, h2⟩ := List.mem_flatMap.1 this
      exact hclosed z (h z h1) x h2
def QbH (ops : Array Oper) (τ : Nat → Touch) : Bool :=
  (List.range ops.size).all fun i => (direct ops i).all (fun e => decide (e < i)) && (List.range i).all fun j => (anc ops ops.size (direct ops i)).contains j || Qju ops τ j i
theorem QaS {ops : Array Oper} {i e : Nat} : e ∈ direct ops i ↔ ∃ o, ops[i]? = some o ∧ ∃ ed ∈ o.after, Region.binds .any ed = true ∧ ed.on = e := by
  unfold direct
  cases h : ops[i]? with
  | none => simp
  | some o => simp; constructor <;> (rintro ⟨ed, h1, h2⟩; exact ⟨ed, by simp_all⟩)
theorem QdW {ops : Array Oper} {τ : Nat → Touch} (h : QbH ops τ = true) {i : Nat} (hi : i < ops.size) :
    (∀ e ∈ direct ops i, e < i) ∧ ∀ j, j < i → j ∈ anc ops ops.size (direct ops i) ∨ Qju ops τ j i = true := by
  have h1 := List.all_eq_true.1 h i (List.mem_range.2 hi)
  simp only [Bool.and_eq_true] at h1
  refine ⟨fun e he => by simpa using List.all_eq_true.1 h1.1 e he, fun j hj => ?_⟩
  have h2 := List.all_eq_true.1 h1.2 j (List.mem_range.2 hj)
  simp only [Bool.or_eq_true] at h2
  exact h2.imp (fun q => by simpa using q) (fun q => q)
theorem Qaz {l : Array Bool} {i : Nat} (hi : i < l.size) : (l.getD i true = false) ↔ ¬ (l.getD i false = true) := by
  simp [hi]
theorem Qgu {ops : Array Oper} {n0 n : Nat} {ds : List Deferred} {Q : Exit → Act → World → Prop} {τ : Nat → Touch} (hT : QH P T) (hd : Q8 n ops = true) (hany : QbH ops τ = true) :
    ∀ (fuel : Nat) (l : List Nat) (listed : Array Bool) (a : Nat → DV) (σ : St) (ca : Array Value) (w : World) (a' : Nat → DV) (σ' : St), l.length ≤ fuel → l.Pairwise (· < ·) → (∀ i, i ∈ l ↔ i < ops.size ∧ listed.getD i true = false) →
      listed.size = ops.size → (∀ m, listed.getD m false = true → ∀ e ∈ direct ops m, listed.getD e false = true) →
      QbV P T ops n0 l a σ = some (a', σ') → Qan P T ops n0 τ l a σ → Ok E (Fr n0 ops.size l) n a σ ca w →
      (∀ ca' w', Ok E (Fr n0 ops.size []) n a' σ' ca' w' → Q .normal ⟨ca', ds⟩ w') → wpAny P .any ops Q fuel listed ⟨ca, ds⟩ w := by
  intro fuel
  induction fuel with
  | zero =>
    intro l listed a σ ca w a' σ' hlen hp hmem hsz hcl hr ht hok hq
    have hl : l = [] := List.eq_nil_of_length_eq_zero (by omega)
    subst hl
    simp [QbV] at hr; obtain ⟨rfl, rfl⟩ := hr
    refine ⟨?_, hq _ _ hok⟩
    cases hrd : Region.ready .any ops listed with
    | nil => rfl
    | cons i r =>
      have hi : i ∈ Region.ready .any ops listed := by rw [hrd]; simp
      obtain ⟨h0, o, ho, _⟩ := mem_ready.1 hi
      have := (hmem i).2 ⟨(Array.getElem?_eq_some_iff.1 ho).1, h0⟩
      simp at this
  | succ fuel ih =>
    intro l listed a σ ca w a' σ' hlen hp hmem hsz hcl hr ht hok hq
    refine ⟨fun hnone => ?_, fun i hi => ?_⟩
    · -- nothing is ready: nothing is left
      cases l with
      | nil =>
        simp [QbV] at hr; obtain ⟨rfl, rfl⟩ := hr
        exact hq _ _ hok
      | cons m r =>
        exfalso
        obtain ⟨hm1, hm2⟩ := (hmem m).1 (by simp)
        have : m ∈ Region.ready .any ops listed := by
          refine mem_ready.2 ⟨hm2, ops[m], by simp [hm1], fun e he hb => ?_⟩
          have hdir : e.on ∈ direct ops m := QaS.2 ⟨ops[m], by simp [hm1], e, he, hb, rfl⟩
          have hlt := (QdW hany hm1).1 _ hdir
          have hnl : e.on ∉ m :: r := by
            intro hin
            rcases List.mem_cons.1 hin with q | q
            · omega
            · have := (List.pairwise_cons.1 hp).1 _ q; omega
          have h3 : ¬ (listed.getD e.on true = false) := fun q => hnl ((hmem e.on).2 ⟨by omega, q⟩)
          rw [Qaz (by omega)] at h3
          simpa using h3
        rw [hnone] at this; simp at this
    · obtain ⟨h0, o, ho, hall⟩ := mem_ready.1 hi
      have hi1 : i < ops.size := (Array.getElem?_eq_some_iff.1 ho).1
      have hil : i ∈ l := (hmem i).2 ⟨hi1, h0⟩
      obtain ⟨pre, post, hsplit⟩ := List.append_of_mem hil
      subst hsplit
      have hp' := List.pairwise_append.1 hp
      -- what stands before it in the text may stand behind it
      have hloose : ∀ j ∈ pre, Qju ops τ j i = true ∧ j ≠ i := by
        intro j hj
        have hji : j < i := hp'.2.2 j hj i (by simp)
        refine ⟨?_, by omega⟩
        rcases (QdW hany hi1).2 j hji with q | q
        · exfalso
          have hL : listed.getD j false = true := by
            refine Qed (L := fun k => listed.getD k false = true) hcl ops.size (direct ops i) (fun x hx => ?_) j q
            obtain ⟨o', ho', ed, hed, hb, rfl⟩ := QaS.1 hx
            rw [ho] at ho'; cases ho'
            exact hall ed hed hb
          have h2 := ((hmem j).1 (by simp [hj])).2
          rw [Qaz (by omega)] at h2
          exact h2 hL
        · exact q
      obtain ⟨hr2, ht2⟩ := front pre post a σ hloose hr ht
      -- the operation itself
      obtain ⟨hn, C, hg, hs⟩ := hok
      have hf := hg.rel
      rw [Qa4] at hr2
      simp only [Qan] at ht2
      have hnd : (pre ++ i :: post).Nodup := hp.imp (fun h => by omega)
      have hnotin : i ∉ pre ++ post := by
        intro hin
        rw [List.nodup_append] at hnd
        rcases List.mem_append.1 hin with q | q
        · exact hnd.2.2 i q i (by simp) rfl
        · exact (List.nodup_cons.1 hnd.2.1).1 q
      have hfew : ∀ k, Fr n0 ops.size (pre ++ post) k → Fr n0 ops.size (pre ++ i :: post) k ∧ k ≠ n0 + i := by
        intro k hk
        rcases hk with ⟨j, hj, rfl⟩ | hk
        · refine ⟨.inl ⟨j, ?_, rfl⟩, fun e => hnotin (by rw [show i = j by omega]; exact hj)⟩
          rcases List.mem_append.1 hj with q | q <;> simp [q]
        · exact ⟨.inr hk, by omega⟩
      have hdst : ∀ t, o.dst = some t → t < ca.size := by
        intro t ht'
        have hm : o ∈ ops.toList := by simpa using Array.mem_of_getElem? ho
        have := List.all_eq_true.1 hd o hm
        rw [ht'] at this; rw [hn]; simpa using this
      have hdo : Qaa ops i = o.dst := by simp [Qaa, ho]
      have hpair : (pre ++ post).Pairwise (· < ·) := by
        rw [List.pairwise_append]
        exact ⟨hp'.1, (List.pairwise_cons.1 hp'.2.1).2, fun x hx y hy => hp'.2.2 x hx y (by simp [hy])⟩
      have hmem' : ∀ k, k ∈ pre ++ post ↔ k < ops.size ∧ (listed.setIfInBounds i true).getD k true = false := by
        intro k
        by_cases hki : k = i
        · subst hki
          simp only [hnotin, false_iff, not_and]
          intro hk
          have : k < listed.size := by omega
          simp [this]
        · rw [getD_set_ne true (Ne.symm hki), ← hmem k]
          simp [hki]
      have hcl' : ∀ m, (listed.setIfInBounds i true).getD m false = true → ∀ e ∈ direct ops m, (listed.setIfInBounds i true).getD e false = true := by
        intro m hm e he
        by_cases hmi : m = i
        · subst hmi
          obtain ⟨o', ho', ed, hed, hb, rfl⟩ := QaS.1 he
          rw [ho] at ho'; cases ho'
          exact getD_set_true (hall ed hed hb)
        · rw [getD_set_ne false (Ne.symm hmi)] at hm
          exact getD_set_true (hcl m hm e he)
      have hlen' : (pre ++ post).length ≤ fuel := by simp at hlen ⊢; omega
      unfold wpOp
      rw [ho]
      simp only []
      cases hdn : done P T ops n0 i a σ with
      | none => rw [hdn] at hr2; simp at hr2
      | some p =>
        obtain ⟨d, σ1⟩ := p
        rw [hdn] at hr2 ht2
        simp only [hdo] at hr2 ht2
        unfold done at hdn
        rw [ho] at hdn
        simp only [] at hdn
        split at hdn
        · next hwant =>
          rw [if_pos (Qaf hwant hf hn hd)]
          left
          have hu := QeW (ds := ds) hdn hT (show Fr n0 ops.size (pre ++ i :: post) (n0 + i) from .inl ⟨i, by simp, rfl⟩) hf hs
          have key : ∀ v w', Res E (fun k => Fr n0 ops.size (pre ++ i :: post) k ∧ k ≠ n0 + i) C w σ1 d v w' → wpAny P .any ops Q fuel (listed.setIfInBounds i true) (Act.put ⟨ca, ds⟩ o.dst v) w' := by
            intro v w' hres
            obtain ⟨C', r1, r2, r3, r4⟩ := hres
            rw [put_eq]
            exact ih (pre ++ post) _ _ _ _ _ _ _ hlen' hpair hmem' (by simp [hsz]) hcl' hr2 ht2.2
              ⟨by rw [Qaq]; exact hn, C', (hg.mono r1 r2).put r3 hdst, r4.fewer hfew⟩ hq
          unfold Oper.wp Oper.upon
          unfold Upon at hu
          split at hu
          · next v w' he => rw [he]; exact key _ _ hu
          · next w' he => rw [he]; exact key _ _ hu
          · next f args w' he =>
            rw [he]
            refine hu.mono fun e w'' ⟨v, hv, hk⟩ => ?_
            subst hv
            exact key _ _ hk
          · exact hu.elim
        · next hwant =>
          simp at hdn; obtain ⟨rfl, rfl⟩ := hdn
          rw [if_neg (by simp [Qaf hwant hf hn hd])]
          rw [put_eq]
          exact ih (pre ++ post) _ _ _ _ _ _ _ hlen' hpair hmem' (by simp [hsz]) hcl' hr2 ht2.2
            ⟨by rw [Qaq]; exact hn, C, hg.put (by simp [Qy, undef]) hdst, hs.fewer fun k hk => (hfew k hk).1⟩ hq
        · simp at hdn
end Go.FA
namespace Go.FA
open Go.RowKit
variable {P : Program} {T : Tab} {E : Entry} {F : Nat → Prop} {C : Ctx} {w : World} {σ : St} {n : Nat} {Q : Ex → (Nat → DV) → St → Prop} {a : Nat → DV}
def QbI (P : Program) (T : Tab) (ops : Array Oper) (n0 : Nat) : Nat → List Touch → List Oper → (Nat → DV) → St → Option ((Nat → DV) × St)
  | _, _, [], a, σ => some (a, σ)
  | i, ts, o :: rest, a, σ => match Qo ops a o.guard with
    | some true => if touch (n0 + i) a o.op = ts.headD .none then match dop P T (n0 + i) a σ o.op with
      | some (d, σ') => QbI P T ops n0 (i + 1) ts.tail rest (QN a o.dst d) σ'
      | none => none else none
    | some false => if Touch.none = ts.headD .none then QbI P T ops n0 (i + 1) ts.tail rest (QN a o.dst (.lit (.tuple #[]))) σ else none
    | none => none
theorem QgX (P : Program) (T : Tab) (ops : Array Oper) (n0 : Nat) (τs : List Touch) : ∀ (l : List Oper) (i : Nat) (a : Nat → DV) (σ : St) (r : (Nat → DV) × St), (∀ j, l[j]? = ops[i + j]?) →
    QbI P T ops n0 i (τs.drop i) l a σ = some r → QbV P T ops n0 (List.range' i l.length) a σ = some r ∧ Qan P T ops n0 (fun i => τs.getD i .none) (List.range' i l.length) a σ
  | [], i, a, σ, r, h, hr => by simpa [QbI, QbV, Qan] using hr
  | o :: rest, i, a, σ, r, h, hr => by
    have h0 : ops[i]? = some o := by have := h 0; simpa using this.symm
    have ht : ∀ j, rest[j]? = ops[i + 1 + j]? := fun j => by have := h (j + 1); rw [show i + 1 + j = i + (j + 1) by omega]; simpa using this
    have hhead : (τs.drop i).headD .none = τs.getD i .none := by simp [List.headD_eq_head?_getD, List.head?_drop, List.getD]
    have htail : (τs.drop i).tail = τs.drop (i + 1) := by simp
    have hdo : Qaa ops i = o.dst := by simp [Qaa, h0]
    simp only [List.length_cons, List.range'_succ]
    rw [Qa4]
    simp only [Qan, hdo]
    simp only [QbI, hhead, htail] at hr
    cases hw : Qo ops a o.guard with
    | none => rw [hw] at hr; simp at hr
    | some b =>
      rw [hw] at hr
      cases b with
      | false =>
        simp only [] at hr
        split at hr
        · next htch =>
          have hd : done P T ops n0 i a σ = some (.lit (.tuple #[]), σ) := by simp [done, h0, hw]
          have hdt : QbZ ops n0 i a = .none := by simp [QbZ, h0, hw]
          obtain ⟨h1, h2⟩ := QgX P T ops n0 τs rest (i + 1) _ _ _ ht hr
          rw [hd]
          exact ⟨h1, by rw [hdt]; exact htch, h2⟩
        · simp at hr
      | true =>
        simp only [] at hr
        split at hr
        · next htch =>
          have hdt : QbZ ops n0 i a = touch (n0 + i) a o.op := by simp [QbZ, h0, hw]
          split at hr
          · next d σ' hdop =>
            have hd : done P T ops n0 i a σ = some (d, σ') := by simp [done, h0, hw, hdop]
            obtain ⟨h1, h2⟩ := QgX P T ops n0 τs rest (i + 1) _ _ _ ht hr
            rw [hd]
            exact ⟨h1, by rw [hdt]; exact htch, h2⟩
          · simp at hr
        · simp at hr
theorem Ok.drew {ca : Array Value} (h : Ok E F n a σ ca w) : Ok E F n a σ ca w.drew := by
  obtain ⟨hn, C, hf, hs⟩ := h
  obtain ⟨hle, hst, h1⟩ := hs.grow (w' := w.drew) (pc' := C.pc) (pm' := C.pm) ((Below.refl _ _).drew) (fun _ _ p => p) (fun _ p => p) (fun _ _ p => .inl p) (fun _ p => .inl p)
  exact ⟨hn, _, hf.mono hle hst, h1⟩
theorem Dwp.draw {id : Nat} {ops : Array Oper} (τs : List Touch) (hm : P.follows .mixedOrders = true) (hT : QH P T) (hd : Q8 n ops = true) (hany : QbH ops (fun i => τs.getD i .none) = true)
    (h : ∀ K : (Nat → DV) → St → Prop, (∀ a' σ', Q .normal a' { σ' with n := σ.n + ops.size } → σ'.n = σ.n → K a' σ') → Qn (QbI P T ops σ.n 0 τs ops.toList a σ) K) : Dwp P T E n (.region id ops true) Q a σ := by
  refine ⟨fun ca w ds hok => wp_region_any hm ?_⟩
  have h1 := h _ fun _ _ h1 h2 => And.intro h1 h2
  unfold Qn at h1
  split at h1
  · next a' σ' heq =>
    obtain ⟨hr, ht⟩ := QgX P T ops σ.n τs ops.toList 0 a σ _ (fun j => by simp) heq
    have hrange : List.range' 0 ops.toList.length = List.range ops.size := by rw [List.range_eq_range']; simp
    rw [hrange] at hr ht
    refine Qgu (E := E) hT hd hany ops.size (List.range ops.size) _ a σ ca w.drew a' σ' (by simp) List.pairwise_lt_range (fun i => by simp; intro hi; simp [hi]) (by simp) (fun m hm' => ?_) hr ht ?_ fun ca' w' hok' => ?_
    · exfalso
      simp only [Array.getD_eq_getD_getElem?, Array.getElem?_replicate] at hm'
      split at hm' <;> simp at hm'
    · have hok2 := hok.drew
      obtain ⟨hn, C, hf, hs⟩ := hok2
      refine ⟨hn, C, hf, hs.fewer fun i hi => ?_⟩
      rcases hi with ⟨j, _, rfl⟩ | hi <;> omega
    · obtain ⟨hn', C, hf, hs⟩ := hok'
      refine ⟨rfl, .normal, a', _, rfl, h1.1, hn', C, hf, ?_⟩
      exact ⟨hs.lo, hs.below, hs.bsize, hs.pB, hs.mB, hs.psup, hs.msup, hs.psub, hs.msub, hs.obj, hs.inj, hs.tok, hs.tinj, hs.tobj, fun i hi => hs.fresh i (.inr (by rw [h1.2] at *; exact hi))⟩
  · exact h1.elim
theorem Dwp.drawStep {id : Nat} {ops : Array Oper} {y : Code} (τs : List Touch) (hm : P.follows .mixedOrders = true) (hT : QH P T) (hd : Q8 n ops = true) (hany : QbH ops (fun i => τs.getD i .none) = true)
    (h : ∀ K : (Nat → DV) → St → Prop, (∀ a' σ', Dwp P T E n y Q a' { σ' with n := σ.n + ops.size } → σ'.n = σ.n → K a' σ') → Qn (QbI P T ops σ.n 0 τs ops.toList a σ) K) : Dwp P T E n (.seq (.region id ops true) y) Q a σ :=
  Dwp.seq (Dwp.draw τs hm hT hd hany h)
inductive Frz (σ : St) (id : Nat) : DV → DV → Prop where
  | keep (d : DV) : Frz σ id d d
  | junk (d : DV) : Frz σ id d .junk
  | box {t : TypeId} {cs : List DV} (off : Nat) (h : σ.objs id = some (.cells t cs)) : Frz σ id (.ptr id off) (.row cs off)
  | map {ks : List Value} {vs : List DV} (h : σ.objs id = some (.map ks vs)) : Frz σ id (.map id) (.fmap ks vs)
theorem Dwp.freeze {c : Code} (id : Nat) {o : Qjt} (a' : Nat → DV) (ho : σ.objs id = some o) (ha : ∀ t, Frz σ id (a t) (a' t)) (h : Dwp P T E n c Q a' { σ with objs := upd σ.objs id none }) : Dwp P T E n c Q a σ := by
  refine ⟨fun ca w ds hok => ?_⟩
  obtain ⟨hn, C, hf, hs⟩ := hok
  obtain ⟨b, hb, hB, hlt, hnp, hnm, hO⟩ := hs.obj id o ho
  let C' : Ctx := { C with pc := fun k j => C.pc k j ∨ k = b, pm := fun k => C.pm k ∨ k = b }
  have hle : C.Le C' := ⟨fun _ _ e => e, fun _ x e => ⟨x, e, Nat.le_refl _, fun _ => rfl⟩, fun _ _ p => .inl p, fun _ p => .inl p, rfl⟩
  have hst : Step C w w := .refl C w
  refine h.out ca w ds ⟨hn, C', ⟨fun t => ?_, hf.le.trans hle, hf.st.trans hf.le hst⟩, ?_⟩
  · have ht := hf.rel t
    have hfr := ha t
    generalize ca.getD t undef = v at ht
    generalize a' t = d' at hfr
    generalize a t = d at hfr ht
    show Qy C' w d' v
    cases hfr with
    | keep d => exact QaH hle hst _ _ ht
    | junk d => simp [Qy]
    | box off hc =>
      rw [ho] at hc; cases hc
      simp only [Qy] at ht ⊢
      obtain ⟨b', q1, rfl⟩ := ht
      obtain rfl : b = b' := by rw [hb] at q1; exact Option.some.inj q1
      obtain ⟨vs, h1, h2, h3⟩ := hO
      refine ⟨b, 0, by simp, Qdv (QS hle hst _ _ h2) h3 fun i v hv => ⟨.inr rfl, ?_⟩⟩
      rw [cell?_of_cells h1, Nat.zero_add]; simpa using hv
    | map hc =>
      rw [ho] at hc; cases hc
      simp only [Qy] at ht ⊢
      obtain ⟨b', q1, rfl⟩ := ht
      obtain rfl : b = b' := by rw [hb] at q1; exact Option.some.inj q1
      obtain ⟨es, clock, h1, h2, h3, h4⟩ := hO
      exact ⟨b, es, clock, rfl, .inr rfl, h1, h2, QS hle hst _ _ h3, h4⟩
  · have hup : ∀ i oi, upd σ.objs id none i = some oi → i ≠ id ∧ σ.objs i = some oi := by
      intro i oi hi
      by_cases e : i = id
      · subst e; simp [upd] at hi
      · exact ⟨e, by simpa [upd, e] using hi⟩
    constructor
    · exact hs.lo
    · exact hs.below
    · exact hs.bsize
    · exact hs.pB
    · exact hs.mB
    · exact fun b o p => .inl (hs.psup _ _ p)
    · exact fun b p => .inl (hs.msup _ p)
    · intro k j p
      rcases p with p | rfl
      · exact hs.psub _ _ p
      · exact .inr ⟨hB, hlt⟩
    · intro k p
      rcases p with p | rfl
      · exact hs.msub _ p
      · exact .inr ⟨hB, hlt⟩
    · intro i oi hi
      obtain ⟨hne, hi'⟩ := hup i oi hi
      obtain ⟨bi, g1, g2, g3, g4, g5, g6⟩ := hs.obj i oi hi'
      have hbb : bi ≠ b := fun e => hne (hs.inj i id oi o bi hi' ho g1 (by rw [hb, e]))
      exact ⟨bi, g1, g2, g3, fun j p => p.elim (g4 j) hbb, fun p => p.elim g5 hbb, g6.mono hle hst rfl⟩
    · intro i j oi oj bb hi hj g1 g2
      exact hs.inj i j oi oj bb (hup i oi hi).2 (hup j oj hj).2 g1 g2
    · intro t g ht
      obtain ⟨x, g1, g2, g3⟩ := hs.tok t g ht
      refine ⟨x, g1, g2, fun hx => ?_⟩
      obtain ⟨g4, g5, g6, g7⟩ := g3 hx
      have hbb : x.blk ≠ b := fun e => hs.tobj t g x id o ht g1 hx ho (by rw [hb, e])
      exact ⟨g4, g5, fun o ho' p => p.elim (g6 o ho') hbb, fun p => p.elim g7 hbb⟩
    · exact hs.tinj
    · intro t g x i oi ht g1 hx hi
      exact hs.tobj t g x i oi ht g1 hx (hup i oi hi).2
    · exact hs.fresh
theorem Dwp.weaken {c : Code} (a' : Nat → DV) (ha : ∀ t, DLe (a t) (a' t)) (h : Dwp P T E n c Q a' σ) : Dwp P T E n c Q a σ :=
  ⟨fun ca w ds ⟨hn, C, hf, hs⟩ => h.out ca w ds ⟨hn, C, hf.of fun t => ha t _ _ _ (hf.rel t), hs⟩⟩
theorem Dwp.nilCase {c : Code} (t k : Nat) (ht : a t = .slice k .none []) (h1 : Dwp P T E n c Q (upd a t (.lit (.slice none 0 0))) σ) (h2 : Dwp P T E n c Q (upd a t (.slice k .nn [])) σ) : Dwp P T E n c Q a σ := by
  refine ⟨fun ca w ds ⟨hn, C, hf, hs⟩ => ?_⟩
  have hv := hf.rel t
  rw [ht] at hv
  simp only [Qy] at hv
  rcases hv with ⟨b, o, cap, q1, q2, q3, _⟩ | ⟨ad, q1, _, _⟩
  · refine h2.out ca w ds ⟨hn, C, hf.of fun u => ?_, hs⟩
    by_cases e : u = t
    · subst e; simp only [upd, if_true, Qy]; exact .inl ⟨b, o, cap, q1, q2, q3, trivial⟩
    · simpa [upd, e] using hf.rel u
  · cases ad with
    | none =>
      refine h1.out ca w ds ⟨hn, C, hf.of fun u => ?_, hs⟩
      by_cases e : u = t
      · subst e; simp only [upd, if_true, Qy]; exact q1
      · simpa [upd, e] using hf.rel u
    | some ad =>
      refine h2.out ca w ds ⟨hn, C, hf.of fun u => ?_, hs⟩
      by_cases e : u = t
      · subst e; simp only [upd, if_true, Qy]; exact .inr ⟨_, q1, trivial, rfl⟩
      · simpa [upd, e] using hf.rel u
end Go.FA
namespace Go.FA
open Go.RowKit
variable {P : Program} {T : Tab} {E : Entry} {F : Nat → Prop} {C : Ctx} {w : World} {σ : St} {n : Nat} {Q : Ex → (Nat → DV) → St → Prop} {a : Nat → DV}
theorem born_inj {es : Array MapEntry} {c : Nat} (h : Stamped es c) {i j : Nat} {x y : MapEntry} (hi : es[i]? = some x) (hj : es[j]? = some y) (hb : x.born = y.born) : i = j := by
  have h1 : (es.toList.map (·.born))[i]? = some x.born := by simp [hi]
  have h2 : (es.toList.map (·.born))[j]? = some x.born := by simp [hj, hb]
  have hi' : i < (es.toList.map (·.born)).length := by
    rcases Nat.lt_or_ge i (es.toList.map (·.born)).length with q | q
    · exact q
    · rw [List.getElem?_eq_none q] at h1; simp at h1
  have hj' : j < (es.toList.map (·.born)).length := by
    rcases Nat.lt_or_ge j (es.toList.map (·.born)).length with q | q
    · exact q
    · rw [List.getElem?_eq_none q] at h2; simp at h2
  rw [List.getElem?_eq_getElem hi'] at h1
  rw [List.getElem?_eq_getElem hj'] at h2
  have heq := (Option.some.inj h1).trans (Option.some.inj h2).symm
  have hp := List.pairwise_iff_getElem.1 h.2
  rcases Nat.lt_trichotomy i j with q | q | q
  · exact absurd heq (hp i j hi' hj' q)
  · exact q
  · exact absurd heq.symm (hp j i hj' hi' q)
theorem next_sound {id : Nat} {v : Value} {ks : List Value} {vs : List DV} {seen : List Nat} {t : TypeId} (ho : σ.objs id = some (.mapIter ks vs seen)) (hv : Qy C w (.ptr id 0) v) (hs : Qav E F C w σ) :
    ((Instr.next v false t).run P w = .ok (.tuple #[.bool false]) w ∧ ∀ j, j < ks.length → j ∈ seen) ∨
    ∃ j k x w' u, j ∉ seen ∧ ks[j]? = some k ∧ vs[j]? = some x ∧ (Instr.next v false t).run P w = .ok u w' ∧ Step C w w' ∧ Qy C w' (.tuple [.lit (.bool true), .lit k, x]) u ∧
      Qav E F C w' { σ with objs := upd σ.objs id (some (.mapIter ks vs (seen ++ [j]))) } := by
  simp only [Qy] at hv
  obtain ⟨b, hb, rfl⟩ := hv
  obtain ⟨b', hb', hB, hlt, hnp, hnm, m, es, clock, h1, h2, h3, h4, h5, h6, h7⟩ := hs.obj _ _ ho
  obtain rfl : b = b' := by rw [hb] at hb'; exact Option.some.inj hb'
  subst h4
  obtain ⟨sb, hsb⟩ : ∃ sb, sb = (seen.map fun j => ((es[j]?).map (·.born)).getD 0) := ⟨_, rfl⟩
  rw [← hsb] at h1
  have hcheck : (!sb.toArray.isEmpty && !es.isEmpty && es.all (·.born ≥ clock)) = false := by
    cases hes : es.toList with
    | nil => have : es = #[] := by simpa using hes
             subst this; simp
    | cons e r =>
      have hlt' := h6.1 e (by rw [hes]; simp)
      have : es.all (·.born ≥ clock) = false := by
        rw [Bool.eq_false_iff]
        intro hall
        have h8 := Array.all_eq_true_iff_forall_mem.1 hall e (by rw [← Array.mem_toList_iff, hes]; simp)
        simp at h8; omega
      simp [this]
  have hold : ∀ l : Array MapEntry, (∀ e ∈ l, e ∈ es) → l.filter (·.born < clock) = l ∧ l.filter (·.born ≥ clock) = #[] := by
    intro l hl
    constructor
    · rw [Array.filter_eq_self]; intro e he; simpa using h6.1 e (by simpa using hl e he)
    · rw [Array.filter_eq_empty_iff]; intro e he; have := h6.1 e (by simpa using hl e he); simp; omega
  obtain ⟨left, hleft⟩ : ∃ l, l = es.filter fun e => !sb.toArray.contains e.born := ⟨_, rfl⟩
  have hlm : ∀ e ∈ left, e ∈ es := fun e he => by rw [hleft] at he; exact (Array.mem_filter.1 he).1
  obtain ⟨ho1, ho2⟩ := hold left hlm
  have hseen : ∀ j e, es[j]? = some e → (e.born ∈ sb ↔ j ∈ seen) := by
    intro j e he
    rw [hsb, List.mem_map]
    constructor
    · rintro ⟨i, hi, hbi⟩
      have hil := h7 i hi
      have hx : es[i]? = some es[i] := by simp [hil]
      rw [hx] at hbi
      simp at hbi
      have := born_inj h6 hx he hbi
      rwa [← this]
    · intro hj
      exact ⟨j, hj, by simp [he]⟩
  by_cases hnil : left = #[]
  · left
    constructor
    · rw [hnil] at hleft
      simp only [Instr.next, Sem.run_bind, QbK h1, Result.andThen_ok, run_getObj_map h3, hcheck, Bool.false_eq_true, if_false, Sem.run_pure]
      rw [← hleft]
      simp [Question.forced]
    · intro j hj
      have hj' : j < es.size := by simpa using hj
      have he : es[j]? = some es[j] := by simp [hj']
      by_cases hin : j ∈ seen
      · exact hin
      · exfalso
        have : es[j] ∈ left := by
          rw [hleft, Array.mem_filter]
          refine ⟨by simp, ?_⟩
          have : es[j].born ∉ sb := fun q => hin ((hseen j _ he).1 q)
          simpa using this
        rw [hnil] at this; simp at this
  · right
    have hpos : 0 < left.size := by
      rcases Nat.eq_zero_or_pos left.size with q | q
      · exact absurd (Array.eq_empty_of_size_eq_zero q) hnil
      · exact q
    have hemp : left.isEmpty = false := by simp [hnil]
    -- one of the entries is drawn
    obtain ⟨wd, idx, hidx, hch, hwd⟩ : ∃ wd idx, idx < left.size ∧ (choose (.mapNext left.size)).run P w = .ok idx wd ∧ (wd = w ∨ wd = w.drew) := by
      by_cases hf : left.size ≤ 1
      · exact ⟨w, 0, hpos, by simp [Question.forced, hf], .inl rfl⟩
      · refine ⟨w.drew, w.tape w.drawn (.mapNext left.size) % left.size, Nat.mod_lt _ hpos, ?_, .inr rfl⟩
        simp [Question.forced, hf, Question.cut]
    have hle : left[idx]? = some left[idx] := by simp [hidx]
    have hin : left[idx] ∈ es := hlm _ (by simp)
    obtain ⟨j, hj, hje⟩ := Array.mem_iff_getElem.1 hin
    have hjes : es[j]? = some left[idx] := by simp [hj, hje]
    have hmf : ∀ e ∈ left, e.born ∉ sb := fun e he => by rw [hleft, Array.mem_filter] at he; simpa using he.2
    have hns : j ∉ seen := fun hjs => hmf _ (by simp) ((hseen j _ hjes).2 hjs)
    obtain ⟨x, hx, hxr⟩ := QhJ h5 (i := j) (v := left[idx].val) (by simp [hjes])
    have hheap : wd.heap = w.heap := by rcases hwd with rfl | rfl <;> rfl
    have hb2 : wd.heap[b]? = some (.mapIter (some m) clock sb.toArray clock) := by rw [hheap]; exact h1
    have hT : QcW w { wd with heap := wd.heap.setIfInBounds b (.mapIter (some m) clock (sb.toArray.push left[idx].born) clock) } b (.mapIter (some m) clock (sb.toArray.push left[idx].born) clock) := by
      refine ⟨by rcases hwd with rfl | rfl <;> rfl, by rcases hwd with rfl | rfl <;> rfl, by rcases hwd with rfl | rfl <;> rfl, by simp [hheap], ?_, ?_⟩
      · simp [Array.getElem?_setIfInBounds, hheap, hlt]
      · intro k hk; simp [Array.getElem?_setIfInBounds, hheap]; intro e; exact absurd e.symm hk
    have hno : ∀ c2 e2, w.heap[b]? = some (.cells c2 e2) → ∃ c' e', Obj.mapIter (some m) clock (sb.toArray.push left[idx].born) clock = .cells c' e' ∧ c'.size = c2.size := fun _ _ q => by rw [h1] at q; cases q
    have hst := hT.step hnp hnm hno
    have hmb : m ≠ b := fun e => hnm (e ▸ h2)
    obtain ⟨_, hS⟩ := hs.turn (o' := .mapIter (es.toList.map (·.key)) vs (seen ++ [j])) ho hb hT hno
      ⟨m, es, clock, by rw [hT.at_, hsb]; simp [hjes], h2, by rw [hT.other m hmb]; exact h3, rfl, QS (.refl C) hst _ _ h5, h6, fun k hk => by
        rcases List.mem_append.1 hk with q | q
        · exact h7 k q
        · simp at q; subst q; exact hj⟩
    refine ⟨j, left[idx].key, x, _, .tuple #[.bool true, left[idx].key, left[idx].val], hns, by simp [hjes], hx, ?_, hst, ?_, hS⟩
    · simp only [Instr.next, Sem.run_bind, QbK h1, Result.andThen_ok, run_getObj_map h3, hcheck, Bool.false_eq_true, if_false, Sem.run_pure]
      rw [← hleft, ho1, ho2]
      simp only [hemp, Bool.false_eq_true, if_false]
      have hc : (#[] ++ (left ++ #[]).map some : Array (Option MapEntry)) = left.map some := by simp
      rw [hc, show (left.map some).size = left.size by simp, hch]
      simp only [Result.andThen_ok]
      have : (left.map some)[idx]? = some (some left[idx]) := by simp [hle]
      rw [this]
      simp only [Sem.run_bind]
      have hset : (setObj b (.mapIter (some m) clock (sb.toArray.push left[idx].born) clock)).run P wd = .ok () { wd with heap := wd.heap.setIfInBounds b (.mapIter (some m) clock (sb.toArray.push left[idx].born) clock) } := by
        simp [setObj, Sem.run, hb2]
      rw [hset]
      rfl
    · simp only [Qy]
      exact ⟨[.bool true, left[idx].key, left[idx].val], rfl, by simp only [QP, Qy]; exact ⟨trivial, trivial, QaH (.refl C) hst _ _ hxr, trivial⟩⟩
theorem Dwp.next {rid : Nat} {ops : Array Oper} {o0 : Oper} {rest : List Oper} {it : Tmp} {id : Nat} {ks : List Value} {vs : List DV} {seen : List Nat}
    (hT : QH P T) (hd : Q8 n ops = true) (hops : ops.toList = o0 :: rest) (h0 : o0.op = .next (.tmp it) false) (hg : o0.guard = none) (ha : a it = .ptr id 0) (ho : σ.objs id = some (.mapIter ks vs seen))
    (h1 : (∀ j, j < ks.length → j ∈ seen) → ∀ K : (Nat → DV) → St → Prop, (∀ a' σ', Q .normal a' { σ' with n := σ.n + ops.size } → σ'.n = σ.n → K a' σ') →
      Qn (QF P T ops σ.n 1 rest (QN a o0.dst (.tuple [.lit (.bool false)])) σ) K)
    (h2 : ∀ j k x, j ∉ seen → ks[j]? = some k → vs[j]? = some x → ∀ K : (Nat → DV) → St → Prop, (∀ a' σ', Q .normal a' { σ' with n := σ.n + ops.size } → σ'.n = σ.n → K a' σ') →
      Qn (QF P T ops σ.n 1 rest (QN a o0.dst (.tuple [.lit (.bool true), .lit k, x])) { σ with objs := upd σ.objs id (some (.mapIter ks vs (seen ++ [j]))) }) K) :
    Dwp P T E n (.region rid ops false) Q a σ := by
  refine ⟨fun ca w ds hok => wp_region ?_⟩
  obtain ⟨hn, C, hf, hs⟩ := hok
  have hsz : ops.size = rest.length + 1 := by have := congrArg List.length hops; simpa using this
  have ho0 : ops[0]? = some o0 := by
    have : ops.toList[0]? = some o0 := by rw [hops]; rfl
    simpa using this
  have hrest : ∀ j, rest[j]? = ops[1 + j]? := fun j => by
    have : ops.toList[j + 1]? = rest[j]? := by rw [hops]; simp
    rw [← this, Nat.add_comm]; simp
  have hrange : List.range ops.size = 0 :: List.range' 1 rest.length := by
    rw [List.range_eq_range', hsz, List.range'_succ]
  rw [hrange]
  simp only [wpOps, ho0]
  rw [if_pos (by unfold Region.wanted; rw [hg])]
  left
  have hdst : ∀ t, o0.dst = some t → t < ca.size := by
    intro t ht
    have hm : o0 ∈ ops.toList := by rw [hops]; simp
    have := List.all_eq_true.1 hd o0 hm
    rw [ht] at this; rw [hn]; simpa using this
  have hit := hf.rel it
  rw [ha] at hit
  -- the rest of the region
  have key : ∀ (d : DV) (σ1 : St) (v : Value) (w' : World) (C' : Ctx), σ1.n = σ.n → C.Le C' → Step C w w' → Qy C' w' d v → Qav E (fun i => σ.n ≤ i) C' w' σ1 →
      (∀ K : (Nat → DV) → St → Prop, (∀ a' σ', Q .normal a' { σ' with n := σ.n + ops.size } → σ'.n = σ.n → K a' σ') → Qn (QF P T ops σ.n 1 rest (QN a o0.dst d) σ1) K) →
      wpOps P ops (Post E n ds Q) (List.range' 1 rest.length) (Act.put ⟨ca, ds⟩ o0.dst v) w' := by
    intro d σ1 v w' C' hn1 hle hst hv hS hK
    have hK1 := hK _ fun _ _ q1 q2 => And.intro q1 q2
    unfold Qn at hK1
    split at hK1
    · next a' σ' heq =>
      rw [QeU P T ops σ.n rest 1 _ _ hrest] at heq
      rw [put_eq]
      refine Qcr (E := E) hT hd (List.range' 1 rest.length) _ _ _ _ _ _ List.nodup_range' (fun i hi => by rw [List.mem_range'] at hi; omega) heq
        ⟨by rw [Qaq]; exact hn, C', (hf.mono hle hst).put hv hdst, hS.fewer fun i hi => ?_⟩ fun ca' w'' hok' => ?_
      · rcases hi with ⟨j, _, rfl⟩ | hi <;> omega
      · obtain ⟨hn', C'', hf', hs'⟩ := hok'
        refine ⟨rfl, .normal, a', _, rfl, hK1.1, hn', C'', hf', ?_⟩
        exact ⟨hs'.lo, hs'.below, hs'.bsize, hs'.pB, hs'.mB, hs'.psup, hs'.msup, hs'.psub, hs'.msub, hs'.obj, hs'.inj, hs'.tok, hs'.tinj, hs'.tobj, fun i hi => hs'.fresh i (.inr (by rw [hK1.2] at *; exact hi))⟩
    · exact hK1.elim
  have hop : (execOp (Act.eval ⟨ca, ds⟩) o0) = (do pure (.value (← Instr.next (ca.getD it undef) false o0.type))) := by
    simp only [execOp, h0]; rfl
  unfold Oper.wp Oper.upon
  rcases next_sound (P := P) (t := o0.type) ho hit hs with ⟨hrun, hall⟩ | ⟨j, k, x, w', u, hns, hk, hx, hrun, hst, hv, hS⟩
  · have hr : (execOp (Act.eval ⟨ca, ds⟩) o0).run P w = .ok (.value (.tuple #[.bool false])) w := by rw [hop]; simp only [Sem.run_bind, hrun, Result.andThen_ok, Sem.run_pure]
    rw [hr]
    exact key _ σ _ _ C rfl (.refl C) (.refl C w) (by simp only [Qy]; exact ⟨[.bool false], rfl, by simp [QP, Qy]⟩) hs (h1 hall)
  · have hr : (execOp (Act.eval ⟨ca, ds⟩) o0).run P w = .ok (.value u) w' := by rw [hop]; simp only [Sem.run_bind, hrun, Result.andThen_ok, Sem.run_pure]
    rw [hr]
    exact key _ { σ with objs := upd σ.objs id (some (.mapIter ks vs (seen ++ [j]))) } _ _ C rfl (.refl C) hst hv hS (h2 j k x hns hk hx)
end Go.FA
namespace Go.FA
variable {P : Program}
def Good (P : Program) (p : FuncId × Sp) : Prop := Qb P p.1 p.2 ∧ ∃ fn c, P.funcs[p.1]? = some fn ∧ fn.body = some c ∧ fn.name ≠ "runtime.NumGoroutine"
theorem QH.nil : QH P (Qf []) := QH.of_list (by simp)
theorem QH.cons {p : FuncId × Sp} {l : List (FuncId × Sp)} (h : Good P p) (ht : QH P (Qf l)) : QH P (Qf (p :: l)) := by
  intro f s hs
  unfold Qf at hs
  rw [List.find?_cons] at hs
  split at hs
  · next he => simp at he hs; subst he; subst hs; exact h
  · exact ht f s hs
theorem wrap_small {n : Int} (h0 : 0 ≤ n) (h : n < 4611686018427387904) : IntKind.i64.wrap n = n := by
  simp [IntKind.wrap, IntKind.bits, IntKind.signed]; omega
def lim : Nat := 1099511627776
def Enc.fn : Enc FuncId where
  enc f := .lit (.func (.func f) #[] #[])
  dec d := match d with | .lit (.func (.func f) first captured) => if first.toList.isEmpty && captured.toList.isEmpty then some f else none | _ => none
  le d x h := by
    split at h
    · split at h
      · next hc => simp at hc h; obtain ⟨rfl, rfl⟩ := hc; subst h; exact DLe.refl _
      · simp at h
    · simp at h
  pure _ := rfl
  de _ := by simp
theorem bget (s : ByteArray) (i : Nat) (h : i < s.size) : s[i]? = some s[i] := by simp [h]
end Go.FA
namespace Go.FA
open Go.RowKit Go.ChangeShapes
structure Bulk (H : Type) where
  b : DataW H → Nat
  ba : List (DataW H) → Nat
  str : ∀ l, l.length + 1 ≤ b (.lit (.string l))
  one : ∀ d, 1 ≤ b d
  agg : ∀ l, ba l + 1 ≤ b (.agg l)
  slice : ∀ l r, ba l + 1 ≤ b (.slice l r)
  cons : ∀ d l, b d + ba l ≤ ba (d :: l)
def QdH (W : World) : Ctx := ⟨fun _ => none, fun _ => none, fun b _ => b < W.heap.size, fun b => b < W.heap.size, W.heap.size⟩
section
variable {H : Type} (K : Bulk H) (enc : TypeId × Value → H) (P : Program) (W : World)
def Rd {α : Type} (t : TypeId) (A : Ql α) (sz : α → Nat) : Prop :=
  ∀ (fuel : Nat) (cs : List Value) (x : DataW H × List MemPlace), DataW.trod enc P W 0 (fun _ => true) true fuel t cs = some x → ∃ y, QP (QdH W) W (A.enc y) cs ∧ Flat cs ∧ sz y ≤ K.b x.1
def FRd {α : Type} (fs : List Field) (off : Nat) (A : Ql α) (sz : α → Nat) : Prop :=
  ∀ (fuel : Nat) (cs : List Value) (xs : List (DataW H × List MemPlace)), cs.length = off + A.k → xs.length = fs.length →
    (∀ (i : Nat) (f : Field), fs[i]? = some f → DataW.trod enc P W 0 (fun _ => true) true fuel f.type ((cs.drop f.offset).take (P.cellsOf f.type)) = xs[i]?) →
    ∃ y, QP (QdH W) W (A.enc y) (cs.drop off) ∧ Flat (cs.drop off) ∧ sz y ≤ K.ba (xs.map (·.1))
variable {K enc P W}
theorem Rd.str {t : TypeId} (ht : P.underlying t = some .string) : Rd K enc P W t (Ql.one Enc.str) (fun s => s.size + 1) := by
  intro fuel cs x h
  obtain ⟨s, rfl, rfl, _⟩ := DataW.trod_string ht h
  refine ⟨s, by simp [Ql.one, Enc.str, QP, Qy], by simp [Flat, Value.oneCell'], ?_⟩
  have := K.str s.data.toList
  simpa using this
theorem Rd.int {t : TypeId} {k : IntKind} (ht : P.underlying t = some (.int k)) : Rd K enc P W t (Ql.one (Enc.int k)) (fun _ => 1) := by
  intro fuel cs x h
  obtain ⟨n, rfl, rfl, _⟩ := DataW.trod_int ht h
  exact ⟨n, by simp [Ql.one, Enc.int, QP, Qy], by simp [Flat, Value.oneCell'], K.one _⟩
theorem Qig {b : Nat} (hb : b < W.heap.size) : ∀ (ds : List DV) (cs : List Value) (o : Nat), QP (QdH W) W ds cs → Flat cs → (∀ j, j < cs.length → W.cell? ⟨b, o + j, none⟩ = cs[j]?) → Qa6 (QdH W) W b o ds
  | [], _, _, _, _, _ => by simp [Qa6]
  | d :: ds, [], _, h, _, _ => by simp [QP] at h
  | d :: ds, c :: cs, o, h, hf, hc => by
    simp only [QP] at h
    simp only [Qa6]
    refine ⟨⟨hb, c, by have := hc 0 (by simp); simpa using this, hf c (by simp), h.1⟩, Qig hb ds cs (o + 1) h.2 (fun y hy => hf y (by simp [hy])) fun j hj => ?_⟩
    have := hc (j + 1) (by simp; omega)
    rw [show o + 1 + j = o + (j + 1) by omega]; simpa using this
theorem Qj1 {α : Type} {e : TypeId} {B : Ql α} {sz : α → Nat} (h : Rd K enc P W e B sz) (hk : B.k = P.cellsOf e) {b : Nat} (hb : b < W.heap.size) {n : Nat} :
    ∀ (xs : List (DataW H × List MemPlace)) (o : Nat), (∀ i, i < xs.length → ∃ cs : List Value, cs.length = B.k ∧ (∀ j, j < B.k → W.cell? ⟨b, o + i * B.k + j, none⟩ = cs[j]?) ∧ DataW.trod enc P W 0 (fun _ => true) true n e cs = xs[i]?) →
      ∃ ys : List α, ys.length = xs.length ∧ QaP (QdH W) W B.k b o (ys.map B.enc) ∧ (ys.map sz).sum ≤ K.ba (xs.map (·.1))
  | [], o, _ => ⟨[], rfl, by simp [QaP], by simp⟩
  | x :: xs, o, hx => by
    obtain ⟨cs, h1, h2, h3⟩ := hx 0 (by simp)
    obtain ⟨y, q1, q2, q3⟩ := h n cs x (by simpa using h3)
    obtain ⟨ys, r1, r2, r3⟩ := Qj1 h hk hb xs (o + B.k) fun i hi => by
      obtain ⟨cs', p1, p2, p3⟩ := hx (i + 1) (by simp; omega)
      refine ⟨cs', p1, fun j hj => ?_, by simpa using p3⟩
      rw [← p2 j hj, show o + B.k + i * B.k + j = o + (i + 1) * B.k + j by rw [Nat.succ_mul]; omega]
    refine ⟨y :: ys, by simp [r1], ?_, ?_⟩
    · simp only [List.map_cons, QaP]
      exact ⟨B.len y, Qig hb _ _ _ q1 q2 (fun j hj => by have := h2 j (by omega); simpa using this), r2⟩
    · have := K.cons x.1 (xs.map (·.1))
      simp only [List.map_cons, List.sum_cons]; omega
theorem Rd.slice {α : Type} {t e : TypeId} {B : Ql α} {sz : α → Nat} (ht : P.underlying t = some (.slice e)) (h : Rd K enc P W e B sz) (hk : B.k = P.cellsOf e) (hpos : 0 < B.k) :
    Rd K enc P W t (Ql.one (Enc.slice B)) (fun l => (l.map sz).sum + 1) := by
  intro fuel cs x hx
  rcases DataW.trod_slice ht hx with ⟨rfl, rfl⟩ | ⟨a, len, cap, elems, rest, n, _, rfl, rfl, _, hl, _, hlen, hel, hsp, _⟩
  · exact ⟨[], by simp only [Ql.one, Enc.slice, QP, Qy]; exact ⟨.inr ⟨none, rfl, rfl, trivial⟩, trivial⟩, by simp [Flat, Value.oneCell'], by simpa using K.one _⟩
  · obtain ⟨hrl, hr⟩ := hsp rfl
    have hflat : Flat [Value.slice (some a) len cap] := by simp [Flat, Value.oneCell']
    rcases Nat.eq_zero_or_pos cap with h0 | h0
    · obtain rfl : len = 0 := by omega
      subst h0
      exact ⟨[], by simp only [Ql.one, Enc.slice, QP, Qy]; exact ⟨.inr ⟨some a, rfl, rfl, trivial⟩, trivial⟩, hflat, by simpa using K.one _⟩
    · -- the first cell is read: it has no spot
      have hcell : W.cell? a ≠ none := by
        have hb : ∃ y, (W.cells? 0 (a.add (0 * P.cellsOf e)) (P.cellsOf e)).bind (DataW.trod enc P W 0 (fun _ => true) true n e) = some y := by
          by_cases hz : 0 < len
          · have := hel 0 hz
            rw [this]; exact ⟨elems[0]'(by omega), by simp⟩
          · have := hr 0 (by omega)
            rw [show len + 0 = 0 by omega] at this
            rw [this]; exact ⟨rest[0]'(by omega), by simp⟩
        obtain ⟨y, hy⟩ := hb
        obtain ⟨cs', hcs, _⟩ := Option.bind_eq_some_iff.1 hy
        obtain ⟨_, hcl, hci⟩ := World.cells?_some hcs
        have := hci 0 (by omega)
        simp only [Nat.zero_mul, Addr.add, if_true] at this
        rw [this, List.getElem?_eq_getElem (by omega)]; simp
      obtain ⟨blk, off, spot⟩ := a
      have hspot : spot = none := by
        cases spot with
        | none => rfl
        | some s => exact absurd (by unfold World.cell?; split <;> simp) hcell
      subst hspot
      have hblk : blk < W.heap.size := by
        rcases Nat.lt_or_ge blk W.heap.size with q | q
        · exact q
        · exact absurd (by unfold World.cell?; simp [Array.getElem?_eq_none q]) hcell
      have hadd : ∀ m j, (Addr.add ⟨blk, off, none⟩ m).add j = ⟨blk, off + m + j, none⟩ := by
        intro m j
        unfold Addr.add
        split <;> split <;> simp_all <;> omega
      obtain ⟨ys, r1, r2, r3⟩ := Qj1 h hk hblk (n := n) elems off fun i hi => by
        have := hel i (by omega)
        rw [List.getElem?_eq_getElem hi] at this ⊢
        obtain ⟨cs', hcs, hd⟩ := Option.bind_eq_some_iff.1 this
        obtain ⟨_, hcl, hci⟩ := World.cells?_some hcs
        refine ⟨cs', by omega, fun j hj => ?_, hd⟩
        rw [← hci j (by omega), hadd, hk]
      refine ⟨ys, ?_, hflat, ?_⟩
      · simp only [Ql.one, Enc.slice, QP, Qy]
        refine ⟨.inl ⟨blk, off, cap, ?_, ?_, r2, trivial⟩, trivial⟩
        · simp [r1, hlen]
        · simp [r1, hlen]; exact hl
      · have := K.slice (elems.map (·.1)) (rest.map (·.1))
        simp only []; omega
theorem FRd.one {α : Type} {f : Field} {off : Nat} {A : Ql α} {sz : α → Nat} (h : Rd K enc P W f.type A sz) (hk : A.k = P.cellsOf f.type) (ho : f.offset = off) : FRd K enc P W [f] off A sz := by
  intro fuel cs xs hcl hxl hx
  obtain ⟨x, rfl⟩ : ∃ x, xs = [x] := by
    match xs, hxl with
    | [x], _ => exact ⟨x, rfl⟩
  have := hx 0 f (by simp)
  subst ho
  rw [List.take_of_length_le (by simp; omega)] at this
  obtain ⟨y, q1, q2, q3⟩ := h fuel _ x (by simpa using this)
  have := K.cons x.1 []
  exact ⟨y, q1, q2, by simp only [List.map_cons, List.map_nil]; omega⟩
theorem QgB {C : Ctx} {w : World} : ∀ {a b : List DV} {x y : List Value}, QP C w a x → QP C w b y → QP C w (a ++ b) (x ++ y)
  | [], _, [], _, _, h => h
  | _ :: _, _, _ :: _, _, h, h' => by simp only [QP, List.cons_append] at h ⊢; exact ⟨h.1, QgB h.2 h'⟩
  | [], _, _ :: _, _, h, _ => by simp [QP] at h
  | _ :: _, _, [], _, h, _ => by simp [QP] at h
theorem FRd.cons {α β : Type} {f : Field} {fs : List Field} {off : Nat} {A : Ql α} {B : Ql β} {sz : α → Nat} {sz' : β → Nat} (h : Rd K enc P W f.type A sz) (hk : A.k = P.cellsOf f.type) (ho : f.offset = off)
    (ht : FRd K enc P W fs (off + A.k) B sz') : FRd K enc P W (f :: fs) off (A.and B) (fun x => sz x.1 + sz' x.2) := by
  intro fuel cs xs hcl hxl hx
  have hcl' : cs.length = off + (A.k + B.k) := hcl
  match xs, hxl with
  | x :: xs, hxl =>
    have h0 := hx 0 f (by simp)
    subst ho
    obtain ⟨y, q1, q2, q3⟩ := h fuel _ x (by simpa using h0)
    obtain ⟨z, r1, r2, r3⟩ := ht fuel cs xs (by omega) (by simpa using hxl) fun i g hg => by have := hx (i + 1) g (by simpa using hg); simpa using this
    have hsplit : cs.drop f.offset = (cs.drop f.offset).take (P.cellsOf f.type) ++ cs.drop (f.offset + A.k) := by
      rw [hk, ← List.drop_drop, List.take_append_drop]
    refine ⟨(y, z), ?_, ?_, ?_⟩
    · rw [hsplit]; exact QgB q1 r1
    · rw [hsplit]; intro v hv
      rcases List.mem_append.1 hv with hv | hv
      · exact q2 v hv
      · exact r2 v hv
    · have := K.cons x.1 (xs.map (·.1))
      simp only [List.map_cons]; omega
theorem Rd.struct {α : Type} {t : TypeId} {fs : Array Field} {A : Ql α} {sz : α → Nat} (ht : P.underlying t = some (.struct fs)) (hk : A.k = P.cellsOf t) (h : FRd K enc P W fs.toList 0 A sz) : Rd K enc P W t A (fun y => sz y + 1) := by
  intro fuel cs x hx
  obtain ⟨xs, n, _, rfl, hcl, hxl, hx⟩ := DataW.trod_struct ht hx
  obtain ⟨y, q1, q2, q3⟩ := h n cs xs (by omega) (by simpa using hxl) fun i f hf => hx i f (by simpa using hf)
  have := K.agg (xs.map (·.1))
  exact ⟨y, by simpa using q1, by simpa using q2, by simp only []; omega⟩
end
end Go.FA
namespace Go.FA
open Go.RowKit Go.ChangeShapes
section
variable {H : Type}
def RdN (N : Nat) (K : Bulk H) (enc : TypeId × Value → H) (P : Program) (W : World) {α : Type} (t : TypeId) (A : Ql α) (sz : α → Nat) : Prop :=
  ∀ (fuel : Nat), fuel ≤ N → ∀ (cs : List Value) (x : DataW H × List MemPlace), DataW.trod enc P W 0 (fun _ => true) true fuel t cs = some x → ∃ y, QP (QdH W) W (A.enc y) cs ∧ Flat cs ∧ sz y ≤ K.b x.1
def FRdN (N : Nat) (K : Bulk H) (enc : TypeId × Value → H) (P : Program) (W : World) {α : Type} (fs : List Field) (off : Nat) (A : Ql α) (sz : α → Nat) : Prop :=
  ∀ (fuel : Nat), fuel ≤ N → ∀ (cs : List Value) (xs : List (DataW H × List MemPlace)), cs.length = off + A.k → xs.length = fs.length →
    (∀ (i : Nat) (f : Field), fs[i]? = some f → DataW.trod enc P W 0 (fun _ => true) true fuel f.type ((cs.drop f.offset).take (P.cellsOf f.type)) = xs[i]?) →
    ∃ y, QP (QdH W) W (A.enc y) (cs.drop off) ∧ Flat (cs.drop off) ∧ sz y ≤ K.ba (xs.map (·.1))
variable {K : Bulk H} {enc : TypeId × Value → H} {P : Program} {W : World}
theorem RdN.of {N : Nat} {α : Type} {t : TypeId} {A : Ql α} {sz : α → Nat} (h : Rd K enc P W t A sz) : RdN N K enc P W t A sz := fun fuel _ => h fuel
theorem Rd.of {α : Type} {t : TypeId} {A : Ql α} {sz : α → Nat} (h : ∀ N, RdN N K enc P W t A sz) : Rd K enc P W t A sz := fun fuel => h fuel fuel (Nat.le_refl _)
theorem QiG {α : Type} {e : TypeId} {B : Ql α} {sz : α → Nat} {N : Nat} (h : RdN N K enc P W e B sz) (hk : B.k = P.cellsOf e) {b : Nat} (hb : b < W.heap.size) {n : Nat} (hnN : n ≤ N) :
    ∀ (xs : List (DataW H × List MemPlace)) (o : Nat), (∀ i, i < xs.length → ∃ cs : List Value, cs.length = B.k ∧ (∀ j, j < B.k → W.cell? ⟨b, o + i * B.k + j, none⟩ = cs[j]?) ∧ DataW.trod enc P W 0 (fun _ => true) true n e cs = xs[i]?) →
      ∃ ys : List α, ys.length = xs.length ∧ QaP (QdH W) W B.k b o (ys.map B.enc) ∧ (ys.map sz).sum ≤ K.ba (xs.map (·.1))
  | [], o, _ => ⟨[], rfl, by simp [QaP], by simp⟩
  | x :: xs, o, hx => by
    obtain ⟨cs, h1, h2, h3⟩ := hx 0 (by simp)
    obtain ⟨y, q1, q2, q3⟩ := h n hnN cs x (by simpa using h3)
    obtain ⟨ys, r1, r2, r3⟩ := QiG h hk hb hnN xs (o + B.k) fun i hi => by
      obtain ⟨cs', p1, p2, p3⟩ := hx (i + 1) (by simp; omega)
      refine ⟨cs', p1, fun j hj => ?_, by simpa using p3⟩
      rw [← p2 j hj, show o + B.k + i * B.k + j = o + (i + 1) * B.k + j by rw [Nat.succ_mul]; omega]
    refine ⟨y :: ys, by simp [r1], ?_, ?_⟩
    · simp only [List.map_cons, QaP]
      exact ⟨B.len y, Qig hb _ _ _ q1 q2 (fun j hj => by have := h2 j (by omega); simpa using this), r2⟩
    · have := K.cons x.1 (xs.map (·.1))
      simp only [List.map_cons, List.sum_cons]; omega
theorem RdN.slice {α : Type} {t e : TypeId} {B : Ql α} {sz : α → Nat} (ht : P.underlying t = some (.slice e)) {N : Nat} (h : RdN N K enc P W e B sz) (hk : B.k = P.cellsOf e) (hpos : 0 < B.k) :
    RdN (N + 1) K enc P W t (Ql.one (Enc.slice B)) (fun l => (l.map sz).sum + 1) := by
  intro fuel hfu cs x hx
  rcases DataW.trod_slice ht hx with ⟨rfl, rfl⟩ | ⟨a, len, cap, elems, rest, n, hfn, rfl, rfl, _, hl, _, hlen, hel, hsp, _⟩
  · exact ⟨[], by simp only [Ql.one, Enc.slice, QP, Qy]; exact ⟨.inr ⟨none, rfl, rfl, trivial⟩, trivial⟩, by simp [Flat, Value.oneCell'], by simpa using K.one _⟩
  · obtain ⟨hrl, hr⟩ := hsp rfl
    have hflat : Flat [Value.slice (some a) len cap] := by simp [Flat, Value.oneCell']
    rcases Nat.eq_zero_or_pos cap with h0 | h0
    · obtain rfl : len = 0 := by omega
      subst h0
      exact ⟨[], by simp only [Ql.one, Enc.slice, QP, Qy]; exact ⟨.inr ⟨some a, rfl, rfl, trivial⟩, trivial⟩, hflat, by simpa using K.one _⟩
    · -- the first cell is read: it has no spot
      have hcell : W.cell? a ≠ none := by
        have hb : ∃ y, (W.cells? 0 (a.add (0 * P.cellsOf e)) (P.cellsOf e)).bind (DataW.trod enc P W 0 (fun _ => true) true n e) = some y := by
          by_cases hz : 0 < len
          · have := hel 0 hz
            rw [this]; exact ⟨elems[0]'(by omega), by simp⟩
          · have := hr 0 (by omega)
            rw [show len + 0 = 0 by omega] at this
            rw [this]; exact ⟨rest[0]'(by omega), by simp⟩
        obtain ⟨y, hy⟩ := hb
        obtain ⟨cs', hcs, _⟩ := Option.bind_eq_some_iff.1 hy
        obtain ⟨_, hcl, hci⟩ := World.cells?_some hcs
        have := hci 0 (by omega)
        simp only [Nat.zero_mul, Addr.add, if_true] at this
        rw [this, List.getElem?_eq_getElem (by omega)]; simp
      obtain ⟨blk, off, spot⟩ := a
      have hspot : spot = none := by
        cases spot with
        | none => rfl
        | some s => exact absurd (by unfold World.cell?; split <;> simp) hcell
      subst hspot
      have hblk : blk < W.heap.size := by
        rcases Nat.lt_or_ge blk W.heap.size with q | q
        · exact q
        · exact absurd (by unfold World.cell?; simp [Array.getElem?_eq_none q]) hcell
      have hadd : ∀ m j, (Addr.add ⟨blk, off, none⟩ m).add j = ⟨blk, off + m + j, none⟩ := by
        intro m j
        unfold Addr.add
        split <;> split <;> simp_all <;> omega
      obtain ⟨ys, r1, r2, r3⟩ := QiG h hk hblk (n := n) (by omega) elems off fun i hi => by
        have := hel i (by omega)
        rw [List.getElem?_eq_getElem hi] at this ⊢
        obtain ⟨cs', hcs, hd⟩ := Option.bind_eq_some_iff.1 this
        obtain ⟨_, hcl, hci⟩ := World.cells?_some hcs
        refine ⟨cs', by omega, fun j hj => ?_, hd⟩
        rw [← hci j (by omega), hadd, hk]
      refine ⟨ys, ?_, hflat, ?_⟩
      · simp only [Ql.one, Enc.slice, QP, Qy]
        refine ⟨.inl ⟨blk, off, cap, ?_, ?_, r2, trivial⟩, trivial⟩
        · simp [r1, hlen]
        · simp [r1, hlen]; exact hl
      · have := K.slice (elems.map (·.1)) (rest.map (·.1))
        simp only []; omega
theorem FRdN.one {α : Type} {f : Field} {off : Nat} {A : Ql α} {sz : α → Nat} {N : Nat} (h : RdN N K enc P W f.type A sz) (hk : A.k = P.cellsOf f.type) (ho : f.offset = off) : FRdN N K enc P W [f] off A sz := by
  intro fuel hfu cs xs hcl hxl hx
  obtain ⟨x, rfl⟩ : ∃ x, xs = [x] := by
    match xs, hxl with
    | [x], _ => exact ⟨x, rfl⟩
  have := hx 0 f (by simp)
  subst ho
  rw [List.take_of_length_le (by simp; omega)] at this
  obtain ⟨y, q1, q2, q3⟩ := h fuel hfu _ x (by simpa using this)
  have := K.cons x.1 []
  exact ⟨y, q1, q2, by simp only [List.map_cons, List.map_nil]; omega⟩
theorem FRdN.cons {α β : Type} {f : Field} {fs : List Field} {off : Nat} {A : Ql α} {B : Ql β} {sz : α → Nat} {sz' : β → Nat} {N : Nat} (h : RdN N K enc P W f.type A sz) (hk : A.k = P.cellsOf f.type) (ho : f.offset = off)
    (ht : FRdN N K enc P W fs (off + A.k) B sz') : FRdN N K enc P W (f :: fs) off (A.and B) (fun x => sz x.1 + sz' x.2) := by
  intro fuel hfu cs xs hcl hxl hx
  have hcl' : cs.length = off + (A.k + B.k) := hcl
  match xs, hxl with
  | x :: xs, hxl =>
    have h0 := hx 0 f (by simp)
    subst ho
    obtain ⟨y, q1, q2, q3⟩ := h fuel hfu _ x (by simpa using h0)
    obtain ⟨z, r1, r2, r3⟩ := ht fuel hfu cs xs (by omega) (by simpa using hxl) fun i g hg => by have := hx (i + 1) g (by simpa using hg); simpa using this
    have hsplit : cs.drop f.offset = (cs.drop f.offset).take (P.cellsOf f.type) ++ cs.drop (f.offset + A.k) := by
      rw [hk, ← List.drop_drop, List.take_append_drop]
    refine ⟨(y, z), ?_, ?_, ?_⟩
    · rw [hsplit]; exact QgB q1 r1
    · rw [hsplit]; intro v hv
      rcases List.mem_append.1 hv with hv | hv
      · exact q2 v hv
      · exact r2 v hv
    · have := K.cons x.1 (xs.map (·.1))
      simp only [List.map_cons]; omega
theorem RdN.struct {α : Type} {t : TypeId} {fs : Array Field} {A : Ql α} {sz : α → Nat} (ht : P.underlying t = some (.struct fs)) (hk : A.k = P.cellsOf t) {N : Nat} (h : FRdN N K enc P W fs.toList 0 A sz) : RdN (N + 1) K enc P W t A (fun y => sz y + 1) := by
  intro fuel hfu cs x hx
  obtain ⟨xs, n, hfn, rfl, hcl, hxl, hx⟩ := DataW.trod_struct ht hx
  obtain ⟨y, q1, q2, q3⟩ := h n (by omega) cs xs (by omega) (by simpa using hxl) fun i f hf => hx i f (by simpa using hf)
  have := K.agg (xs.map (·.1))
  exact ⟨y, by simpa using q1, by simpa using q2, by simp only []; omega⟩
end
end Go.FA
namespace Go.FA
open Go.RowKit Go.ChangeShapes
section
variable {H : Type} (K : Bulk H) (enc : TypeId × Value → H) (P : Program) (W : World)
def Qlp {α : Type} (t : TypeId) (A : Enc α) (sz : α → Nat) : Prop :=
  ∀ (base : Nat) (v : Value) (d : DataW H) (ps : List MemPlace), Value.okWide P W .any base t v → DataW.Trod enc P W 0 (fun _ => true) true t v d ps → ∃ y, Qy (QdH W) W (A.enc y) v ∧ sz y ≤ K.b d
def ARd {α : Type} (ts : List TypeId) (A : Ql α) (sz : α → Nat) : Prop :=
  ∀ (base : Nat) (args : List Value) (ds : List (DataW H)) (ps : List MemPlace), (∀ (j : Nat) t v, ts[j]? = some t → args[j]? = some v → Value.okWide P W .any base t v) →
    DataW.TrodAll enc P W 0 (fun _ => true) true ts args ds ps → ∃ y, QP (QdH W) W (A.enc y) args ∧ sz y ≤ K.ba ds
variable {K enc P W}
theorem Qlp.cell {α : Type} {t : TypeId} {A : Enc α} {sz : α → Nat} (h : Rd K enc P W t (Ql.one A) sz) (hna : ∀ base cs, ¬ Value.okWide P W .any base t (.agg cs)) : Qlp K enc P W t A sz := by
  intro base v d ps hok hd
  obtain ⟨fuel, hf⟩ := hd
  obtain ⟨y, q1, _, q3⟩ := h fuel _ _ hf
  refine ⟨y, ?_, q3⟩
  have hc : v.cells = #[v] := by
    unfold Value.cells
    split
    · exact absurd hok (hna _ _)
    · rfl
  rw [hc] at q1
  simp only [Ql.one, QP] at q1
  exact q1.1
theorem Qlp.agg {α : Type} {t : TypeId} {fs : Array Field} {A : Ql α} {sz : α → Nat} (ht : P.underlying t = some (.struct fs)) (h : Rd K enc P W t A sz) : Qlp K enc P W t (Enc.agg A) sz := by
  intro base v d ps hok hd
  obtain ⟨fuel, hf⟩ := hd
  obtain ⟨y, q1, q2, q3⟩ := h fuel _ _ hf
  simp only [Value.okWide, ht] at hok
  obtain ⟨cs, rfl, _⟩ := hok
  refine ⟨y, ?_, q3⟩
  simp only [Enc.agg, Qy]
  exact ⟨cs.toList, by simp, by simpa [Value.cells] using q1, by simpa [Value.cells] using q2⟩
theorem ARd.one {α : Type} {t : TypeId} {A : Enc α} {sz : α → Nat} (h : Qlp K enc P W t A sz) : ARd K enc P W [t] (Ql.one A) sz := by
  intro base args ds ps hok hd
  obtain ⟨v, vs, d, ds', p, q, rfl, rfl, rfl, h1, h2⟩ := trodAll_cons hd
  obtain ⟨rfl, rfl, rfl⟩ := trodAll_nil h2
  obtain ⟨y, q1, q2⟩ := h base v d p (hok 0 t v rfl rfl) h1
  have := K.cons d []
  exact ⟨y, by simp only [Ql.one, QP]; exact ⟨q1, trivial⟩, by omega⟩
theorem ARd.cons {α β : Type} {t : TypeId} {ts : List TypeId} {A : Enc α} {B : Ql β} {sz : α → Nat} {sz' : β → Nat} (h : Qlp K enc P W t A sz) (ht : ARd K enc P W ts B sz') : ARd K enc P W (t :: ts) ((Ql.one A).and B) (fun x => sz x.1 + sz' x.2) := by
  intro base args ds ps hok hd
  obtain ⟨v, vs, d, ds', p, q, rfl, rfl, rfl, h1, h2⟩ := trodAll_cons hd
  obtain ⟨y, q1, q2⟩ := h base v d p (hok 0 t v rfl rfl) h1
  obtain ⟨z, r1, r2⟩ := ht base vs ds' q (fun j t' v' a b => hok (j + 1) t' v' (by simpa using a) (by simpa using b)) h2
  have := K.cons d ds'
  exact ⟨(y, z), by simp only [Ql.and, Ql.one, List.cons_append, List.nil_append, QP]; exact ⟨q1, r1⟩, by simp only []; omega⟩
theorem QdY (hl : laidOutB P = true) {W' : World} (hb : Below W.heap.size W W') : ∀ {ts : List TypeId} {vs : List Value} {ds : List (DataW H)} {ps : List MemPlace} {sp : Nat → Bool},
    (∀ t ∈ ts, P.readableRec t = true ∧ t < P.types.size) → DataW.TrodAll enc P W 0 (fun _ => true) true ts vs ds ps → (∀ p ∈ ps, p.block < W.heap.size) → (∀ p ∈ ps, sp p.block = true) → DataW.TrodAll enc P W' 0 sp true ts vs ds ps
  | [], _, _, _, _, _, h, _, _ => by
    obtain ⟨rfl, rfl, rfl⟩ := trodAll_nil h
    rfl
  | t :: ts, _, _, _, _, hr, h, hlt, hsp => by
    obtain ⟨v, vs, d, ds', p, q, rfl, rfl, rfl, h1, h2⟩ := trodAll_cons h
    exact ⟨p, q, WideElems.Trod_stays hl (hr t (by simp)).1 (hr t (by simp)).2 h1 (fun x hx => hb.same (hlt x (by simp [hx]))) (fun x hx => hsp x (by simp [hx])),
      QdY hl hb (fun t' ht' => hr t' (by simp [ht'])) h2 (fun x hx => hlt x (by simp [hx])) (fun x hx => hsp x (by simp [hx])), rfl⟩
theorem law_post {f : FuncId} {fn : Func} {S : Sp} {dvs : List DV} {args : Array Value} {ds gs : List (DataW H)} {before : List MemPlace} {s : ChangeSpec} {t : TypeId}
    (hl : laidOutB P = true) (hgl : Qkm (QdH W) W) (hcs : Qb P f S) (hS : S dvs = some (.lit (.bool true))) (hvars : s.vars = []) (hrd : ∀ t ∈ fn.params.toList, P.readableRec t = true ∧ t < P.types.size)
    (hfn : (s.fn H (ds ++ gs)).results = [.lit (.bool true)] ∧ (s.fn H (ds ++ gs)).args = ds ∧ (s.fn H (ds ++ gs)).vars = []) (hrt : fn.resultTypes = #[t]) (hbool : P.underlying t = some .bool)
    (hW : DataW.Whole enc P fn.params.toList s.vars false W args.toList ds gs before) (hrel : QP (QdH W) W dvs args.toList) :
    Calls P f args W fun e W' => ∃ v, e = .returned v ∧ s.post enc P fn false true false false W args v W' := by
  have hlt := hW.lt
  have hW' := hW
  obtain ⟨p, q, hA, hV, rfl, hfz, hnd⟩ := hW
  rw [hvars] at hV
  obtain ⟨rfl, rfl⟩ := trodVars_none hV
  rcases hcs dvs _ hS with ⟨_, hc⟩ | ⟨k, rows, hr, _⟩
  · refine (hc (QdH W) W args.toList hgl (fun b o h => h) (fun b h => h) hrel).mono fun e W' ⟨v, he, hb, hv⟩ => ?_
    subst he
    simp only [Qy] at hv
    subst hv
    have hpl : ∀ x ∈ p, x.block < W.heap.size := fun x hx => hlt x (by simp [hx])
    have hres : ∀ (b : Nat) (sp : Nat → Bool) (hd : Bool), DataW.TrodAll enc P W' b sp hd fn.resultTypes.toList ((Value.bool true).resultList fn.resultTypes.size) (s.fn H (ds ++ [])).results [] := fun b sp hd => by
      rw [hfn.1, hrt]; exact trodAll_cons_mk (shut_bool hbool _) trodAll_mk0
    have hargs : ∀ sp : Nat → Bool, (∀ x ∈ p, sp x.block = true) → DataW.TrodAll enc P W' 0 sp true fn.params.toList args.toList (s.fn H (ds ++ [])).args p := fun sp hsp => by
      rw [hfn.2.1]; exact QdY hl hb hrd hA hpl hsp
    have hvs : ∀ sp : Nat → Bool, DataW.TrodVars enc P W' sp s.vars (s.fn H (ds ++ [])).vars [] := fun sp => by rw [hfn.2.2, hvars]; rfl
    refine ⟨_, rfl, ds, [], p ++ [], [], p, [], hW', hres _ _ _, hargs _ (fun x hx => by simpa using hpl x hx), hvs _, ?_, fun _ => ⟨ok_one hrt rfl (okWide_bool_mk hbool _), (s.fn H (ds ++ [])).results ++ (s.fn H (ds ++ [])).args, _, p ++ [], ⟨p, [], ?_, hvs (fun _ => true), rfl, ?_, ?_⟩, ?_⟩⟩
    · exact World.keptBut_mono (fun x hx => ⟨hx, .inr (by simpa using hx)⟩) (hb.frame (· ∈ p ++ []))
    · have := trodAll_append (hargs _ fun _ _ => rfl) (hres 0 (fun _ => true) true)
      simpa using this
    · intro b off hx
      rw [hb.frozen (hlt _ hx)]; exact hfz b off hx
    · intro q; cases q
    · intro x hx _; simpa using hx
  · cases hr
end
end Go.FA
open Go Go.FA Go.Proofs
namespace Go.Proofs.Yt
-- of a dump, by gen_ty.py
theorem ty3 : Qag Tryz.prog 3 = some ⟨.int .i64, 1, 8, .lit (.int .i64 0)⟩ := by kernel_rfl
theorem ty4 : Qag Tryz.prog 4 = some ⟨.bool, 1, 1, .lit (.bool false)⟩ := by kernel_rfl
theorem ty5 : Qag Tryz.prog 5 = some ⟨.int .u8, 1, 1, .lit (.int .u8 0)⟩ := by kernel_rfl
theorem ty9 : Qag Tryz.prog 9 = some ⟨.string, 1, 16, .lit (.string ⟨#[]⟩)⟩ := by kernel_rfl
theorem ty21 : Qag Tryz.prog 21 = some ⟨.int .i32, 1, 4, .lit (.int .i32 0)⟩ := by kernel_rfl
theorem Qah : Qag Tryz.prog 22 = some ⟨.slice 9, 1, 24, .lit (.slice none 0 0)⟩ := by kernel_rfl
theorem QfT : Qag Tryz.prog 23 = some ⟨.slice 143, 1, 24, .lit (.slice none 0 0)⟩ := by kernel_rfl
theorem Qer : Qag Tryz.prog 24 = some ⟨.slice 83, 1, 24, .lit (.slice none 0 0)⟩ := by kernel_rfl
theorem Qdm : Qag Tryz.prog 26 = some ⟨.struct #[{ name := "Sorts", type := 22, offset := 0, embedded := false, tag := "", pkgPath := "", byteOffset := 0 }, { name := "Below", type := 23, offset := 1, embedded := false, tag := "", pkgPath := "", byteOffset := 24 }, { name := "Ops", type := 24, offset := 2, embedded := false, tag := "", pkgPath := "", byteOffset := 48 }, { name := "Funs", type := 24, offset := 3, embedded := false, tag := "", pkgPath := "", byteOffset := 72 }, { name := "Values", type := 22, offset := 4, embedded := false, tag := "", pkgPath := "", byteOffset := 96 }], 5, 120, .agg [.lit (.slice none 0 0), .lit (.slice none 0 0), .lit (.slice none 0 0), .lit (.slice none 0 0), .lit (.slice none 0 0)]⟩ := by kernel_rfl
theorem QaB : Qag Tryz.prog 27 = some ⟨.int .i64, 1, 8, .lit (.int .i64 0)⟩ := by kernel_rfl
theorem Qak : Qag Tryz.prog 28 = some ⟨.slice 30, 1, 24, .lit (.slice none 0 0)⟩ := by kernel_rfl
theorem Q5 : Qag Tryz.prog 30 = some ⟨.struct #[{ name := "Kind", type := 27, offset := 0, embedded := false, tag := "", pkgPath := "", byteOffset := 0 }, { name := "N", type := 3, offset := 1, embedded := false, tag := "", pkgPath := "", byteOffset := 8 }, { name := "Text", type := 9, offset := 2, embedded := false, tag := "", pkgPath := "", byteOffset := 16 }, { name := "Sort", type := 9, offset := 3, embedded := false, tag := "", pkgPath := "", byteOffset := 32 }, { name := "Kids", type := 28, offset := 4, embedded := false, tag := "", pkgPath := "", byteOffset := 48 }, { name := "Rest", type := 28, offset := 5, embedded := false, tag := "", pkgPath := "", byteOffset := 72 }], 6, 96, .agg [.lit (.int .i64 0), .lit (.int .i64 0), .lit (.string ⟨#[]⟩), .lit (.string ⟨#[]⟩), .lit (.slice none 0 0), .lit (.slice none 0 0)]⟩ := by kernel_rfl
theorem QeT : Qag Tryz.prog 49 = some ⟨.slice 3, 1, 24, .lit (.slice none 0 0)⟩ := by kernel_rfl
theorem QeL : Qag Tryz.prog 80 = some ⟨.slice 235, 1, 24, .lit (.slice none 0 0)⟩ := by kernel_rfl
theorem QfX : Qag Tryz.prog 81 = some ⟨.int .i64, 1, 8, .lit (.int .i64 0)⟩ := by kernel_rfl
theorem QbY : Qag Tryz.prog 83 = some ⟨.struct #[{ name := "Name", type := 9, offset := 0, embedded := false, tag := "", pkgPath := "", byteOffset := 0 }, { name := "Args", type := 22, offset := 1, embedded := false, tag := "", pkgPath := "", byteOffset := 16 }, { name := "Sort", type := 9, offset := 2, embedded := false, tag := "", pkgPath := "", byteOffset := 40 }, { name := "Pieces", type := 80, offset := 3, embedded := false, tag := "", pkgPath := "", byteOffset := 56 }, { name := "Prec", type := 3, offset := 4, embedded := false, tag := "", pkgPath := "", byteOffset := 80 }, { name := "Assoc", type := 81, offset := 5, embedded := false, tag := "", pkgPath := "", byteOffset := 88 }, { name := "Strict", type := 49, offset := 6, embedded := false, tag := "", pkgPath := "", byteOffset := 96 }], 7, 120, .agg [.lit (.string ⟨#[]⟩), .lit (.slice none 0 0), .lit (.string ⟨#[]⟩), .lit (.slice none 0 0), .lit (.int .i64 0), .lit (.int .i64 0), .lit (.slice none 0 0)]⟩ := by kernel_rfl
theorem Qkz : Qag Tryz.prog 105 = some ⟨.pointer 108, 1, 8, .lit (.pointer none)⟩ := by kernel_rfl
theorem Qin : Qag Tryz.prog 106 = some ⟨.slice 5, 1, 24, .lit (.slice none 0 0)⟩ := by kernel_rfl
theorem Qbr : Qag Tryz.prog 108 = some ⟨.struct #[{ name := "addr", type := 105, offset := 0, embedded := false, tag := "", pkgPath := "strings", byteOffset := 0 }, { name := "buf", type := 106, offset := 1, embedded := false, tag := "", pkgPath := "strings", byteOffset := 8 }], 2, 32, .agg [.lit (.pointer none), .lit (.slice none 0 0)]⟩ := by kernel_rfl
theorem QbS : Qag Tryz.prog 110 = some ⟨.struct #[{ name := "Builder", type := 108, offset := 0, embedded := true, tag := "", pkgPath := "", byteOffset := 0 }], 2, 32, .agg [.lit (.pointer none), .lit (.slice none 0 0)]⟩ := by kernel_rfl
theorem QdS : Qag Tryz.prog 143 = some ⟨.struct #[{ name := "Low", type := 9, offset := 0, embedded := false, tag := "", pkgPath := "", byteOffset := 0 }, { name := "High", type := 9, offset := 1, embedded := false, tag := "", pkgPath := "", byteOffset := 16 }], 2, 32, .agg [.lit (.string ⟨#[]⟩), .lit (.string ⟨#[]⟩)]⟩ := by kernel_rfl
theorem Qkn : Qag Tryz.prog 154 = some ⟨.map 9 83, 1, 8, .lit (.map none)⟩ := by kernel_rfl
theorem Qdp : Qag Tryz.prog 155 = some ⟨.map 9 22, 1, 8, .lit (.map none)⟩ := by kernel_rfl
theorem Q1 : Qag Tryz.prog 229 = some ⟨.struct #[{ name := "highs", type := 155, offset := 0, embedded := false, tag := "", pkgPath := "voussoir/sorts", byteOffset := 0 }, { name := "ops", type := 154, offset := 1, embedded := false, tag := "", pkgPath := "voussoir/sorts", byteOffset := 8 }, { name := "funs", type := 154, offset := 2, embedded := false, tag := "", pkgPath := "voussoir/sorts", byteOffset := 16 }], 3, 24, .agg [.lit (.map none), .lit (.map none), .lit (.map none)]⟩ := by kernel_rfl
theorem Qjp : Qag Tryz.prog 235 = some ⟨.struct #[{ name := "Text", type := 9, offset := 0, embedded := false, tag := "", pkgPath := "", byteOffset := 0 }, { name := "Sort", type := 9, offset := 1, embedded := false, tag := "", pkgPath := "", byteOffset := 16 }], 2, 32, .agg [.lit (.string ⟨#[]⟩), .lit (.string ⟨#[]⟩)]⟩ := by kernel_rfl
theorem QfU : Qag Tryz.prog 267 = some ⟨.map 9 4, 1, 8, .lit (.map none)⟩ := by kernel_rfl
theorem Qjn : Qag Tryz.prog 272 = some ⟨.slice 22, 1, 24, .lit (.slice none 0 0)⟩ := by kernel_rfl
theorem ty276 : Qag Tryz.prog 276 = some ⟨.map 143 4, 1, 8, .lit (.map none)⟩ := by kernel_rfl
theorem Qj3 : Qag Tryz.prog 277 = some ⟨.slice 24, 1, 24, .lit (.slice none 0 0)⟩ := by kernel_rfl
theorem ty284 : Qag Tryz.prog 284 = some ⟨.map 3 4, 1, 8, .lit (.map none)⟩ := by kernel_rfl
end Go.Proofs.Yt
namespace Go.Proofs.Yt
open Go Go.FA Go.Proofs Go.RowKit Go.ChangeShapes
open YtfpejlbfdpeofaaGreatDoor
set_option maxRecDepth 100000
theorem Qa0 {P : Program} {t : TypeId} {i : TyI} (h : Qag P t = some i) : P.underlying t = some i.desc := by
  unfold Qag at h
  split at h
  · next d j h1 h2 => split at h
                      · simp at h; subst h; exact h1
                      · simp at h
  · simp at h
theorem QaM {P : Program} {t : TypeId} {i : TyI} (h : Qag P t = some i) : P.cellsOf t = i.size := by
  unfold Qag at h
  split at h
  · next d j h1 h2 => split at h
                      · simp at h; subst h; simp [Program.cellsOf, h2]
                      · simp at h
  · simp at h
open YtfpejlbfdpeofaaGreatDoor in
def blk (H : Type) : Bulk H where
  b := Rows.uptoBulk
  ba := Rows.uptoBulkAll
  str l := by simp [Rows.uptoBulk]
  one d := by cases d with
    | lit l => cases l <;> simp [Rows.uptoBulk]
    | nil => simp [Rows.uptoBulk]
    | ptr d => simp [Rows.uptoBulk]
    | slice elems spare => simp [Rows.uptoBulk]
    | agg parts => simp [Rows.uptoBulk]
    | iface t d => simp [Rows.uptoBulk]
    | map entries => simp [Rows.uptoBulk]
    | held h => simp [Rows.uptoBulk]
  agg l := by simp [Rows.uptoBulk]
  slice l r := by simp only [Rows.uptoBulk]; omega
  cons d l := by simp [Rows.uptoBulkAll]
theorem _root_.Go.FA.Rd.to {H : Type} {K : Bulk H} {enc : TypeId × Value → H} {P : Program} {W : World} {α β : Type} {t : TypeId} {A : Ql α} {B : Ql β} {sz : α → Nat} {sz' : β → Nat} (h : Rd K enc P W t A sz) (g : α → β)
    (he : ∀ y, B.enc (g y) = A.enc y) (hs : ∀ y, sz' (g y) ≤ sz y) : Rd K enc P W t B sz' := by
  intro fuel cs x hx
  obtain ⟨y, q1, q2, q3⟩ := h fuel cs x hx
  exact ⟨g y, by rw [he]; exact q1, q2, Nat.le_trans (hs y) q3⟩
def szS (s : ByteArray) : Nat := s.size + 1
section
variable {H : Type} {enc : TypeId × Value → H} {W : World}
theorem rdStr : Rd (blk H) enc Tryz.prog W 9 (Ql.one Enc.str) szS := Rd.str (Qa0 ty9)
end
theorem own_ : ownKnob Tryz.prog.godebug = none := by kernel_rfl
theorem laidOut_ : laidOutB Tryz.prog = true := by kernel_rfl
end Go.Proofs.Yt
namespace Go.FA
open Go.RowKit
variable {C : Ctx} {w : World}
inductive Tm where
  | mk (kind n : Int) (text sort : ByteArray) (kids rest : List Tm)
namespace Tm
def kind : Tm → Int | mk k _ _ _ _ _ => k
def n : Tm → Int | mk _ n _ _ _ _ => n
def text : Tm → ByteArray | mk _ _ t _ _ _ => t
def sort : Tm → ByteArray | mk _ _ _ s _ _ => s
def kids : Tm → List Tm | mk _ _ _ _ ks _ => ks
def rest : Tm → List Tm | mk _ _ _ _ _ r => r
mutual
def cells : Tm → List DV
  | mk k n t s ks r => [.lit (.int .i64 k), .lit (.int .i64 n), .lit (.string t), .lit (.string s), .slice 6 .none (rows ks), .slice 6 .none (rows r)]
def rows : List Tm → List (List DV)
  | [] => []
  | t :: l => cells t :: rows l
end
theorem rows_map : ∀ l : List Tm, rows l = l.map cells
  | [] => by simp [rows]
  | t :: l => by simp [rows, rows_map l]
theorem cells_len : ∀ t : Tm, t.cells.length = 6
  | mk k n t s ks r => by simp [cells]
mutual
theorem pure_cells : ∀ t : Tm, QaX t.cells = true
  | mk k n t s ks r => by simp [cells, QaX, QaV, Tag.pure, Qfn ks, Qfn r]
theorem Qfn : ∀ l : List Tm, Qeh (rows l) = true
  | [] => by simp [rows, Qeh]
  | t :: l => by simp [rows, Qeh, pure_cells t, Qfn l]
end
mutual
def Qh2 : DV → Option (List Tm)
  | .slice k _ rows => if k = 6 then QgW rows else none
  | .lit (.slice none 0 0) => some []
  | _ => none
def decL : List DV → Option Tm
  | [a, b, c, d, x, y] => match a, b, c, d with
    | .lit (.int .i64 k), .lit (.int .i64 n), .lit (.string t), .lit (.string s) => match Qh2 x, Qh2 y with
      | some ks, some r => some (mk k n t s ks r)
      | _, _ => none
    | _, _, _, _ => none
  | _ => none
def QgW : List (List DV) → Option (List Tm)
  | [] => some []
  | r :: rs => match decL r, QgW rs with
    | some t, some l => some (t :: l)
    | _, _ => none
end
mutual
theorem dec_cells : ∀ t : Tm, decL t.cells = some t
  | mk k n t s ks r => by simp [cells, decL, Qh2, QgH ks, QgH r]
theorem QgH : ∀ l : List Tm, QgW (rows l) = some l
  | [] => by simp [rows, QgW]
  | t :: l => by simp [rows, QgW, dec_cells t, QgH l]
end
mutual
theorem le_C : ∀ (d : DV) (l : List Tm), Qh2 d = some l → DLe d (.slice 6 .none (rows l))
  | .slice k tag rs, l, h => by
    simp only [Qh2] at h
    split at h
    · next hk =>
      subst hk
      obtain ⟨h1, h2⟩ := le_Rs rs l h
      intro C w v hv
      simp only [Qy] at hv ⊢
      rcases hv with ⟨b, o, cap, q1, q2, q3, _⟩ | ⟨ad, q1, q2, _⟩
      · exact .inl ⟨b, o, cap, by rw [h1]; exact q1, by rw [h1]; exact q2, h2 C w b o q3, trivial⟩
      · subst q2
        simp [QgW] at h; subst h
        exact .inr ⟨ad, q1, by simp [rows], trivial⟩
    · simp at h
  | .lit v, l, h => by
    unfold Qh2 at h
    split at h
    · next heq => cases heq
    · next heq =>
      simp at h; subst h
      simp only [DV.lit.injEq] at heq; subst heq
      intro C w v hv
      simp only [Qy] at hv ⊢
      exact .inr ⟨none, hv, by simp [rows], trivial⟩
    · simp at h
  | .junk, l, h => by simp [Qh2] at h
  | .strNot _, l, h => by simp [Qh2] at h
  | .ptr _ _, l, h => by simp [Qh2] at h
  | .live _ _ _ _, l, h => by simp [Qh2] at h
  | .row _ _, l, h => by simp [Qh2] at h
  | .map _, l, h => by simp [Qh2] at h
  | .fmap _ _, l, h => by simp [Qh2] at h
  | .func _ _ _, l, h => by simp [Qh2] at h
  | .iface _ _, l, h => by simp [Qh2] at h
  | .agg _, l, h => by simp [Qh2] at h
  | .tuple _, l, h => by simp [Qh2] at h
theorem le_L : ∀ (r : List DV) (t : Tm), decL r = some t → LLe r t.cells
  | [a, b, c, d, x, y], t, h => by
    simp only [decL] at h
    split at h
    · split at h
      · next ks r hx hy =>
        simp at h; subst h
        simp only [cells]
        exact .cons (.refl _) (.cons (.refl _) (.cons (.refl _) (.cons (.refl _) (.cons (le_C x ks hx) (.cons (le_C y r hy) .nil)))))
      · simp at h
    · simp at h
  | [], t, h => by simp [decL] at h
  | [_], t, h => by simp [decL] at h
  | [_, _], t, h => by simp [decL] at h
  | [_, _, _], t, h => by simp [decL] at h
  | [_, _, _, _], t, h => by simp [decL] at h
  | [_, _, _, _, _], t, h => by simp [decL] at h
  | _ :: _ :: _ :: _ :: _ :: _ :: _ :: _, t, h => by simp [decL] at h
theorem le_Rs : ∀ (rs : List (List DV)) (l : List Tm), QgW rs = some l → (rows l).length = rs.length ∧ ∀ (C : Ctx) (w : World) (b o : Nat), QaP C w 6 b o rs → QaP C w 6 b o (rows l)
  | [], l, h => by simp [QgW] at h; subst h; simp [rows, QaP]
  | r :: rs, l, h => by
    simp only [QgW] at h
    split at h
    · next t l' h1 h2 =>
      simp at h; subst h
      obtain ⟨q1, q2⟩ := le_Rs rs l' h2
      refine ⟨by simp [rows, q1], fun C w b o hr => ?_⟩
      simp only [rows, QaP] at hr ⊢
      exact ⟨cells_len t, QfA (le_L r t h1) hr.2.1, q2 C w b (o + 6) hr.2.2⟩
    · simp at h
end
end Tm
def Ql.tm : Ql Tm where
  k := 6
  enc := Tm.cells
  dec := Tm.decL
  len := Tm.cells_len
  le r t h := Tm.le_L r t h
  pure := Tm.pure_cells
  de := Tm.dec_cells
def Enc.tm : Enc Tm := Enc.agg Ql.tm
def Enc.tms : Enc (List Tm) := Enc.slice Ql.tm
end Go.FA
namespace Go.Proofs.Yt
open Go Go.FA Go.Proofs Go.RowKit Go.ChangeShapes
open YtfpejlbfdpeofaaGreatDoor
set_option maxRecDepth 100000
mutual
def szTm : Tm → Nat
  | .mk k n t s ks r => 1 + (1 + ((t.size + 1) + ((s.size + 1) + ((QfV ks + 1) + (QfV r + 1))))) + 1
def QfV : List Tm → Nat
  | [] => 0
  | t :: l => szTm t + QfV l
end
theorem QhH : ∀ l : List Tm, QfV l = (l.map szTm).sum
  | [] => rfl
  | t :: l => by simp [QfV, QhH l]
section
variable {H : Type} {enc : TypeId × Value → H} {W : World}
abbrev A6 := (Ql.one (Enc.int .i64)).and ((Ql.one (Enc.int .i64)).and ((Ql.one Enc.str).and ((Ql.one Enc.str).and ((Ql.one Enc.tms).and (Ql.one Enc.tms)))))
theorem rdTm : ∀ N, RdN N (blk H) enc Tryz.prog W 30 Ql.tm szTm ∧ RdN N (blk H) enc Tryz.prog W 28 (Ql.one Enc.tms) (fun l => (l.map szTm).sum + 1)
  | 0 => by
    refine ⟨?_, ?_⟩ <;> (intro fuel hf cs x hx; obtain rfl : fuel = 0 := by omega) <;> simp [DataW.trod] at hx
  | N + 1 => by
    obtain ⟨h1, h2⟩ := rdTm N
    refine ⟨?_, RdN.slice (Qa0 Qak) h1 (by rw [QaM Q5]; rfl) (by decide)⟩
    have r27 : RdN N (blk H) enc Tryz.prog W 27 (Ql.one (Enc.int .i64)) (fun _ => 1) := RdN.of (Rd.int (Qa0 QaB))
    have r3 : RdN N (blk H) enc Tryz.prog W 3 (Ql.one (Enc.int .i64)) (fun _ => 1) := RdN.of (Rd.int (Qa0 ty3))
    have r9 : RdN N (blk H) enc Tryz.prog W 9 (Ql.one Enc.str) szS := RdN.of rdStr
    have hst := RdN.struct (K := blk H) (enc := enc) (P := Tryz.prog) (W := W) (N := N) (A := A6) (t := 30) (Qa0 Q5) (by rw [QaM Q5]; rfl)
        (.cons r27 (by rw [QaM QaB]; rfl) rfl (.cons r3 (by rw [QaM ty3]; rfl) rfl (.cons r9 (by rw [QaM ty9]; rfl) rfl (.cons r9 (by rw [QaM ty9]; rfl) rfl
          (.cons h2 (by rw [QaM Qak]; rfl) rfl (.one h2 (by rw [QaM Qak]; rfl) rfl))))))
    intro fuel hf cs x hx
    obtain ⟨⟨k, n, t, s, ks, r⟩, q1, q2, q3⟩ := hst fuel hf cs x hx
    refine ⟨.mk k n t s ks r, ?_, q2, ?_⟩
    · show QP _ _ (Tm.cells _) cs
      simp only [Tm.cells, Tm.rows_map]
      exact q1
    · simp only [szTm, QhH]; simp only [szS] at q3; omega
theorem argTm : Qlp (blk H) enc Tryz.prog W 30 Enc.tm szTm := Qlp.agg (Qa0 Q5) (Rd.of fun N => (rdTm N).1)
end
end Go.Proofs.Yt
namespace Go.FA
open Go.RowKit
variable {P : Program} {T : Tab} {E : Entry} {F : Nat → Prop} {C : Ctx} {w : World} {σ : St} {n : Nat} {a : Nat → DV}
def Qia (ops : Array Oper) : Nat → Array Bool → List (List Nat)
  | 0, _ => [[]]
  | fuel + 1, listed => match Region.ready .any ops listed with
    | [] => [[]]
    | i :: r => (i :: r).flatMap fun i => (Qia ops fuel (listed.setIfInBounds i true)).map (i :: ·)
theorem QjW (ops : Array Oper) : ∀ (fuel : Nat) (listed : Array Bool), ∃ l, l ∈ Qia ops fuel listed
  | 0, _ => ⟨[], by simp [Qia]⟩
  | fuel + 1, listed => by
    simp only [Qia]
    split
    · exact ⟨[], by simp⟩
    · next i r h =>
      obtain ⟨l, hl⟩ := QjW ops fuel (listed.setIfInBounds i true)
      exact ⟨i :: l, by simp [hl]⟩
end Go.FA
namespace Go.FA
open Go.RowKit
variable {P : Program} {T : Tab} {E : Entry} {F : Nat → Prop} {C : Ctx} {w : World} {σ : St} {n : Nat} {Q : Ex → (Nat → DV) → St → Prop} {a : Nat → DV}
theorem box_obj_sound {t : TypeId} {x : DV} {v : Value} {cs : List DV} {id : Nat} (hc : x.cells = some cs) (hv : Qy C w x v) (hs : Qav E F C w σ) (hF : F id) :
    ∃ u w', (Instr.box t v).run P w = .ok u w' ∧ Res E (fun j => F j ∧ j ≠ id) C w { σ with objs := upd σ.objs id (some (.cells t cs)) } (.ptr id 0) u w' := by
  obtain ⟨vs, h1, h2, h3⟩ := Qay hc hv
  obtain ⟨C', hle, hst, hob, _, _, _, hs'⟩ := hs.new_obj (id := id) (ob := .cells vs.toArray t) (o := .cells t cs) hF (fun C' hle hst =>
    ⟨vs, heap_alloc_new w _, QS hle hst _ _ h2, h3⟩)
  refine ⟨.pointer (some ⟨w.heap.size, 0, none⟩), w.alloc (.cells vs.toArray t), ?_, C', hle, hst, ?_, hs'⟩
  · simp [Instr.box, newVar, newRow, h1]
  · simp only [Qy]; exact ⟨_, hob, rfl⟩
end Go.FA
namespace Go.FA
open Go.RowKit
variable {P : Program} {E : Entry} {F : Nat → Prop} {C : Ctx} {w : World} {σ : St}
def QbF (P : Program) (id : Nat) (σ : St) (t : TypeId) (s x : DV) : Option (DV × St) :=
  match Qag P t with
  | some ⟨.slice e, _, _, _⟩ => match Qag P e with
    | some i => match rowsOf i.size x with
      | some xs => if QL i = true ∧ xs ≠ [] then match s with
        | .lit (.slice none 0 0) => if xs.length ≤ Qd then
            some (.live id i.size 0 xs.length, { σ with objs := upd σ.objs id (some (.buf e xs.flatten)) }) else none
        | .live sid k 0 n => match σ.objs sid with
          | some (.buf e' cs) => if k = i.size ∧ e' = e ∧ cs.length = n * k ∧ n + xs.length ≤ Qd ∧ sid ≠ id then
              some (.live id k 0 (n + xs.length), { σ with objs := upd (upd σ.objs sid none) id (some (.buf e (cs ++ xs.flatten))) }) else none
          | _ => none
        | _ => none
        else none
      | none => none
    | none => none
  | _ => none
theorem Qav.drop {id : Nat} (h : Qav E F C w σ) : Qav E F C w { σ with objs := upd σ.objs id none } := by
  have key : ∀ i o, upd σ.objs id none i = some o → i ≠ id ∧ σ.objs i = some o := by
    intro i o hi
    by_cases e : i = id
    · subst e; simp [upd] at hi
    · exact ⟨e, by simpa [upd, e] using hi⟩
  exact ⟨h.lo, h.below, h.bsize, h.pB, h.mB, h.psup, h.msup, h.psub, h.msub, fun i o hi => h.obj i o (key i o hi).2, fun i j oi oj b hi hj => h.inj i j oi oj b (key i oi hi).2 (key j oj hj).2, h.tok, h.tinj,
    fun t g x i o ht h1 h2 hi => h.tobj t g x i o ht h1 h2 (key i o hi).2, h.fresh⟩
theorem Qav.rename {sid id b : Nat} {o : Qjt} (h : Qav E F C w σ) (ho : σ.objs sid = some o) (hb : C.obj sid = some b) (hF : F id) (hne : sid ≠ id) :
    C.Le { C with obj := upd C.obj id (some b) } ∧ Qav E (fun i => F i ∧ i ≠ id) { C with obj := upd C.obj id (some b) } w { σ with objs := upd (upd σ.objs sid none) id (some o) } := by
  obtain ⟨hno, hnt⟩ := h.fresh id hF
  have hle : C.Le { C with obj := upd C.obj id (some b) } := ⟨fun i b' e => by
    by_cases q : i = id
    · subst q; rw [hno] at e; cases e
    · simpa [upd, q] using e, fun _ x e => ⟨x, e, Nat.le_refl _, fun _ => rfl⟩, fun _ _ p => p, fun _ p => p, rfl⟩
  have key : ∀ i oi, upd (upd σ.objs sid none) id (some o) i = some oi → ∃ j, σ.objs j = some oi ∧ ((i = id ∧ j = sid ∧ oi = o) ∨ (i ≠ id ∧ i ≠ sid ∧ j = i)) ∧ (upd C.obj id (some b)) i = C.obj j := by
    intro i oi hi
    by_cases e : i = id
    · subst e
      simp [upd] at hi; subst hi
      exact ⟨sid, ho, .inl ⟨rfl, rfl, rfl⟩, by simp [upd, hb]⟩
    · by_cases e2 : i = sid
      · subst e2; simp [upd, e] at hi
      · exact ⟨i, by simpa [upd, e, e2] using hi, .inr ⟨e, e2, rfl⟩, by simp [upd, e]⟩
  refine ⟨hle, h.lo, h.below, h.bsize, h.pB, h.mB, h.psup, h.msup, h.psub, h.msub, ?_, ?_, h.tok, h.tinj, ?_, ?_⟩
  · intro i oi hi
    obtain ⟨j, hj, _, hc⟩ := key i oi hi
    obtain ⟨b', q1, q2, q3, q4, q5, q6⟩ := h.obj j oi hj
    exact ⟨b', hc.trans q1, q2, q3, q4, q5, q6.mono hle (.refl C w) rfl⟩
  · intro i j oi oj bb hi hj h1 h2
    obtain ⟨i', hi', ri, hci⟩ := key i oi hi
    obtain ⟨j', hj', rj, hcj⟩ := key j oj hj
    have := h.inj i' j' oi oj bb hi' hj' (hci.symm.trans h1) (hcj.symm.trans h2)
    rcases ri with ⟨rfl, rfl, _⟩ | ⟨_, r2, rfl⟩ <;> rcases rj with ⟨rfl, rfl, _⟩ | ⟨_, s2, rfl⟩
    · rfl
    · exact absurd this.symm s2
    · exact absurd this r2
    · exact this
  · intro t g x i oi ht h1 h2 hi
    obtain ⟨j, hj, _, hc⟩ := key i oi hi
    intro q
    exact h.tobj t g x j oi ht h1 h2 hj (hc.symm.trans q)
  · intro i ⟨hi, hne'⟩
    obtain ⟨q1, q2⟩ := h.fresh i hi
    exact ⟨by simpa [upd, hne'] using q1, q2⟩
theorem Qav.drew (h : Qav E F C w σ) : Step C w w.drew ∧ Qav E F C w.drew σ := by
  obtain ⟨_, hst, h1⟩ := h.grow (w' := w.drew) (pc' := C.pc) (pm' := C.pm) ((Below.refl _ _).drew) (fun _ _ p => p) (fun _ p => p) (fun _ _ p => .inl p) (fun _ p => .inl p)
  exact ⟨hst, h1⟩
theorem appendL_sound {t ty : TypeId} {id : Nat} {s x d : DV} {vs vx : Value} {σ' : St} (h : QbF P id σ t s x = some (d, σ')) (hv : Qy C w s vs) (hx : Qy C w x vx) (hs : Qav E F C w σ) (hF : F id) :
    ∃ u w', (Builtin.append_ #[t, t] ty #[vs, vx]).run P w = .ok u w' ∧ Res E (fun j => F j ∧ j ≠ id) C w σ' d u w' := by
  unfold QbF at h
  split at h
  · next e s1 s2 s3 ht =>
    split at h
    · next i hi =>
      split at h
      · next xs hxs =>
        split at h
        · next hc =>
          obtain ⟨hel, hxe⟩ := hc
          simp only [QL, Bool.and_eq_true, decide_eq_true_eq] at hel
          obtain ⟨⟨⟨hpos, hby⟩, hby2⟩, hzz⟩ := hel
          obtain ⟨zs, hz⟩ : ∃ zs, i.zero.cells = some zs := by
            cases hq : i.zero.cells with
            | none => simp [hq] at hzz
            | some zs => exact ⟨zs, rfl⟩
          have hzl : zs.length = i.size := by simpa [hz] using hzz
          obtain ⟨info, z, hu1, hu2, hu3, hu4, hu5, hu6⟩ := Qau hi
          obtain ⟨_, _, htu, _⟩ := Qau ht
          have hzc : z.cells.size = i.size := by
            obtain ⟨us, q1, q2, _⟩ := Qay hz (hu6 ▸ QaK (C := C) (w := w) z)
            rw [q1]; simp [← QY q2, hzl]
          have hzf : ∀ m, Flat (Builtin.zeroCells z.cells m).toList := by
            intro m
            obtain ⟨us, q1, _, q3⟩ := Qay hz (hu6 ▸ QaK (C := C) (w := w) z)
            have hul : us.length = i.size := by rw [q1] at hzc; simpa using hzc
            intro y hy
            simp [Builtin.zeroCells, q1] at hy
            obtain ⟨a, _, hy⟩ := hy
            have hlt : a % us.length < us.length := Nat.mod_lt _ (by omega)
            rw [List.getElem?_eq_getElem hlt] at hy
            simp only [Option.getD_some] at hy
            subst hy
            exact q3 _ (List.getElem_mem hlt)
          obtain ⟨b0, o0, cap0, tag0, rfl, _, hcap0, hR0, _⟩ : ∃ b o cap tag, vx = .slice (some ⟨b, o, none⟩) xs.length cap ∧ x = .slice i.size tag xs ∧ xs.length ≤ cap ∧ QaP C w i.size b o xs ∧ Qjv C w i.size xs.length b o cap tag := by
            rcases QcT hxs hx with ⟨ad, _, q⟩ | q
            · exact absurd q hxe
            · exact q
          obtain ⟨news, n1, n2, n3, n4⟩ := QgD hR0
          have hxl : 0 < xs.length := List.length_pos_iff.2 hxe
          have hbytes : ∀ n, n ≤ 16777216 → n * i.bytes ≤ 1099511627776 := fun n hn => Nat.le_trans (Nat.mul_le_mul hn hby2) (by omega)
          -- a new array
          have hnewobj : ∀ (σ1 : St) (olds : List Value) (ocs : List DV) (m newCap : Nat), Qav E F C w σ1 → olds.length = m * i.size → QP C w ocs olds → Flat olds → m + xs.length ≤ newCap →
              Res E (fun j => F j ∧ j ≠ id) C w { σ1 with objs := upd σ1.objs id (some (.buf e (ocs ++ xs.flatten))) } (.live id i.size 0 (m + xs.length)) (.slice (some ⟨w.heap.size, 0, none⟩) (m + xs.length) newCap)
                (w.drew.alloc (.cells (olds.toArray ++ news.toArray ++ Builtin.zeroCells z.cells (newCap - (m + xs.length))) e)) := by
            intro σ1 olds ocs m newCap hs1 o1 o2 o3 hcap
            obtain ⟨hst0, hs2⟩ := hs1.drew
            have hob : (Obj.cells (olds.toArray ++ news.toArray ++ Builtin.zeroCells z.cells (newCap - (m + xs.length))) e) = .cells ((olds ++ news) ++ (Builtin.zeroCells z.cells (newCap - (m + xs.length))).toList).toArray e := by simp
            obtain ⟨C', hle, hst, hobj, _, _, _, hs3⟩ := hs2.new_obj (id := id) (ob := .cells (olds.toArray ++ news.toArray ++ Builtin.zeroCells z.cells (newCap - (m + xs.length))) e) (o := .buf e (ocs ++ xs.flatten)) hF (fun C' hle hst =>
              ⟨olds ++ news, (Builtin.zeroCells z.cells (newCap - (m + xs.length))).toList, by rw [heap_alloc_new w.drew _, hob], Qaw (QS (hle) (hst0.trans (.refl C) hst) _ _ o2) (QS hle (hst0.trans (.refl C) hst) _ _ n2),
                (o3.append n3).append (hzf _)⟩)
            refine ⟨C', hle, hst0.trans (.refl C) hst, ?_, hs3⟩
            simp only [Qy]
            refine ⟨w.heap.size, newCap, _, e, hobj, rfl, hcap, ?_, heap_alloc_new w.drew _, ?_⟩
            · rw [hle.lo, hs.lo]; exact hs.bsize
            · simp only [Array.size_append, List.size_toArray, size_zeroCells, hzc, o1, n1, ← Nat.add_mul]
              rw [Nat.zero_add]; exact Nat.mul_le_mul_right _ (by omega)
          split at h
          · -- nil
            split at h
            · next hlim =>
              simp at h; obtain ⟨rfl, rfl⟩ := h
              unfold Qd at hlim
              simp only [Qy] at hv; subst hv
              have hb := hbytes xs.length hlim
              have hrun := run_append_nil (P := P) w t ty e info z htu hu2 hu5 _ xs.length cap0 news (by rw [n1, hu3]) n4 hxl (by omega) (by rw [hu4]; omega)
              have hg := hnewobj σ [] [] 0 (grownCap w xs.length 0 e) hs (by simp) (by simp [QP]) (by simp [Flat]) (by simpa using grownCap_ge w xs.length 0 e)
              refine ⟨_, _, hrun, ?_⟩
              simpa using hg
            · simp at h
          · next sid k n =>
            split at h
            · next e' cs ho =>
              split at h
              · next hcc =>
                obtain ⟨rfl, rfl, hcl, hlim, hne⟩ := hcc
                simp at h; obtain ⟨rfl, rfl⟩ := h
                unfold Qd at hlim
                simp only [Qy] at hv
                obtain ⟨b, cap, c, ec, hb1, rfl, hcap, hlo, hheap, hcapsz⟩ := hv
                obtain ⟨b', hb', hB, hlt, hnp, hnm, vs', tl, hh, hl, hf⟩ := hs.obj _ _ ho
                obtain rfl : b = b' := by rw [hb1] at hb'; exact Option.some.inj hb'
                rw [hh] at hheap; cases hheap
                have hvl := QY hl
                have hb := hbytes (n + xs.length) hlim
                by_cases hroom : n + xs.length ≤ cap
                · -- in place
                  have hfit : n * i.size + news.length ≤ (vs' ++ tl).length := by
                    rw [n1, ← Nat.add_mul]
                    have := Nat.mul_le_mul_right i.size hroom
                    simp only [List.size_toArray] at hcapsz
                    omega
                  have hst0 := run_storeCells_at P b (n * i.size) e' news 0 (vs' ++ tl).toArray w hh (by simpa using hfit) n3
                  simp only [Nat.add_zero] at hst0
                  have n5 : (Builtin.firstCells i.size xs.length (.slice (some ⟨b0, o0, none⟩) xs.length cap0)).run P w = .ok news.toArray w := run_firstCells_some (P := P) w i.size xs.length _ _ _ news n1 n4
                  have hrun : (Builtin.append_ #[t, t] ty #[.slice (some ⟨b, 0, none⟩) n cap, .slice (some ⟨b0, o0, none⟩) xs.length cap0]).run P w = .ok (.slice (some ⟨b, 0, none⟩) (n + xs.length) cap)
                      (w.setRow b ((vs' ++ tl).toArray.toList.take (n * i.size) ++ news ++ (vs' ++ tl).toArray.toList.drop (n * i.size + news.length)).toArray) := by
                    simp [Builtin.append_, run_underlying ht, run_sizeOf hi, n5, hroom, addr_add, Builtin.lenOf, hst0]
                  have hT := QaR (w := w) (cs := ((vs' ++ tl).toArray.toList.take (n * i.size) ++ news ++ (vs' ++ tl).toArray.toList.drop (n * i.size + news.length)).toArray) hh
                  have hcells : ((vs' ++ tl).toArray.toList.take (n * i.size) ++ news ++ (vs' ++ tl).toArray.toList.drop (n * i.size + news.length)) = (vs' ++ news) ++ tl.drop news.length := by
                    have q1 : (vs' ++ tl).take (n * i.size) = vs' := by rw [← hcl, hvl]; simp
                    have q2 : (vs' ++ tl).drop (n * i.size + news.length) = tl.drop news.length := by
                      rw [List.drop_append]
                      have : vs'.length = n * i.size := by omega
                      rw [List.drop_eq_nil_of_le (by omega)]; simp [this]
                    simp only [q1, q2]
                  have hkk : ∀ c2 e2, w.heap[b]? = some (.cells c2 e2) → ∃ c' e'', Obj.cells ((vs' ++ tl).toArray.toList.take (n * i.size) ++ news ++ (vs' ++ tl).toArray.toList.drop (n * i.size + news.length)).toArray e' = .cells c' e'' ∧ c'.size = c2.size := fun c2 e2 q => by
                    rw [hh] at q; cases q
                    exact ⟨_, _, rfl, by simp at hfit ⊢; omega⟩
                  obtain ⟨hst, hS⟩ := hs.turn (o' := .buf e' (cs ++ xs.flatten)) ho hb1 hT hkk ⟨vs' ++ news, tl.drop news.length, by rw [hT.at_, hcells], Qaw (QS (.refl C) (hT.step hnp hnm hkk) _ _ hl) (QS (.refl C) (hT.step hnp hnm hkk) _ _ n2), by
                    intro y hy
                    simp only [List.mem_append] at hy
                    rcases hy with (hy | hy) | hy
                    · exact hf y (by simp [hy])
                    · exact n3 y hy
                    · exact hf y (by simp [List.mem_of_mem_drop hy])⟩
                  obtain ⟨hle, hS2⟩ := hS.rename (sid := sid) (id := id) (by simp [upd]; rfl) hb1 hF hne
                  refine ⟨_, _, hrun, _, hle, hst, ?_, ?_⟩
                  · simp only [Qy]
                    refine ⟨b, cap, _, _, by simp [upd], rfl, hroom, hlo, hT.at_, ?_⟩
                    rw [hcells]
                    simp only [List.size_toArray, List.length_append, List.length_drop] at hcapsz ⊢
                    simp at hfit
                    omega
                  · have : upd (upd (upd σ.objs sid (some (.buf e' (cs ++ xs.flatten)))) sid none) id (some (.buf e' (cs ++ xs.flatten))) = upd (upd σ.objs sid none) id (some (.buf e' (cs ++ xs.flatten))) := by
                      funext j; simp only [upd]; split
                      · rfl
                      · split <;> rfl
                    simpa only [this] using hS2
                · have holds : ∀ j v, vs'[j]? = some v → w.cell? ((⟨b, 0, none⟩ : Addr).add j) = some v := by
                    intro j v hj
                    have hjl : j < vs'.length := by
                      rcases Nat.lt_or_ge j vs'.length with q | q
                      · exact q
                      · simp [List.getElem?_eq_none q] at hj
                    rw [addr_add, Nat.zero_add, cell?_of_cells hh]
                    simp [List.getElem?_append_left hjl, hj]
                  have hrun := run_append_grow (P := P) w t ty e' info z htu hu2 hu5 ⟨b, 0, none⟩ n cap vs' (by rw [hu3]; omega) holds _ xs.length cap0 news (by rw [n1, hu3]) n4 (by omega) (by omega)
                    (growslice_fits (by omega) (by rw [hu4]; omega))
                  have hg := hnewobj { σ with objs := upd σ.objs sid none } vs' cs n (grownCap w (n + xs.length) cap e') hs.drop (by omega) hl (fun y hy => hf y (by simp [hy])) (grownCap_ge w _ _ e')
                  exact ⟨_, _, hrun, hg⟩
              · simp at h
            · simp at h
          · simp at h
        · simp at h
      · simp at h
    · simp at h
  · simp at h
end Go.FA
namespace Go.FA
open Go.RowKit
variable {P : Program} {T : Tab} {E : Entry} {F : Nat → Prop} {C : Ctx} {w : World} {σ : St} {n : Nat} {a : Nat → DV}
def HC (P : Program) (f : FuncId) (dvs : List DV) (σ : St) (R : DV → St → Prop) : Prop :=
  (∃ fn c, P.funcs[f]? = some fn ∧ fn.body = some c ∧ fn.name ≠ "runtime.NumGoroutine") ∧
  ∀ (E : Entry) (C : Ctx) (w : World) (args : List Value), QP C w dvs args → Qav E (fun i => σ.n ≤ i) C w σ →
    Calls P f args.toArray w fun e w' => ∃ v, e = .returned v ∧ ∃ d σ', R d σ' ∧ Res E (fun i => σ'.n ≤ i) C w σ' d v w'
theorem HC.mono {f : FuncId} {dvs : List DV} {R R' : DV → St → Prop} (h : HC P f dvs σ R) (hr : ∀ d σ', R d σ' → R' d σ') : HC P f dvs σ R' :=
  ⟨h.1, fun E C w args h1 h2 => (h.2 E C w args h1 h2).mono fun e w' ⟨v, he, d, σ', hR, hres⟩ => ⟨v, he, d, σ', hr _ _ hR, hres⟩⟩
def Qf2 (P : Program) (res : Array ResultVar) (R : DV → St → Prop) : Ex → (Nat → DV) → St → Prop := fun ex a σ =>
  (ex = .normal ∨ ex = .ret) ∧ ∃ d, Qh P σ a res.toList = some d ∧ R d σ
theorem HC.of_body {f : FuncId} {fn : Func} {c : Code} {dvs : List DV} {R : DV → St → Prop} (hf : P.funcs[f]? = some fn) (hb : fn.body = some c) (hname : fn.name ≠ "runtime.NumGoroutine") (hk : dvs.length ≤ fn.ntmps)
    (h : ∀ E, Dwp P T E fn.ntmps c (Qf2 P fn.results R) (init dvs) σ) : HC P f dvs σ R := by
  refine ⟨⟨fn, c, hf, hb, hname⟩, fun E C w cargs hl hs => ?_⟩
  have hll := QY hl
  let E' : Entry := { E with gc := C, gw := w }
  have hs' : Qav E' (fun i => σ.n ≤ i) C w σ := ⟨hs.lo, hs.below, hs.bsize, hs.pB, hs.mB, hs.psup, hs.msup, hs.psub, hs.msub, hs.obj, hs.inj, hs.tok, hs.tinj, hs.tobj, hs.fresh⟩
  have hok : Ok E' (fun i => σ.n ≤ i) fn.ntmps (init dvs) σ (cargs.toArray ++ Array.replicate (fn.ntmps - cargs.toArray.size) undef) w :=
    ⟨by simp; omega, C, ⟨Qjh _ hl, .refl _, .refl _ _⟩, hs'⟩
  have hw := (h E').out _ _ [] hok
  refine calls_of_wp hf hb (wp_mono hw fun e act w' ⟨hd, ex, a', σ', he, ⟨hex, d, hres, hR⟩, hn, C', hf', hs2⟩ => ?_)
  obtain ⟨v, hv1, hv2⟩ := Qcm hf'.rel hs2 hres
  have hs3 : Qav E (fun i => σ'.n ≤ i) C' w' σ' := ⟨hs2.lo, hs2.below, hs2.bsize, hs2.pB, hs2.mB, hs2.psup, hs2.msup, hs2.psub, hs2.msub, hs2.obj, hs2.inj, hs2.tok, hs2.tinj, hs2.tobj, hs2.fresh⟩
  have hgoal : act.defers = [] ∧ ∃ v, (results fn act.tmps).run P w' = .ok v w' ∧ (∃ v', Ending.returned v = .returned v' ∧ ∃ d σ', R d σ' ∧ Res E (fun i => σ'.n ≤ i) C w σ' d v' w') :=
    ⟨hd, v, hv1, v, rfl, d, σ', hR, C', hf'.le, hf'.st, hv2, hs3⟩
  subst he
  rcases hex with rfl | rfl <;> exact hgoal
theorem HC.of_sound {f : FuncId} {S : Sp} {dvs : List DV} {r : DV} {R : DV → St → Prop} (hS : Qb P f S) (hx : ∃ fn c, P.funcs[f]? = some fn ∧ fn.body = some c ∧ fn.name ≠ "runtime.NumGoroutine")
    (hr : S dvs = some r) (hR : R (own σ.n σ r).1 { (own σ.n σ r).2 with n := σ.n + 1 }) : HC P f dvs σ R := by
  refine ⟨hx, fun E C w args hl hs => ?_⟩
  rcases hS _ _ hr with ⟨hpr, hcalls⟩ | ⟨k, rows, rfl, hpr, hcalls⟩
  · have hcl := hcalls C w _ hs.glob hs.pcsize hs.pmsize hl
    rw [Qg2 hpr] at hR
    exact hcl.mono fun e w' ⟨v, he, hb, hv⟩ => ⟨v, he, _, _, hR, by
      obtain ⟨C', r1, r2, r3, r4⟩ := Res.of_call hs hb hpr hv
      exact ⟨C', r1, r2, r3, ⟨r4.lo, r4.below, r4.bsize, r4.pB, r4.mB, r4.psup, r4.msup, r4.psub, r4.msub, r4.obj, r4.inj, r4.tok, r4.tinj, r4.tobj, fun i hi => r4.fresh i (by simp only [] at hi; omega)⟩⟩⟩
  · have hcl := hcalls C w _ hs.glob hs.pcsize hs.pmsize hl
    exact hcl.mono fun e w' ⟨v, he, hb, hv⟩ => ⟨v, he, _, _, hR, by
      obtain ⟨C', r1, r2, r3, r4⟩ := Res.own hs (Nat.le_refl σ.n) hb hpr hv
      exact ⟨C', r1, r2, r3, ⟨r4.lo, r4.below, r4.bsize, r4.pB, r4.mB, r4.psup, r4.msup, r4.psub, r4.msub, r4.obj, r4.inj, r4.tok, r4.tinj, r4.tobj, fun i hi => r4.fresh i (by simp only [own] at hi; omega)⟩⟩⟩
def Rg (P : Program) (E : Entry) (n : Nat) (ops : Array Oper) (K : (Nat → DV) → St → Prop) (l : List Nat) (a : Nat → DV) (σ : St) : Prop :=
  ∀ (ca : Array Value) (w : World) (ds : List Deferred) (Q : Exit → Act → World → Prop), Ok E (fun i => σ.n ≤ i) n a σ ca w →
    (∀ ca' w' a' σ', K a' σ' → Ok E (fun i => σ'.n ≤ i) n a' σ' ca' w' → Q .normal ⟨ca', ds⟩ w') → wpOps P ops Q l ⟨ca, ds⟩ w
variable {ops : Array Oper} {K : (Nat → DV) → St → Prop} {i : Nat} {rest : List Nat} {o : Oper}
theorem Rg.nil (h : K a σ) : Rg P E n ops K [] a σ := fun ca w ds Q hok hq => hq ca w a σ h hok
theorem Ok.dst {ca : Array Value} (hn : ca.size = n) (hd : Q8 n ops = true) (ho : ops[i]? = some o) : ∀ t, o.dst = some t → t < ca.size := by
  intro t ht
  have hm : o ∈ ops.toList := by simpa using Array.mem_of_getElem? ho
  have := List.all_eq_true.1 hd o hm
  rw [ht] at this; rw [hn]; simpa using this
theorem Rg.op {d : DV} {σ1 : St} (hT : QH P T) (hd : Q8 n ops = true) (ho : ops[i]? = some o) (hw : Qo ops a o.guard = some true) (hop : QJ P T σ.n a σ o.op = some (d, σ1))
    (h : Rg P E n ops K rest (QN a o.dst d) { σ1 with n := σ.n + 1 }) : Rg P E n ops K (i :: rest) a σ := by
  intro ca w ds Q hok hq
  obtain ⟨hn, C, hg, hs⟩ := hok
  have hf := hg.rel
  simp only [wpOps, ho]
  rw [if_pos (Qaf hw hf hn hd)]
  left
  have hu := Qem (ds := ds) hop hT (show σ.n ≤ σ.n from Nat.le_refl _) hf hs
  have key : ∀ v w', Res E (fun k => σ.n ≤ k ∧ k ≠ σ.n) C w σ1 d v w' → wpOps P ops Q rest (Act.put ⟨ca, ds⟩ o.dst v) w' := by
    intro v w' ⟨C', r1, r2, r3, r4⟩
    rw [put_eq]
    refine h _ _ _ _ ⟨by rw [Qaq]; exact hn, C', (hg.mono r1 r2).put r3 (Ok.dst hn hd ho), ?_⟩ hq
    exact ⟨r4.lo, r4.below, r4.bsize, r4.pB, r4.mB, r4.psup, r4.msup, r4.psub, r4.msub, r4.obj, r4.inj, r4.tok, r4.tinj, r4.tobj, fun i hi => r4.fresh i (by simp only [] at hi; omega)⟩
  unfold Oper.wp Oper.upon
  unfold Upon at hu
  split at hu
  · next v w' he => rw [he]; exact key _ _ hu
  · next w' he => rw [he]; exact key _ _ hu
  · next f args w' he =>
    rw [he]
    refine hu.mono fun e w'' ⟨v, hv, hk⟩ => ?_
    subst hv
    exact key _ _ hk
  · exact hu.elim
theorem Rg.upon {d : DV} {σ1 : St} (hd : Q8 n ops = true) (ho : ops[i]? = some o) (hw : Qo ops a o.guard = some true)
    (hu : ∀ (ca : Array Value) (w : World) (ds : List Deferred) (C : Ctx), QfC C w a ca → Qav E (fun i => σ.n ≤ i) C w σ → Upon P (execOp (Act.eval ⟨ca, ds⟩) o) w (fun v w' => Res E (fun k => σ.n ≤ k ∧ k ≠ σ.n) C w σ1 d v w'))
    (h : Rg P E n ops K rest (QN a o.dst d) { σ1 with n := σ.n + 1 }) : Rg P E n ops K (i :: rest) a σ := by
  intro ca w ds Q hok hq
  obtain ⟨hn, C, hg, hs⟩ := hok
  have hf := hg.rel
  simp only [wpOps, ho]
  rw [if_pos (Qaf hw hf hn hd)]
  left
  have hu := hu ca w ds C hf hs
  have key : ∀ v w', Res E (fun k => σ.n ≤ k ∧ k ≠ σ.n) C w σ1 d v w' → wpOps P ops Q rest (Act.put ⟨ca, ds⟩ o.dst v) w' := by
    intro v w' ⟨C', r1, r2, r3, r4⟩
    rw [put_eq]
    refine h _ _ _ _ ⟨by rw [Qaq]; exact hn, C', (hg.mono r1 r2).put r3 (Ok.dst hn hd ho), ?_⟩ hq
    exact ⟨r4.lo, r4.below, r4.bsize, r4.pB, r4.mB, r4.psup, r4.msup, r4.psub, r4.msub, r4.obj, r4.inj, r4.tok, r4.tinj, r4.tobj, fun i hi => r4.fresh i (by simp only [] at hi; omega)⟩
  unfold Oper.wp Oper.upon
  unfold Upon at hu
  split at hu
  · next v w' he => rw [he]; exact key _ _ hu
  · next w' he => rw [he]; exact key _ _ hu
  · next f args w' he =>
    rw [he]
    refine hu.mono fun e w'' ⟨v, hv, hk⟩ => ?_
    subst hv
    exact key _ _ hk
  · exact hu.elim
theorem Rg.box {t : TypeId} {x : Operand} {cs : List DV} (hd : Q8 n ops = true) (ho : ops[i]? = some o) (hw : Qo ops a o.guard = some true) (hop : o.op = .box t x) (hx : (eval a x).cells = some cs)
    (h : Rg P E n ops K rest (QN a o.dst (.ptr σ.n 0)) { σ with n := σ.n + 1, objs := upd σ.objs σ.n (some (.cells t cs)) }) : Rg P E n ops K (i :: rest) a σ := by
  refine Rg.upon (d := .ptr σ.n 0) (σ1 := { σ with objs := upd σ.objs σ.n (some (.cells t cs)) }) hd ho hw (fun ca w ds C hf hs => ?_) h
  obtain ⟨u, w', hrun, hres⟩ := box_obj_sound (P := P) (t := t) (id := σ.n) hx (Qae (ds := ds) hf x) hs (Nat.le_refl _)
  have hr : (execOp (Act.eval ⟨ca, ds⟩) o).run P w = .ok (.value u) w' := by simp only [execOp, hop, Sem.run_bind, hrun, Result.andThen_ok, Sem.run_pure]
  unfold Upon; rw [hr]; exact hres
theorem Rg.appendL {t : TypeId} {y x : Operand} {d : DV} {σ1 : St} (hd : Q8 n ops = true) (ho : ops[i]? = some o) (hw : Qo ops a o.guard = some true) (hop : o.op = .call ⟨.builtin .append, #[y, x], #[t, t]⟩) (hx : QbF P σ.n σ t (eval a y) (eval a x) = some (d, σ1))
    (h : Rg P E n ops K rest (QN a o.dst d) { σ1 with n := σ.n + 1 }) : Rg P E n ops K (i :: rest) a σ := by
  refine Rg.upon (d := d) (σ1 := σ1) hd ho hw (fun ca w ds C hf hs => ?_) h
  obtain ⟨u, w', hrun, hres⟩ := appendL_sound (P := P) (ty := o.type) hx (Qae (ds := ds) hf y) (Qae (ds := ds) hf x) hs (Nat.le_refl _)
  have hr : (execOp (Act.eval ⟨ca, ds⟩) o).run P w = .ok (.value u) w' := by
    simp only [execOp, hop, resolve, Sem.run_bind, Sem.run_pure, invoke, builtin]
    simp only [Sem.run_bind, Sem.run_pure, Result.andThen_ok]
    simp only [List.map_toArray, List.map_cons, List.map_nil, hrun, Result.andThen_ok]
  unfold Upon; rw [hr]; exact hres
theorem Rg.op0 {d : DV} {σ1 : St} {id : Nat} (hT : QH P T) (hd : Q8 n ops = true) (ho : ops[i]? = some o) (hw : Qo ops a o.guard = some true) (hu : Qam o.op = false) (hop : dop P T id a σ o.op = some (d, σ1)) (hn1 : σ1.n = σ.n)
    (h : Rg P E n ops K rest (QN a o.dst d) σ1) : Rg P E n ops K (i :: rest) a σ := by
  intro ca w ds Q hok hq
  obtain ⟨hn, C, hg, hs⟩ := hok
  have hf := hg.rel
  simp only [wpOps, ho]
  rw [if_pos (Qaf hw hf hn hd)]
  left
  have hu := dop_sound0 (ds := ds) hop hu hT hf hs
  have key : ∀ v w', Res E (fun k => σ.n ≤ k) C w σ1 d v w' → wpOps P ops Q rest (Act.put ⟨ca, ds⟩ o.dst v) w' := by
    intro v w' ⟨C', r1, r2, r3, r4⟩
    rw [put_eq]
    exact h _ _ _ _ ⟨by rw [Qaq]; exact hn, C', (hg.mono r1 r2).put r3 (Ok.dst hn hd ho), hn1 ▸ r4⟩ hq
  unfold Oper.wp Oper.upon
  unfold Upon at hu
  split at hu
  · next v w' he => rw [he]; exact key _ _ hu
  · next w' he => rw [he]; exact key _ _ hu
  · next f args w' he =>
    rw [he]
    refine hu.mono fun e w'' ⟨v, hv, hk⟩ => ?_
    subst hv
    exact key _ _ hk
  · exact hu.elim
theorem Rg.no (hd : Q8 n ops = true) (ho : ops[i]? = some o) (hw : Qo ops a o.guard = some false) (h : Rg P E n ops K rest (QN a o.dst (.lit (.tuple #[]))) σ) : Rg P E n ops K (i :: rest) a σ := by
  intro ca w ds Q hok hq
  obtain ⟨hn, C, hg, hs⟩ := hok
  simp only [wpOps, ho]
  rw [if_neg (by simp [Qaf hw hg.rel hn hd]), put_eq]
  exact h _ _ _ _ ⟨by rw [Qaq]; exact hn, C, hg.put (by simp [Qy, undef]) (Ok.dst hn hd ho), hs⟩ hq
theorem Rg.call {x : Operand} {args : Array Operand} {tys : Array TypeId} {g : FuncId} {xs : List DV} {R : DV → St → Prop} (hd : Q8 n ops = true) (ho : ops[i]? = some o) (hop : o.op = .call ⟨.value x, args, tys⟩)
    (hw : Qo ops a o.guard = some true) (hc : Qi a x (args.toList.map (eval a)) = some (g, xs)) (hh : HC P g xs σ R) (h : ∀ d σ', R d σ' → Rg P E n ops K rest (QN a o.dst d) σ') : Rg P E n ops K (i :: rest) a σ := by
  intro ca w ds Q hok hq
  obtain ⟨hn, C, hg, hs⟩ := hok
  have hf := hg.rel
  simp only [wpOps, ho]
  rw [if_pos (Qaf hw hf hn hd)]
  left
  have hl : QP C w (args.toList.map (eval a)) (args.toList.map (Act.eval ⟨ca, ds⟩)) := Qbn _ _ _ fun y _ => Qae hf y
  obtain ⟨first, captured, h1, h2⟩ := Qby (ds := ds) hc hf hl
  obtain ⟨⟨fn, c, hfn, hbody, hname⟩, hcalls⟩ := hh
  have hrun : (execOp (Act.eval ⟨ca, ds⟩) o).run P w = .ok (.enter g (first ++ args.toList.map (Act.eval ⟨ca, ds⟩) ++ captured).toArray) w := by
    simp only [execOp, hop, resolve, h1, Deferred.ofValue, Sem.run_bind, Sem.run_pure, Result.andThen_ok, invoke, callFunc, run_program, hfn]
    simp [hname, hbody]
  unfold Oper.wp Oper.upon
  rw [hrun]
  refine (hcalls E C w _ h2 hs).mono fun e w' ⟨v, he, d, σ', hR, C', r1, r2, r3, r4⟩ => ?_
  subst he
  show wpOps P ops Q rest (Act.put ⟨ca, ds⟩ o.dst v) w'
  rw [put_eq]
  exact h d σ' hR _ _ _ _ ⟨by rw [Qaq]; exact hn, C', (hg.mono r1 r2).put r3 (Ok.dst hn hd ho), r4⟩ hq
def ownN (σ : St) : DV → DV × St
  | .slice k (.tok _ _) rows => (.slice k (.tok σ.n 0) rows, { σ with n := σ.n + 1, toks := upd σ.toks σ.n (some 0) })
  | d => (d, σ)
def QaC (P : Program) (T : Tab) (a : Nat → DV) (σ : St) (o : Op) : Option (DV × St) :=
  match o with
  | .call ⟨.value f, args, _⟩ => (Qi a f (args.toList.map (eval a))).bind fun (g, xs) => match dcall T g xs with
    | some r => some (ownN σ r)
    | none => match dcall T g (xs.map (Q0 σ)) with
      | some (.lit v) => some (.lit v, σ)
      | _ => none
  | o => (dop P T σ.n a σ o).map fun p => (p.1, if Qam o then { p.2 with n := σ.n + 1 } else p.2)
def Q4 (P : Program) (T : Tab) (ops : Array Oper) : List Nat → (Nat → DV) → St → Option ((Nat → DV) × St)
  | [], a, σ => some (a, σ)
  | i :: rest, a, σ => match ops[i]? with
    | none => none
    | some o => match Qo ops a o.guard with
      | some true => match QaC P T a σ o.op with
        | some (d, σ') => Q4 P T ops rest (QN a o.dst d) σ'
        | none => none
      | some false => Q4 P T ops rest (QN a o.dst (.lit (.tuple #[]))) σ
      | none => none
theorem Qkj {id : Nat} {op : Op} {d : DV} {σ1 : St} (h : dop P T id a σ op = some (d, σ1)) : σ1.n = σ.n := by
  have := Qbw h
  revert this
  cases touch id a op <;> simp only [Qek]
  · rintro ⟨rfl, _⟩; rfl
  · rintro ⟨rfl, _⟩; rfl
  · rintro ⟨_, rfl, _⟩; rfl
  · rintro ⟨_, rfl, _⟩; rfl
  · rintro ⟨_, h, _⟩; exact h
theorem Rg.opN {d : DV} {σ1 : St} (hT : QH P T) (hd : Q8 n ops = true) (ho : ops[i]? = some o) (hw : Qo ops a o.guard = some true) (hop : QaC P T a σ o.op = some (d, σ1))
    (h : Rg P E n ops K rest (QN a o.dst d) σ1) : Rg P E n ops K (i :: rest) a σ := by
  unfold QaC at hop
  split at hop
  · next f args tys hopo =>
    obtain ⟨⟨g, xs⟩, h1, h2⟩ := Option.bind_eq_some_iff.1 hop
    simp only [] at h2
    split at h2
    · next r hr =>
      simp only [Option.some.injEq] at h2
      unfold dcall at hr
      split at hr
      · next S hS =>
        obtain ⟨q1, q2⟩ := hT g S hS
        unfold ownN at h2
        split at h2
        · next k t u rows =>
          simp only [Prod.mk.injEq] at h2; obtain ⟨rfl, rfl⟩ := h2
          refine Rg.call (R := fun d2 σ2 => d2 = .slice k (.tok σ.n 0) rows ∧ σ2 = { σ with n := σ.n + 1, toks := upd σ.toks σ.n (some 0) }) hd ho hopo hw h1 (HC.of_sound q1 q2 hr ⟨rfl, rfl⟩) ?_
          rintro d2 σ2 ⟨rfl, rfl⟩; exact h
        · next hne =>
          simp only [Prod.mk.injEq] at h2; obtain ⟨rfl, rfl⟩ := h2
          refine Rg.op0 (id := 0) hT hd ho hw (by rw [hopo]; rfl) (σ1 := σ) ?_ rfl h
          rw [hopo]
          simp only [dop, h1, Option.bind_some, dcall, hS, hr]
          have : Qm r = some r := by
            unfold Qm; split
            · next k t u rows => exact (hne _ _ _ _ rfl).elim
            · rfl
          simp [this]
      · simp at hr
    · split at h2
      · next r hr =>
        simp only [Option.some.injEq, Prod.mk.injEq] at h2; obtain ⟨rfl, rfl⟩ := h2
        intro ca w ds Q hok hq
        obtain ⟨hn, C, hg, hs⟩ := hok
        have hf := hg.rel
        simp only [wpOps, ho]
        rw [if_pos (Qaf hw hf hn hd)]
        left
        have hu := call_lent0 (ds := ds) hopo h1 hr hT hf hs
        have key : ∀ v w', Res E (fun k => σ.n ≤ k) C w σ (.lit r) v w' → wpOps P ops Q rest (Act.put ⟨ca, ds⟩ o.dst v) w' := by
          intro v w' ⟨C', r1, r2, r3, r4⟩
          rw [put_eq]
          exact h _ _ _ _ ⟨by rw [Qaq]; exact hn, C', (hg.mono r1 r2).put r3 (Ok.dst hn hd ho), r4⟩ hq
        unfold Oper.wp Oper.upon
        unfold Upon at hu
        split at hu
        · next v w' he => rw [he]; exact key _ _ hu
        · next w' he => rw [he]; exact key _ _ hu
        · next f args w' he =>
          rw [he]
          refine hu.mono fun e w'' ⟨v, hv, hk⟩ => ?_
          subst hv
          exact key _ _ hk
        · exact hu.elim
      · simp at h2
  · next hne =>
    obtain ⟨⟨d', σ2⟩, h1, h2⟩ := Option.map_eq_some_iff.1 hop
    simp only [Prod.mk.injEq] at h2; obtain ⟨rfl, rfl⟩ := h2
    cases hu : Qam o.op with
    | false =>
      rw [hu] at h
      exact Rg.op0 hT hd ho hw hu h1 (Qkj h1) (by simpa using h)
    | true =>
      rw [hu] at h
      refine Rg.op hT hd ho hw (d := d') (σ1 := σ2) ?_ (by simpa using h)
      unfold QJ
      split
      · next f args tys hopo => exact (hne _ _ _ hopo).elim
      · exact h1
theorem Rg.run (hT : QH P T) (hd : Q8 n ops = true) : ∀ (l : List Nat) (a : Nat → DV) (σ : St), Qn (Q4 P T ops l a σ) (Rg P E n ops K rest) → Rg P E n ops K (l ++ rest) a σ
  | [], a, σ, h => h
  | i :: l, a, σ, h => by
    simp only [Q4] at h
    cases ho : ops[i]? with
    | none => rw [ho] at h; exact h.elim
    | some o =>
      rw [ho] at h
      simp only [] at h
      cases hw : Qo ops a o.guard with
      | none => rw [hw] at h; exact h.elim
      | some b =>
        rw [hw] at h
        cases b with
        | false => exact Rg.no hd ho hw (Rg.run hT hd l _ _ h)
        | true =>
          simp only [] at h
          cases hop : QaC P T a σ o.op with
          | none => rw [hop] at h; exact h.elim
          | some p =>
            obtain ⟨d, σ1⟩ := p
            rw [hop] at h
            exact Rg.opN hT hd ho hw hop (Rg.run hT hd l _ _ h)
theorem Dwp.regH {id : Nat} {Q : Ex → (Nat → DV) → St → Prop} (h : ∀ K : (Nat → DV) → St → Prop, (∀ a' σ', Q .normal a' σ' → K a' σ') → Rg P E n ops K (List.range ops.size) a σ) : Dwp P T E n (.region id ops false) Q a σ :=
  ⟨fun ca w ds hok => wp_region (h _ (fun _ _ q => q) ca w ds _ hok fun ca' w' a' σ' hk hok' => ⟨rfl, .normal, a', σ', rfl, hk, hok'⟩)⟩
theorem Dwp.stepH {id : Nat} {y : Code} {Q : Ex → (Nat → DV) → St → Prop} (h : ∀ K : (Nat → DV) → St → Prop, (∀ a' σ', Dwp P T E n y Q a' σ' → K a' σ') → Rg P E n ops K (List.range ops.size) a σ) : Dwp P T E n (.seq (.region id ops false) y) Q a σ :=
  Dwp.seq (Dwp.regH h)
theorem Qd0 (ops : Array Oper) : ∀ (fuel t : Nat) (listed : Array Bool), Region.linearise.go .any ops fuel t listed [] ∈ Qia ops fuel listed
  | 0, t, listed => by simp [Region.linearise.go, Qia]
  | fuel + 1, t, listed => by
    simp only [Region.linearise.go, Qia]
    change (match (Region.ready .any ops listed)[t % (Region.ready .any ops listed).length]? with
      | some i => Region.linearise.go .any ops fuel (t / (Region.ready .any ops listed).length) (listed.setIfInBounds i true) [i]
      | none => [].reverse) ∈ _
    cases hr : Region.ready .any ops listed with
    | nil => simp
    | cons x xs =>
      cases hi : (x :: xs)[t % (x :: xs).length]? with
      | none =>
        have hlt : t % (x :: xs).length < (x :: xs).length := Nat.mod_lt _ (by simp)
        simp at hi; simp at hlt; omega
      | some i =>
        simp only []
        rw [linearise_go_acc, List.reverse_singleton, List.singleton_append]
        exact List.mem_flatMap.2 ⟨i, List.mem_of_getElem? hi, List.mem_map.2 ⟨_, Qd0 ops fuel _ _, rfl⟩⟩
theorem Dwp.ordH {id : Nat} {Q : Ex → (Nat → DV) → St → Prop} (os : List (List Nat)) (hm : P.follows .mixedOrders = true) (ho : Qia ops ops.size (Array.replicate ops.size false) = os)
    (h : ∀ K : (Nat → DV) → St → Prop, (∀ a' σ', Q .normal a' σ' → K a' σ') → ∀ l ∈ os, Rg P E n ops K l a σ) : Dwp P T E n (.region id ops true) Q a σ :=
  ⟨fun ca w ds hok => wp_region_draw fun t => by
    have hmem : Region.schedule (P.follows .mixedOrders) ops t ∈ os := by
      simp only [Region.schedule, hm, Bool.true_or, if_true]
      rw [← ho]; exact Qd0 ops _ _ _
    refine h _ (fun _ _ q => q) _ hmem ca w.drew ds _ hok.drew fun ca' w' a' σ' hk hok' => ⟨rfl, .normal, a', σ', rfl, hk, hok'⟩⟩
theorem Dwp.ordStepH {id : Nat} {y : Code} {Q : Ex → (Nat → DV) → St → Prop} (os : List (List Nat)) (hm : P.follows .mixedOrders = true) (ho : Qia ops ops.size (Array.replicate ops.size false) = os)
    (h : ∀ K : (Nat → DV) → St → Prop, (∀ a' σ', Dwp P T E n y Q a' σ' → K a' σ') → ∀ l ∈ os, Rg P E n ops K l a σ) : Dwp P T E n (.seq (.region id ops true) y) Q a σ :=
  Dwp.seq (Dwp.ordH os hm ho h)
end Go.FA
namespace Go.FA
open Go.RowKit
inductive Tr (α : Type) where
  | leaf
  | node (l : Tr α) (v : Option α) (r : Tr α)
variable {α : Type}
def Tr.get : Tr α → Nat → Option α
  | .leaf, _ => none
  | .node l v r, i => match i with
    | 0 => v
    | i + 1 => match Nat.beq (i % 2) 0 with
      | true => l.get (i / 2)
      | false => r.get (i / 2)
def Tr.set (x : Option α) : Nat → Tr α → Nat → Tr α
  | 0, t, _ => t
  | f + 1, .leaf, i => match i with
    | 0 => .node .leaf x .leaf
    | i + 1 => match Nat.beq (i % 2) 0 with
      | true => .node (Tr.set x f .leaf (i / 2)) none .leaf
      | false => .node .leaf none (Tr.set x f .leaf (i / 2))
  | f + 1, .node l v r, i => match i with
    | 0 => .node l x r
    | i + 1 => match Nat.beq (i % 2) 0 with
      | true => .node (Tr.set x f l (i / 2)) v r
      | false => .node l v (Tr.set x f r (i / 2))
theorem Tr.get_leaf (i : Nat) : (Tr.leaf : Tr α).get i = none := rfl
theorem Tr.get_set (x : Option α) : ∀ (f : Nat) (t : Tr α) (i j : Nat), i < f → (t.set x f i).get j = if j = i then x else t.get j
  | 0, _, _, _, h => by omega
  | f + 1, t, i, j, h => by
    have key : ∀ (i j : Nat), i < f → (if j / 2 = i / 2 ∧ j % 2 = i % 2 then True else False) = (j = i) := fun i j _ => by
      by_cases e : j = i
      · simp [e]
      · have : ¬ (j / 2 = i / 2 ∧ j % 2 = i % 2) := fun q => e (by omega)
        simp [e, this]
    have ih := fun (t : Tr α) (i j : Nat) (hi : i < f) => Tr.get_set x f t i j hi
    cases i with
    | zero =>
      cases t <;> cases j <;> simp [Tr.set, Tr.get, Tr.get_leaf]
      split <;> rfl
    | succ i =>
      have hi : i / 2 < f := by omega
      cases j with
      | zero => cases t <;> simp only [Tr.set] <;> split <;> simp [Tr.get]
      | succ j =>
        cases hb : Nat.beq (i % 2) 0 <;> cases hc : Nat.beq (j % 2) 0
        · have h1 : i % 2 = 1 := by have := Nat.ne_of_beq_eq_false hb; omega
          have h2 : j % 2 = 1 := by have := Nat.ne_of_beq_eq_false hc; omega
          have he : (j / 2 = i / 2) ↔ (j = i) := by omega
          cases t <;> simp only [Tr.set, hb, Tr.get, hc, ih _ _ _ hi, he] <;> simp [Tr.get_leaf]
        · have h1 : i % 2 = 1 := by have := Nat.ne_of_beq_eq_false hb; omega
          have h2 : j % 2 = 0 := Nat.eq_of_beq_eq_true hc
          have he : j ≠ i := by omega
          cases t <;> simp only [Tr.set, hb, Tr.get, hc] <;> simp [he, Tr.get_leaf]
        · have h1 : i % 2 = 0 := Nat.eq_of_beq_eq_true hb
          have h2 : j % 2 = 1 := by have := Nat.ne_of_beq_eq_false hc; omega
          have he : j ≠ i := by omega
          cases t <;> simp only [Tr.set, hb, Tr.get, hc] <;> simp [he, Tr.get_leaf]
        · have h1 : i % 2 = 0 := Nat.eq_of_beq_eq_true hb
          have h2 : j % 2 = 0 := Nat.eq_of_beq_eq_true hc
          have he : (j / 2 = i / 2) ↔ (j = i) := by omega
          cases t <;> simp only [Tr.set, hb, Tr.get, hc, ih _ _ _ hi, he] <;> simp [Tr.get_leaf]
def Tr.put (t : Tr α) (i : Nat) (x : Option α) : Tr α := t.set x (i + 1) i
theorem Tr.get_put (t : Tr α) (i j : Nat) (x : Option α) : (t.put i x).get j = if j = i then x else t.get j := Tr.get_set x (i + 1) t i j (by omega)
def rg (r : Tr DV) : Nat → DV := fun i => match r.get i with
  | some d => d
  | none => .lit (.tuple #[])
theorem Qld (r : Tr DV) (t : Nat) (d : DV) : rg (r.put t (some d)) = upd (rg r) t d := by
  funext j
  simp only [rg, Tr.get_put, upd]
  by_cases h : j = t <;> simp [h]
def Qje (r : Tr DV) (dst : Option Tmp) (d : DV) : Tr DV := match dst with
  | some t => r.put t (some d)
  | none => r
theorem Qbm (r : Tr DV) (dst : Option Tmp) (d : DV) : rg (Qje r dst d) = QN (rg r) dst d := by
  cases dst with
  | none => rfl
  | some t => exact Qld r t d
def QhW : Nat → List DV → Tr DV → Tr DV
  | _, [], t => t
  | i, d :: ds, t => QhW (i + 1) ds (t.put i (some d))
theorem QiN : ∀ (ds : List DV) (i : Nat) (t : Tr DV) (j : Nat), rg (QhW i ds t) j = if i ≤ j then match ds[j - i]? with | some d => d | none => rg t j else rg t j
  | [], i, t, j => by simp [QhW]
  | d :: ds, i, t, j => by
    simp only [QhW, QiN ds (i + 1), Qld, upd]
    by_cases h : i + 1 ≤ j
    · have e : j - i = j - (i + 1) + 1 := by omega
      have h2 : i ≤ j := by omega
      have h3 : j ≠ i := by omega
      simp [h, e, h2, h3]
    · by_cases h2 : j = i
      · subst h2; simp; intro q; omega
      · have h3 : ¬ i ≤ j := by omega
        simp [h, h2, h3]
theorem QjV (ds : List DV) : rg (QhW 0 ds .leaf) = init ds := by
  funext j
  rw [QiN]
  simp only [Nat.zero_le, if_true, Nat.sub_zero, init, rg, Tr.get_leaf]
  cases ds[j]? <;> rfl
structure EvS where
  n : Nat
  h : Tr Qjt
  tk : Tr Nat
def EvS.st (s : EvS) : St := ⟨s.n, s.h.get, s.tk.get⟩
theorem st0 : (⟨0, .leaf, .leaf⟩ : EvS).st = σ0 := rfl
def QkI (n : Nat) (a : Nat → DV) : Op → Nat
  | .store _ ad _ => match eval a ad with | .ptr id _ => id | _ => n
  | .mapUpdate _ m _ _ => match eval a m with | .map id => id | _ => n
  | .insert _ m _ _ => match eval a m with | .map id => id | _ => n
  | _ => n
def QkX (n : Nat) (a : Nat → DV) : Op → Nat
  | .call ⟨.builtin .append, args, _⟩ => match args.toList with
    | s :: _ => match eval a s with | .slice _ (.tok tk _) _ => tk | _ => n
    | [] => n
  | _ => n
def Kept (cid tid : Nat) (σ σ1 : St) : Prop := (∀ j, j ≠ cid → σ1.objs j = σ.objs j) ∧ (∀ t, t ≠ tid → σ1.toks t = σ.toks t)
theorem Kept.refl (c t : Nat) (σ : St) : Kept c t σ σ := ⟨fun _ _ => rfl, fun _ _ => rfl⟩
theorem QbO {σ : St} {c t : Nat} {x : Option Qjt} : Kept c t σ { σ with objs := upd σ.objs c x } := ⟨fun j hj => by simp [upd, hj], fun _ _ => rfl⟩
theorem Qfo {σ : St} {c t : Nat} {x : Option Nat} : Kept c t σ { σ with toks := upd σ.toks t x } := ⟨fun _ _ => rfl, fun j hj => by simp [upd, hj]⟩
variable {P : Program} {T : Tab} {E : Entry} {F : Nat → Prop} {C : Ctx} {w : World} {σ : St} {n : Nat} {a : Nat → DV}
theorem dop_kept {id : Nat} {o : Op} {d : DV} {σ1 : St} (h : dop P T id a σ o = some (d, σ1)) : Kept (QkI id a o) (QkX id a o) σ σ1 := by
  have plain : ∀ {f : Option DV} {c t : Nat}, f.map (fun d => (d, σ)) = some (d, σ1) → Kept c t σ σ1 := by
    intro f c t hf
    obtain ⟨d', h1, h0⟩ := Option.map_eq_some_iff.1 hf
    cases h0; exact .refl _ _ _
  cases o with
  | move x => simp [dop] at h; obtain ⟨rfl, rfl⟩ := h; exact .refl _ _ _
  | assign x => simp [dop] at h; obtain ⟨rfl, rfl⟩ := h; exact .refl _ _ _
  | pick c x y =>
    simp only [dop] at h
    split at h
    · simp at h; obtain ⟨rfl, rfl⟩ := h; exact .refl _ _ _
    · simp at h
  | extract x i =>
    simp only [dop] at h
    split at h
    · exact plain h
    · simp at h
  | load t x => exact plain h
  | store t ad x =>
    simp only [dop] at h
    obtain ⟨σ2, h1, h0⟩ := Option.map_eq_some_iff.1 h
    cases h0
    unfold QI at h1
    split at h1
    · next id' off i xs q1 q2 q3 =>
      split at h1
      · split at h1
        · simp at h1; subst h1; simp only [QkI, q1]; exact QbO
        · simp at h1
      · split at h1
        · simp at h1; subst h1; simp only [QkI, q1]; exact QbO
        · simp at h1
      · simp at h1
    · simp at h1
  | fieldAddr s x f => exact plain h
  | field s x f => exact plain h
  | indexAddr t x i => exact plain h
  | index t x i => exact plain h
  | binOp op t x y yt => exact plain h
  | unOp op t x =>
    simp only [dop] at h
    split at h
    · simp at h; obtain ⟨rfl, rfl⟩ := h; exact .refl _ _ _
    · simp at h; obtain ⟨rfl, rfl⟩ := h; exact .refl _ _ _
    · simp at h
  | lookup t m k ok => exact plain h
  | mapUpdate t m k x =>
    simp only [dop] at h
    obtain ⟨σ2, h1, h0⟩ := Option.map_eq_some_iff.1 h
    cases h0
    unfold Qq at h1
    split at h1
    · next kt et _ _ _ id' kv q1 q2 q3 =>
      split at h1
      · split at h1
        · obtain ⟨r, q7, rfl⟩ := Option.map_eq_some_iff.1 h1
          simp only [QkI, q2]; exact QbO
        · simp at h1
      · simp at h1
    · simp at h1
  | insert t m k x =>
    simp only [dop] at h
    obtain ⟨σ2, h1, h0⟩ := Option.map_eq_some_iff.1 h
    cases h0
    unfold Qq at h1
    split at h1
    · next kt et _ _ _ id' kv q1 q2 q3 =>
      split at h1
      · split at h1
        · obtain ⟨r, q7, rfl⟩ := Option.map_eq_some_iff.1 h1
          simp only [QkI, q2]; exact QbO
        · simp at h1
      · simp at h1
    · simp at h1
  | nilCheck x => exact plain h
  | convert s t x => exact plain h
  | makeMap t r =>
    cases r with
    | some _ => simp [dop] at h
    | none => simp [dop] at h; obtain ⟨rfl, rfl⟩ := h; exact QbO
  | alloc t =>
    simp only [dop, Option.bind_eq_some_iff] at h
    obtain ⟨i, h1, cs, h2, h0⟩ := h
    cases h0; exact QbO
  | range t x =>
    simp only [dop] at h
    split at h
    · simp at h; obtain ⟨rfl, rfl⟩ := h; exact QbO
    · simp at h
  | entry x =>
    simp only [dop] at h
    split at h
    · exact plain h
    · simp at h
  | box t x =>
    simp only [dop] at h
    obtain ⟨cs, h1, h0⟩ := Option.map_eq_some_iff.1 h
    cases h0; exact .refl _ _ _
  | build t parts =>
    simp only [dop] at h
    split at h
    · obtain ⟨cs, h1, h0⟩ := Option.map_eq_some_iff.1 h
      cases h0; exact .refl _ _ _
    · simp at h
  | buildSlice t len parts =>
    simp only [dop] at h
    split at h
    · split at h
      · split at h
        · obtain ⟨rs, h1, h0⟩ := Option.map_eq_some_iff.1 h
          cases h0; exact .refl _ _ _
        · simp at h
      · simp at h
    · simp at h
  | makeFunc fn first captured => simp [dop] at h; obtain ⟨rfl, rfl⟩ := h; exact .refl _ _ _
  | slice t x lo hi mx => exact plain h
  | call c =>
    obtain ⟨callee, args, tys⟩ := c
    cases callee with
    | value x =>
      simp only [dop, Option.bind_eq_some_iff] at h
      obtain ⟨⟨g, xs⟩, h1, h2⟩ := h
      exact plain h2
    | invoke r m => simp [dop] at h
    | builtin b =>
      simp only [dop] at h
      unfold Qj at h
      split at h
      · next t x hty hargs =>
        split at h
        · split at h
          · exact plain h
          · simp at h
        · simp at h
      · next t t' s x hty hargs =>
        split at h
        · unfold QE at h
          split at h
          · split at h
            · split at h
              · next rs xs tk g' σ2 q1 q2 q3 =>
                split at h
                · simp at h; obtain ⟨rfl, rfl⟩ := h
                  obtain ⟨y, ys, hy⟩ : ∃ y ys, args.toList = y :: ys := by
                    cases hq : args.toList with
                    | nil => simp [hq] at hargs
                    | cons y ys => exact ⟨y, ys, rfl⟩
                  have hs : eval a y = s := by rw [hy] at hargs; simp at hargs; exact hargs.1
                  unfold QK at q3
                  split at q3
                  · split at q3
                    · simp at q3; obtain ⟨rfl, rfl, rfl⟩ := q3
                      simp only [QkX, hy, hs]; exact Qfo
                    · simp at q3
                  · simp at q3; obtain ⟨rfl, rfl, rfl⟩ := q3
                    simp only [QkX, hy, hs]; exact Qfo
                  · simp at q3; obtain ⟨rfl, rfl, rfl⟩ := q3
                    simp only [QkX, hy, hs]; exact Qfo
                  · simp at q3
                · simp at h
              · simp at h
            · simp at h
          · simp at h
        · simp at h
      · simp at h; obtain ⟨rfl, rfl⟩ := h; exact .refl _ _ _
      · simp at h; obtain ⟨rfl, rfl⟩ := h; exact .refl _ _ _
      · simp at h
  | _ => simp [dop] at h
def nextS (id : Nat) (s : EvS) (a : Nat → DV) (o : Op) (σ1 : St) : EvS :=
  match o with
  | .store .. | .mapUpdate .. | .insert .. | .makeMap .. | .alloc _ | .range .. => ⟨s.n, s.h.put (QkI id a o) (σ1.objs (QkI id a o)), s.tk⟩
  | .call ⟨.builtin .append, _, _⟩ => ⟨s.n, s.h, s.tk.put (QkX id a o) (σ1.toks (QkX id a o))⟩
  | _ => s
theorem Qjw {s : EvS} {c : Nat} {σ1 : St} (h : ∀ j, j ≠ c → σ1.objs j = s.h.get j) (ht : σ1.toks = s.tk.get) (hn : σ1.n = s.n) : (⟨s.n, s.h.put c (σ1.objs c), s.tk⟩ : EvS).st = σ1 := by
  obtain ⟨n1, o1, t1⟩ := σ1
  simp only at h ht hn
  subst ht; subst hn
  simp only [EvS.st, St.mk.injEq, true_and, and_true]
  funext j
  rw [Tr.get_put]
  by_cases e : j = c
  · subst e; simp
  · simp [e, h j e]
theorem tk_eq {s : EvS} {c : Nat} {σ1 : St} (h : ∀ j, j ≠ c → σ1.toks j = s.tk.get j) (ht : σ1.objs = s.h.get) (hn : σ1.n = s.n) : (⟨s.n, s.h, s.tk.put c (σ1.toks c)⟩ : EvS).st = σ1 := by
  obtain ⟨n1, o1, t1⟩ := σ1
  simp only at h ht hn
  subst ht; subst hn
  simp only [EvS.st, St.mk.injEq, true_and, and_true]
  funext j
  rw [Tr.get_put]
  by_cases e : j = c
  · subst e; simp
  · simp [e, h j e]
theorem QjQ {id n : Nat} {f : St → Option (DV × St)} {d x : DV} {σ1 : St} (h : Qek P T id a σ f d σ1 (Qbt n x)) : σ1.toks = σ.toks := by
  have : ∃ i, Qbt n x = .wobj i := by unfold Qbt; split <;> exact ⟨_, rfl⟩
  obtain ⟨i, e⟩ := this
  rw [e] at h
  obtain ⟨ob, rfl, _⟩ := h; rfl
theorem QeV {id : Nat} {s : EvS} {o : Op} {d : DV} {σ1 : St} (h : dop P T id a s.st o = some (d, σ1)) : (nextS id s a o σ1).st = σ1 := by
  have hk := dop_kept h
  have hh := Qbw h
  have hn : σ1.n = s.n := Qkj h
  have still : σ1 = s.st → s.st = σ1 := fun e => e.symm
  have plain : ∀ {f : Option DV}, f.map (fun d => (d, s.st)) = some (d, σ1) → s.st = σ1 := by
    intro f hf
    obtain ⟨d', h1, h0⟩ := Option.map_eq_some_iff.1 hf
    cases h0; rfl
  cases o with
  | store t ad x => exact Qjw hk.1 (QjQ hh) hn
  | mapUpdate t m k x => exact Qjw hk.1 (QjQ hh) hn
  | insert t m k x => exact Qjw hk.1 (QjQ hh) hn
  | makeMap t r =>
    refine Qjw hk.1 ?_ hn
    obtain ⟨ob, rfl, _⟩ := hh; rfl
  | alloc t =>
    refine Qjw hk.1 ?_ hn
    obtain ⟨ob, rfl, _⟩ := hh; rfl
  | range t x =>
    refine Qjw hk.1 ?_ hn
    obtain ⟨ob, rfl, _⟩ := hh; rfl
  | load t x => exact plain h
  | lookup t m k ok => exact plain h
  | entry x =>
    simp only [dop] at h
    split at h
    · exact plain h
    · simp at h
  | call c =>
    obtain ⟨callee, args, tys⟩ := c
    cases callee with
    | value x =>
      simp only [dop, Option.bind_eq_some_iff] at h
      obtain ⟨⟨g, xs⟩, h1, h2⟩ := h
      exact plain h2
    | invoke r m => simp [dop] at h
    | builtin b =>
      cases b with
      | append => exact tk_eq hk.2 hh.1 hn
      | _ => exact still hh.1
  | _ => exact still hh.1
end Go.FA
namespace Go.FA
open Go.RowKit
variable {P : Program} {E : Entry} {F : Nat → Prop} {C : Ctx} {w : World} {σ : St}
def QhX (P : Program) (id : Nat) (σ : St) (t : TypeId) (l c : DV) : Option (DV × St) :=
  match Qag P t with
  | some ⟨.slice e, _, _, _⟩ => match Qag P e with
    | some i => match l, c, i.zero.cells with
      | .lit (.int _ n), .lit (.int _ m), some zs => if QL i = true ∧ n = m ∧ 0 ≤ n ∧ n.toNat ≤ Qd then
          some (.live id i.size 0 n.toNat, { σ with objs := upd σ.objs id (some (.buf e (List.replicate n.toNat zs).flatten)) }) else none
      | _, _, _ => none
    | none => none
  | _ => none
theorem made_eq (us : List Value) (n : Nat) : (madeCells us.toArray (n * us.length)).toList = (List.replicate n us).flatten := by
  have h : ∀ n, (List.range (n * us.length)).map (fun j => us.toArray[j % us.toArray.size]!) = (List.replicate n us).flatten := by
    intro n
    induction n with
    | zero => simp
    | succ n ih =>
      have e : (n + 1) * us.length = us.length + n * us.length := by rw [Nat.succ_mul, Nat.add_comm]
      rw [e, List.range_add, List.map_append, List.replicate_succ, List.flatten_cons, ← ih]
      congr 1
      · apply List.ext_getElem?
        intro j
        by_cases hj : j < us.length
        · simp [hj, Nat.mod_eq_of_lt hj]
        · simp [hj]
      · rw [List.map_map]
        refine List.map_congr_left fun j hj => ?_
        simp
  simpa [madeCells] using h n
theorem made_rel {zs : List DV} {us : List Value} (h : QP C w zs us) (n : Nat) : QP C w (List.replicate n zs).flatten (List.replicate n us).flatten := by
  induction n with
  | zero => simp [QP]
  | succ n ih => simp only [List.replicate_succ, List.flatten_cons]; exact Qaw h ih
theorem makeL_sound {t : TypeId} {id : Nat} {l c d : DV} {vl vc : Value} {σ' : St} (h : QhX P id σ t l c = some (d, σ')) (hv : Qy C w l vl) (hx : Qy C w c vc) (hs : Qav E F C w σ) (hF : F id) :
    ∃ u w', (Instr.makeSlice t vl vc).run P w = .ok u w' ∧ Res E (fun j => F j ∧ j ≠ id) C w σ' d u w' := by
  unfold QhX at h
  split at h
  · next e s1 s2 s3 ht =>
    split at h
    · next i hi =>
      split at h
      · next k1 n k2 m zs hzs =>
        split at h
        · next hc =>
          obtain ⟨hel, rfl, hn0, hlim⟩ := hc
          simp only [Option.some.injEq, Prod.mk.injEq] at h; obtain ⟨rfl, rfl⟩ := h
          simp only [QL, Bool.and_eq_true, decide_eq_true_eq, hzs, beq_iff_eq] at hel
          obtain ⟨⟨⟨hpos, hby⟩, hby2⟩, hzl⟩ := hel
          obtain ⟨info, z, hu1, hu2, hu3, hu4, hu5, hu6⟩ := Qau hi
          obtain ⟨_, _, htu, _⟩ := Qau ht
          simp only [Qy] at hv hx
          subst hv hx
          unfold Qd at hlim
          obtain ⟨n, rfl⟩ : ∃ k : Nat, (k : Int) = n := ⟨n.toNat, Int.toNat_of_nonneg hn0⟩
          simp only [Int.toNat_natCast] at hlim ⊢
          have hbytes : (info.bytes : Int) * (n : Int) ≤ 281474976710656 := by
            rw [hu4]
            have : i.bytes * n ≤ 65536 * 16777216 := Nat.mul_le_mul hby2 hlim
            have h2 : ((i.bytes * n : Nat) : Int) ≤ 281474976710656 := by omega
            rwa [Int.natCast_mul] at h2
          have hrun := run_make (P := P) w t e info z htu hu2 hu5 k1 k2 n n (by omega) (Int.le_refl _) hbytes (by omega)
          simp only [Int.toNat_natCast] at hrun
          have hcr : ∀ C' w', ∃ us : List Value, z.cells = us.toArray ∧ QP C' w' zs us ∧ Flat us := fun C' w' => Qay hzs (hu6 ▸ QaK (C := C') (w := w') z)
          obtain ⟨us0, q0, r0, f0⟩ := hcr C w
          have hul : us0.length = i.size := by rw [← QY r0, hzl]
          have hmade : madeCells z.cells (n * info.size) = (List.replicate n us0).flatten.toArray := by
            rw [hu3, q0, ← hul, ← made_eq, Array.toArray_toList]
          rw [hmade] at hrun
          obtain ⟨C', hle, hst, hobj, _, _, _, hs3⟩ := hs.new_obj (id := id) (ob := .cells (List.replicate n us0).flatten.toArray e) (o := .buf e (List.replicate n zs).flatten) hF (fun C' hle hst => by
            obtain ⟨us, q1, r1, f1⟩ := hcr C' (w.alloc (.cells (List.replicate n us0).flatten.toArray e))
            obtain rfl : us = us0 := by rw [q0] at q1; simpa using q1.symm
            refine ⟨(List.replicate n us).flatten, [], by rw [heap_alloc_new w _]; simp, made_rel r1 n, ?_⟩
            intro y hy
            simp only [List.append_nil, List.mem_flatten, List.mem_replicate] at hy
            obtain ⟨_, ⟨_, rfl⟩, hy⟩ := hy
            exact f1 y hy)
          refine ⟨_, _, hrun, C', hle, hst, ?_, hs3⟩
          simp only [Qy]
          refine ⟨w.heap.size, n, _, e, hobj, rfl, Nat.le_refl _, ?_, heap_alloc_new w _, ?_⟩
          · rw [hle.lo, hs.lo]; exact hs.bsize
          · simp [hul]
        · simp at h
      · simp at h
    · simp at h
  · simp at h
variable {T : Tab} {n i : Nat} {rest : List Nat} {ops : Array Oper} {K : (Nat → DV) → St → Prop} {a : Nat → DV} {o : Oper}
theorem Rg.makeL {t : TypeId} {x y : Operand} {d : DV} {σ1 : St} (hd : Q8 n ops = true) (ho : ops[i]? = some o) (hw : Qo ops a o.guard = some true) (hop : o.op = .makeSlice t x y) (hx : QhX P σ.n σ t (eval a x) (eval a y) = some (d, σ1))
    (h : Rg P E n ops K rest (QN a o.dst d) { σ1 with n := σ.n + 1 }) : Rg P E n ops K (i :: rest) a σ := by
  refine Rg.upon (d := d) (σ1 := σ1) hd ho hw (fun ca w ds C hf hs => ?_) h
  obtain ⟨u, w', hrun, hres⟩ := makeL_sound (P := P) hx (Qae (ds := ds) hf x) (Qae (ds := ds) hf y) hs (Nat.le_refl _)
  have hr : (execOp (Act.eval ⟨ca, ds⟩) o).run P w = .ok (.value u) w' := by
    simp only [execOp, hop, resolve, Sem.run_bind, Sem.run_pure, invoke]
    simp only [hrun, Result.andThen_ok, Sem.run_bind, Sem.run_pure]
  unfold Upon; rw [hr]; exact hres
end Go.FA
namespace Go.FA
open Go.RowKit
variable {P : Program} {E : Entry} {F : Nat → Prop} {C : Ctx} {w : World} {σ : St}
def bytesD (s : ByteArray) : List DV := s.data.toList.map fun b => .lit (.int .u8 b.toNat)
def bytesV (s : ByteArray) : List Value := s.data.toList.map fun b => .int .u8 b.toNat
theorem QhZ (s : ByteArray) : QP C w (bytesD s) (bytesV s) := by
  unfold bytesD bytesV
  induction s.data.toList with
  | nil => simp [QP]
  | cons b l ih => simp only [List.map_cons, QP, Qy]; exact ⟨trivial, ih⟩
theorem Qge (s : ByteArray) : Flat (bytesV s) := by
  intro y hy
  obtain ⟨b, _, rfl⟩ := List.mem_map.1 hy
  rfl
theorem Qh5 (s : ByteArray) : (bytesV s).length = s.size := by simp [bytesV]
def Qbe (P : Program) (id : Nat) (σ : St) (t u : TypeId) (s x : DV) : Option (DV × St) :=
  match Qag P t, Qag P u with
  | some ⟨.slice e, _, _, _⟩, some ⟨.string, _, _, _⟩ => match Qag P e with
    | some i => match x with
      | .lit (.string b) => if QL i = true ∧ i.size = 1 ∧ b.size ≠ 0 then match s with
        | .lit (.slice none 0 0) => if b.size ≤ Qd then
            some (.live id 1 0 b.size, { σ with objs := upd σ.objs id (some (.buf e (bytesD b))) }) else none
        | .live sid k 0 n => match σ.objs sid with
          | some (.buf e' cs) => if k = 1 ∧ e' = e ∧ cs.length = n ∧ n + b.size ≤ Qd ∧ sid ≠ id then
              some (.live id k 0 (n + b.size), { σ with objs := upd (upd σ.objs sid none) id (some (.buf e (cs ++ bytesD b))) }) else none
          | _ => none
        | _ => none
        else none
      | _ => none
    | none => none
  | _, _ => none
theorem appendLS_sound {t u ty : TypeId} {id : Nat} {s x d : DV} {vs vx : Value} {σ' : St} (h : Qbe P id σ t u s x = some (d, σ')) (hv : Qy C w s vs) (hx : Qy C w x vx) (hs : Qav E F C w σ) (hF : F id) :
    ∃ v w', (Builtin.append_ #[t, u] ty #[vs, vx]).run P w = .ok v w' ∧ Res E (fun j => F j ∧ j ≠ id) C w σ' d v w' := by
  unfold Qbe at h
  split at h
  · next e s1 s2 s3 s4 s5 s6 ht htu =>
    split at h
    · next i hi =>
      split at h
      · next str =>
        split at h
        · next hc =>
          obtain ⟨hel, hone, hxe⟩ := hc
          simp only [QL, Bool.and_eq_true, decide_eq_true_eq] at hel
          obtain ⟨⟨⟨hpos, hby⟩, hby2⟩, hzz⟩ := hel
          obtain ⟨zs, hz⟩ : ∃ zs, i.zero.cells = some zs := by
            cases hq : i.zero.cells with
            | none => simp [hq] at hzz
            | some zs => exact ⟨zs, rfl⟩
          have hzl : zs.length = i.size := by simpa [hz] using hzz
          obtain ⟨info, z, hu1, hu2, hu3, hu4, hu5, hu6⟩ := Qau hi
          obtain ⟨_, _, htt, _⟩ := Qau ht
          obtain ⟨_, _, htuu, _⟩ := Qau htu
          have hzc : z.cells.size = i.size := by
            obtain ⟨us, q1, q2, _⟩ := Qay hz (hu6 ▸ QaK (C := C) (w := w) z)
            rw [q1]; simp [← QY q2, hzl]
          have hzf : ∀ m, Flat (Builtin.zeroCells z.cells m).toList := by
            intro m
            obtain ⟨us, q1, _, q3⟩ := Qay hz (hu6 ▸ QaK (C := C) (w := w) z)
            have hul : us.length = i.size := by rw [q1] at hzc; simpa using hzc
            intro y hy
            simp [Builtin.zeroCells, q1] at hy
            obtain ⟨a, _, hy⟩ := hy
            have hlt : a % us.length < us.length := Nat.mod_lt _ (by omega)
            rw [List.getElem?_eq_getElem hlt] at hy
            simp only [Option.getD_some] at hy
            subst hy
            exact q3 _ (List.getElem_mem hlt)
          simp only [Qy] at hx
          subst hx
          have hone' : info.size = 1 := by rw [hu3, hone]
          have hnl : (bytesV str).length = str.size := Qh5 str
          have hbytes : ∀ n, n ≤ 16777216 → n * i.bytes ≤ 1099511627776 := fun n hn => Nat.le_trans (Nat.mul_le_mul hn hby2) (by omega)
          have hnewobj : ∀ (σ1 : St) (olds : List Value) (ocs : List DV) (m newCap : Nat), Qav E F C w σ1 → olds.length = m → QP C w ocs olds → Flat olds → m + str.size ≤ newCap →
              Res E (fun j => F j ∧ j ≠ id) C w { σ1 with objs := upd σ1.objs id (some (.buf e (ocs ++ bytesD str))) } (.live id 1 0 (m + str.size)) (.slice (some ⟨w.heap.size, 0, none⟩) (m + str.size) newCap)
                (w.drew.alloc (.cells (olds.toArray ++ (bytesV str).toArray ++ Builtin.zeroCells z.cells (newCap - (m + str.size))) e)) := by
            intro σ1 olds ocs m newCap hs1 o1 o2 o3 hcap
            obtain ⟨hst0, hs2⟩ := hs1.drew
            have hob : (Obj.cells (olds.toArray ++ (bytesV str).toArray ++ Builtin.zeroCells z.cells (newCap - (m + str.size))) e) = .cells ((olds ++ bytesV str) ++ (Builtin.zeroCells z.cells (newCap - (m + str.size))).toList).toArray e := by simp
            obtain ⟨C', hle, hst, hobj, _, _, _, hs3⟩ := hs2.new_obj (id := id) (ob := .cells (olds.toArray ++ (bytesV str).toArray ++ Builtin.zeroCells z.cells (newCap - (m + str.size))) e) (o := .buf e (ocs ++ bytesD str)) hF (fun C' hle hst =>
              ⟨olds ++ bytesV str, (Builtin.zeroCells z.cells (newCap - (m + str.size))).toList, by rw [heap_alloc_new w.drew _, hob], Qaw (QS (hle) (hst0.trans (.refl C) hst) _ _ o2) (QhZ str),
                (o3.append (Qge str)).append (hzf _)⟩)
            refine ⟨C', hle, hst0.trans (.refl C) hst, ?_, hs3⟩
            simp only [Qy]
            refine ⟨w.heap.size, newCap, _, e, hobj, rfl, hcap, ?_, heap_alloc_new w.drew _, ?_⟩
            · rw [hle.lo, hs.lo]; exact hs.bsize
            · simp only [Array.size_append, List.size_toArray, size_zeroCells, hzc, o1, hnl, hone, Nat.mul_one]
              omega
          split at h
          · split at h
            · next hlim =>
              simp at h; obtain ⟨rfl, rfl⟩ := h
              unfold Qd at hlim
              simp only [Qy] at hv; subst hv
              have hb := hbytes str.size hlim
              have hrun := run_append_nil_string (P := P) w t u ty e info z htt htuu hu2 hu5 str (by omega) (by omega) (by rw [hu4]; omega)
              have hg := hnewobj σ [] [] 0 (grownCap w str.size 0 e) hs (by simp) (by simp [QP]) (by simp [Flat]) (by simpa using grownCap_ge w str.size 0 e)
              have hbv : (str.data.map fun b => Value.int .u8 b.toNat) = (bytesV str).toArray := by unfold bytesV; apply Array.ext'; simp
              rw [hbv] at hrun
              refine ⟨_, _, hrun, ?_⟩
              simpa using hg
            · simp at h
          · next sid k n =>
            split at h
            · next e' cs ho =>
              split at h
              · next hcc =>
                obtain ⟨rfl, rfl, hcl, hlim, hne⟩ := hcc
                simp at h; obtain ⟨rfl, rfl⟩ := h
                unfold Qd at hlim
                simp only [Qy] at hv
                obtain ⟨b, cap, c, ec, hb1, rfl, hcap, hlo, hheap, hcapsz⟩ := hv
                obtain ⟨b', hb', hB, hlt, hnp, hnm, vs', tl, hh, hl, hf⟩ := hs.obj _ _ ho
                obtain rfl : b = b' := by rw [hb1] at hb'; exact Option.some.inj hb'
                rw [hh] at hheap; cases hheap
                have hvl := QY hl
                have hb := hbytes (n + str.size) hlim
                have hstr : Lib.strCells str = bytesV str := rfl
                by_cases hroom : n + str.size ≤ cap
                · have hfit : n + str.size ≤ (vs' ++ tl).toArray.size := by
                    simp only [List.size_toArray, Nat.mul_one, Nat.zero_add] at hcapsz ⊢
                    omega
                  have hrun := Lib.run_append_room_string (P := P) w t u ty e' info htt htuu hu2 hone' b n cap (vs' ++ tl).toArray hh str hroom hfit
                  rw [hstr] at hrun
                  have hT := QaR (w := w) (cs := ((vs' ++ tl).toArray.toList.take n ++ bytesV str ++ (vs' ++ tl).toArray.toList.drop (n + str.size)).toArray) hh
                  have hcells : ((vs' ++ tl).toArray.toList.take n ++ bytesV str ++ (vs' ++ tl).toArray.toList.drop (n + str.size)) = (vs' ++ bytesV str) ++ tl.drop str.size := by
                    have q1 : (vs' ++ tl).take n = vs' := by rw [← hcl, hvl]; simp
                    have q2 : (vs' ++ tl).drop (n + str.size) = tl.drop str.size := by
                      rw [List.drop_append]
                      have : vs'.length = n := by omega
                      rw [List.drop_eq_nil_of_le (by omega)]; simp [this]
                    simp only [q1, q2]
                  have hfl : (vs' ++ tl).length = vs'.length + tl.length := by simp
                  have hkk : ∀ c2 e2, w.heap[b]? = some (.cells c2 e2) → ∃ c' e'', Obj.cells ((vs' ++ tl).toArray.toList.take n ++ bytesV str ++ (vs' ++ tl).toArray.toList.drop (n + str.size)).toArray e' = .cells c' e'' ∧ c'.size = c2.size := fun c2 e2 q => by
                    rw [hh] at q; cases q
                    exact ⟨_, _, rfl, by simp [hnl] at hfit ⊢; omega⟩
                  obtain ⟨hst, hS⟩ := hs.turn (o' := .buf e' (cs ++ bytesD str)) ho hb1 hT hkk ⟨vs' ++ bytesV str, tl.drop str.size, by rw [hT.at_, hcells], Qaw (QS (.refl C) (hT.step hnp hnm hkk) _ _ hl) (QhZ str), by
                    intro y hy
                    simp only [List.mem_append] at hy
                    rcases hy with (hy | hy) | hy
                    · exact hf y (by simp [hy])
                    · exact Qge str y hy
                    · exact hf y (by simp [List.mem_of_mem_drop hy])⟩
                  obtain ⟨hle, hS2⟩ := hS.rename (sid := sid) (id := id) (by simp [upd]; rfl) hb1 hF hne
                  refine ⟨_, _, hrun, _, hle, hst, ?_, ?_⟩
                  · simp only [Qy]
                    refine ⟨b, cap, _, _, by simp [upd], rfl, hroom, hlo, hT.at_, ?_⟩
                    rw [hcells]
                    simp only [List.size_toArray, List.length_append, List.length_drop] at hcapsz hfit ⊢
                    omega
                  · have : upd (upd (upd σ.objs sid (some (.buf e' (cs ++ bytesD str)))) sid none) id (some (.buf e' (cs ++ bytesD str))) = upd (upd σ.objs sid none) id (some (.buf e' (cs ++ bytesD str))) := by
                      funext j; simp only [upd]; split
                      · rfl
                      · split <;> rfl
                    simpa only [this] using hS2
                · have holds : ∀ j v, vs'[j]? = some v → w.cell? ((⟨b, 0, none⟩ : Addr).add j) = some v := by
                    intro j v hj
                    have hjl : j < vs'.length := by
                      rcases Nat.lt_or_ge j vs'.length with q | q
                      · exact q
                      · simp [List.getElem?_eq_none q] at hj
                    rw [addr_add, Nat.zero_add, cell?_of_cells hh]
                    simp [List.getElem?_append_left hjl, hj]
                  have hrun := Lib.run_append_grow_string (P := P) w t u ty e' info z htt htuu hu2 hu5 ⟨b, 0, none⟩ n cap vs' (by rw [hone']; omega) holds str (by omega) (by omega)
                    (growslice_fits (by omega) (by rw [hu4]; omega))
                  rw [hstr] at hrun
                  have hg := hnewobj { σ with objs := upd σ.objs sid none } vs' cs n (grownCap w (n + str.size) cap e') hs.drop (by omega) hl (fun y hy => hf y (by simp [hy])) (grownCap_ge w _ _ e')
                  exact ⟨_, _, hrun, hg⟩
              · simp at h
            · simp at h
          · simp at h
        · simp at h
      · simp at h
    · simp at h
  · simp at h
variable {T : Tab} {n i : Nat} {rest : List Nat} {ops : Array Oper} {K : (Nat → DV) → St → Prop} {a : Nat → DV} {o : Oper}
theorem Rg.appendLS {t u : TypeId} {y x : Operand} {d : DV} {σ1 : St} (hd : Q8 n ops = true) (ho : ops[i]? = some o) (hw : Qo ops a o.guard = some true) (hop : o.op = .call ⟨.builtin .append, #[y, x], #[t, u]⟩) (hx : Qbe P σ.n σ t u (eval a y) (eval a x) = some (d, σ1))
    (h : Rg P E n ops K rest (QN a o.dst d) { σ1 with n := σ.n + 1 }) : Rg P E n ops K (i :: rest) a σ := by
  refine Rg.upon (d := d) (σ1 := σ1) hd ho hw (fun ca w ds C hf hs => ?_) h
  obtain ⟨v, w', hrun, hres⟩ := appendLS_sound (P := P) (ty := o.type) hx (Qae (ds := ds) hf y) (Qae (ds := ds) hf x) hs (Nat.le_refl _)
  have hr : (execOp (Act.eval ⟨ca, ds⟩) o).run P w = .ok (.value v) w' := by
    simp only [execOp, hop, resolve, Sem.run_bind, Sem.run_pure, invoke, builtin]
    simp only [Sem.run_bind, Sem.run_pure, Result.andThen_ok]
    simp only [List.map_toArray, List.map_cons, List.map_nil, hrun, Result.andThen_ok]
  unfold Upon; rw [hr]; exact hres
end Go.FA
namespace Go.FA
open Go.RowKit
variable {P : Program} {T : Tab} {E : Entry} {F : Nat → Prop} {C : Ctx} {w : World} {σ : St} {n : Nat} {a : Nat → DV}
abbrev Hc (S : Type) := FuncId → List DV → S → Option (DV × S)
variable {S : Type} (st : S → St)
def HcOk (P : Program) (hc : Hc S) : Prop := ∀ g xs s d s', hc g xs s = some (d, s') → HC P g xs (st s) (fun d2 σ2 => d2 = d ∧ σ2 = st s')
def Qfg : Op → Bool
  | .call ⟨.value _, _, _⟩ => true
  | _ => false
def Qe9 (P : Program) (T : Tab) (hc : Hc S) (a : Nat → DV) (σ : S) (o : Op) : Option (DV × S) :=
  match o with
  | .call ⟨.value x, args, _⟩ => (Qi a x (args.toList.map (eval a))).bind fun (g, xs) => hc g xs σ
  | o => match touch 0 a o with
    | .none => (dop P T 0 a (st σ) o).map fun p => (p.1, σ)
    | _ => none
def Qef (P : Program) (T : Tab) (hc : Hc S) (ops : Array Oper) (i : Nat) (a : Nat → DV) (σ : S) : Option (DV × S) :=
  match ops[i]? with
  | none => none
  | some o => match Qo ops a o.guard with
    | some true => Qe9 st P T hc a σ o.op
    | some false => some (.lit (.tuple #[]), σ)
    | none => none
def Qcz (P : Program) (T : Tab) (hc : Hc S) (ops : Array Oper) : List Nat → (Nat → DV) → S → Option ((Nat → DV) × S)
  | [], a, σ => some (a, σ)
  | i :: rest, a, σ => match Qef st P T hc ops i a σ with
    | some (d, σ') => Qcz P T hc ops rest (QN a (Qaa ops i) d) σ'
    | none => none
def Qja (ops : Array Oper) (i : Nat) : Bool := match ops[i]? with | some o => Qfg o.op | none => false
def Qf8 (ops : Array Oper) (i j : Nat) : Bool :=
  match ops[i]?, ops[j]? with
  | some x, some y => x.apart ops y && !(Qfg x.op && Qfg y.op)
  | _, _ => false
variable {st} {hc : Hc S} {σ : S}
theorem doneO_still {o : Op} {d : DV} {σ1 : S} (hn : Qfg o = false) (h : Qe9 st P T hc a σ o = some (d, σ1)) : σ1 = σ ∧ ∀ σ', Qe9 st P T hc a σ' o = some (d, σ') := by
  have key : ∀ {o : Op}, (match touch 0 a o with | .none => (dop P T 0 a (st σ) o).map fun p => (p.1, σ) | _ => none) = some (d, σ1) → σ1 = σ ∧ ∀ σ' : S, (match touch 0 a o with | .none => (dop P T 0 a (st σ') o).map fun p => (p.1, σ') | _ => none) = some (d, σ') := by
    intro o h
    split at h
    · next ht =>
      obtain ⟨⟨d', σ2⟩, h1, h2⟩ := Option.map_eq_some_iff.1 h
      simp only [Prod.mk.injEq] at h2; obtain ⟨rfl, rfl⟩ := h2
      have := Qbw h1
      rw [ht] at this
      exact ⟨rfl, fun σ' => by have q := this.2 (st σ'); simp only [] at q; simp [ht, q]⟩
    · simp at h
  unfold Qe9 at h ⊢
  split at h
  · simp [Qfg] at hn
  · exact key h
theorem QfJ {ops : Array Oper} {i : Nat} {d : DV} {σ1 : S} (hn : Qja ops i = false) (h : Qef st P T hc ops i a σ = some (d, σ1)) : σ1 = σ ∧ ∀ σ', Qef st P T hc ops i a σ' = some (d, σ') := by
  unfold Qef at h ⊢
  unfold Qja at hn
  split at h
  · simp at h
  · next o ho =>
    rw [ho] at hn
    simp only [] at hn ⊢
    split at h
    · exact doneO_still hn h
    · simp at h; obtain ⟨rfl, rfl⟩ := h; exact ⟨rfl, fun _ => rfl⟩
    · simp at h
theorem doneO_congr {a' : Nat → DV} {o : Op} (h : ∀ x ∈ o.operands, eval a x = eval a' x) : Qe9 st P T hc a σ o = Qe9 st P T hc a' σ o := by
  unfold Qe9
  split
  · next x args tys =>
    have hx : eval a x = eval a' x := h x (by simp [Op.operands, Call.operands])
    have ha : args.toList.map (eval a) = args.toList.map (eval a') := List.map_congr_left fun y hy => h y (by simp [Op.operands, Call.operands]; right; simpa using hy)
    simp only [Qi, hx, ha]
  · have := Qcg (P := P) (T := T) (σ := st σ) (id := 0) h
    rw [this.1, this.2]
theorem Qf7 {ops : Array Oper} {i : Nat} {dst : Option Tmp} {d : DV} {o : Oper} (ho : ops[i]? = some o) (h : ∀ t, dst = some t → t ∉ o.looksAt ops) :
    ∀ σ, Qef st P T hc ops i (QN a dst d) σ = Qef st P T hc ops i a σ := by
  have hx : ∀ x ∈ o.op.operands, eval (QN a dst d) x = eval a x := fun x hx => Qd4 fun t ht e => h t ht (by
    unfold Oper.looksAt
    rw [List.mem_append]; left
    rw [List.mem_filterMap]
    exact ⟨x, by simpa using hx, by rw [e]⟩)
  have hw := Qco (a := a) (d := d) h
  intro σ
  simp only [Qef, ho, hw]
  rw [doneO_congr (st := st) (P := P) (T := T) (σ := σ) hx]
theorem swapH {ops : Array Oper} {j i : Nat} {rest : List Nat} {r : (Nat → DV) × S} (hl : Qf8 ops j i = true)
    (h : Qcz st P T hc ops (j :: i :: rest) a σ = some r) : Qcz st P T hc ops (i :: j :: rest) a σ = some r := by
  unfold Qf8 at hl
  split at hl
  · next oj oi hoj hoi =>
    simp only [Bool.and_eq_true, Bool.not_eq_true'] at hl
    obtain ⟨hap, hc1⟩ := hl
    obtain ⟨s1, s2, s3⟩ := Oper.apart_spec hap
    have hdj : Qaa ops j = oj.dst := by simp [Qaa, hoj]
    have hdi : Qaa ops i = oi.dst := by simp [Qaa, hoi]
    simp only [Qcz] at h ⊢
    cases hj : Qef st P T hc ops j a σ with
    | none => rw [hj] at h; simp at h
    | some p =>
      obtain ⟨dj, σ1⟩ := p
      rw [hj] at h
      simp only [] at h
      have e1 := Qf7 (st := st) (P := P) (T := T) (hc := hc) (a := a) (d := dj) (dst := Qaa ops j) hoi (fun t q => s1 t (hdj ▸ q))
      rw [e1] at h
      cases hi : Qef st P T hc ops i a σ1 with
      | none => rw [hi] at h; simp at h
      | some q =>
        obtain ⟨di, σ2⟩ := q
        rw [hi] at h
        simp only [] at h
        have hcomm : QN (QN a (Qaa ops j) dj) (Qaa ops i) di = QN (QN a (Qaa ops i) di) (Qaa ops j) dj :=
          QdP fun t q => by rw [hdi]; exact s2 t (hdj ▸ q)
        have e2 := Qf7 (st := st) (P := P) (T := T) (hc := hc) (a := a) (d := di) (dst := Qaa ops i) hoj (fun t q => s3 t (hdi ▸ q))
        cases hcj : Qfg oj.op with
        | false =>
          obtain ⟨rfl, hall⟩ := QfJ (by simp [Qja, hoj, hcj]) hj
          rw [hi]
          simp only [e2, hall]
          rw [← hcomm]; exact h
        | true =>
          have hci : Qfg oi.op = false := by rw [hcj] at hc1; simpa using hc1
          obtain ⟨rfl, hall⟩ := QfJ (by simp [Qja, hoi, hci]) hi
          rw [hall]
          simp only [e2, hj]
          rw [← hcomm]; exact h
  · simp at hl
theorem Qk8 {ops : Array Oper} {i : Nat} {r : (Nat → DV) × S} : ∀ (pre post : List Nat) (a : Nat → DV) (σ : S), (∀ j ∈ pre, Qf8 ops j i = true) →
    Qcz st P T hc ops (pre ++ i :: post) a σ = some r → Qcz st P T hc ops (i :: (pre ++ post)) a σ = some r
  | [], post, a, σ, _, h => h
  | j :: pre, post, a, σ, hl, h => by
    simp only [List.cons_append] at h ⊢
    refine swapH (hl j (by simp)) ?_
    simp only [Qcz] at h ⊢
    cases hd : Qef st P T hc ops j a σ with
    | none => rw [hd] at h; simp at h
    | some p =>
      obtain ⟨d, σ'⟩ := p
      rw [hd] at h
      simp only [] at h ⊢
      have := Qk8 pre post _ _ (fun k hk => hl k (by simp [hk])) h
      simpa only [Qcz] using this
def QdQ (ops : Array Oper) : Bool :=
  (List.range ops.size).all fun i => (direct ops i).all (fun e => decide (e < i)) && (List.range i).all fun j => (anc ops ops.size (direct ops i)).contains j || Qf8 ops j i
theorem Qde {ops : Array Oper} (h : QdQ ops = true) {i : Nat} (hi : i < ops.size) :
    (∀ e ∈ direct ops i, e < i) ∧ ∀ j, j < i → j ∈ anc ops ops.size (direct ops i) ∨ Qf8 ops j i = true := by
  have h1 := List.all_eq_true.1 h i (List.mem_range.2 hi)
  simp only [Bool.and_eq_true] at h1
  refine ⟨fun e he => by simpa using List.all_eq_true.1 h1.1 e he, fun j hj => ?_⟩
  have h2 := List.all_eq_true.1 h1.2 j (List.mem_range.2 hj)
  simp only [Bool.or_eq_true] at h2
  exact h2.imp (fun q => by simpa using q) (fun q => q)
theorem Rg.opH {ops : Array Oper} {K : (Nat → DV) → St → Prop} {i : Nat} {rest : List Nat} {d : DV} {σ1 : S} (hT : QH P T) (hhc : HcOk st P hc) (hd : Q8 n ops = true) (h : Qef st P T hc ops i a σ = some (d, σ1))
    (hr : Rg P E n ops K rest (QN a (Qaa ops i) d) (st σ1)) : Rg P E n ops K (i :: rest) a (st σ) := by
  unfold Qef at h
  split at h
  · simp at h
  · next o ho =>
    have hdo : Qaa ops i = o.dst := by simp [Qaa, ho]
    rw [hdo] at hr
    split at h
    · next hw =>
      unfold Qe9 at h
      split at h
      · next x args tys hop =>
        obtain ⟨⟨g, xs⟩, h1, h2⟩ := Option.bind_eq_some_iff.1 h
        refine Rg.call hd ho hop hw h1 (hhc _ _ _ _ _ h2) ?_
        rintro d2 σ2 ⟨rfl, rfl⟩; exact hr
      · split at h
        · next ht =>
          have hu : Qam o.op = false := by
            revert ht
            cases o.op <;> simp [touch, Qam]
            next c =>
              obtain ⟨callee, args, tys⟩ := c
              cases callee with
              | builtin b => cases b <;> simp [touch, Qam]
              | _ => simp [touch, Qam]
          obtain ⟨⟨d', σ2⟩, h1, h2⟩ := Option.map_eq_some_iff.1 h
          simp only [Prod.mk.injEq] at h2; obtain ⟨rfl, rfl⟩ := h2
          have := Qbw h1
          rw [ht] at this
          obtain ⟨rfl, _⟩ := this
          exact Rg.op0 hT hd ho hw hu h1 rfl hr
        · simp at h
    · next hw => simp at h; obtain ⟨rfl, rfl⟩ := h; exact Rg.no hd ho hw hr
    · simp at h
theorem Rg.runX {ops : Array Oper} {K : (Nat → DV) → St → Prop} (hT : QH P T) (hhc : HcOk st P hc) (hd : Q8 n ops = true) : ∀ (l : List Nat) (a : Nat → DV) (σ : S) (r : (Nat → DV) × S), Qcz st P T hc ops l a σ = some r → K r.1 (st r.2) → Rg P E n ops K l a (st σ)
  | [], a, σ, r, h, hk => by simp [Qcz] at h; subst h; exact Rg.nil hk
  | i :: l, a, σ, r, h, hk => by
    simp only [Qcz] at h
    split at h
    · next d σ1 hi => exact Rg.opH hT hhc hd hi (Rg.runX hT hhc hd l _ _ r h hk)
    · simp at h
theorem orderX {ops : Array Oper} {r : (Nat → DV) × S} (hany : QdQ ops = true) : ∀ (fuel t : Nat) (l : List Nat) (listed : Array Bool) (a : Nat → DV) (σ : S), l.length ≤ fuel → l.Pairwise (· < ·) → (∀ i, i ∈ l ↔ i < ops.size ∧ listed.getD i true = false) →
    listed.size = ops.size → (∀ m, listed.getD m false = true → ∀ e ∈ direct ops m, listed.getD e false = true) → Qcz st P T hc ops l a σ = some r → Qcz st P T hc ops (Region.linearise.go .any ops fuel t listed []) a σ = some r := by
  intro fuel
  induction fuel with
  | zero =>
    intro t l listed a σ hlen _ _ _ _ hr
    have hl : l = [] := List.eq_nil_of_length_eq_zero (by omega)
    subst hl
    simpa [Region.linearise.go] using hr
  | succ fuel ih =>
    intro t l listed a σ hlen hp hmem hsz hcl hr
    simp only [Region.linearise.go]
    change Qcz st P T hc ops (match (Region.ready .any ops listed)[t % (Region.ready .any ops listed).length]? with
      | some i => Region.linearise.go .any ops fuel (t / (Region.ready .any ops listed).length) (listed.setIfInBounds i true) [i]
      | none => [].reverse) a σ = some r
    cases hi : (Region.ready .any ops listed)[t % (Region.ready .any ops listed).length]? with
    | none =>
      have hnil : Region.ready .any ops listed = [] := by
        cases hrd : Region.ready .any ops listed with
        | nil => rfl
        | cons x xs =>
          rw [hrd] at hi
          have hlt : t % (x :: xs).length < (x :: xs).length := Nat.mod_lt _ (by simp)
          simp at hi; simp at hlt; omega
      cases l with
      | nil => simpa using hr
      | cons m r' =>
        exfalso
        obtain ⟨hm1, hm2⟩ := (hmem m).1 (by simp)
        have : m ∈ Region.ready .any ops listed := by
          refine mem_ready.2 ⟨hm2, ops[m], by simp [hm1], fun e he hb => ?_⟩
          have hdir : e.on ∈ direct ops m := QaS.2 ⟨ops[m], by simp [hm1], e, he, hb, rfl⟩
          have hlt := (Qde hany hm1).1 _ hdir
          have hnl : e.on ∉ m :: r' := by
            intro hin
            rcases List.mem_cons.1 hin with q | q
            · omega
            · have := (List.pairwise_cons.1 hp).1 _ q; omega
          have h3 : ¬ (listed.getD e.on true = false) := fun q => hnl ((hmem e.on).2 ⟨by omega, q⟩)
          rw [Qaz (by omega)] at h3
          simpa using h3
        rw [hnil] at this; simp at this
    | some i =>
      simp only []
      rw [linearise_go_acc, List.reverse_singleton, List.singleton_append]
      have hi' := List.mem_of_getElem? hi
      obtain ⟨h0, o, ho, hall⟩ := mem_ready.1 hi'
      have hi1 : i < ops.size := (Array.getElem?_eq_some_iff.1 ho).1
      have hil : i ∈ l := (hmem i).2 ⟨hi1, h0⟩
      obtain ⟨pre, post, hsplit⟩ := List.append_of_mem hil
      subst hsplit
      have hp' := List.pairwise_append.1 hp
      have hloose : ∀ j ∈ pre, Qf8 ops j i = true := by
        intro j hj
        have hji : j < i := hp'.2.2 j hj i (by simp)
        rcases (Qde hany hi1).2 j hji with q | q
        · exfalso
          have hL : listed.getD j false = true := by
            refine Qed (L := fun k => listed.getD k false = true) hcl ops.size (direct ops i) (fun x hx => ?_) j q
            obtain ⟨o', ho', ed, hed, hb, rfl⟩ := QaS.1 hx
            rw [ho] at ho'; cases ho'
            exact hall ed hed hb
          have h2 := ((hmem j).1 (by simp [hj])).2
          rw [Qaz (by omega)] at h2
          exact h2 hL
        · exact q
      have hr2 := Qk8 pre post a σ hloose hr
      have hnd : (pre ++ i :: post).Nodup := hp.imp (fun h => by omega)
      have hnotin : i ∉ pre ++ post := by
        intro hin
        rw [List.nodup_append] at hnd
        rcases List.mem_append.1 hin with q | q
        · exact hnd.2.2 i q i (by simp) rfl
        · exact (List.nodup_cons.1 hnd.2.1).1 q
      have hpair : (pre ++ post).Pairwise (· < ·) := by
        rw [List.pairwise_append]
        exact ⟨hp'.1, (List.pairwise_cons.1 hp'.2.1).2, fun x hx y hy => hp'.2.2 x hx y (by simp [hy])⟩
      have hmem' : ∀ k, k ∈ pre ++ post ↔ k < ops.size ∧ (listed.setIfInBounds i true).getD k true = false := by
        intro k
        by_cases hki : k = i
        · subst hki
          simp only [hnotin, false_iff, not_and]
          intro hk
          have : k < listed.size := by omega
          simp [this]
        · rw [getD_set_ne true (Ne.symm hki), ← hmem k]
          simp [hki]
      have hcl' : ∀ m, (listed.setIfInBounds i true).getD m false = true → ∀ e ∈ direct ops m, (listed.setIfInBounds i true).getD e false = true := by
        intro m hm e he
        by_cases hmi : m = i
        · subst hmi
          obtain ⟨o', ho', ed, hed, hb, rfl⟩ := QaS.1 he
          rw [ho] at ho'; cases ho'
          exact getD_set_true (hall ed hed hb)
        · rw [getD_set_ne false (Ne.symm hmi)] at hm
          exact getD_set_true (hcl m hm e he)
      have hlen' : (pre ++ post).length ≤ fuel := by simp at hlen ⊢; omega
      simp only [Qcz] at hr2 ⊢
      split at hr2
      · next d σ1 hdn => first | exact ih _ _ _ _ _ hlen' hpair hmem' (by simp [hsz]) hcl' hr2 | (rw [hdn]; exact ih _ _ _ _ _ hlen' hpair hmem' (by simp [hsz]) hcl' hr2)
      · simp at hr2
theorem Dwp.drawX {T' : Tab} {id : Nat} {ops : Array Oper} {Q : Ex → (Nat → DV) → St → Prop} {a' : Nat → DV} {σ' : S} (hm : P.follows .mixedOrders = true) (hT : QH P T') (hhc : HcOk st P hc) (hd : Q8 n ops = true) (hany : QdQ ops = true)
    (h : Qcz st P T' hc ops (List.range ops.size) a σ = some (a', σ')) (hq : Q .normal a' (st σ')) : Dwp P T E n (.region id ops true) Q a (st σ) :=
  ⟨fun ca w ds hok => wp_region_draw fun t => by
    simp only [Region.schedule, hm, Bool.true_or, if_true]
    have hx := orderX (st := st) (P := P) (T := T') (hc := hc) hany ops.size t (List.range ops.size) (Array.replicate ops.size false) a σ (by simp) List.pairwise_lt_range (fun i => by simp; intro hi; simp [hi]) (by simp) (fun m hm' => by
      exfalso
      simp only [Array.getD_eq_getD_getElem?, Array.getElem?_replicate] at hm'
      split at hm' <;> simp at hm') h
    exact Rg.runX (E := E) (K := Q .normal) hT hhc hd _ _ _ _ hx hq ca w.drew ds _ hok.drew fun ca' w' a2 σ2 hk hok' => ⟨rfl, .normal, a2, σ2, rfl, hk, hok'⟩⟩
end Go.FA
namespace Go.FA
open Go.RowKit
variable {P : Program} {E : Entry} {F : Nat → Prop} {C : Ctx} {w : World} {σ : St}
def softTag : Tag → Tag
  | .tok _ _ => .none
  | .full => .none
  | t => t
def chunks (k : Nat) : Nat → List DV → List (List DV)
  | 0, _ => []
  | n + 1, l => l.take k :: chunks k n (l.drop k)
theorem QfP (k : Nat) : ∀ (n : Nat) (l : List DV), n * k ≤ l.length → (chunks k n l).length = n ∧ (∀ r ∈ chunks k n l, r.length = k) ∧ (chunks k n l).flatten = l.take (n * k)
  | 0, l, _ => by simp [chunks]
  | n + 1, l, h => by
    rw [Nat.succ_mul] at h
    obtain ⟨h1, h2, h3⟩ := QfP k n (l.drop k) (by simp; omega)
    refine ⟨by simp [chunks, h1], ?_, ?_⟩
    · intro r hr
      simp only [chunks, List.mem_cons] at hr
      rcases hr with rfl | hr
      · simp; omega
      · exact h2 r hr
    · simp only [chunks, List.flatten_cons, h3]
      rw [Nat.succ_mul, Nat.add_comm (n * k) k, List.take_add]
def QgE : Option Qjt → Option (List DV)
  | some (.cells _ cs) => some cs
  | some (.buf _ cs) => some cs
  | _ => none
def Qb9 (σ : St) : Nat → DV → DV
  | 0, d => d
  | f + 1, d => match d with
    | .row cells off => .row (cells.map (Qb9 σ f)) off
    | .slice k tag rows => .slice k (softTag tag) (rows.map fun r => r.map (Qb9 σ f))
    | .live id k off n => match QgE (σ.objs id) with
      | some cs => match Nat.ble (off + n * k) cs.length with
        | true => .slice k .none (chunks k n ((cs.map (Qb9 σ f)).drop off))
        | false => .live id k off n
      | none => .live id k off n
    | .map id => match σ.objs id with
      | some (.map ks vs) => .fmap ks (vs.map (Qb9 σ f))
      | _ => .map id
    | .fmap ks vs => .fmap ks (vs.map (Qb9 σ f))
    | .func fn a c => .func fn (a.map (Qb9 σ f)) (c.map (Qb9 σ f))
    | .iface t x => .iface t (Qb9 σ f x)
    | .agg cs => .agg (cs.map (Qb9 σ f))
    | .tuple cs => .tuple (cs.map (Qb9 σ f))
    | d => d
def Ctx.all (E : Entry) (C : Ctx) (w : World) : Ctx := { C with pc := fun b o => C.pc b o ∨ (E.B ≤ b ∧ b < w.heap.size), pm := fun b => C.pm b ∨ (E.B ≤ b ∧ b < w.heap.size) }
theorem Qd9 {C C' : Ctx} {f : DV → DV} (hp : ∀ b o, C.pc b o → C'.pc b o) (h : ∀ d v, Qy C w d v → Qy C' w (f d) v) {b : Nat} : ∀ {ds : List DV} {o : Nat}, Qa6 C w b o ds → Qa6 C' w b o (ds.map f)
  | [], _, _ => by simp [Qa6]
  | d :: ds, o, hh => by
    simp only [Qa6, List.map_cons] at hh ⊢
    obtain ⟨⟨h1, v, h2, h3, h4⟩, h5⟩ := hh
    exact ⟨⟨hp _ _ h1, v, h2, h3, h _ _ h4⟩, Qd9 hp h h5⟩
theorem Qfk {C C' : Ctx} {f : DV → DV} (hp : ∀ b o, C.pc b o → C'.pc b o) (h : ∀ d v, Qy C w d v → Qy C' w (f d) v) {k b : Nat} : ∀ {rs : List (List DV)} {o : Nat}, QaP C w k b o rs → QaP C' w k b o (rs.map fun r => r.map f)
  | [], _, _ => by simp [QaP]
  | r :: rs, o, hh => by
    simp only [QaP, List.map_cons, List.length_map] at hh ⊢
    exact ⟨hh.1, Qd9 hp h hh.2.1, Qfk hp h hh.2.2⟩
theorem Qjg (hs : Qav E F C w σ) : ∀ (f : Nat) (d : DV) (v : Value), Qy C w d v → Qy (Ctx.all E C w) w (Qb9 σ f d) v := by
  have hle : C.Le (Ctx.all E C w) := ⟨fun _ _ e => e, fun _ x e => ⟨x, e, Nat.le_refl _, fun _ => rfl⟩, fun _ _ p => .inl p, fun _ p => .inl p, rfl⟩
  have keep : ∀ {d v}, Qy C w d v → Qy (Ctx.all E C w) w d v := fun h => QaH hle (.refl C w) _ _ h
  intro f
  induction f with
  | zero => intro d v h; exact keep h
  | succ f ih =>
    intro d v h
    have hp : ∀ b o, C.pc b o → (Ctx.all E C w).pc b o := fun _ _ p => .inl p
    cases d with
    | row cells off =>
      simp only [Qy, Qb9] at h ⊢
      obtain ⟨b, o, rfl, hr⟩ := h
      exact ⟨b, o, rfl, Qd9 hp ih hr⟩
    | slice k tag rows =>
      simp only [Qy, Qb9, List.length_map] at h ⊢
      rcases h with ⟨b, o, cap, rfl, h1, h2, h3⟩ | ⟨ad, rfl, rfl, h3⟩
      · exact .inl ⟨b, o, cap, rfl, h1, Qfk hp ih h2, by cases tag <;> trivial⟩
      · refine .inr ⟨ad, rfl, rfl, ?_⟩
        cases tag <;> first | exact h3 | trivial
    | live id k off n =>
      simp only [Qb9]
      split
      · next cs ho =>
        split
        · next hb =>
          have hle' : off + n * k ≤ cs.length := Nat.le_of_ble_eq_true hb
          simp only [Qy] at h ⊢
          obtain ⟨b, cap, c, e, hb1, rfl, hcap, _⟩ := h
          have key : E.B ≤ b ∧ b < w.heap.size ∧ Mem C w b 0 cs := by
            unfold QgE at ho
            split at ho
            · next t cs' hob =>
              simp at ho; subst ho
              obtain ⟨b', hb', hB, hlt, _, _, hO⟩ := hs.obj _ _ hob
              obtain rfl : b = b' := by rw [hb1] at hb'; exact Option.some.inj hb'
              exact ⟨hB, hlt, Mem.of_obj hO⟩
            · next t cs' hob =>
              simp at ho; subst ho
              obtain ⟨b', hb', hB, hlt, _, _, hO⟩ := hs.obj _ _ hob
              obtain rfl : b = b' := by rw [hb1] at hb'; exact Option.some.inj hb'
              exact ⟨hB, hlt, Mem.of_buf hO⟩
            · simp at ho
          obtain ⟨hB, hlt, vs, hl, hf, hc⟩ := key
          have hlen := QY hl
          obtain ⟨q1, q2, q3⟩ := QfP k n ((cs.map (Qb9 σ f)).drop off) (by simp; omega)
          refine .inl ⟨b, off, cap, by rw [q1], by rw [q1]; exact hcap, Qbx q2 ?_, trivial⟩
          rw [q3]
          have hl2 : QP (Ctx.all E C w) w (((cs.map (Qb9 σ f)).drop off).take (n * k)) ((vs.drop off).take (n * k)) := QdO _ (QdT _ (Qap ih hl))
          refine Qdv hl2 ((hf.drop _).take _) fun j v hj => ⟨.inr ⟨hB, hlt⟩, ?_⟩
          have hj' : vs[off + j]? = some v := by
            by_cases hjs : j < n * k
            · simp [List.getElem?_take, hjs, List.getElem?_drop] at hj; exact hj
            · simp [List.getElem?_take, hjs] at hj
          have := hc _ _ hj'
          rwa [Nat.zero_add] at this
        · exact keep h
      · exact keep h
    | map id =>
      simp only [Qb9]
      split
      · next ks vs ho =>
        simp only [Qy] at h ⊢
        obtain ⟨b, hb, rfl⟩ := h
        obtain ⟨b', hb', hB, hlt, _, _, es, clock, q1, q2, q3, q4⟩ := hs.obj _ _ ho
        obtain rfl : b = b' := by rw [hb] at hb'; exact Option.some.inj hb'
        exact ⟨b, es, clock, rfl, .inr ⟨hB, hlt⟩, q1, q2, Qap ih q3, q4⟩
      · exact keep h
    | fmap ks vs =>
      simp only [Qy, Qb9] at h ⊢
      obtain ⟨b, es, clock, rfl, hp', hh, hk, hl, hst⟩ := h
      exact ⟨b, es, clock, rfl, .inl hp', hh, hk, Qap ih hl, hst⟩
    | func fn a c =>
      simp only [Qy, Qb9] at h ⊢
      obtain ⟨f', c', rfl, h1, h2⟩ := h
      exact ⟨f', c', rfl, Qap ih h1, Qap ih h2⟩
    | iface t x =>
      simp only [Qy, Qb9] at h ⊢
      obtain ⟨y, rfl, h1⟩ := h
      exact ⟨y, rfl, ih _ _ h1⟩
    | agg cs =>
      simp only [Qy, Qb9] at h ⊢
      obtain ⟨ys, rfl, h1, h2⟩ := h
      exact ⟨ys, rfl, Qap ih h1, h2⟩
    | tuple cs =>
      simp only [Qy, Qb9] at h ⊢
      obtain ⟨ys, rfl, h1⟩ := h
      exact ⟨ys, rfl, Qap ih h1⟩
    | junk => exact keep h
    | strNot l => exact keep h
    | lit v => exact keep h
    | ptr id off => exact keep h
theorem Qb.of_pure {g : FuncId} {S : Sp} (h : ∀ xs r, S xs = some r → QaX xs = true ∧ QaV r = true ∧ ∃ f, HC P g xs σ0 (fun d σ' => Qb9 σ' f d = r)) : Qb P g S := by
  intro xs r hr
  obtain ⟨hpx, hpr, f, hh⟩ := h xs r hr
  refine .inl ⟨QeR hpr, fun C w cargs hgl hpc hpm hl => ?_⟩
  obtain ⟨hsz, C0, hg, hs0⟩ := QdK (n := xs.length) hgl hpc hpm hpx hl (Nat.le_refl _)
  have hl0 : QP C0 w xs cargs := QS hg.le hg.st _ _ (Qbb (C := C) (C' := ⟨fun _ => none, fun _ => none, C.pc, C.pm, w.heap.size⟩) (fun _ _ p => p) (fun _ p => p) _ _ hpx hl)
  refine (hh.2 _ C0 w cargs hl0 hs0).mono fun e w' ⟨v, he, d, σ', hd, C', r1, r2, r3, r4⟩ => ?_
  subst hd
  exact ⟨v, he, r4.below, Qcl (C := Ctx.all _ C' w') (fun b o p => Or.elim p (fun q => r4.psub b o q) (fun q => Or.inr q)) (fun b p => Or.elim p (fun q => r4.msub b q) (fun q => Or.inr q)) _ _ hpr (Qjg r4 f _ _ r3)⟩
end Go.FA
