/- Contracts of functions of the program, by a machine over abstract values; part 2. No condition beyond those of each theorem. -/
import Derived.Test.YtboifamdcpelfaaGreatSm0
import Derived.Orders
import Derived.Carry
import Derived.ChangeArms
import Derived.DataReads
import Derived.ChangeSame
import Derived.Test.YtboifamdcpelfaaGreatProg
import Derived.Shelf.Strings.Search1
import Derived.Shelf.Spec.SlicesGrow
namespace Go.FA
open Go.RowKit
set_option linter.unusedVariables false
set_option linter.unusedSimpArgs false
variable {P : Program} {T : Tab} {E : Entry} {F : Nat → Prop} {C : Ctx} {w : World} {σ : St} {n : Nat} {Q : Ex → (Nat → DV) → St → Prop} {a : Nat → DV}

inductive Touch where
  | none | robj | wobj | newobj | tok
  deriving DecidableEq

def touchP (d : DV) : Touch := match d with | .ptr _ _ => .robj | .map _ => .robj | _ => .none
def touch (a : Nat → DV) : Op → Touch
  | .load _ x => touchP (eval a x)
  | .lookup _ m _ _ => touchP (eval a m)
  | .store .. | .mapUpdate .. => .wobj
  | .makeMap .. | .alloc _ | .range .. => .newobj
  | .entry _ => .robj
  | .call ⟨.builtin .append, _, _⟩ => .tok
  | _ => .none

def clash : Touch → Touch → Bool
  | .wobj, .robj | .robj, .wobj | .wobj, .wobj | .newobj, .robj | .robj, .newobj | .newobj, .wobj | .wobj, .newobj | .tok, .tok => true
  | _, _ => false

/-- how an operation's doing hangs on the state -/
def Hangs (P : Program) (T : Tab) (id : Nat) (a : Nat → DV) (σ : St) (f : St → Option (DV × St)) (d : DV) (σ1 : St) : Touch → Prop
  | .none => σ1 = σ ∧ ∀ σ', f σ' = some (d, σ')
  | .robj => σ1 = σ ∧ ∀ σ', σ'.objs = σ.objs → f σ' = some (d, σ')
  | .wobj => σ1.toks = σ.toks ∧ σ1.n = σ.n ∧ ∀ σ', σ'.objs = σ.objs → f σ' = some (d, { σ' with objs := σ1.objs })
  | .newobj => ∃ ob, σ1 = { σ with objs := upd σ.objs id (some ob) } ∧ ∀ σ', f σ' = some (d, { σ' with objs := upd σ'.objs id (some ob) })
  | .tok => σ1.objs = σ.objs ∧ σ1.n = σ.n ∧ ∀ σ', σ'.toks = σ.toks → f σ' = some (d, { σ' with toks := σ1.toks })

theorem appTag_hangs {id : Nat} {s : DV} {tk g' : Nat} {σ σ1 : St} (h : appTag σ id s = some (tk, g', σ1)) : σ1.objs = σ.objs ∧ σ1.n = σ.n ∧ ∀ σ' : St, σ'.toks = σ.toks → appTag σ' id s = some (tk, g', { σ' with toks := σ1.toks }) := by
  unfold appTag at h
  split at h
  · split at h
    · next hg =>
      simp at h; obtain ⟨rfl, rfl, rfl⟩ := h
      exact ⟨rfl, rfl, fun σ' hσ => by simp only [appTag, hσ, hg, if_true]⟩
    · simp at h
  · simp at h; obtain ⟨rfl, rfl, rfl⟩ := h
    exact ⟨rfl, rfl, fun σ' hσ => by simp only [appTag, hσ]⟩
  · simp at h; obtain ⟨rfl, rfl, rfl⟩ := h
    exact ⟨rfl, rfl, fun σ' hσ => by simp only [appTag, hσ]⟩
  · simp at h

theorem dop_hangs {id : Nat} {o : Op} {d : DV} {σ1 : St} (h : dop P T id a σ o = some (d, σ1)) : Hangs P T id a σ (fun σ' => dop P T id a σ' o) d σ1 (touch a o) := by
  have plain : ∀ {f : Option DV}, f.map (fun d => (d, σ)) = some (d, σ1) → σ1 = σ ∧ ∀ σ' : St, f.map (fun d => (d, σ')) = some (d, σ') := by
    intro f hf
    obtain ⟨d', h1, h0⟩ := Option.map_eq_some_iff.1 hf
    cases h0; exact ⟨rfl, fun σ' => by simp [h1]⟩
  cases o with
  | move x => simp [dop] at h; obtain ⟨rfl, rfl⟩ := h; exact ⟨rfl, fun _ => rfl⟩
  | assign x => simp [dop] at h; obtain ⟨rfl, rfl⟩ := h; exact ⟨rfl, fun _ => rfl⟩
  | pick c x y =>
    simp only [dop] at h
    split at h
    · next b hb => simp at h; obtain ⟨rfl, rfl⟩ := h; exact ⟨rfl, fun σ' => by simp [dop, hb]⟩
    · simp at h
  | extract x i =>
    simp only [dop] at h
    split at h
    · next vs hv => obtain ⟨h1, h2⟩ := plain h; exact ⟨h1, fun σ' => by simp only [dop, hv]; exact h2 σ'⟩
    · simp at h
  | load t x =>
    simp only [dop] at h
    obtain ⟨d', h1, h0⟩ := Option.map_eq_some_iff.1 h
    cases h0
    show Hangs P T id a σ _ d σ (touchP (eval a x))
    cases he : eval a x with
    | ptr i o =>
      refine ⟨rfl, fun σ' hσ => ?_⟩
      have : dload P σ' t (eval a x) = dload P σ t (eval a x) := by rw [he]; simp only [dload, hσ]
      simp only [dop, this, h1, Option.map_some]
    | row cells off => exact ⟨rfl, fun σ' => by rw [he] at h1; simp only [dop, he]; simp only [dload] at h1 ⊢; simp only [h1, Option.map_some]⟩
    | _ => rw [he] at h1; simp [dload] at h1
  | store t ad x =>
    simp only [dop] at h
    obtain ⟨σ2, h1, h0⟩ := Option.map_eq_some_iff.1 h
    cases h0
    have key : σ1.toks = σ.toks ∧ σ1.n = σ.n ∧ ∀ σ' : St, σ'.objs = σ.objs → dstore P σ' t (eval a ad) (eval a x) = some { σ' with objs := σ1.objs } := by
      unfold dstore at h1
      split at h1
      · next id' off i xs q1 q2 q3 =>
        split at h1
        · next e cs q4 =>
          split at h1
          · next q5 =>
            simp at h1; subst h1
            refine ⟨rfl, rfl, fun σ' hσ => ?_⟩
            unfold dstore
            rw [q1, q2, q3]
            simp only [hσ, q4, q5, if_true]
          · simp at h1
        · simp at h1
      · simp at h1
    exact ⟨key.1, key.2.1, fun σ' hσ => by simp only [dop, key.2.2 σ' hσ, Option.map_some]⟩
  | fieldAddr s x f => simp only [dop] at h; obtain ⟨h1, h2⟩ := plain h; exact ⟨h1, h2⟩
  | field s x f => simp only [dop] at h; obtain ⟨h1, h2⟩ := plain h; exact ⟨h1, h2⟩
  | indexAddr t x i => simp only [dop] at h; obtain ⟨h1, h2⟩ := plain h; exact ⟨h1, h2⟩
  | index t x i => simp only [dop] at h; obtain ⟨h1, h2⟩ := plain h; exact ⟨h1, h2⟩
  | binOp op t x y yt => simp only [dop] at h; obtain ⟨h1, h2⟩ := plain h; exact ⟨h1, h2⟩
  | unOp op t x =>
    simp only [dop] at h
    split at h
    · next b hb => simp at h; obtain ⟨rfl, rfl⟩ := h; exact ⟨rfl, fun σ' => by simp [dop, hb]⟩
    · simp at h
  | lookup t m k ok =>
    simp only [dop] at h
    obtain ⟨d', h1, h0⟩ := Option.map_eq_some_iff.1 h
    cases h0
    show Hangs P T id a σ _ d σ (touchP (eval a m))
    have other : (∀ i, eval a m ≠ .map i) → ∀ σ', dop P T id a σ' (.lookup t m k ok) = some (d, σ') := by
      intro hne σ'
      have : mapOf σ' (eval a m) = mapOf σ (eval a m) := by
        cases he : eval a m with
        | map i => exact absurd he (hne i)
        | lit v => cases v with
          | map r => cases r <;> rfl
          | _ => rfl
        | _ => rfl
      simp only [dlookup] at h1
      simp only [dop, dlookup, this, h1, Option.map_some]
    cases he : eval a m with
    | map i =>
      refine ⟨rfl, fun σ' hσ => ?_⟩
      have : dlookup P σ' t (eval a m) (eval a k) ok = dlookup P σ t (eval a m) (eval a k) ok := by rw [he]; simp only [dlookup, mapOf, hσ]
      simp only [dop, this, h1, Option.map_some]
    | ptr i o => exact ⟨rfl, fun σ' _ => other (fun i e => by rw [he] at e; cases e) σ'⟩
    | _ => exact ⟨rfl, other (fun i e => by rw [he] at e; cases e)⟩
  | mapUpdate t m k x =>
    simp only [dop] at h
    obtain ⟨σ2, h1, h0⟩ := Option.map_eq_some_iff.1 h
    cases h0
    have key : σ1.toks = σ.toks ∧ σ1.n = σ.n ∧ ∀ σ' : St, σ'.objs = σ.objs → dmapUpdate P σ' t (eval a m) (eval a k) (eval a x) = some { σ' with objs := σ1.objs } := by
      unfold dmapUpdate at h1
      split at h1
      · next kt et _ _ _ id' kv q1 q2 q3 =>
        split at h1
        · next ki ks vs q4 q5 =>
          split at h1
          · next q6 =>
            obtain ⟨r, q7, rfl⟩ := Option.map_eq_some_iff.1 h1
            refine ⟨rfl, rfl, fun σ' hσ => ?_⟩
            unfold dmapUpdate
            rw [q1, q2, q3]
            simp only [hσ, q4, q5, q6, if_true, q7, Option.map_some]
          · simp at h1
        · simp at h1
      · simp at h1
    exact ⟨key.1, key.2.1, fun σ' hσ => by simp only [dop, key.2.2 σ' hσ, Option.map_some]⟩
  | makeMap t r =>
    cases r with
    | some _ => simp [dop] at h
    | none => simp [dop] at h; obtain ⟨rfl, rfl⟩ := h; exact ⟨_, rfl, fun _ => rfl⟩
  | alloc t =>
    simp only [dop, Option.bind_eq_some_iff] at h
    obtain ⟨i, h1, cs, h2, h0⟩ := h
    cases h0
    exact ⟨_, rfl, fun σ' => by simp [dop, h1, h2]⟩
  | range t x =>
    simp only [dop] at h
    split at h
    · next kt et _ _ _ ks vs ht he => simp at h; obtain ⟨rfl, rfl⟩ := h; exact ⟨_, rfl, fun σ' => by simp only [dop, ht, he]⟩
    · simp at h
  | entry x =>
    simp only [dop] at h
    split at h
    · next i he =>
      obtain ⟨d', h1, h0⟩ := Option.map_eq_some_iff.1 h
      cases h0
      refine ⟨rfl, fun σ' hσ => ?_⟩
      have : dentry σ' i = dentry σ i := by simp only [dentry, hσ]
      simp only [dop, he, this, h1, Option.map_some]
    · simp at h
  | box t x =>
    simp only [dop] at h
    obtain ⟨cs, h1, h0⟩ := Option.map_eq_some_iff.1 h
    cases h0
    exact ⟨rfl, fun σ' => by simp [dop, h1]⟩
  | build t parts =>
    simp only [dop] at h
    split at h
    · next hok =>
      obtain ⟨cs, h1, h0⟩ := Option.map_eq_some_iff.1 h
      cases h0
      exact ⟨rfl, fun σ' => by simp only [dop, hok, if_true, h1, Option.map_some]⟩
    · simp at h
  | buildSlice t len parts =>
    simp only [dop] at h
    split at h
    · next e _ _ _ ht =>
      split at h
      · next i hi =>
        split at h
        · next hc =>
          obtain ⟨rs, h1, h0⟩ := Option.map_eq_some_iff.1 h
          cases h0
          exact ⟨rfl, fun σ' => by simp only [dop, ht, hi]; rw [if_pos hc, h1]; rfl⟩
        · simp at h
      · simp at h
    · simp at h
  | makeFunc fn first captured => simp [dop] at h; obtain ⟨rfl, rfl⟩ := h; exact ⟨rfl, fun _ => rfl⟩
  | slice t x lo hi mx => simp only [dop] at h; obtain ⟨h1, h2⟩ := plain h; exact ⟨h1, h2⟩
  | call c =>
    obtain ⟨callee, args, tys⟩ := c
    cases callee with
    | value x =>
      simp only [dop, Option.bind_eq_some_iff] at h
      obtain ⟨⟨g, xs⟩, h1, h2⟩ := h
      obtain ⟨q1, q2⟩ := plain h2
      exact ⟨q1, fun σ' => by simp only [dop, h1, Option.bind_some]; exact q2 σ'⟩
    | invoke r m => simp [dop] at h
    | builtin b =>
      simp only [dop] at h
      unfold dbuiltin at h
      split at h
      · next t x hty hargs =>
        split at h
        · next i hi =>
          split at h
          · next hl =>
            obtain ⟨q1, q2⟩ := plain h
            exact ⟨q1, fun σ' => by simp only [dop, hty, hargs, dbuiltin, hi, hl, if_true]; exact q2 σ'⟩
          · simp at h
        · simp at h
      · next t t' s x hty hargs =>
        split at h
        · next htt =>
          subst htt
          unfold dappend at h
          split at h
          · next e _ _ _ ht =>
            split at h
            · next i hi =>
              split at h
              · next rs xs tk g' σ2 q1 q2 q3 =>
                split at h
                · next hc =>
                  simp at h; obtain ⟨rfl, rfl⟩ := h
                  obtain ⟨r1, r2, r3⟩ := appTag_hangs q3
                  refine ⟨r1, r2, fun σ' hσ => ?_⟩
                  simp only [dop, hty, hargs, dbuiltin, if_true, dappend, ht, hi, q1, q2, r3 σ' hσ]
                  rw [if_pos hc]
                · simp at h
              · simp at h
            · simp at h
          · simp at h
        · simp at h
      · simp at h
  | _ => simp [dop] at h
theorem dop_congr {id : Nat} {a' : Nat → DV} {o : Op} (h : ∀ x ∈ o.operands, eval a x = eval a' x) : dop P T id a σ o = dop P T id a' σ o ∧ touch a o = touch a' o := by
  have ml : ∀ (l : Array Operand), (∀ x ∈ l, eval a x = eval a' x) → l.toList.map (eval a) = l.toList.map (eval a') := fun l hl => List.map_congr_left fun x hx => hl x (by simpa using hx)
  have mo : ∀ (l : Option Operand), (∀ x, l = some x → eval a x = eval a' x) → l.map (eval a) = l.map (eval a') := fun l hl => by cases l with
    | none => rfl
    | some x => simp [hl x rfl]
  cases o with
  | build t parts =>
    have : parts.toList.map (fun p => (p.1, eval a p.2)) = parts.toList.map (fun p => (p.1, eval a' p.2)) := List.map_congr_left fun p hp => by
      rw [h p.2 (by simp [Op.operands]; exact ⟨p.1, by simpa using hp⟩)]
    exact ⟨by simp only [dop, this], rfl⟩
  | buildSlice t len parts =>
    have : parts.toList.map (fun p => (p.1, eval a p.2)) = parts.toList.map (fun p => (p.1, eval a' p.2)) := List.map_congr_left fun p hp => by
      rw [h p.2 (by simp [Op.operands]; exact ⟨p.1, by simpa using hp⟩)]
    exact ⟨by simp only [dop, this], rfl⟩
  | makeFunc fn first captured =>
    exact ⟨by simp only [dop]; rw [ml first (fun x hx => h x (by simp [Op.operands, hx])), ml captured (fun x hx => h x (by simp [Op.operands, hx]))], rfl⟩
  | slice t x lo hi mx =>
    refine ⟨?_, rfl⟩
    simp only [dop]
    rw [h x (by simp [Op.operands]), mo lo (fun y hy => h y (by subst hy; simp [Op.operands])), mo hi (fun y hy => h y (by subst hy; simp [Op.operands])), mo mx (fun y hy => h y (by subst hy; simp [Op.operands]))]
  | call c =>
    obtain ⟨callee, args, tys⟩ := c
    cases callee with
    | value x =>
      have hx : eval a x = eval a' x := h x (by simp [Op.operands, Call.operands])
      have ha := ml args (fun y hy => h y (by simp [Op.operands, Call.operands, hy]))
      exact ⟨by simp only [dop, dcallee, hx, ha], rfl⟩
    | builtin b =>
      have ha := ml args (fun y hy => h y (by simp [Op.operands, Call.operands, hy]))
      exact ⟨by simp only [dop, ha], by cases b <;> rfl⟩
    | invoke r m => exact ⟨rfl, rfl⟩
  | makeMap t r => cases r <;> exact ⟨rfl, rfl⟩
  | _ =>
    simp only [Op.operands] at h
    first
      | exact ⟨rfl, rfl⟩
      | (simp at h; simp [dop, touch, h]; done)
      | (simp at h; simp [dop, touch, h.1, h.2]; done)
      | (simp at h; simp [dop, touch, h.1, h.2.1, h.2.2])
end Go.FA
namespace Go.FA
open Go.RowKit
set_option linter.unusedVariables false
set_option linter.unusedSimpArgs false
variable {P : Program} {T : Tab} {E : Entry} {F : Nat → Prop} {C : Ctx} {w : World} {σ : St} {n : Nat} {Q : Ex → (Nat → DV) → St → Prop} {a : Nat → DV}

/-- an operation of a region done: its value, and the state behind it -/
def done (P : Program) (T : Tab) (ops : Array Oper) (n0 i : Nat) (a : Nat → DV) (σ : St) : Option (DV × St) :=
  match ops[i]? with
  | none => none
  | some o => match dwanted ops a o.guard with
    | some true => dop P T (n0 + i) a σ o.op
    | some false => some (.lit (.tuple #[]), σ)
    | none => none

def dstOf (ops : Array Oper) (i : Nat) : Option Tmp := (ops[i]?).bind (·.dst)

theorem druns_cons {ops : Array Oper} {n0 i : Nat} {rest : List Nat} : druns P T ops n0 (i :: rest) a σ = match done P T ops n0 i a σ with
    | some (d, σ') => druns P T ops n0 rest (dput a (dstOf ops i) d) σ'
    | none => none := by
  simp only [druns, done, dstOf]
  cases ops[i]? with
  | none => rfl
  | some o =>
    simp only [Option.bind_some]
    cases dwanted ops a o.guard with
    | none => rfl
    | some b => cases b <;> rfl

/-- what an operation touches when it is done -/
def dtouch (ops : Array Oper) (i : Nat) (a : Nat → DV) : Touch :=
  match ops[i]? with
  | none => .none
  | some o => match dwanted ops a o.guard with
    | some true => touch a o.op
    | _ => .none

theorem done_hangs {ops : Array Oper} {n0 i : Nat} {d : DV} {σ1 : St} (h : done P T ops n0 i a σ = some (d, σ1)) : Hangs P T (n0 + i) a σ (fun σ' => done P T ops n0 i a σ') d σ1 (dtouch ops i a) := by
  unfold done at h
  unfold dtouch
  split at h
  · simp at h
  · next o ho =>
    split at h
    · next hw =>
      have := dop_hangs h
      simp only [ho, hw]
      have e : (fun σ' => done P T ops n0 i a σ') = fun σ' => dop P T (n0 + i) a σ' o.op := by funext σ'; simp only [done, ho, hw]
      rw [e]; exact this
    · next hw =>
      simp at h; obtain ⟨rfl, rfl⟩ := h
      simp only [ho, hw]
      exact ⟨rfl, fun σ' => by simp only [done, ho, hw]⟩
    · simp at h

theorem eval_dput {x : Operand} {dst : Option Tmp} {d : DV} (h : ∀ t, dst = some t → x ≠ .tmp t) : eval (dput a dst d) x = eval a x := by
  cases dst with
  | none => rfl
  | some t =>
    cases x with
    | tmp u =>
      have : u ≠ t := fun e => h t rfl (by rw [e])
      simp [eval, dput, upd, this]
    | _ => rfl

theorem wanted_dput {ops : Array Oper} {o : Oper} {dst : Option Tmp} {d : DV} (h : ∀ t, dst = some t → t ∉ o.looksAt ops) : dwanted ops (dput a dst d) o.guard = dwanted ops a o.guard := by
  unfold dwanted
  cases hg : o.guard with
  | none => rfl
  | some p =>
    obtain ⟨j, want⟩ := p
    simp only []
    cases ho : (ops[j]?).bind (·.dst) with
    | none => rfl
    | some t =>
      simp only []
      cases dst with
      | none => rfl
      | some u =>
        have hne : t ≠ u := fun e => h u rfl (by
          unfold Oper.looksAt
          rw [hg]
          simp only [ho, List.mem_append]
          right; simp [e])
        simp [dput, upd, hne]

/-- an operation that looks at other slots does as it did -/
theorem done_dput {ops : Array Oper} {n0 i : Nat} {dst : Option Tmp} {d : DV} {o : Oper} (ho : ops[i]? = some o) (h : ∀ t, dst = some t → t ∉ o.looksAt ops) :
    (∀ σ, done P T ops n0 i (dput a dst d) σ = done P T ops n0 i a σ) ∧ dtouch ops i (dput a dst d) = dtouch ops i a := by
  have hx : ∀ x ∈ o.op.operands, eval (dput a dst d) x = eval a x := fun x hx => eval_dput fun t ht e => h t ht (by
    unfold Oper.looksAt
    rw [List.mem_append]; left
    rw [List.mem_filterMap]
    exact ⟨x, by simpa using hx, by rw [e]⟩)
  have hw := wanted_dput (a := a) (d := d) h
  constructor
  · intro σ
    simp only [done, ho, hw]
    rw [(dop_congr (P := P) (T := T) (σ := σ) (id := n0 + i) hx).1]
  · simp only [dtouch, ho, hw]
    rw [(dop_congr (P := P) (T := T) (σ := σ0) (id := n0 + i) hx).2]

theorem dput_comm {x y : Option Tmp} {d e : DV} (h : ∀ t, x = some t → y ≠ some t) : dput (dput a x d) y e = dput (dput a y e) x d := by
  cases x with
  | none => rfl
  | some t =>
    cases y with
    | none => rfl
    | some u =>
      have : u ≠ t := fun q => h t rfl (by rw [q])
      funext k
      simp only [dput, upd]
      by_cases h1 : k = u
      · subst h1; simp [this]
      · simp [h1]

/-- two effects that do not clash come to the same in either order -/
theorem hangs_comm {id id' : Nat} (hid : id ≠ id') {a a' : Nat → DV} {f g : St → Option (DV × St)} {d e : DV} {σ σ1 σ2 : St} {t u : Touch} (hc : clash t u = false)
    (hf : Hangs P T id a σ f d σ1 t) (hg : Hangs P T id' a' σ1 g e σ2 u) : ∃ σ1', g σ = some (e, σ1') ∧ f σ1' = some (d, σ2) := by
  cases t <;> cases u <;> simp [clash] at hc <;> simp only [Hangs] at hf hg
  case none.none => obtain ⟨rfl, h1⟩ := hf; obtain ⟨rfl, h2⟩ := hg; exact ⟨_, h2 _, h1 _⟩
  case none.robj => obtain ⟨rfl, h1⟩ := hf; obtain ⟨rfl, h2⟩ := hg; exact ⟨_, h2 _ rfl, h1 _⟩
  case none.wobj =>
    obtain ⟨rfl, h1⟩ := hf; obtain ⟨h3, h4, h2⟩ := hg
    refine ⟨_, h2 _ rfl, ?_⟩
    rw [h1]; congr 2
    cases σ1; cases σ2; simp_all
  case none.newobj => obtain ⟨rfl, h1⟩ := hf; obtain ⟨ob, rfl, h2⟩ := hg; exact ⟨_, h2 _, h1 _⟩
  case none.tok =>
    obtain ⟨rfl, h1⟩ := hf; obtain ⟨h3, h4, h2⟩ := hg
    refine ⟨_, h2 _ rfl, ?_⟩
    rw [h1]; congr 2
    cases σ1; cases σ2; simp_all
  case robj.none => obtain ⟨rfl, h1⟩ := hf; obtain ⟨rfl, h2⟩ := hg; exact ⟨_, h2 _, h1 _ rfl⟩
  case robj.robj => obtain ⟨rfl, h1⟩ := hf; obtain ⟨rfl, h2⟩ := hg; exact ⟨_, h2 _ rfl, h1 _ rfl⟩
  case robj.tok =>
    obtain ⟨rfl, h1⟩ := hf; obtain ⟨h3, h4, h2⟩ := hg
    refine ⟨_, h2 _ rfl, ?_⟩
    rw [h1 ⟨σ1.n, σ1.objs, σ2.toks⟩ rfl]; congr 2
    cases σ1; cases σ2; simp_all
  case wobj.none => obtain ⟨h3, h4, h1⟩ := hf; obtain ⟨rfl, h2⟩ := hg; refine ⟨_, h2 _, ?_⟩; rw [h1 _ rfl]; congr 2; cases σ; cases σ2; simp_all
  case wobj.tok =>
    obtain ⟨h3, h4, h1⟩ := hf; obtain ⟨h5, h6, h2⟩ := hg
    refine ⟨_, h2 _ h3.symm, ?_⟩
    rw [h1 ⟨σ.n, σ.objs, σ2.toks⟩ rfl]; congr 2
    cases σ; cases σ1; cases σ2; simp_all
  case newobj.none => obtain ⟨ob, rfl, h1⟩ := hf; obtain ⟨rfl, h2⟩ := hg; exact ⟨_, h2 _, h1 _⟩
  case newobj.newobj =>
    obtain ⟨ob, rfl, h1⟩ := hf; obtain ⟨ob', rfl, h2⟩ := hg
    refine ⟨_, h2 _, ?_⟩
    rw [h1]; congr 3
    funext k
    simp only [upd]
    by_cases h3 : k = id
    · subst h3; simp [hid]
    · simp [h3]
  case newobj.tok =>
    obtain ⟨ob, rfl, h1⟩ := hf; obtain ⟨h3, h4, h2⟩ := hg
    refine ⟨_, h2 _ rfl, ?_⟩
    rw [h1]; congr 2
    cases σ; cases σ2; simp_all
  case tok.none => obtain ⟨h3, h4, h1⟩ := hf; obtain ⟨rfl, h2⟩ := hg; refine ⟨_, h2 _, ?_⟩; rw [h1 _ rfl]; congr 2; cases σ; cases σ2; simp_all
  case tok.robj =>
    obtain ⟨h3, h4, h1⟩ := hf; obtain ⟨rfl, h2⟩ := hg
    refine ⟨_, h2 _ h3.symm, ?_⟩
    rw [h1 _ rfl]; congr 2; cases σ; cases σ2; simp_all
  case tok.wobj =>
    obtain ⟨h3, h4, h1⟩ := hf; obtain ⟨h5, h6, h2⟩ := hg
    refine ⟨_, h2 _ h3.symm, ?_⟩
    rw [h1 ⟨σ.n, σ2.objs, σ.toks⟩ rfl]; congr 2
    cases σ; cases σ1; cases σ2; simp_all
  case tok.newobj =>
    obtain ⟨h3, h4, h1⟩ := hf; obtain ⟨ob, rfl, h2⟩ := hg
    refine ⟨_, h2 _, ?_⟩
    rw [h1 ⟨σ.n, upd σ.objs id' (some ob), σ.toks⟩ rfl]; congr 2
    cases σ; cases σ1; simp_all

/-- may the two operations stand in either order, when they touch this -/
def loose (ops : Array Oper) (τ : Nat → Touch) (i j : Nat) : Bool :=
  match ops[i]?, ops[j]? with
  | some x, some y => x.apart ops y && !clash (τ i) (τ j) && !clash (τ j) (τ i)
  | _, _ => false

/-- the touches along a run -/
def touches (P : Program) (T : Tab) (ops : Array Oper) (n0 : Nat) (τ : Nat → Touch) : List Nat → (Nat → DV) → St → Prop
  | [], _, _ => True
  | i :: rest, a, σ => dtouch ops i a = τ i ∧ match done P T ops n0 i a σ with
    | some (d, σ') => touches P T ops n0 τ rest (dput a (dstOf ops i) d) σ'
    | none => True

theorem swap {ops : Array Oper} {n0 j i : Nat} {rest : List Nat} {τ : Nat → Touch} {r : (Nat → DV) × St} (hl : loose ops τ j i = true) (hij : j ≠ i)
    (h : druns P T ops n0 (j :: i :: rest) a σ = some r) (ht : touches P T ops n0 τ (j :: i :: rest) a σ) :
    druns P T ops n0 (i :: j :: rest) a σ = some r ∧ touches P T ops n0 τ (i :: j :: rest) a σ := by
  unfold loose at hl
  split at hl
  · next oj oi hoj hoi =>
    simp only [Bool.and_eq_true, Bool.not_eq_true'] at hl
    obtain ⟨⟨hap, hc1⟩, hc2⟩ := hl
    obtain ⟨s1, s2, s3⟩ := Oper.apart_spec hap
    have hdj : dstOf ops j = oj.dst := by simp [dstOf, hoj]
    have hdi : dstOf ops i = oi.dst := by simp [dstOf, hoi]
    rw [druns_cons] at h
    simp only [touches] at ht
    obtain ⟨ht1, ht2⟩ := ht
    cases hj : done P T ops n0 j a σ with
    | none => rw [hj] at h; simp at h
    | some p =>
      obtain ⟨dj, σ1⟩ := p
      rw [hj] at h ht2
      simp only [] at h ht2
      rw [druns_cons] at h
      obtain ⟨ht3, ht4⟩ := ht2
      have e1 := done_dput (P := P) (T := T) (n0 := n0) (a := a) (d := dj) (dst := dstOf ops j) hoi (fun t q => s1 t (hdj ▸ q))
      rw [e1.1] at h ht4
      rw [e1.2] at ht3
      cases hi : done P T ops n0 i a σ1 with
      | none => rw [hi] at h; simp at h
      | some q =>
        obtain ⟨di, σ2⟩ := q
        rw [hi] at h ht4
        simp only [] at h ht4
        have hg1 := done_hangs hj
        have hg2 := done_hangs hi
        rw [ht1] at hg1
        rw [ht3] at hg2
        obtain ⟨σ1', k1, k2⟩ := hangs_comm (by omega) hc1 hg1 hg2
        have e2 := done_dput (P := P) (T := T) (n0 := n0) (a := a) (d := di) (dst := dstOf ops i) hoj (fun t q => s3 t (hdi ▸ q))
        have hcomm : dput (dput a (dstOf ops j) dj) (dstOf ops i) di = dput (dput a (dstOf ops i) di) (dstOf ops j) dj :=
          dput_comm fun t q => by rw [hdi]; exact s2 t (hdj ▸ q)
        constructor
        · rw [druns_cons, k1]
          simp only []
          rw [druns_cons, e2.1, k2]
          simp only []
          rw [← hcomm]; exact h
        · simp only [touches]
          refine ⟨ht3, ?_⟩
          rw [k1]
          simp only []
          refine ⟨e2.2 ▸ ht1, ?_⟩
          rw [e2.1, k2]
          simp only []
          rw [← hcomm]; exact ht4
  · simp at hl

/-- an operation to the front -/
theorem front {ops : Array Oper} {n0 i : Nat} {τ : Nat → Touch} {r : (Nat → DV) × St} : ∀ (pre post : List Nat) (a : Nat → DV) (σ : St), (∀ j ∈ pre, loose ops τ j i = true ∧ j ≠ i) →
    druns P T ops n0 (pre ++ i :: post) a σ = some r → touches P T ops n0 τ (pre ++ i :: post) a σ →
    druns P T ops n0 (i :: (pre ++ post)) a σ = some r ∧ touches P T ops n0 τ (i :: (pre ++ post)) a σ
  | [], post, a, σ, _, h, ht => ⟨h, ht⟩
  | j :: pre, post, a, σ, hl, h, ht => by
    obtain ⟨hlj, hne⟩ := hl j (by simp)
    simp only [List.cons_append] at h ht ⊢
    -- first the rest
    have hrest : druns P T ops n0 (j :: i :: (pre ++ post)) a σ = some r ∧ touches P T ops n0 τ (j :: i :: (pre ++ post)) a σ := by
      rw [druns_cons] at h ⊢
      simp only [touches] at ht
      have htt : touches P T ops n0 τ (j :: i :: (pre ++ post)) a σ ↔ (dtouch ops j a = τ j ∧ match done P T ops n0 j a σ with
        | some (d, σ') => touches P T ops n0 τ (i :: (pre ++ post)) (dput a (dstOf ops j) d) σ'
        | none => True) := Iff.rfl
      rw [htt]
      cases hd : done P T ops n0 j a σ with
      | none => rw [hd] at h; simp at h
      | some p =>
        obtain ⟨d, σ'⟩ := p
        rw [hd] at h ht
        simp only [] at h ht ⊢
        obtain ⟨h1, h2⟩ := front pre post _ _ (fun k hk => hl k (by simp [hk])) h ht.2
        exact ⟨h1, ht.1, h2⟩
    exact swap hlj hne hrest.1 hrest.2

/-- the operations that an operation stands behind -/
def direct (ops : Array Oper) (i : Nat) : List Nat := ((ops[i]?).map fun o => (o.after.toList.filter (Region.binds .any)).map (·.on)).getD []
def anc (ops : Array Oper) : Nat → List Nat → List Nat
  | 0, xs => xs
  | f + 1, xs => xs ++ anc ops f ((xs.flatMap (direct ops)).eraseDups)

theorem anc_listed {ops : Array Oper} {L : Nat → Prop} (hclosed : ∀ m, L m → ∀ e ∈ direct ops m, L e) : ∀ (f : Nat) (xs : List Nat), (∀ x ∈ xs, L x) → ∀ y ∈ anc ops f xs, L y
  | 0, xs, h, y, hy => h y hy
  | f + 1, xs, h, y, hy => by
    simp only [anc, List.mem_append] at hy
    rcases hy with hy | hy
    · exact h y hy
    · refine anc_listed hclosed f _ (fun x hx => ?_) y hy
      have : x ∈ xs.flatMap (direct ops) := List.mem_eraseDups.1 hx
      obtain ⟨z, h1, h2⟩ := List.mem_flatMap.1 this
      exact hclosed z (h z h1) x h2

/-- any two operations stand in order, or may stand in either; none stands behind a later one -/
def anyOrder (ops : Array Oper) (τ : Nat → Touch) : Bool :=
  (List.range ops.size).all fun i => (direct ops i).all (fun e => decide (e < i)) && (List.range i).all fun j => (anc ops ops.size (direct ops i)).contains j || loose ops τ j i

theorem mem_direct {ops : Array Oper} {i e : Nat} : e ∈ direct ops i ↔ ∃ o, ops[i]? = some o ∧ ∃ ed ∈ o.after, Region.binds .any ed = true ∧ ed.on = e := by
  unfold direct
  cases h : ops[i]? with
  | none => simp
  | some o => simp; constructor <;> (rintro ⟨ed, h1, h2⟩; exact ⟨ed, by simp_all⟩)

theorem anyOrder_spec {ops : Array Oper} {τ : Nat → Touch} (h : anyOrder ops τ = true) {i : Nat} (hi : i < ops.size) :
    (∀ e ∈ direct ops i, e < i) ∧ ∀ j, j < i → j ∈ anc ops ops.size (direct ops i) ∨ loose ops τ j i = true := by
  have h1 := List.all_eq_true.1 h i (List.mem_range.2 hi)
  simp only [Bool.and_eq_true] at h1
  refine ⟨fun e he => by simpa using List.all_eq_true.1 h1.1 e he, fun j hj => ?_⟩
  have h2 := List.all_eq_true.1 h1.2 j (List.mem_range.2 hj)
  simp only [Bool.or_eq_true] at h2
  exact h2.imp (fun q => by simpa using q) (fun q => q)

theorem getD_true_false {l : Array Bool} {i : Nat} (hi : i < l.size) : (l.getD i true = false) ↔ ¬ (l.getD i false = true) := by
  simp [hi]

theorem draw_sound {ops : Array Oper} {n0 n : Nat} {ds : List Deferred} {Q : Exit → Act → World → Prop} {τ : Nat → Touch} (hT : TabOk P T) (hd : dstsOk n ops = true) (hany : anyOrder ops τ = true) :
    ∀ (fuel : Nat) (l : List Nat) (listed : Array Bool) (a : Nat → DV) (σ : St) (ca : Array Value) (w : World) (a' : Nat → DV) (σ' : St), l.length ≤ fuel → l.Pairwise (· < ·) → (∀ i, i ∈ l ↔ i < ops.size ∧ listed.getD i true = false) →
      listed.size = ops.size → (∀ m, listed.getD m false = true → ∀ e ∈ direct ops m, listed.getD e false = true) →
      druns P T ops n0 l a σ = some (a', σ') → touches P T ops n0 τ l a σ → Ok E (Fr n0 ops.size l) n a σ ca w →
      (∀ ca' w', Ok E (Fr n0 ops.size []) n a' σ' ca' w' → Q .normal ⟨ca', ds⟩ w') → wpAny P .any ops Q fuel listed ⟨ca, ds⟩ w := by
  intro fuel
  induction fuel with
  | zero =>
    intro l listed a σ ca w a' σ' hlen hp hmem hsz hcl hr ht hok hq
    have hl : l = [] := List.eq_nil_of_length_eq_zero (by omega)
    subst hl
    simp [druns] at hr; obtain ⟨rfl, rfl⟩ := hr
    refine ⟨?_, hq _ _ hok⟩
    cases hrd : Region.ready .any ops listed with
    | nil => rfl
    | cons i r =>
      have hi : i ∈ Region.ready .any ops listed := by rw [hrd]; simp
      obtain ⟨h0, o, ho, _⟩ := mem_ready.1 hi
      have := (hmem i).2 ⟨(Array.getElem?_eq_some_iff.1 ho).1, h0⟩
      simp at this
  | succ fuel ih =>
    intro l listed a σ ca w a' σ' hlen hp hmem hsz hcl hr ht hok hq
    refine ⟨fun hnone => ?_, fun i hi => ?_⟩
    · -- nothing is ready: nothing is left
      cases l with
      | nil =>
        simp [druns] at hr; obtain ⟨rfl, rfl⟩ := hr
        exact hq _ _ hok
      | cons m r =>
        exfalso
        obtain ⟨hm1, hm2⟩ := (hmem m).1 (by simp)
        have : m ∈ Region.ready .any ops listed := by
          refine mem_ready.2 ⟨hm2, ops[m], by simp [hm1], fun e he hb => ?_⟩
          have hdir : e.on ∈ direct ops m := mem_direct.2 ⟨ops[m], by simp [hm1], e, he, hb, rfl⟩
          have hlt := (anyOrder_spec hany hm1).1 _ hdir
          have hnl : e.on ∉ m :: r := by
            intro hin
            rcases List.mem_cons.1 hin with q | q
            · omega
            · have := (List.pairwise_cons.1 hp).1 _ q; omega
          have h3 : ¬ (listed.getD e.on true = false) := fun q => hnl ((hmem e.on).2 ⟨by omega, q⟩)
          rw [getD_true_false (by omega)] at h3
          simpa using h3
        rw [hnone] at this; simp at this
    · obtain ⟨h0, o, ho, hall⟩ := mem_ready.1 hi
      have hi1 : i < ops.size := (Array.getElem?_eq_some_iff.1 ho).1
      have hil : i ∈ l := (hmem i).2 ⟨hi1, h0⟩
      obtain ⟨pre, post, hsplit⟩ := List.append_of_mem hil
      subst hsplit
      have hp' := List.pairwise_append.1 hp
      -- what stands before it in the text may stand behind it
      have hloose : ∀ j ∈ pre, loose ops τ j i = true ∧ j ≠ i := by
        intro j hj
        have hji : j < i := hp'.2.2 j hj i (by simp)
        refine ⟨?_, by omega⟩
        rcases (anyOrder_spec hany hi1).2 j hji with q | q
        · exfalso
          have hL : listed.getD j false = true := by
            refine anc_listed (L := fun k => listed.getD k false = true) hcl ops.size (direct ops i) (fun x hx => ?_) j q
            obtain ⟨o', ho', ed, hed, hb, rfl⟩ := mem_direct.1 hx
            rw [ho] at ho'; cases ho'
            exact hall ed hed hb
          have h2 := ((hmem j).1 (by simp [hj])).2
          rw [getD_true_false (by omega)] at h2
          exact h2 hL
        · exact q
      obtain ⟨hr2, ht2⟩ := front pre post a σ hloose hr ht
      -- the operation itself
      obtain ⟨hn, C, hf, hs⟩ := hok
      rw [druns_cons] at hr2
      simp only [touches] at ht2
      have hnd : (pre ++ i :: post).Nodup := hp.imp (fun h => by omega)
      have hnotin : i ∉ pre ++ post := by
        intro hin
        rw [List.nodup_append] at hnd
        rcases List.mem_append.1 hin with q | q
        · exact hnd.2.2 i q i (by simp) rfl
        · exact (List.nodup_cons.1 hnd.2.1).1 q
      have hfew : ∀ k, Fr n0 ops.size (pre ++ post) k → Fr n0 ops.size (pre ++ i :: post) k ∧ k ≠ n0 + i := by
        intro k hk
        rcases hk with ⟨j, hj, rfl⟩ | hk
        · refine ⟨.inl ⟨j, ?_, rfl⟩, fun e => hnotin (by rw [show i = j by omega]; exact hj)⟩
          rcases List.mem_append.1 hj with q | q <;> simp [q]
        · exact ⟨.inr hk, by omega⟩
      have hdst : ∀ t, o.dst = some t → t < ca.size := by
        intro t ht'
        have hm : o ∈ ops.toList := by simpa using Array.mem_of_getElem? ho
        have := List.all_eq_true.1 hd o hm
        rw [ht'] at this; rw [hn]; simpa using this
      have hdo : dstOf ops i = o.dst := by simp [dstOf, ho]
      have hpair : (pre ++ post).Pairwise (· < ·) := by
        rw [List.pairwise_append]
        exact ⟨hp'.1, (List.pairwise_cons.1 hp'.2.1).2, fun x hx y hy => hp'.2.2 x hx y (by simp [hy])⟩
      have hmem' : ∀ k, k ∈ pre ++ post ↔ k < ops.size ∧ (listed.setIfInBounds i true).getD k true = false := by
        intro k
        by_cases hki : k = i
        · subst hki
          simp only [hnotin, false_iff, not_and]
          intro hk
          have : k < listed.size := by omega
          simp [this]
        · rw [getD_set_ne true (Ne.symm hki), ← hmem k]
          simp [hki]
      have hcl' : ∀ m, (listed.setIfInBounds i true).getD m false = true → ∀ e ∈ direct ops m, (listed.setIfInBounds i true).getD e false = true := by
        intro m hm e he
        by_cases hmi : m = i
        · subst hmi
          obtain ⟨o', ho', ed, hed, hb, rfl⟩ := mem_direct.1 he
          rw [ho] at ho'; cases ho'
          exact getD_set_true (hall ed hed hb)
        · rw [getD_set_ne false (Ne.symm hmi)] at hm
          exact getD_set_true (hcl m hm e he)
      have hlen' : (pre ++ post).length ≤ fuel := by simp at hlen ⊢; omega
      unfold wpOp
      rw [ho]
      simp only []
      cases hdn : done P T ops n0 i a σ with
      | none => rw [hdn] at hr2; simp at hr2
      | some p =>
        obtain ⟨d, σ1⟩ := p
        rw [hdn] at hr2 ht2
        simp only [hdo] at hr2 ht2
        unfold done at hdn
        rw [ho] at hdn
        simp only [] at hdn
        split at hdn
        · next hwant =>
          rw [if_pos (wanted_rel hwant hf hn hd)]
          left
          have hu := dop_sound (ds := ds) hdn hT (show Fr n0 ops.size (pre ++ i :: post) (n0 + i) from .inl ⟨i, by simp, rfl⟩) hf hs
          have key : ∀ v w', Res E (fun k => Fr n0 ops.size (pre ++ i :: post) k ∧ k ≠ n0 + i) C w σ1 d v w' → wpAny P .any ops Q fuel (listed.setIfInBounds i true) (Act.put ⟨ca, ds⟩ o.dst v) w' := by
            intro v w' hres
            obtain ⟨C', r1, r2, r3, r4⟩ := hres
            rw [put_eq]
            exact ih (pre ++ post) _ _ _ _ _ _ _ hlen' hpair hmem' (by simp [hsz]) hcl' hr2 ht2.2
              ⟨by rw [put_size]; exact hn, C', (hf.mono r1 r2).put r3 hdst, r4.fewer hfew⟩ hq
          unfold Oper.wp Oper.upon
          unfold Upon at hu
          split at hu
          · next v w' he => rw [he]; exact key _ _ hu
          · next w' he => rw [he]; exact key _ _ hu
          · next f args w' he =>
            rw [he]
            refine hu.mono fun e w'' ⟨v, hv, hk⟩ => ?_
            subst hv
            exact key _ _ hk
          · exact hu.elim
        · next hwant =>
          simp at hdn; obtain ⟨rfl, rfl⟩ := hdn
          rw [if_neg (by simp [wanted_rel hwant hf hn hd])]
          rw [put_eq]
          exact ih (pre ++ post) _ _ _ _ _ _ _ hlen' hpair hmem' (by simp [hsz]) hcl' hr2 ht2.2
            ⟨by rw [put_size]; exact hn, C, hf.put (by simp [VRel, undef]) hdst, hs.fewer fun k hk => (hfew k hk).1⟩ hq
        · simp at hdn
end Go.FA
namespace Go.FA
open Go.RowKit
set_option linter.unusedVariables false
set_option linter.unusedSimpArgs false
variable {P : Program} {T : Tab} {E : Entry} {F : Nat → Prop} {C : Ctx} {w : World} {σ : St} {n : Nat} {Q : Ex → (Nat → DV) → St → Prop} {a : Nat → DV}

/-- the operations of a region that draws its order, with what each touches -/
def drunT (P : Program) (T : Tab) (ops : Array Oper) (n0 : Nat) : Nat → List Touch → List Oper → (Nat → DV) → St → Option ((Nat → DV) × St)
  | _, _, [], a, σ => some (a, σ)
  | i, ts, o :: rest, a, σ => match dwanted ops a o.guard with
    | some true => if touch a o.op = ts.headD .none then match dop P T (n0 + i) a σ o.op with
      | some (d, σ') => drunT P T ops n0 (i + 1) ts.tail rest (dput a o.dst d) σ'
      | none => none else none
    | some false => if Touch.none = ts.headD .none then drunT P T ops n0 (i + 1) ts.tail rest (dput a o.dst (.lit (.tuple #[]))) σ else none
    | none => none

theorem drunT_eq (P : Program) (T : Tab) (ops : Array Oper) (n0 : Nat) (τs : List Touch) : ∀ (l : List Oper) (i : Nat) (a : Nat → DV) (σ : St) (r : (Nat → DV) × St), (∀ j, l[j]? = ops[i + j]?) →
    drunT P T ops n0 i (τs.drop i) l a σ = some r → druns P T ops n0 (List.range' i l.length) a σ = some r ∧ touches P T ops n0 (fun i => τs.getD i .none) (List.range' i l.length) a σ
  | [], i, a, σ, r, h, hr => by simpa [drunT, druns, touches] using hr
  | o :: rest, i, a, σ, r, h, hr => by
    have h0 : ops[i]? = some o := by have := h 0; simpa using this.symm
    have ht : ∀ j, rest[j]? = ops[i + 1 + j]? := fun j => by have := h (j + 1); rw [show i + 1 + j = i + (j + 1) by omega]; simpa using this
    have hhead : (τs.drop i).headD .none = τs.getD i .none := by simp [List.headD_eq_head?_getD, List.head?_drop, List.getD]
    have htail : (τs.drop i).tail = τs.drop (i + 1) := by simp
    have hdo : dstOf ops i = o.dst := by simp [dstOf, h0]
    simp only [List.length_cons, List.range'_succ]
    rw [druns_cons]
    simp only [touches, hdo]
    simp only [drunT, hhead, htail] at hr
    cases hw : dwanted ops a o.guard with
    | none => rw [hw] at hr; simp at hr
    | some b =>
      rw [hw] at hr
      cases b with
      | false =>
        simp only [] at hr
        split at hr
        · next htch =>
          have hd : done P T ops n0 i a σ = some (.lit (.tuple #[]), σ) := by simp [done, h0, hw]
          have hdt : dtouch ops i a = .none := by simp [dtouch, h0, hw]
          obtain ⟨h1, h2⟩ := drunT_eq P T ops n0 τs rest (i + 1) _ _ _ ht hr
          rw [hd]
          exact ⟨h1, by rw [hdt]; exact htch, h2⟩
        · simp at hr
      | true =>
        simp only [] at hr
        split at hr
        · next htch =>
          have hdt : dtouch ops i a = touch a o.op := by simp [dtouch, h0, hw]
          split at hr
          · next d σ' hdop =>
            have hd : done P T ops n0 i a σ = some (d, σ') := by simp [done, h0, hw, hdop]
            obtain ⟨h1, h2⟩ := drunT_eq P T ops n0 τs rest (i + 1) _ _ _ ht hr
            rw [hd]
            exact ⟨h1, by rw [hdt]; exact htch, h2⟩
          · simp at hr
        · simp at hr

theorem Ok.drew {ca : Array Value} (h : Ok E F n a σ ca w) : Ok E F n a σ ca w.drew := by
  obtain ⟨hn, C, hf, hs⟩ := h
  obtain ⟨hle, hst, h1⟩ := hs.grow (w' := w.drew) (pc' := C.pc) (pm' := C.pm) ((Below.refl _ _).drew) (fun _ _ p => p) (fun _ p => p) (fun _ _ p => .inl p) (fun _ p => .inl p)
  exact ⟨hn, _, hf.mono hle hst, h1⟩

/-- a region that draws its order -/
theorem Dwp.draw {id : Nat} {ops : Array Oper} (τs : List Touch) (hm : P.follows .mixedOrders = true) (hT : TabOk P T) (hd : dstsOk n ops = true) (hany : anyOrder ops (fun i => τs.getD i .none) = true)
    (h : ∀ K : (Nat → DV) → St → Prop, (∀ a' σ', Q .normal a' { σ' with n := σ.n + ops.size } → σ'.n = σ.n → K a' σ') → Then (drunT P T ops σ.n 0 τs ops.toList a σ) K) : Dwp P T E n (.region id ops true) Q a σ := by
  refine ⟨fun ca w ds hok => wp_region_any hm ?_⟩
  have h1 := h _ fun _ _ h1 h2 => And.intro h1 h2
  unfold Then at h1
  split at h1
  · next a' σ' heq =>
    obtain ⟨hr, ht⟩ := drunT_eq P T ops σ.n τs ops.toList 0 a σ _ (fun j => by simp) heq
    have hrange : List.range' 0 ops.toList.length = List.range ops.size := by rw [List.range_eq_range']; simp
    rw [hrange] at hr ht
    refine draw_sound (E := E) hT hd hany ops.size (List.range ops.size) _ a σ ca w.drew a' σ' (by simp) List.pairwise_lt_range (fun i => by simp; intro hi; simp [hi]) (by simp) (fun m hm' => ?_) hr ht ?_ fun ca' w' hok' => ?_
    · exfalso
      simp only [Array.getD_eq_getD_getElem?, Array.getElem?_replicate] at hm'
      split at hm' <;> simp at hm'
    · have hok2 := hok.drew
      obtain ⟨hn, C, hf, hs⟩ := hok2
      refine ⟨hn, C, hf, hs.fewer fun i hi => ?_⟩
      rcases hi with ⟨j, _, rfl⟩ | hi <;> omega
    · obtain ⟨hn', C, hf, hs⟩ := hok'
      refine ⟨rfl, .normal, a', _, rfl, h1.1, hn', C, hf, ?_⟩
      exact ⟨hs.lo, hs.below, hs.bsize, hs.pB, hs.mB, hs.psup, hs.msup, hs.psub, hs.msub, hs.obj, hs.inj, hs.tok, hs.tinj, hs.tobj, fun i hi => hs.fresh i (.inr (by rw [h1.2] at *; exact hi))⟩
  · exact h1.elim
theorem Dwp.drawStep {id : Nat} {ops : Array Oper} {y : Code} (τs : List Touch) (hm : P.follows .mixedOrders = true) (hT : TabOk P T) (hd : dstsOk n ops = true) (hany : anyOrder ops (fun i => τs.getD i .none) = true)
    (h : ∀ K : (Nat → DV) → St → Prop, (∀ a' σ', Dwp P T E n y Q a' { σ' with n := σ.n + ops.size } → σ'.n = σ.n → K a' σ') → Then (drunT P T ops σ.n 0 τs ops.toList a σ) K) : Dwp P T E n (.seq (.region id ops true) y) Q a σ :=
  Dwp.seq (Dwp.draw τs hm hT hd hany h)

/-- one cell's row, read and no more written -/
inductive Frz (σ : St) (id : Nat) : DV → DV → Prop where
  | keep (d : DV) : Frz σ id d d
  | junk (d : DV) : Frz σ id d .junk
  | box {t : TypeId} {cs : List DV} (off : Nat) (h : σ.objs id = some (.cells t cs)) : Frz σ id (.ptr id off) (.row cs off)
  | map {ks : List Value} {vs : List DV} (h : σ.objs id = some (.map ks vs)) : Frz σ id (.map id) (.fmap ks vs)

/-- an object that nobody writes any more -/
theorem Dwp.freeze {c : Code} (id : Nat) {o : AObj} (a' : Nat → DV) (ho : σ.objs id = some o) (ha : ∀ t, Frz σ id (a t) (a' t)) (h : Dwp P T E n c Q a' { σ with objs := upd σ.objs id none }) : Dwp P T E n c Q a σ := by
  refine ⟨fun ca w ds hok => ?_⟩
  obtain ⟨hn, C, hf, hs⟩ := hok
  obtain ⟨b, hb, hB, hlt, hnp, hnm, hO⟩ := hs.obj id o ho
  let C' : Ctx := { C with pc := fun k j => C.pc k j ∨ k = b, pm := fun k => C.pm k ∨ k = b }
  have hle : C.Le C' := ⟨fun _ _ e => e, fun _ x e => ⟨x, e, Nat.le_refl _, fun _ => rfl⟩, fun _ _ p => .inl p, fun _ p => .inl p, rfl⟩
  have hst : Step C w w := .refl C w
  refine h.out ca w ds ⟨hn, C', ?_, ?_⟩
  · intro t
    have ht := hf t
    have hfr := ha t
    generalize ca.getD t undef = v at ht
    generalize a' t = d' at hfr
    generalize a t = d at hfr ht
    show VRel C' w d' v
    cases hfr with
    | keep d => exact VRel_mono hle hst _ _ ht
    | junk d => simp [VRel]
    | box off hc =>
      rw [ho] at hc; cases hc
      simp only [VRel] at ht ⊢
      obtain ⟨b', q1, rfl⟩ := ht
      obtain rfl : b = b' := by rw [hb] at q1; exact Option.some.inj q1
      obtain ⟨vs, h1, h2, h3⟩ := hO
      refine ⟨b, 0, by simp, CRel_of (LRel_mono hle hst _ _ h2) h3 fun i v hv => ⟨.inr rfl, ?_⟩⟩
      rw [cell?_of_cells h1, Nat.zero_add]; simpa using hv
    | map hc =>
      rw [ho] at hc; cases hc
      simp only [VRel] at ht ⊢
      obtain ⟨b', q1, rfl⟩ := ht
      obtain rfl : b = b' := by rw [hb] at q1; exact Option.some.inj q1
      obtain ⟨es, clock, h1, h2, h3, h4⟩ := hO
      exact ⟨b, es, clock, rfl, .inr rfl, h1, h2, LRel_mono hle hst _ _ h3, h4⟩
  · have hup : ∀ i oi, upd σ.objs id none i = some oi → i ≠ id ∧ σ.objs i = some oi := by
      intro i oi hi
      by_cases e : i = id
      · subst e; simp [upd] at hi
      · exact ⟨e, by simpa [upd, e] using hi⟩
    constructor
    · exact hs.lo
    · exact hs.below
    · exact hs.bsize
    · exact hs.pB
    · exact hs.mB
    · exact fun b o p => .inl (hs.psup _ _ p)
    · exact fun b p => .inl (hs.msup _ p)
    · intro k j p
      rcases p with p | rfl
      · exact hs.psub _ _ p
      · exact .inr ⟨hB, hlt⟩
    · intro k p
      rcases p with p | rfl
      · exact hs.msub _ p
      · exact .inr ⟨hB, hlt⟩
    · intro i oi hi
      obtain ⟨hne, hi'⟩ := hup i oi hi
      obtain ⟨bi, g1, g2, g3, g4, g5, g6⟩ := hs.obj i oi hi'
      have hbb : bi ≠ b := fun e => hne (hs.inj i id oi o bi hi' ho g1 (by rw [hb, e]))
      exact ⟨bi, g1, g2, g3, fun j p => p.elim (g4 j) hbb, fun p => p.elim g5 hbb, g6.mono hle hst rfl⟩
    · intro i j oi oj bb hi hj g1 g2
      exact hs.inj i j oi oj bb (hup i oi hi).2 (hup j oj hj).2 g1 g2
    · intro t g ht
      obtain ⟨x, g1, g2, g3⟩ := hs.tok t g ht
      refine ⟨x, g1, g2, fun hx => ?_⟩
      obtain ⟨g4, g5, g6, g7⟩ := g3 hx
      have hbb : x.blk ≠ b := fun e => hs.tobj t g x id o ht g1 hx ho (by rw [hb, e])
      exact ⟨g4, g5, fun o ho' p => p.elim (g6 o ho') hbb, fun p => p.elim g7 hbb⟩
    · exact hs.tinj
    · intro t g x i oi ht g1 hx hi
      exact hs.tobj t g x i oi ht g1 hx (hup i oi hi).2
    · exact hs.fresh
/-- a slot that may be told as something weaker, or that is one of two things -/
theorem Dwp.weaken {c : Code} (a' : Nat → DV) (ha : ∀ t, DLe (a t) (a' t)) (h : Dwp P T E n c Q a' σ) : Dwp P T E n c Q a σ :=
  ⟨fun ca w ds ⟨hn, C, hf, hs⟩ => h.out ca w ds ⟨hn, C, fun t => ha t _ _ _ (hf t), hs⟩⟩
/-- an empty slice is nil, or it is not -/
theorem Dwp.nilCase {c : Code} (t k : Nat) (ht : a t = .slice k .none []) (h1 : Dwp P T E n c Q (upd a t (.lit (.slice none 0 0))) σ) (h2 : Dwp P T E n c Q (upd a t (.slice k .nn [])) σ) : Dwp P T E n c Q a σ := by
  refine ⟨fun ca w ds ⟨hn, C, hf, hs⟩ => ?_⟩
  have hv := hf t
  rw [ht] at hv
  simp only [VRel] at hv
  rcases hv with ⟨b, o, cap, q1, q2, q3, _⟩ | ⟨ad, q1, _, _⟩
  · refine h2.out ca w ds ⟨hn, C, fun u => ?_, hs⟩
    by_cases e : u = t
    · subst e; simp only [upd, if_true, VRel]; exact .inl ⟨b, o, cap, q1, q2, q3, trivial⟩
    · simpa [upd, e] using hf u
  · cases ad with
    | none =>
      refine h1.out ca w ds ⟨hn, C, fun u => ?_, hs⟩
      by_cases e : u = t
      · subst e; simp only [upd, if_true, VRel]; exact q1
      · simpa [upd, e] using hf u
    | some ad =>
      refine h2.out ca w ds ⟨hn, C, fun u => ?_, hs⟩
      by_cases e : u = t
      · subst e; simp only [upd, if_true, VRel]; exact .inr ⟨_, q1, trivial, rfl⟩
      · simpa [upd, e] using hf u
end Go.FA
namespace Go.FA
open Go.RowKit
set_option linter.unusedVariables false
set_option linter.unusedSimpArgs false
variable {P : Program} {T : Tab} {E : Entry} {F : Nat → Prop} {C : Ctx} {w : World} {σ : St} {n : Nat} {Q : Ex → (Nat → DV) → St → Prop} {a : Nat → DV}

theorem born_inj {es : Array MapEntry} {c : Nat} (h : Stamped es c) {i j : Nat} {x y : MapEntry} (hi : es[i]? = some x) (hj : es[j]? = some y) (hb : x.born = y.born) : i = j := by
  have h1 : (es.toList.map (·.born))[i]? = some x.born := by simp [hi]
  have h2 : (es.toList.map (·.born))[j]? = some x.born := by simp [hj, hb]
  have hi' : i < (es.toList.map (·.born)).length := by
    rcases Nat.lt_or_ge i (es.toList.map (·.born)).length with q | q
    · exact q
    · rw [List.getElem?_eq_none q] at h1; simp at h1
  have hj' : j < (es.toList.map (·.born)).length := by
    rcases Nat.lt_or_ge j (es.toList.map (·.born)).length with q | q
    · exact q
    · rw [List.getElem?_eq_none q] at h2; simp at h2
  rw [List.getElem?_eq_getElem hi'] at h1
  rw [List.getElem?_eq_getElem hj'] at h2
  have heq := (Option.some.inj h1).trans (Option.some.inj h2).symm
  have hp := List.pairwise_iff_getElem.1 h.2
  rcases Nat.lt_trichotomy i j with q | q | q
  · exact absurd heq (hp i j hi' hj' q)
  · exact q
  · exact absurd heq.symm (hp j i hj' hi' q)

theorem next_sound {id : Nat} {v : Value} {ks : List Value} {vs : List DV} {seen : List Nat} {t : TypeId} (ho : σ.objs id = some (.mapIter ks vs seen)) (hv : VRel C w (.ptr id 0) v) (hs : SRel E F C w σ) :
    ((Instr.next v false t).run P w = .ok (.tuple #[.bool false]) w ∧ ∀ j, j < ks.length → j ∈ seen) ∨
    ∃ j k x w' u, j ∉ seen ∧ ks[j]? = some k ∧ vs[j]? = some x ∧ (Instr.next v false t).run P w = .ok u w' ∧ Step C w w' ∧ VRel C w' (.tuple [.lit (.bool true), .lit k, x]) u ∧
      SRel E F C w' { σ with objs := upd σ.objs id (some (.mapIter ks vs (seen ++ [j]))) } := by
  simp only [VRel] at hv
  obtain ⟨b, hb, rfl⟩ := hv
  obtain ⟨b', hb', hB, hlt, hnp, hnm, m, es, clock, h1, h2, h3, h4, h5, h6, h7⟩ := hs.obj _ _ ho
  obtain rfl : b = b' := by rw [hb] at hb'; exact Option.some.inj hb'
  subst h4
  obtain ⟨sb, hsb⟩ : ∃ sb, sb = (seen.map fun j => ((es[j]?).map (·.born)).getD 0) := ⟨_, rfl⟩
  rw [← hsb] at h1
  have hcheck : (!sb.toArray.isEmpty && !es.isEmpty && es.all (·.born ≥ clock)) = false := by
    cases hes : es.toList with
    | nil => have : es = #[] := by simpa using hes
             subst this; simp
    | cons e r =>
      have hlt' := h6.1 e (by rw [hes]; simp)
      have : es.all (·.born ≥ clock) = false := by
        rw [Bool.eq_false_iff]
        intro hall
        have h8 := Array.all_eq_true_iff_forall_mem.1 hall e (by rw [← Array.mem_toList_iff, hes]; simp)
        simp at h8; omega
      simp [this]
  have hold : ∀ l : Array MapEntry, (∀ e ∈ l, e ∈ es) → l.filter (·.born < clock) = l ∧ l.filter (·.born ≥ clock) = #[] := by
    intro l hl
    constructor
    · rw [Array.filter_eq_self]; intro e he; simpa using h6.1 e (by simpa using hl e he)
    · rw [Array.filter_eq_empty_iff]; intro e he; have := h6.1 e (by simpa using hl e he); simp; omega
  obtain ⟨left, hleft⟩ : ∃ l, l = es.filter fun e => !sb.toArray.contains e.born := ⟨_, rfl⟩
  have hlm : ∀ e ∈ left, e ∈ es := fun e he => by rw [hleft] at he; exact (Array.mem_filter.1 he).1
  obtain ⟨ho1, ho2⟩ := hold left hlm
  have hseen : ∀ j e, es[j]? = some e → (e.born ∈ sb ↔ j ∈ seen) := by
    intro j e he
    rw [hsb, List.mem_map]
    constructor
    · rintro ⟨i, hi, hbi⟩
      have hil := h7 i hi
      have hx : es[i]? = some es[i] := by simp [hil]
      rw [hx] at hbi
      simp at hbi
      have := born_inj h6 hx he hbi
      rwa [← this]
    · intro hj
      exact ⟨j, hj, by simp [he]⟩
  by_cases hnil : left = #[]
  · left
    constructor
    · rw [hnil] at hleft
      simp only [Instr.next, Sem.run_bind, run_getObj_iter h1, Result.andThen_ok, run_getObj_map h3, hcheck, Bool.false_eq_true, if_false, Sem.run_pure]
      rw [← hleft]
      simp [Question.forced]
    · intro j hj
      have hj' : j < es.size := by simpa using hj
      have he : es[j]? = some es[j] := by simp [hj']
      by_cases hin : j ∈ seen
      · exact hin
      · exfalso
        have : es[j] ∈ left := by
          rw [hleft, Array.mem_filter]
          refine ⟨by simp, ?_⟩
          have : es[j].born ∉ sb := fun q => hin ((hseen j _ he).1 q)
          simpa using this
        rw [hnil] at this; simp at this
  · right
    have hpos : 0 < left.size := by
      rcases Nat.eq_zero_or_pos left.size with q | q
      · exact absurd (Array.eq_empty_of_size_eq_zero q) hnil
      · exact q
    have hemp : left.isEmpty = false := by simp [hnil]
    -- one of the entries is drawn
    obtain ⟨wd, idx, hidx, hch, hwd⟩ : ∃ wd idx, idx < left.size ∧ (choose (.mapNext left.size)).run P w = .ok idx wd ∧ (wd = w ∨ wd = w.drew) := by
      by_cases hf : left.size ≤ 1
      · exact ⟨w, 0, hpos, by simp [Question.forced, hf], .inl rfl⟩
      · refine ⟨w.drew, w.tape w.drawn (.mapNext left.size) % left.size, Nat.mod_lt _ hpos, ?_, .inr rfl⟩
        simp [Question.forced, hf, Question.cut]
    have hle : left[idx]? = some left[idx] := by simp [hidx]
    have hin : left[idx] ∈ es := hlm _ (by simp)
    obtain ⟨j, hj, hje⟩ := Array.mem_iff_getElem.1 hin
    have hjes : es[j]? = some left[idx] := by simp [hj, hje]
    have hmf : ∀ e ∈ left, e.born ∉ sb := fun e he => by rw [hleft, Array.mem_filter] at he; simpa using he.2
    have hns : j ∉ seen := fun hjs => hmf _ (by simp) ((hseen j _ hjes).2 hjs)
    obtain ⟨x, hx, hxr⟩ := LRel_get' h5 (i := j) (v := left[idx].val) (by simp [hjes])
    have hheap : wd.heap = w.heap := by rcases hwd with rfl | rfl <;> rfl
    have hb2 : wd.heap[b]? = some (.mapIter (some m) clock sb.toArray clock) := by rw [hheap]; exact h1
    have hT : Turned w { wd with heap := wd.heap.setIfInBounds b (.mapIter (some m) clock (sb.toArray.push left[idx].born) clock) } b (.mapIter (some m) clock (sb.toArray.push left[idx].born) clock) := by
      refine ⟨by rcases hwd with rfl | rfl <;> rfl, by rcases hwd with rfl | rfl <;> rfl, by rcases hwd with rfl | rfl <;> rfl, by simp [hheap], ?_, ?_⟩
      · simp [Array.getElem?_setIfInBounds, hheap, hlt]
      · intro k hk; simp [Array.getElem?_setIfInBounds, hheap]; intro e; exact absurd e.symm hk
    have hno : (∃ c e, w.heap[b]? = some (.cells c e)) → ∃ c e, Obj.mapIter (some m) clock (sb.toArray.push left[idx].born) clock = .cells c e := fun ⟨_, _, q⟩ => by rw [h1] at q; cases q
    have hst := hT.step hnp hnm hno
    have hmb : m ≠ b := fun e => hnm (e ▸ h2)
    obtain ⟨_, hS⟩ := hs.turn (o' := .mapIter (es.toList.map (·.key)) vs (seen ++ [j])) ho hb hT hno
      ⟨m, es, clock, by rw [hT.at_, hsb]; simp [hjes], h2, by rw [hT.other m hmb]; exact h3, rfl, LRel_mono (.refl C) hst _ _ h5, h6, fun k hk => by
        rcases List.mem_append.1 hk with q | q
        · exact h7 k q
        · simp at q; subst q; exact hj⟩
    refine ⟨j, left[idx].key, x, _, .tuple #[.bool true, left[idx].key, left[idx].val], hns, by simp [hjes], hx, ?_, hst, ?_, hS⟩
    · simp only [Instr.next, Sem.run_bind, run_getObj_iter h1, Result.andThen_ok, run_getObj_map h3, hcheck, Bool.false_eq_true, if_false, Sem.run_pure]
      rw [← hleft, ho1, ho2]
      simp only [hemp, Bool.false_eq_true, if_false]
      have hc : (#[] ++ (left ++ #[]).map some : Array (Option MapEntry)) = left.map some := by simp
      rw [hc, show (left.map some).size = left.size by simp, hch]
      simp only [Result.andThen_ok]
      have : (left.map some)[idx]? = some (some left[idx]) := by simp [hle]
      rw [this]
      simp only [Sem.run_bind]
      have hset : (setObj b (.mapIter (some m) clock (sb.toArray.push left[idx].born) clock)).run P wd = .ok () { wd with heap := wd.heap.setIfInBounds b (.mapIter (some m) clock (sb.toArray.push left[idx].born) clock) } := by
        simp [setObj, Sem.run, hb2]
      rw [hset]
      rfl
    · simp only [VRel]
      exact ⟨[.bool true, left[idx].key, left[idx].val], rfl, by simp only [LRel, VRel]; exact ⟨trivial, trivial, VRel_mono (.refl C) hst _ _ hxr, trivial⟩⟩
/-- the region at the head of a range over a map: it is over, or one of the entries left is next -/
theorem Dwp.next {rid : Nat} {ops : Array Oper} {o0 : Oper} {rest : List Oper} {it : Tmp} {id : Nat} {ks : List Value} {vs : List DV} {seen : List Nat}
    (hT : TabOk P T) (hd : dstsOk n ops = true) (hops : ops.toList = o0 :: rest) (h0 : o0.op = .next (.tmp it) false) (hg : o0.guard = none) (ha : a it = .ptr id 0) (ho : σ.objs id = some (.mapIter ks vs seen))
    (h1 : (∀ j, j < ks.length → j ∈ seen) → ∀ K : (Nat → DV) → St → Prop, (∀ a' σ', Q .normal a' { σ' with n := σ.n + ops.size } → σ'.n = σ.n → K a' σ') →
      Then (drunL P T ops σ.n 1 rest (dput a o0.dst (.tuple [.lit (.bool false)])) σ) K)
    (h2 : ∀ j k x, j ∉ seen → ks[j]? = some k → vs[j]? = some x → ∀ K : (Nat → DV) → St → Prop, (∀ a' σ', Q .normal a' { σ' with n := σ.n + ops.size } → σ'.n = σ.n → K a' σ') →
      Then (drunL P T ops σ.n 1 rest (dput a o0.dst (.tuple [.lit (.bool true), .lit k, x])) { σ with objs := upd σ.objs id (some (.mapIter ks vs (seen ++ [j]))) }) K) :
    Dwp P T E n (.region rid ops false) Q a σ := by
  refine ⟨fun ca w ds hok => wp_region ?_⟩
  obtain ⟨hn, C, hf, hs⟩ := hok
  have hsz : ops.size = rest.length + 1 := by have := congrArg List.length hops; simpa using this
  have ho0 : ops[0]? = some o0 := by
    have : ops.toList[0]? = some o0 := by rw [hops]; rfl
    simpa using this
  have hrest : ∀ j, rest[j]? = ops[1 + j]? := fun j => by
    have : ops.toList[j + 1]? = rest[j]? := by rw [hops]; simp
    rw [← this, Nat.add_comm]; simp
  have hrange : List.range ops.size = 0 :: List.range' 1 rest.length := by
    rw [List.range_eq_range', hsz, List.range'_succ]
  rw [hrange]
  simp only [wpOps, ho0]
  rw [if_pos (by unfold Region.wanted; rw [hg])]
  left
  have hdst : ∀ t, o0.dst = some t → t < ca.size := by
    intro t ht
    have hm : o0 ∈ ops.toList := by rw [hops]; simp
    have := List.all_eq_true.1 hd o0 hm
    rw [ht] at this; rw [hn]; simpa using this
  have hit := hf it
  rw [ha] at hit
  -- the rest of the region
  have key : ∀ (d : DV) (σ1 : St) (v : Value) (w' : World) (C' : Ctx), σ1.n = σ.n → C.Le C' → Step C w w' → VRel C' w' d v → SRel E (fun i => σ.n ≤ i) C' w' σ1 →
      (∀ K : (Nat → DV) → St → Prop, (∀ a' σ', Q .normal a' { σ' with n := σ.n + ops.size } → σ'.n = σ.n → K a' σ') → Then (drunL P T ops σ.n 1 rest (dput a o0.dst d) σ1) K) →
      wpOps P ops (Post E n ds Q) (List.range' 1 rest.length) (Act.put ⟨ca, ds⟩ o0.dst v) w' := by
    intro d σ1 v w' C' hn1 hle hst hv hS hK
    have hK1 := hK _ fun _ _ q1 q2 => And.intro q1 q2
    unfold Then at hK1
    split at hK1
    · next a' σ' heq =>
      rw [drunL_eq P T ops σ.n rest 1 _ _ hrest] at heq
      rw [put_eq]
      refine drunO_sound (E := E) hT hd (List.range' 1 rest.length) _ _ _ _ _ _ List.nodup_range' (fun i hi => by rw [List.mem_range'] at hi; omega) heq
        ⟨by rw [put_size]; exact hn, C', (hf.mono hle hst).put hv hdst, hS.fewer fun i hi => ?_⟩ fun ca' w'' hok' => ?_
      · rcases hi with ⟨j, _, rfl⟩ | hi <;> omega
      · obtain ⟨hn', C'', hf', hs'⟩ := hok'
        refine ⟨rfl, .normal, a', _, rfl, hK1.1, hn', C'', hf', ?_⟩
        exact ⟨hs'.lo, hs'.below, hs'.bsize, hs'.pB, hs'.mB, hs'.psup, hs'.msup, hs'.psub, hs'.msub, hs'.obj, hs'.inj, hs'.tok, hs'.tinj, hs'.tobj, fun i hi => hs'.fresh i (.inr (by rw [hK1.2] at *; exact hi))⟩
    · exact hK1.elim
  have hop : (execOp (Act.eval ⟨ca, ds⟩) o0) = (do pure (.value (← Instr.next (ca.getD it undef) false o0.type))) := by
    simp only [execOp, h0]; rfl
  unfold Oper.wp Oper.upon
  rcases next_sound (P := P) (t := o0.type) ho hit hs with ⟨hrun, hall⟩ | ⟨j, k, x, w', u, hns, hk, hx, hrun, hst, hv, hS⟩
  · have hr : (execOp (Act.eval ⟨ca, ds⟩) o0).run P w = .ok (.value (.tuple #[.bool false])) w := by rw [hop]; simp only [Sem.run_bind, hrun, Result.andThen_ok, Sem.run_pure]
    rw [hr]
    exact key _ σ _ _ C rfl (.refl C) (.refl C w) (by simp only [VRel]; exact ⟨[.bool false], rfl, by simp [LRel, VRel]⟩) hs (h1 hall)
  · have hr : (execOp (Act.eval ⟨ca, ds⟩) o0).run P w = .ok (.value u) w' := by rw [hop]; simp only [Sem.run_bind, hrun, Result.andThen_ok, Sem.run_pure]
    rw [hr]
    exact key _ { σ with objs := upd σ.objs id (some (.mapIter ks vs (seen ++ [j]))) } _ _ C rfl (.refl C) hst hv hS (h2 j k x hns hk hx)
end Go.FA
namespace Go.FA
variable {P : Program}
/-- a function's contract, and that it is one of the program's own -/
def Good (P : Program) (p : FuncId × Sp) : Prop := CallSound P p.1 p.2 ∧ ∃ fn c, P.funcs[p.1]? = some fn ∧ fn.body = some c ∧ fn.name ≠ "runtime.NumGoroutine"
theorem TabOk.nil : TabOk P (tabOf []) := TabOk.of_list (by simp)
theorem TabOk.cons {p : FuncId × Sp} {l : List (FuncId × Sp)} (h : Good P p) (ht : TabOk P (tabOf l)) : TabOk P (tabOf (p :: l)) := by
  intro f s hs
  unfold tabOf at hs
  rw [List.find?_cons] at hs
  split at hs
  · next he => simp at he hs; subst he; subst hs; exact h
  · exact ht f s hs
theorem wrap_small {n : Int} (h0 : 0 ≤ n) (h : n < 4611686018427387904) : IntKind.i64.wrap n = n := by
  simp [IntKind.wrap, IntKind.bits, IntKind.signed]; omega
def lim : Nat := 1099511627776
/-- a function's number as an argument -/
def Enc.fn : Enc FuncId where
  enc f := .lit (.func (.func f) #[] #[])
  dec d := match d with | .lit (.func (.func f) first captured) => if first.toList.isEmpty && captured.toList.isEmpty then some f else none | _ => none
  le d x h := by
    split at h
    · split at h
      · next hc => simp at hc h; obtain ⟨rfl, rfl⟩ := hc; subst h; exact DLe.refl _
      · simp at h
    · simp at h
  pure _ := rfl
  de _ := by simp
theorem bget (s : ByteArray) (i : Nat) (h : i < s.size) : s[i]? = some s[i] := by simp [h]
end Go.FA
namespace Go.FA
open Go.RowKit Go.ChangeShapes
set_option linter.unusedVariables false
set_option linter.unusedSimpArgs false

/-- how much a reading holds, as a statement counts it -/
structure Bulk (H : Type) where
  b : DataW H → Nat
  ba : List (DataW H) → Nat
  str : ∀ l, l.length + 1 ≤ b (.lit (.string l))
  one : ∀ d, 1 ≤ b d
  agg : ∀ l, ba l + 1 ≤ b (.agg l)
  slice : ∀ l r, ba l + 1 ≤ b (.slice l r)
  cons : ∀ d l, b d + ba l ≤ ba (d :: l)

/-- a call's arguments lie in memory that was there before -/
def ctxOf (W : World) : Ctx := ⟨fun _ => none, fun _ => none, fun b _ => b < W.heap.size, fun b => b < W.heap.size, W.heap.size⟩

section
variable {H : Type} (K : Bulk H) (enc : TypeId × Value → H) (P : Program) (W : World)
/-- cells of a type that can be read are data -/
def Rd {α : Type} (t : TypeId) (A : EncR α) (sz : α → Nat) : Prop :=
  ∀ (fuel : Nat) (cs : List Value) (x : DataW H × List MemPlace), DataW.trod enc P W 0 (fun _ => true) true fuel t cs = some x → ∃ y, LRel (ctxOf W) W (A.enc y) cs ∧ Flat cs ∧ sz y ≤ K.b x.1
def FRd {α : Type} (fs : List Field) (off : Nat) (A : EncR α) (sz : α → Nat) : Prop :=
  ∀ (fuel : Nat) (cs : List Value) (xs : List (DataW H × List MemPlace)), cs.length = off + A.k → xs.length = fs.length →
    (∀ (i : Nat) (f : Field), fs[i]? = some f → DataW.trod enc P W 0 (fun _ => true) true fuel f.type ((cs.drop f.offset).take (P.cellsOf f.type)) = xs[i]?) →
    ∃ y, LRel (ctxOf W) W (A.enc y) (cs.drop off) ∧ Flat (cs.drop off) ∧ sz y ≤ K.ba (xs.map (·.1))
variable {K enc P W}

theorem Rd.str {t : TypeId} (ht : P.underlying t = some .string) : Rd K enc P W t (EncR.one Enc.str) (fun s => s.size + 1) := by
  intro fuel cs x h
  obtain ⟨s, rfl, rfl, _⟩ := DataW.trod_string ht h
  refine ⟨s, by simp [EncR.one, Enc.str, LRel, VRel], by simp [Flat, Value.oneCell'], ?_⟩
  have := K.str s.data.toList
  simpa using this
theorem Rd.int {t : TypeId} {k : IntKind} (ht : P.underlying t = some (.int k)) : Rd K enc P W t (EncR.one (Enc.int k)) (fun _ => 1) := by
  intro fuel cs x h
  obtain ⟨n, rfl, rfl, _⟩ := DataW.trod_int ht h
  exact ⟨n, by simp [EncR.one, Enc.int, LRel, VRel], by simp [Flat, Value.oneCell'], K.one _⟩
theorem Rd.iso {α β : Type} {t : TypeId} {A : EncR α} {sz : α → Nat} (h : Rd K enc P W t A sz) (f : β → α) (g : α → β) (hf : ∀ x, f (g x) = x) (hg : ∀ y, g (f y) = y) : Rd K enc P W t (A.iso f g hf hg) (fun y => sz (f y)) := by
  intro fuel cs x hx
  obtain ⟨y, h1, h2, h3⟩ := h fuel cs x hx
  exact ⟨g y, by show LRel _ _ (A.enc (f (g y))) cs; rw [hf]; exact h1, h2, by show sz (f (g y)) ≤ _; rw [hf]; exact h3⟩

theorem CRel_in {b : Nat} (hb : b < W.heap.size) : ∀ (ds : List DV) (cs : List Value) (o : Nat), LRel (ctxOf W) W ds cs → Flat cs → (∀ j, j < cs.length → W.cell? ⟨b, o + j, none⟩ = cs[j]?) → CRel (ctxOf W) W b o ds
  | [], _, _, _, _, _ => by simp [CRel]
  | d :: ds, [], _, h, _, _ => by simp [LRel] at h
  | d :: ds, c :: cs, o, h, hf, hc => by
    simp only [LRel] at h
    simp only [CRel]
    refine ⟨⟨hb, c, by have := hc 0 (by simp); simpa using this, hf c (by simp), h.1⟩, CRel_in hb ds cs (o + 1) h.2 (fun y hy => hf y (by simp [hy])) fun j hj => ?_⟩
    have := hc (j + 1) (by simp; omega)
    rw [show o + 1 + j = o + (j + 1) by omega]; simpa using this

theorem rows_of {α : Type} {e : TypeId} {B : EncR α} {sz : α → Nat} (h : Rd K enc P W e B sz) (hk : B.k = P.cellsOf e) {b : Nat} (hb : b < W.heap.size) {n : Nat} :
    ∀ (xs : List (DataW H × List MemPlace)) (o : Nat), (∀ i, i < xs.length → ∃ cs : List Value, cs.length = B.k ∧ (∀ j, j < B.k → W.cell? ⟨b, o + i * B.k + j, none⟩ = cs[j]?) ∧ DataW.trod enc P W 0 (fun _ => true) true n e cs = xs[i]?) →
      ∃ ys : List α, ys.length = xs.length ∧ RRel (ctxOf W) W B.k b o (ys.map B.enc) ∧ (ys.map sz).sum ≤ K.ba (xs.map (·.1))
  | [], o, _ => ⟨[], rfl, by simp [RRel], by simp⟩
  | x :: xs, o, hx => by
    obtain ⟨cs, h1, h2, h3⟩ := hx 0 (by simp)
    obtain ⟨y, q1, q2, q3⟩ := h n cs x (by simpa using h3)
    obtain ⟨ys, r1, r2, r3⟩ := rows_of h hk hb xs (o + B.k) fun i hi => by
      obtain ⟨cs', p1, p2, p3⟩ := hx (i + 1) (by simp; omega)
      refine ⟨cs', p1, fun j hj => ?_, by simpa using p3⟩
      rw [← p2 j hj, show o + B.k + i * B.k + j = o + (i + 1) * B.k + j by rw [Nat.succ_mul]; omega]
    refine ⟨y :: ys, by simp [r1], ?_, ?_⟩
    · simp only [List.map_cons, RRel]
      exact ⟨B.len y, CRel_in hb _ _ _ q1 q2 (fun j hj => by have := h2 j (by omega); simpa using this), r2⟩
    · have := K.cons x.1 (xs.map (·.1))
      simp only [List.map_cons, List.sum_cons]; omega

theorem Rd.slice {α : Type} {t e : TypeId} {B : EncR α} {sz : α → Nat} (ht : P.underlying t = some (.slice e)) (h : Rd K enc P W e B sz) (hk : B.k = P.cellsOf e) (hpos : 0 < B.k) :
    Rd K enc P W t (EncR.one (Enc.slice B)) (fun l => (l.map sz).sum + 1) := by
  intro fuel cs x hx
  rcases DataW.trod_slice ht hx with ⟨rfl, rfl⟩ | ⟨a, len, cap, elems, rest, n, _, rfl, rfl, _, hl, _, hlen, hel, hsp, _⟩
  · exact ⟨[], by simp only [EncR.one, Enc.slice, LRel, VRel]; exact ⟨.inr ⟨none, rfl, rfl, trivial⟩, trivial⟩, by simp [Flat, Value.oneCell'], by simpa using K.one _⟩
  · obtain ⟨hrl, hr⟩ := hsp rfl
    have hflat : Flat [Value.slice (some a) len cap] := by simp [Flat, Value.oneCell']
    rcases Nat.eq_zero_or_pos cap with h0 | h0
    · obtain rfl : len = 0 := by omega
      subst h0
      exact ⟨[], by simp only [EncR.one, Enc.slice, LRel, VRel]; exact ⟨.inr ⟨some a, rfl, rfl, trivial⟩, trivial⟩, hflat, by simpa using K.one _⟩
    · -- the first cell is read: it has no spot
      have hcell : W.cell? a ≠ none := by
        have hb : ∃ y, (W.cells? 0 (a.add (0 * P.cellsOf e)) (P.cellsOf e)).bind (DataW.trod enc P W 0 (fun _ => true) true n e) = some y := by
          by_cases hz : 0 < len
          · have := hel 0 hz
            rw [this]; exact ⟨elems[0]'(by omega), by simp⟩
          · have := hr 0 (by omega)
            rw [show len + 0 = 0 by omega] at this
            rw [this]; exact ⟨rest[0]'(by omega), by simp⟩
        obtain ⟨y, hy⟩ := hb
        obtain ⟨cs', hcs, _⟩ := Option.bind_eq_some_iff.1 hy
        obtain ⟨_, hcl, hci⟩ := World.cells?_some hcs
        have := hci 0 (by omega)
        simp only [Nat.zero_mul, Addr.add, if_true] at this
        rw [this, List.getElem?_eq_getElem (by omega)]; simp
      obtain ⟨blk, off, spot⟩ := a
      have hspot : spot = none := by
        cases spot with
        | none => rfl
        | some s => exact absurd (by unfold World.cell?; split <;> simp) hcell
      subst hspot
      have hblk : blk < W.heap.size := by
        rcases Nat.lt_or_ge blk W.heap.size with q | q
        · exact q
        · exact absurd (by unfold World.cell?; simp [Array.getElem?_eq_none q]) hcell
      have hadd : ∀ m j, (Addr.add ⟨blk, off, none⟩ m).add j = ⟨blk, off + m + j, none⟩ := by
        intro m j
        unfold Addr.add
        split <;> split <;> simp_all <;> omega
      obtain ⟨ys, r1, r2, r3⟩ := rows_of h hk hblk (n := n) elems off fun i hi => by
        have := hel i (by omega)
        rw [List.getElem?_eq_getElem hi] at this ⊢
        obtain ⟨cs', hcs, hd⟩ := Option.bind_eq_some_iff.1 this
        obtain ⟨_, hcl, hci⟩ := World.cells?_some hcs
        refine ⟨cs', by omega, fun j hj => ?_, hd⟩
        rw [← hci j (by omega), hadd, hk]
      refine ⟨ys, ?_, hflat, ?_⟩
      · simp only [EncR.one, Enc.slice, LRel, VRel]
        refine ⟨.inl ⟨blk, off, cap, ?_, ?_, r2, trivial⟩, trivial⟩
        · simp [r1, hlen]
        · simp [r1, hlen]; exact hl
      · have := K.slice (elems.map (·.1)) (rest.map (·.1))
        simp only []; omega

theorem FRd.one {α : Type} {f : Field} {off : Nat} {A : EncR α} {sz : α → Nat} (h : Rd K enc P W f.type A sz) (hk : A.k = P.cellsOf f.type) (ho : f.offset = off) : FRd K enc P W [f] off A sz := by
  intro fuel cs xs hcl hxl hx
  obtain ⟨x, rfl⟩ : ∃ x, xs = [x] := by
    match xs, hxl with
    | [x], _ => exact ⟨x, rfl⟩
  have := hx 0 f (by simp)
  subst ho
  rw [List.take_of_length_le (by simp; omega)] at this
  obtain ⟨y, q1, q2, q3⟩ := h fuel _ x (by simpa using this)
  have := K.cons x.1 []
  exact ⟨y, q1, q2, by simp only [List.map_cons, List.map_nil]; omega⟩
theorem LRel_cat {C : Ctx} {w : World} : ∀ {a b : List DV} {x y : List Value}, LRel C w a x → LRel C w b y → LRel C w (a ++ b) (x ++ y)
  | [], _, [], _, _, h => h
  | _ :: _, _, _ :: _, _, h, h' => by simp only [LRel, List.cons_append] at h ⊢; exact ⟨h.1, LRel_cat h.2 h'⟩
  | [], _, _ :: _, _, h, _ => by simp [LRel] at h
  | _ :: _, _, [], _, h, _ => by simp [LRel] at h
theorem FRd.cons {α β : Type} {f : Field} {fs : List Field} {off : Nat} {A : EncR α} {B : EncR β} {sz : α → Nat} {sz' : β → Nat} (h : Rd K enc P W f.type A sz) (hk : A.k = P.cellsOf f.type) (ho : f.offset = off)
    (ht : FRd K enc P W fs (off + A.k) B sz') : FRd K enc P W (f :: fs) off (A.and B) (fun x => sz x.1 + sz' x.2) := by
  intro fuel cs xs hcl hxl hx
  have hcl' : cs.length = off + (A.k + B.k) := hcl
  match xs, hxl with
  | x :: xs, hxl =>
    have h0 := hx 0 f (by simp)
    subst ho
    obtain ⟨y, q1, q2, q3⟩ := h fuel _ x (by simpa using h0)
    obtain ⟨z, r1, r2, r3⟩ := ht fuel cs xs (by omega) (by simpa using hxl) fun i g hg => by have := hx (i + 1) g (by simpa using hg); simpa using this
    have hsplit : cs.drop f.offset = (cs.drop f.offset).take (P.cellsOf f.type) ++ cs.drop (f.offset + A.k) := by
      rw [hk, ← List.drop_drop, List.take_append_drop]
    refine ⟨(y, z), ?_, ?_, ?_⟩
    · rw [hsplit]; exact LRel_cat q1 r1
    · rw [hsplit]; intro v hv
      rcases List.mem_append.1 hv with hv | hv
      · exact q2 v hv
      · exact r2 v hv
    · have := K.cons x.1 (xs.map (·.1))
      simp only [List.map_cons]; omega
theorem Rd.struct {α : Type} {t : TypeId} {fs : Array Field} {A : EncR α} {sz : α → Nat} (ht : P.underlying t = some (.struct fs)) (hk : A.k = P.cellsOf t) (h : FRd K enc P W fs.toList 0 A sz) : Rd K enc P W t A (fun y => sz y + 1) := by
  intro fuel cs x hx
  obtain ⟨xs, n, _, rfl, hcl, hxl, hx⟩ := DataW.trod_struct ht hx
  obtain ⟨y, q1, q2, q3⟩ := h n cs xs (by omega) (by simpa using hxl) fun i f hf => hx i f (by simpa using hf)
  have := K.agg (xs.map (·.1))
  exact ⟨y, by simpa using q1, by simpa using q2, by simp only []; omega⟩
end
end Go.FA
open Go Go.FA Go.Proofs
namespace Go.Proofs.Yt
-- of a dump, by gen_ty.py
theorem ty1 : tyOf Tryz.prog 1 = some ⟨.func #[] #[] false, 1, 8, .lit (.nilFunc)⟩ := by kernel_rfl
theorem ty2 : tyOf Tryz.prog 2 = some ⟨.int .i64, 1, 8, .lit (.int .i64 0)⟩ := by kernel_rfl
theorem ty3 : tyOf Tryz.prog 3 = some ⟨.int .i64, 1, 8, .lit (.int .i64 0)⟩ := by kernel_rfl
theorem ty4 : tyOf Tryz.prog 4 = some ⟨.bool, 1, 1, .lit (.bool false)⟩ := by kernel_rfl
theorem ty5 : tyOf Tryz.prog 5 = some ⟨.int .u8, 1, 1, .lit (.int .u8 0)⟩ := by kernel_rfl
theorem ty6 : tyOf Tryz.prog 6 = some ⟨.int .u8, 1, 1, .lit (.int .u8 0)⟩ := by kernel_rfl
theorem ty7 : tyOf Tryz.prog 7 = some ⟨.struct #[{ name := "x", type := 2, offset := 0, embedded := false, tag := "", pkgPath := "runtime", byteOffset := 0 }, { name := "y", type := 3, offset := 1, embedded := false, tag := "", pkgPath := "runtime", byteOffset := 8 }, { name := "signed", type := 4, offset := 2, embedded := false, tag := "", pkgPath := "runtime", byteOffset := 16 }, { name := "code", type := 6, offset := 3, embedded := false, tag := "", pkgPath := "runtime", byteOffset := 17 }], 4, 24, .agg [.lit (.int .i64 0), .lit (.int .i64 0), .lit (.bool false), .lit (.int .u8 0)]⟩ := by kernel_rfl
theorem ty8 : tyOf Tryz.prog 8 = some ⟨.struct #[{ name := "x", type := 2, offset := 0, embedded := false, tag := "", pkgPath := "runtime", byteOffset := 0 }, { name := "y", type := 3, offset := 1, embedded := false, tag := "", pkgPath := "runtime", byteOffset := 8 }, { name := "signed", type := 4, offset := 2, embedded := false, tag := "", pkgPath := "runtime", byteOffset := 16 }, { name := "code", type := 6, offset := 3, embedded := false, tag := "", pkgPath := "runtime", byteOffset := 17 }], 4, 24, .agg [.lit (.int .i64 0), .lit (.int .i64 0), .lit (.bool false), .lit (.int .u8 0)]⟩ := by kernel_rfl
theorem ty9 : tyOf Tryz.prog 9 = some ⟨.string, 1, 16, .lit (.string ⟨#[]⟩)⟩ := by kernel_rfl
theorem ty10 : tyOf Tryz.prog 10 = some ⟨.string, 1, 16, .lit (.string ⟨#[]⟩)⟩ := by kernel_rfl
theorem ty11 : tyOf Tryz.prog 11 = some ⟨.string, 1, 16, .lit (.string ⟨#[]⟩)⟩ := by kernel_rfl
theorem ty12 : tyOf Tryz.prog 12 = some ⟨.int .u64, 1, 8, .lit (.int .u64 0)⟩ := by kernel_rfl
theorem ty13 : tyOf Tryz.prog 13 = some ⟨.struct #[{ name := "msg", type := 9, offset := 0, embedded := false, tag := "", pkgPath := "runtime", byteOffset := 0 }, { name := "addr", type := 12, offset := 1, embedded := false, tag := "", pkgPath := "runtime", byteOffset := 16 }], 2, 24, .agg [.lit (.string ⟨#[]⟩), .lit (.int .u64 0)]⟩ := by kernel_rfl
theorem ty14 : tyOf Tryz.prog 14 = some ⟨.struct #[{ name := "msg", type := 9, offset := 0, embedded := false, tag := "", pkgPath := "runtime", byteOffset := 0 }, { name := "addr", type := 12, offset := 1, embedded := false, tag := "", pkgPath := "runtime", byteOffset := 16 }], 2, 24, .agg [.lit (.string ⟨#[]⟩), .lit (.int .u64 0)]⟩ := by kernel_rfl
theorem ty15 : tyOf Tryz.prog 15 = some ⟨.pointer 157, 1, 8, .lit (.pointer none)⟩ := by kernel_rfl
theorem ty16 : tyOf Tryz.prog 16 = some ⟨.pointer 160, 1, 8, .lit (.pointer none)⟩ := by kernel_rfl
theorem ty17 : tyOf Tryz.prog 17 = some ⟨.pointer 169, 1, 8, .lit (.pointer none)⟩ := by kernel_rfl
theorem ty18 : tyOf Tryz.prog 18 = some ⟨.struct #[{ name := "typ", type := 17, offset := 0, embedded := false, tag := "", pkgPath := "internal/runtime/maps", byteOffset := 0 }], 1, 8, .agg [.lit (.pointer none)]⟩ := by kernel_rfl
theorem ty19 : tyOf Tryz.prog 19 = some ⟨.struct #[{ name := "typ", type := 17, offset := 0, embedded := false, tag := "", pkgPath := "internal/runtime/maps", byteOffset := 0 }], 1, 8, .agg [.lit (.pointer none)]⟩ := by kernel_rfl
theorem ty21 : tyOf Tryz.prog 21 = some ⟨.int .i32, 1, 4, .lit (.int .i32 0)⟩ := by kernel_rfl
theorem ty22 : tyOf Tryz.prog 22 = some ⟨.slice 9, 1, 24, .lit (.slice none 0 0)⟩ := by kernel_rfl
theorem ty23 : tyOf Tryz.prog 23 = some ⟨.slice 78, 1, 24, .lit (.slice none 0 0)⟩ := by kernel_rfl
theorem ty24 : tyOf Tryz.prog 24 = some ⟨.slice 38, 1, 24, .lit (.slice none 0 0)⟩ := by kernel_rfl
theorem ty25 : tyOf Tryz.prog 25 = some ⟨.struct #[{ name := "Sorts", type := 22, offset := 0, embedded := false, tag := "", pkgPath := "", byteOffset := 0 }, { name := "Below", type := 23, offset := 1, embedded := false, tag := "", pkgPath := "", byteOffset := 24 }, { name := "Ops", type := 24, offset := 2, embedded := false, tag := "", pkgPath := "", byteOffset := 48 }, { name := "Funs", type := 24, offset := 3, embedded := false, tag := "", pkgPath := "", byteOffset := 72 }, { name := "Values", type := 22, offset := 4, embedded := false, tag := "", pkgPath := "", byteOffset := 96 }], 5, 120, .agg [.lit (.slice none 0 0), .lit (.slice none 0 0), .lit (.slice none 0 0), .lit (.slice none 0 0), .lit (.slice none 0 0)]⟩ := by kernel_rfl
theorem ty26 : tyOf Tryz.prog 26 = some ⟨.struct #[{ name := "Sorts", type := 22, offset := 0, embedded := false, tag := "", pkgPath := "", byteOffset := 0 }, { name := "Below", type := 23, offset := 1, embedded := false, tag := "", pkgPath := "", byteOffset := 24 }, { name := "Ops", type := 24, offset := 2, embedded := false, tag := "", pkgPath := "", byteOffset := 48 }, { name := "Funs", type := 24, offset := 3, embedded := false, tag := "", pkgPath := "", byteOffset := 72 }, { name := "Values", type := 22, offset := 4, embedded := false, tag := "", pkgPath := "", byteOffset := 96 }], 5, 120, .agg [.lit (.slice none 0 0), .lit (.slice none 0 0), .lit (.slice none 0 0), .lit (.slice none 0 0), .lit (.slice none 0 0)]⟩ := by kernel_rfl
theorem ty27 : tyOf Tryz.prog 27 = some ⟨.func #[26] #[4] false, 1, 8, .lit (.nilFunc)⟩ := by kernel_rfl
theorem ty28 : tyOf Tryz.prog 28 = some ⟨.func #[] #[4] false, 1, 8, .lit (.nilFunc)⟩ := by kernel_rfl
theorem ty29 : tyOf Tryz.prog 29 = some ⟨.int .i64, 1, 8, .lit (.int .i64 0)⟩ := by kernel_rfl
theorem ty31 : tyOf Tryz.prog 31 = some ⟨.func #[26, 9, 9] #[4, 29] false, 1, 8, .lit (.nilFunc)⟩ := by kernel_rfl
theorem ty32 : tyOf Tryz.prog 32 = some ⟨.func #[26, 9] #[4, 29] false, 1, 8, .lit (.nilFunc)⟩ := by kernel_rfl
theorem ty33 : tyOf Tryz.prog 33 = some ⟨.func #[26, 9, 9] #[4] false, 1, 8, .lit (.nilFunc)⟩ := by kernel_rfl
theorem ty34 : tyOf Tryz.prog 34 = some ⟨.slice 69, 1, 24, .lit (.slice none 0 0)⟩ := by kernel_rfl
theorem ty35 : tyOf Tryz.prog 35 = some ⟨.int .i64, 1, 8, .lit (.int .i64 0)⟩ := by kernel_rfl
theorem ty36 : tyOf Tryz.prog 36 = some ⟨.slice 3, 1, 24, .lit (.slice none 0 0)⟩ := by kernel_rfl
theorem ty37 : tyOf Tryz.prog 37 = some ⟨.struct #[{ name := "Name", type := 9, offset := 0, embedded := false, tag := "", pkgPath := "", byteOffset := 0 }, { name := "Args", type := 22, offset := 1, embedded := false, tag := "", pkgPath := "", byteOffset := 16 }, { name := "Sort", type := 9, offset := 2, embedded := false, tag := "", pkgPath := "", byteOffset := 40 }, { name := "Pieces", type := 34, offset := 3, embedded := false, tag := "", pkgPath := "", byteOffset := 56 }, { name := "Prec", type := 3, offset := 4, embedded := false, tag := "", pkgPath := "", byteOffset := 80 }, { name := "Assoc", type := 35, offset := 5, embedded := false, tag := "", pkgPath := "", byteOffset := 88 }, { name := "Strict", type := 36, offset := 6, embedded := false, tag := "", pkgPath := "", byteOffset := 96 }], 7, 120, .agg [.lit (.string ⟨#[]⟩), .lit (.slice none 0 0), .lit (.string ⟨#[]⟩), .lit (.slice none 0 0), .lit (.int .i64 0), .lit (.int .i64 0), .lit (.slice none 0 0)]⟩ := by kernel_rfl
theorem ty38 : tyOf Tryz.prog 38 = some ⟨.struct #[{ name := "Name", type := 9, offset := 0, embedded := false, tag := "", pkgPath := "", byteOffset := 0 }, { name := "Args", type := 22, offset := 1, embedded := false, tag := "", pkgPath := "", byteOffset := 16 }, { name := "Sort", type := 9, offset := 2, embedded := false, tag := "", pkgPath := "", byteOffset := 40 }, { name := "Pieces", type := 34, offset := 3, embedded := false, tag := "", pkgPath := "", byteOffset := 56 }, { name := "Prec", type := 3, offset := 4, embedded := false, tag := "", pkgPath := "", byteOffset := 80 }, { name := "Assoc", type := 35, offset := 5, embedded := false, tag := "", pkgPath := "", byteOffset := 88 }, { name := "Strict", type := 36, offset := 6, embedded := false, tag := "", pkgPath := "", byteOffset := 96 }], 7, 120, .agg [.lit (.string ⟨#[]⟩), .lit (.slice none 0 0), .lit (.string ⟨#[]⟩), .lit (.slice none 0 0), .lit (.int .i64 0), .lit (.int .i64 0), .lit (.slice none 0 0)]⟩ := by kernel_rfl
theorem ty40 : tyOf Tryz.prog 40 = some ⟨.func #[26, 9] #[38, 29] false, 1, 8, .lit (.nilFunc)⟩ := by kernel_rfl
theorem ty41 : tyOf Tryz.prog 41 = some ⟨.func #[38, 38] #[4] false, 1, 8, .lit (.nilFunc)⟩ := by kernel_rfl
theorem ty43 : tyOf Tryz.prog 43 = some ⟨.func #[26, 9] #[22, 29] false, 1, 8, .lit (.nilFunc)⟩ := by kernel_rfl
theorem ty44 : tyOf Tryz.prog 44 = some ⟨.func #[22, 22] #[4] false, 1, 8, .lit (.nilFunc)⟩ := by kernel_rfl
theorem ty45 : tyOf Tryz.prog 45 = some ⟨.func #[26, 9] #[4] false, 1, 8, .lit (.nilFunc)⟩ := by kernel_rfl
theorem ty46 : tyOf Tryz.prog 46 = some ⟨.array 2 9, 2, 32, .agg [.lit (.string ⟨#[]⟩), .lit (.string ⟨#[]⟩)]⟩ := by kernel_rfl
theorem ty48 : tyOf Tryz.prog 48 = some ⟨.func #[26, 9, 9] #[26, 29] false, 1, 8, .lit (.nilFunc)⟩ := by kernel_rfl
theorem ty49 : tyOf Tryz.prog 49 = some ⟨.func #[26, 26] #[4] false, 1, 8, .lit (.nilFunc)⟩ := by kernel_rfl
theorem ty50 : tyOf Tryz.prog 50 = some ⟨.func #[9] #[4] false, 1, 8, .lit (.nilFunc)⟩ := by kernel_rfl
theorem ty51 : tyOf Tryz.prog 51 = some ⟨.func #[26, 26, 46] #[4] false, 1, 8, .lit (.nilFunc)⟩ := by kernel_rfl
theorem ty52 : tyOf Tryz.prog 52 = some ⟨.func #[26] #[22] false, 1, 8, .lit (.nilFunc)⟩ := by kernel_rfl
theorem ty53 : tyOf Tryz.prog 53 = some ⟨.func #[22, 9] #[4] false, 1, 8, .lit (.nilFunc)⟩ := by kernel_rfl
theorem ty54 : tyOf Tryz.prog 54 = some ⟨.func #[] #[26] false, 1, 8, .lit (.nilFunc)⟩ := by kernel_rfl
theorem ty55 : tyOf Tryz.prog 55 = some ⟨.map 9 22, 1, 8, .lit (.map none)⟩ := by kernel_rfl
theorem ty56 : tyOf Tryz.prog 56 = some ⟨.map 9 38, 1, 8, .lit (.map none)⟩ := by kernel_rfl
theorem ty57 : tyOf Tryz.prog 57 = some ⟨.struct #[{ name := "highs", type := 55, offset := 0, embedded := false, tag := "", pkgPath := "voussoir/sorts", byteOffset := 0 }, { name := "ops", type := 56, offset := 1, embedded := false, tag := "", pkgPath := "voussoir/sorts", byteOffset := 8 }, { name := "funs", type := 56, offset := 2, embedded := false, tag := "", pkgPath := "voussoir/sorts", byteOffset := 16 }], 3, 24, .agg [.lit (.map none), .lit (.map none), .lit (.map none)]⟩ := by kernel_rfl
theorem ty58 : tyOf Tryz.prog 58 = some ⟨.struct #[{ name := "highs", type := 55, offset := 0, embedded := false, tag := "", pkgPath := "voussoir/sorts", byteOffset := 0 }, { name := "ops", type := 56, offset := 1, embedded := false, tag := "", pkgPath := "voussoir/sorts", byteOffset := 8 }, { name := "funs", type := 56, offset := 2, embedded := false, tag := "", pkgPath := "voussoir/sorts", byteOffset := 16 }], 3, 24, .agg [.lit (.map none), .lit (.map none), .lit (.map none)]⟩ := by kernel_rfl
theorem ty60 : tyOf Tryz.prog 60 = some ⟨.func #[26, 22] #[58, 29] true, 1, 8, .lit (.nilFunc)⟩ := by kernel_rfl
theorem ty61 : tyOf Tryz.prog 61 = some ⟨.func #[22] #[4] false, 1, 8, .lit (.nilFunc)⟩ := by kernel_rfl
theorem ty62 : tyOf Tryz.prog 62 = some ⟨.func #[9, 9] #[4] false, 1, 8, .lit (.nilFunc)⟩ := by kernel_rfl
theorem ty63 : tyOf Tryz.prog 63 = some ⟨.func #[26, 22] #[29] true, 1, 8, .lit (.nilFunc)⟩ := by kernel_rfl
theorem ty64 : tyOf Tryz.prog 64 = some ⟨.func #[22] #[4] true, 1, 8, .lit (.nilFunc)⟩ := by kernel_rfl
theorem ty65 : tyOf Tryz.prog 65 = some ⟨.func #[22, 50] #[4] false, 1, 8, .lit (.nilFunc)⟩ := by kernel_rfl
theorem ty66 : tyOf Tryz.prog 66 = some ⟨.func #[56, 9] #[38, 29] false, 1, 8, .lit (.nilFunc)⟩ := by kernel_rfl
theorem ty67 : tyOf Tryz.prog 67 = some ⟨.func #[26, 24, 9] #[38, 29] false, 1, 8, .lit (.nilFunc)⟩ := by kernel_rfl
theorem ty68 : tyOf Tryz.prog 68 = some ⟨.struct #[{ name := "Text", type := 9, offset := 0, embedded := false, tag := "", pkgPath := "", byteOffset := 0 }, { name := "Sort", type := 9, offset := 1, embedded := false, tag := "", pkgPath := "", byteOffset := 16 }], 2, 32, .agg [.lit (.string ⟨#[]⟩), .lit (.string ⟨#[]⟩)]⟩ := by kernel_rfl
theorem ty69 : tyOf Tryz.prog 69 = some ⟨.struct #[{ name := "Text", type := 9, offset := 0, embedded := false, tag := "", pkgPath := "", byteOffset := 0 }, { name := "Sort", type := 9, offset := 1, embedded := false, tag := "", pkgPath := "", byteOffset := 16 }], 2, 32, .agg [.lit (.string ⟨#[]⟩), .lit (.string ⟨#[]⟩)]⟩ := by kernel_rfl
theorem ty70 : tyOf Tryz.prog 70 = some ⟨.func #[50] #[22] false, 1, 8, .lit (.nilFunc)⟩ := by kernel_rfl
theorem ty71 : tyOf Tryz.prog 71 = some ⟨.func #[22] #[22] false, 1, 8, .lit (.nilFunc)⟩ := by kernel_rfl
theorem ty72 : tyOf Tryz.prog 72 = some ⟨.struct #[{ name := "book", type := 58, offset := 0, embedded := true, tag := "", pkgPath := "voussoir/sorts", byteOffset := 0 }, { name := "a", type := 9, offset := 3, embedded := false, tag := "", pkgPath := "voussoir/sorts", byteOffset := 24 }, { name := "b", type := 9, offset := 4, embedded := false, tag := "", pkgPath := "voussoir/sorts", byteOffset := 40 }], 5, 56, .agg [.lit (.map none), .lit (.map none), .lit (.map none), .lit (.string ⟨#[]⟩), .lit (.string ⟨#[]⟩)]⟩ := by kernel_rfl
theorem ty73 : tyOf Tryz.prog 73 = some ⟨.struct #[{ name := "book", type := 58, offset := 0, embedded := true, tag := "", pkgPath := "voussoir/sorts", byteOffset := 0 }, { name := "a", type := 9, offset := 3, embedded := false, tag := "", pkgPath := "voussoir/sorts", byteOffset := 24 }, { name := "b", type := 9, offset := 4, embedded := false, tag := "", pkgPath := "voussoir/sorts", byteOffset := 40 }], 5, 56, .agg [.lit (.map none), .lit (.map none), .lit (.map none), .lit (.string ⟨#[]⟩), .lit (.string ⟨#[]⟩)]⟩ := by kernel_rfl
theorem ty74 : tyOf Tryz.prog 74 = some ⟨.func #[22, 75] #[22] false, 1, 8, .lit (.nilFunc)⟩ := by kernel_rfl
theorem ty75 : tyOf Tryz.prog 75 = some ⟨.func #[9] #[9] false, 1, 8, .lit (.nilFunc)⟩ := by kernel_rfl
theorem ty76 : tyOf Tryz.prog 76 = some ⟨.func #[23, 79] #[23] false, 1, 8, .lit (.nilFunc)⟩ := by kernel_rfl
theorem ty77 : tyOf Tryz.prog 77 = some ⟨.struct #[{ name := "Low", type := 9, offset := 0, embedded := false, tag := "", pkgPath := "", byteOffset := 0 }, { name := "High", type := 9, offset := 1, embedded := false, tag := "", pkgPath := "", byteOffset := 16 }], 2, 32, .agg [.lit (.string ⟨#[]⟩), .lit (.string ⟨#[]⟩)]⟩ := by kernel_rfl
theorem ty78 : tyOf Tryz.prog 78 = some ⟨.struct #[{ name := "Low", type := 9, offset := 0, embedded := false, tag := "", pkgPath := "", byteOffset := 0 }, { name := "High", type := 9, offset := 1, embedded := false, tag := "", pkgPath := "", byteOffset := 16 }], 2, 32, .agg [.lit (.string ⟨#[]⟩), .lit (.string ⟨#[]⟩)]⟩ := by kernel_rfl
theorem ty79 : tyOf Tryz.prog 79 = some ⟨.func #[78] #[78] false, 1, 8, .lit (.nilFunc)⟩ := by kernel_rfl
theorem ty80 : tyOf Tryz.prog 80 = some ⟨.func #[24, 81] #[24] false, 1, 8, .lit (.nilFunc)⟩ := by kernel_rfl
theorem ty81 : tyOf Tryz.prog 81 = some ⟨.func #[38] #[38] false, 1, 8, .lit (.nilFunc)⟩ := by kernel_rfl
theorem ty82 : tyOf Tryz.prog 82 = some ⟨.func #[26, 9, 9, 9] #[9] false, 1, 8, .lit (.nilFunc)⟩ := by kernel_rfl
theorem ty83 : tyOf Tryz.prog 83 = some ⟨.func #[26, 24, 9, 9] #[24] false, 1, 8, .lit (.nilFunc)⟩ := by kernel_rfl
theorem ty84 : tyOf Tryz.prog 84 = some ⟨.func #[24, 24] #[4] false, 1, 8, .lit (.nilFunc)⟩ := by kernel_rfl
theorem ty85 : tyOf Tryz.prog 85 = some ⟨.func #[23, 23] #[4] false, 1, 8, .lit (.nilFunc)⟩ := by kernel_rfl
theorem ty86 : tyOf Tryz.prog 86 = some ⟨.func #[24, 24, 41] #[4] false, 1, 8, .lit (.nilFunc)⟩ := by kernel_rfl
theorem ty87 : tyOf Tryz.prog 87 = some ⟨.func #[] #[22] false, 1, 8, .lit (.nilFunc)⟩ := by kernel_rfl
theorem ty88 : tyOf Tryz.prog 88 = some ⟨.func #[5] #[4] false, 1, 8, .lit (.nilFunc)⟩ := by kernel_rfl
theorem ty89 : tyOf Tryz.prog 89 = some ⟨.func #[9, 88] #[4] false, 1, 8, .lit (.nilFunc)⟩ := by kernel_rfl
theorem ty90 : tyOf Tryz.prog 90 = some ⟨.func #[26] #[58] false, 1, 8, .lit (.nilFunc)⟩ := by kernel_rfl
theorem ty91 : tyOf Tryz.prog 91 = some ⟨.func #[26, 9] #[22] false, 1, 8, .lit (.nilFunc)⟩ := by kernel_rfl
theorem ty92 : tyOf Tryz.prog 92 = some ⟨.func #[26, 38] #[4] false, 1, 8, .lit (.nilFunc)⟩ := by kernel_rfl
theorem ty93 : tyOf Tryz.prog 93 = some ⟨.func #[38] #[4] false, 1, 8, .lit (.nilFunc)⟩ := by kernel_rfl
theorem ty94 : tyOf Tryz.prog 94 = some ⟨.map 9 4, 1, 8, .lit (.map none)⟩ := by kernel_rfl
theorem ty95 : tyOf Tryz.prog 95 = some ⟨.func #[9] #[94] false, 1, 8, .lit (.nilFunc)⟩ := by kernel_rfl
theorem ty97 : tyOf Tryz.prog 97 = some ⟨.func #[22, 50] #[3] false, 1, 8, .lit (.nilFunc)⟩ := by kernel_rfl
theorem ty99 : tyOf Tryz.prog 99 = some ⟨.func #[24, 9] #[38, 4] false, 1, 8, .lit (.nilFunc)⟩ := by kernel_rfl
theorem ty100 : tyOf Tryz.prog 100 = some ⟨.func #[22] #[] false, 1, 8, .lit (.nilFunc)⟩ := by kernel_rfl
theorem ty102 : tyOf Tryz.prog 102 = some ⟨.func #[9, 9] #[9, 9, 4] false, 1, 8, .lit (.nilFunc)⟩ := by kernel_rfl
theorem ty103 : tyOf Tryz.prog 103 = some ⟨.func #[34, 104] #[34] false, 1, 8, .lit (.nilFunc)⟩ := by kernel_rfl
theorem ty104 : tyOf Tryz.prog 104 = some ⟨.func #[69] #[69] false, 1, 8, .lit (.nilFunc)⟩ := by kernel_rfl
theorem ty105 : tyOf Tryz.prog 105 = some ⟨.func #[9, 9, 9] #[9] false, 1, 8, .lit (.nilFunc)⟩ := by kernel_rfl
theorem ty106 : tyOf Tryz.prog 106 = some ⟨.func #[34, 34] #[4] false, 1, 8, .lit (.nilFunc)⟩ := by kernel_rfl
theorem ty107 : tyOf Tryz.prog 107 = some ⟨.func #[36, 36] #[4] false, 1, 8, .lit (.nilFunc)⟩ := by kernel_rfl
theorem ty108 : tyOf Tryz.prog 108 = some ⟨.func #[24] #[56] false, 1, 8, .lit (.nilFunc)⟩ := by kernel_rfl
theorem ty109 : tyOf Tryz.prog 109 = some ⟨.func #[119] #[22] true, 1, 8, .lit (.nilFunc)⟩ := by kernel_rfl
theorem ty110 : tyOf Tryz.prog 110 = some ⟨.func #[23] #[4] false, 1, 8, .lit (.nilFunc)⟩ := by kernel_rfl
theorem ty111 : tyOf Tryz.prog 111 = some ⟨.func #[24, 93] #[4] false, 1, 8, .lit (.nilFunc)⟩ := by kernel_rfl
theorem ty113 : tyOf Tryz.prog 113 = some ⟨.func #[9] #[9, 9] false, 1, 8, .lit (.nilFunc)⟩ := by kernel_rfl
theorem ty114 : tyOf Tryz.prog 114 = some ⟨.func #[34] #[34] false, 1, 8, .lit (.nilFunc)⟩ := by kernel_rfl
theorem ty115 : tyOf Tryz.prog 115 = some ⟨.func #[36] #[36] false, 1, 8, .lit (.nilFunc)⟩ := by kernel_rfl
theorem ty116 : tyOf Tryz.prog 116 = some ⟨.func #[22, 3, 3, 3] #[] false, 1, 8, .lit (.nilFunc)⟩ := by kernel_rfl
theorem ty117 : tyOf Tryz.prog 117 = some ⟨.func #[118] #[3] false, 1, 8, .lit (.nilFunc)⟩ := by kernel_rfl
theorem ty118 : tyOf Tryz.prog 118 = some ⟨.int .u64, 1, 8, .lit (.int .u64 0)⟩ := by kernel_rfl
theorem ty119 : tyOf Tryz.prog 119 = some ⟨.slice 22, 1, 24, .lit (.slice none 0 0)⟩ := by kernel_rfl
theorem ty120 : tyOf Tryz.prog 120 = some ⟨.func #[22, 3] #[22] false, 1, 8, .lit (.nilFunc)⟩ := by kernel_rfl
theorem ty121 : tyOf Tryz.prog 121 = some ⟨.func #[138] #[24] true, 1, 8, .lit (.nilFunc)⟩ := by kernel_rfl
theorem ty122 : tyOf Tryz.prog 122 = some ⟨.func #[24, 93] #[3] false, 1, 8, .lit (.nilFunc)⟩ := by kernel_rfl
theorem ty123 : tyOf Tryz.prog 123 = some ⟨.func #[22, 3, 3] #[] false, 1, 8, .lit (.nilFunc)⟩ := by kernel_rfl
theorem ty124 : tyOf Tryz.prog 124 = some ⟨.int .i64, 1, 8, .lit (.int .i64 0)⟩ := by kernel_rfl
theorem ty126 : tyOf Tryz.prog 126 = some ⟨.func #[22, 3, 3] #[3, 124] false, 1, 8, .lit (.nilFunc)⟩ := by kernel_rfl
theorem ty127 : tyOf Tryz.prog 127 = some ⟨.func #[22, 3, 3] #[4] false, 1, 8, .lit (.nilFunc)⟩ := by kernel_rfl
theorem ty128 : tyOf Tryz.prog 128 = some ⟨.func #[22, 3, 3, 3] #[3] false, 1, 8, .lit (.nilFunc)⟩ := by kernel_rfl
theorem ty130 : tyOf Tryz.prog 130 = some ⟨.func #[22, 3, 3, 3] #[3, 4] false, 1, 8, .lit (.nilFunc)⟩ := by kernel_rfl
theorem ty131 : tyOf Tryz.prog 131 = some ⟨.func #[132] #[3] false, 1, 8, .lit (.nilFunc)⟩ := by kernel_rfl
theorem ty132 : tyOf Tryz.prog 132 = some ⟨.int .u32, 1, 4, .lit (.int .u32 0)⟩ := by kernel_rfl
theorem ty133 : tyOf Tryz.prog 133 = some ⟨.func #[134] #[3] false, 1, 8, .lit (.nilFunc)⟩ := by kernel_rfl
theorem ty134 : tyOf Tryz.prog 134 = some ⟨.int .u64, 1, 8, .lit (.int .u64 0)⟩ := by kernel_rfl
theorem ty135 : tyOf Tryz.prog 135 = some ⟨.func #[22, 9] #[3] false, 1, 8, .lit (.nilFunc)⟩ := by kernel_rfl
theorem ty136 : tyOf Tryz.prog 136 = some ⟨.func #[9, 9] #[3] false, 1, 8, .lit (.nilFunc)⟩ := by kernel_rfl
theorem ty137 : tyOf Tryz.prog 137 = some ⟨.map 78 4, 1, 8, .lit (.map none)⟩ := by kernel_rfl
theorem ty138 : tyOf Tryz.prog 138 = some ⟨.slice 24, 1, 24, .lit (.slice none 0 0)⟩ := by kernel_rfl
theorem ty139 : tyOf Tryz.prog 139 = some ⟨.func #[24, 3] #[24] false, 1, 8, .lit (.nilFunc)⟩ := by kernel_rfl
theorem ty140 : tyOf Tryz.prog 140 = some ⟨.func #[36] #[4] false, 1, 8, .lit (.nilFunc)⟩ := by kernel_rfl
theorem ty141 : tyOf Tryz.prog 141 = some ⟨.int .u64, 1, 8, .lit (.int .u64 0)⟩ := by kernel_rfl
theorem ty142 : tyOf Tryz.prog 142 = some ⟨.func #[3] #[118] false, 1, 8, .lit (.nilFunc)⟩ := by kernel_rfl
theorem ty143 : tyOf Tryz.prog 143 = some ⟨.func #[] #[134] false, 1, 8, .lit (.nilFunc)⟩ := by kernel_rfl
theorem ty144 : tyOf Tryz.prog 144 = some ⟨.func #[22, 3, 145] #[3] false, 1, 8, .lit (.nilFunc)⟩ := by kernel_rfl
theorem ty145 : tyOf Tryz.prog 145 = some ⟨.pointer 3, 1, 8, .lit (.pointer none)⟩ := by kernel_rfl
theorem ty146 : tyOf Tryz.prog 146 = some ⟨.func #[22, 3, 3, 3, 145] #[3] false, 1, 8, .lit (.nilFunc)⟩ := by kernel_rfl
theorem ty147 : tyOf Tryz.prog 147 = some ⟨.func #[9, 5] #[3] false, 1, 8, .lit (.nilFunc)⟩ := by kernel_rfl
theorem ty148 : tyOf Tryz.prog 148 = some ⟨.func #[3] #[3] false, 1, 8, .lit (.nilFunc)⟩ := by kernel_rfl
theorem ty149 : tyOf Tryz.prog 149 = some ⟨.map 3 4, 1, 8, .lit (.map none)⟩ := by kernel_rfl
theorem ty150 : tyOf Tryz.prog 150 = some ⟨.pointer 141, 1, 8, .lit (.pointer none)⟩ := by kernel_rfl
theorem ty152 : tyOf Tryz.prog 152 = some ⟨.func #[22, 3, 3, 145] #[3, 3] false, 1, 8, .lit (.nilFunc)⟩ := by kernel_rfl
theorem ty154 : tyOf Tryz.prog 154 = some ⟨.func #[9] #[132, 132] false, 1, 8, .lit (.nilFunc)⟩ := by kernel_rfl
theorem ty155 : tyOf Tryz.prog 155 = some ⟨.func #[] #[9] false, 1, 8, .lit (.nilFunc)⟩ := by kernel_rfl
theorem ty156 : tyOf Tryz.prog 156 = some ⟨.struct #[{ name := "_interface", type := 17, offset := 0, embedded := false, tag := "", pkgPath := "runtime", byteOffset := 0 }, { name := "concrete", type := 17, offset := 1, embedded := false, tag := "", pkgPath := "runtime", byteOffset := 8 }, { name := "asserted", type := 17, offset := 2, embedded := false, tag := "", pkgPath := "runtime", byteOffset := 16 }, { name := "missingMethod", type := 9, offset := 3, embedded := false, tag := "", pkgPath := "runtime", byteOffset := 24 }], 4, 40, .agg [.lit (.pointer none), .lit (.pointer none), .lit (.pointer none), .lit (.string ⟨#[]⟩)]⟩ := by kernel_rfl
theorem ty157 : tyOf Tryz.prog 157 = some ⟨.struct #[{ name := "_interface", type := 17, offset := 0, embedded := false, tag := "", pkgPath := "runtime", byteOffset := 0 }, { name := "concrete", type := 17, offset := 1, embedded := false, tag := "", pkgPath := "runtime", byteOffset := 8 }, { name := "asserted", type := 17, offset := 2, embedded := false, tag := "", pkgPath := "runtime", byteOffset := 16 }, { name := "missingMethod", type := 9, offset := 3, embedded := false, tag := "", pkgPath := "runtime", byteOffset := 24 }], 4, 40, .agg [.lit (.pointer none), .lit (.pointer none), .lit (.pointer none), .lit (.string ⟨#[]⟩)]⟩ := by kernel_rfl
theorem ty158 : tyOf Tryz.prog 158 = some ⟨.array 0 16, 0, 0, .agg []⟩ := by kernel_rfl
theorem ty159 : tyOf Tryz.prog 159 = some ⟨.struct #[{ name := "_", type := 158, offset := 0, embedded := false, tag := "", pkgPath := "runtime", byteOffset := 0 }], 0, 0, .agg []⟩ := by kernel_rfl
theorem ty160 : tyOf Tryz.prog 160 = some ⟨.struct #[{ name := "_", type := 158, offset := 0, embedded := false, tag := "", pkgPath := "runtime", byteOffset := 0 }], 0, 0, .agg []⟩ := by kernel_rfl
theorem ty161 : tyOf Tryz.prog 161 = some ⟨.func #[] #[3] false, 1, 8, .lit (.nilFunc)⟩ := by kernel_rfl
theorem ty162 : tyOf Tryz.prog 162 = some ⟨.int .u8, 1, 1, .lit (.int .u8 0)⟩ := by kernel_rfl
theorem ty163 : tyOf Tryz.prog 163 = some ⟨.int .u8, 1, 1, .lit (.int .u8 0)⟩ := by kernel_rfl
theorem ty164 : tyOf Tryz.prog 164 = some ⟨.func #[170, 170] #[4] false, 1, 8, .lit (.nilFunc)⟩ := by kernel_rfl
theorem ty165 : tyOf Tryz.prog 165 = some ⟨.pointer 5, 1, 8, .lit (.pointer none)⟩ := by kernel_rfl
theorem ty166 : tyOf Tryz.prog 166 = some ⟨.int .i32, 1, 4, .lit (.int .i32 0)⟩ := by kernel_rfl
theorem ty167 : tyOf Tryz.prog 167 = some ⟨.int .i32, 1, 4, .lit (.int .i32 0)⟩ := by kernel_rfl
theorem ty168 : tyOf Tryz.prog 168 = some ⟨.struct #[{ name := "Size_", type := 12, offset := 0, embedded := false, tag := "", pkgPath := "", byteOffset := 0 }, { name := "PtrBytes", type := 12, offset := 1, embedded := false, tag := "", pkgPath := "", byteOffset := 8 }, { name := "Hash", type := 132, offset := 2, embedded := false, tag := "", pkgPath := "", byteOffset := 16 }, { name := "TFlag", type := 162, offset := 3, embedded := false, tag := "", pkgPath := "", byteOffset := 20 }, { name := "Align_", type := 5, offset := 4, embedded := false, tag := "", pkgPath := "", byteOffset := 21 }, { name := "FieldAlign_", type := 5, offset := 5, embedded := false, tag := "", pkgPath := "", byteOffset := 22 }, { name := "Kind_", type := 163, offset := 6, embedded := false, tag := "", pkgPath := "", byteOffset := 23 }, { name := "Equal", type := 164, offset := 7, embedded := false, tag := "", pkgPath := "", byteOffset := 24 }, { name := "GCData", type := 165, offset := 8, embedded := false, tag := "", pkgPath := "", byteOffset := 32 }, { name := "Str", type := 166, offset := 9, embedded := false, tag := "", pkgPath := "", byteOffset := 40 }, { name := "PtrToThis", type := 167, offset := 10, embedded := false, tag := "", pkgPath := "", byteOffset := 44 }], 11, 48, .agg [.lit (.int .u64 0), .lit (.int .u64 0), .lit (.int .u32 0), .lit (.int .u8 0), .lit (.int .u8 0), .lit (.int .u8 0), .lit (.int .u8 0), .lit (.nilFunc), .lit (.pointer none), .lit (.int .i32 0), .lit (.int .i32 0)]⟩ := by kernel_rfl
theorem ty169 : tyOf Tryz.prog 169 = some ⟨.struct #[{ name := "Size_", type := 12, offset := 0, embedded := false, tag := "", pkgPath := "", byteOffset := 0 }, { name := "PtrBytes", type := 12, offset := 1, embedded := false, tag := "", pkgPath := "", byteOffset := 8 }, { name := "Hash", type := 132, offset := 2, embedded := false, tag := "", pkgPath := "", byteOffset := 16 }, { name := "TFlag", type := 162, offset := 3, embedded := false, tag := "", pkgPath := "", byteOffset := 20 }, { name := "Align_", type := 5, offset := 4, embedded := false, tag := "", pkgPath := "", byteOffset := 21 }, { name := "FieldAlign_", type := 5, offset := 5, embedded := false, tag := "", pkgPath := "", byteOffset := 22 }, { name := "Kind_", type := 163, offset := 6, embedded := false, tag := "", pkgPath := "", byteOffset := 23 }, { name := "Equal", type := 164, offset := 7, embedded := false, tag := "", pkgPath := "", byteOffset := 24 }, { name := "GCData", type := 165, offset := 8, embedded := false, tag := "", pkgPath := "", byteOffset := 32 }, { name := "Str", type := 166, offset := 9, embedded := false, tag := "", pkgPath := "", byteOffset := 40 }, { name := "PtrToThis", type := 167, offset := 10, embedded := false, tag := "", pkgPath := "", byteOffset := 44 }], 11, 48, .agg [.lit (.int .u64 0), .lit (.int .u64 0), .lit (.int .u32 0), .lit (.int .u8 0), .lit (.int .u8 0), .lit (.int .u8 0), .lit (.int .u8 0), .lit (.nilFunc), .lit (.pointer none), .lit (.int .i32 0), .lit (.int .i32 0)]⟩ := by kernel_rfl
end Go.Proofs.Yt
namespace Go.Proofs.Yt
open Go Go.FA Go.Proofs
set_option linter.unusedVariables false
set_option linter.unusedSimpArgs false
set_option maxRecDepth 100000

def letter (c : Int) : Bool := decide (97 ≤ c) && decide (c ≤ 122) || decide (65 ≤ c) && decide (c ≤ 90)
def s80 : Sp := sp (arg1 (Enc.int .u8)) Enc.bool (fun c => some (letter c))

attribute [local simp] drunL drunO dwanted dopS own plainOf dop dput eval ofVal Then Ex.then Ex.inBlock upd dbin Tag.isNN nilTest intCmp dload dpart TyI.agg dfieldAddr dfield dindexAddr dindex dlen lenOk dlookup mapOf keyFits dmapUpdate dcallee dbuiltin dstore DV.cells dslice dboundOk dappend appTag rowsOf elemOk growLimit dbuildCells dbuildCells.go structOk fieldsOk dbuildRows goInt
theorem c80 : CallSound Tryz.prog 80 s80 := by
  refine CallSound.of_sp (T := tabOf []) Tryz.func80 rfl (Nat.le_of_ble_eq_true rfl) fun E c y hy => ?_
  simp at hy; subst hy
  refine Dwp.seq (Dwp.run tab0 rfl ?_)
  simp only [drunL, drunO, dwanted, dopS, own, plainOf, dop, dput, eval, ofVal, Then, Ex.then, Ex.inBlock, upd, dbin, Tag.isNN, nilTest, intCmp, dload, dpart, TyI.agg, dfieldAddr, dfield, dindexAddr, dindex, dlen, lenOk, dlookup, mapOf, keyFits, dmapUpdate, dcallee, dcall, tabOf, dbuiltin, dstore, DV.cells, setAt, dslice, dboundOk, dappend, appTag, rowsOf, elemOk, growLimit, dbuildCells, dbuildCells.go, structOk, fieldsOk, dbuildRows, goInt, true_and]
  refine Dwp.seq (Dwp.run tab0 rfl ?_)
  by_cases h1 : 97 ≤ c <;> by_cases h2 : c ≤ 122 <;> by_cases h3 : 65 ≤ c <;> by_cases h4 : c ≤ 90 <;>
  simp [dcall, tabOf, setAt, init, arg1, arg2, arg3, EncR.one, EncR.and, Enc.bool, Enc.int, Enc.str, Enc.strs, Enc.slice, Enc.agg, Enc.tup, Enc.err, Enc.fn, h1, h2, h3, h4]
  all_goals (refine Dwp.ret ?_; simp [Done, dresults, dres, frz, frz1, frz2, init, arg1, arg2, arg3, EncR.one, EncR.and, Enc.bool, Enc.int, Enc.str, Enc.strs, Enc.slice, Enc.agg, Enc.tup, Enc.err, Enc.fn, Tryz.results80, upd, letter, h1, h2, h3, h4])

theorem assoc_mem (k : ByteArray) : ∀ (l : List ByteArray), assoc (.string k) (l.map .string) (l.map fun _ => .lit (.bool true)) = some (if k ∈ l then some (.lit (.bool true)) else none)
  | [] => rfl
  | x :: l => by
    simp only [List.map_cons, assoc, eqKey, assoc_mem k l]
    by_cases h : k = x
    · simp [h]
    · simp [h]
theorem putKey_new (k : ByteArray) (x : DV) : ∀ (l : List ByteArray) (vs : List DV), k ∉ l → vs.length = l.length → putKey (.string k) x (l.map .string) vs = some (l.map .string ++ [.string k], vs ++ [x])
  | [], [], _, _ => rfl
  | [], _ :: _, _, h => by simp at h
  | _ :: _, [], _, h => by simp at h
  | y :: l, v :: vs, hn, h => by
    have h1 : k ≠ y := fun e => hn (by simp [e])
    have h2 : k ∉ l := fun e => hn (by simp [e])
    simp [putKey, eqKey, h1, putKey_new k x l vs h2 (by simpa using h)]
def s113 : Sp := sp (arg1 Enc.strs) Enc.bool (fun l => if l.length ≤ lim then some (decide l.Nodup) else none)

def inv113 (l : List ByteArray) : Nat → (Nat → DV) → St → Prop := fun k a σ => ∃ i, i ≤ l.length ∧ k = l.length - i ∧ (l.take i).Nodup ∧ a 3 = .map 1 ∧ a 7 = .slice 1 .none (l.map fun s => [DV.lit (.string s)]) ∧
    a 8 = .lit (.int .i64 l.length) ∧ a 9 = .lit (.int .i64 i) ∧ σ.objs 1 = some (.map ((l.take i).map .string) ((l.take i).map fun _ => .lit (.bool true)))

theorem c113 : CallSound Tryz.prog 113 s113 := by
  refine CallSound.of_sp (T := tabOf []) Tryz.func113 rfl (Nat.le_of_ble_eq_true rfl) fun E l y hy => ?_
  by_cases hlim : l.length ≤ lim <;> simp [hlim] at hy
  subst hy
  unfold lim at hlim
  refine Dwp.step tab0 rfl fun K hK => ?_
  simp [dcall, tabOf, setAt]
  refine hK _ _ ?_ rfl; clear hK K
  refine Dwp.step tab0 rfl fun K hK => ?_
  simp [dcall, tabOf, setAt]
  refine hK _ _ ?_ rfl; clear hK K
  refine Dwp.seq (Dwp.step tab0 rfl fun K hK => ?_)
  simp [dcall, tabOf, setAt, init, arg1, arg2, arg3, EncR.one, EncR.and, Enc.bool, Enc.int, Enc.str, Enc.strs, Enc.slice, Enc.agg, Enc.tup, Enc.err, Enc.fn, ty22]
  refine hK _ _ ?_ rfl; clear hK K
  refine Dwp.block (Dwp.loop (inv113 l) l.length ⟨0, by simp, by simp, by simp, by simp [upd, σ0], by simp [upd], by simp [upd], by simp [upd], by simp [upd, σ0]⟩ ?_)
  rintro k a σ ⟨i, hi, rfl, hnd, h3, h7, h8, h9, hobj⟩
  refine Dwp.step tab0 rfl fun K hK => ?_
  simp [dcall, tabOf, setAt, h8, h9]
  refine hK _ _ ?_ rfl; clear hK K
  by_cases hlt : i < l.length
  · refine Dwp.seq (Dwp.condT (by simp [eval, upd, hlt]) (Dwp.skip ?_))
    refine Dwp.seq (Dwp.block (Dwp.step tab0 rfl fun K hK => ?_))
    simp [dcall, tabOf, setAt, h7, h9, ty22, ty9, hlt]
    refine hK _ _ ?_ rfl; clear hK K
    have hA := assoc_mem l[i] (l.take i)
    simp only [List.map_take] at hA
    refine Dwp.seq (Dwp.step tab0 rfl fun K hK => ?_)
    by_cases hm : l[i] ∈ l.take i
    · simp [dcall, tabOf, setAt, h3, hobj, ty94, ty9, ty4, hA, hm]
      refine hK _ _ ?_ rfl; clear hK K
      refine Dwp.condT (by simp [eval, upd]) (Dwp.step tab0 rfl fun K hK => ?_)
      simp [dcall, tabOf, setAt]
      refine hK _ _ (Dwp.ret ?_) rfl
      have hno : ¬ l.Nodup := by
        intro hn
        have h1 : l.take (i + 1) = l.take i ++ [l[i]] := by rw [List.take_succ_eq_append_getElem hlt]
        have h2 : (l.take (i + 1)).Nodup := List.Nodup.sublist (List.take_sublist _ _) hn
        rw [h1, List.nodup_append] at h2
        exact h2.2.2 _ hm _ (by simp) rfl
      simp [Done, dresults, dres, frz, frz1, frz2, init, arg1, arg2, arg3, EncR.one, EncR.and, Enc.bool, Enc.int, Enc.str, Enc.strs, Enc.slice, Enc.agg, Enc.tup, Enc.err, Enc.fn, Ex.then, Ex.inBlock, upd, hno]
    · simp [dcall, tabOf, setAt, h3, hobj, ty94, ty9, ty4, hA, hm]
      refine hK _ _ ?_ rfl; clear hK K
      refine Dwp.condF (by simp [eval, upd]) (Dwp.skip ?_)
      refine Dwp.reg tab0 rfl fun K hK => ?_
      have hP := putKey_new l[i] (.lit (.bool true)) (l.take i) ((l.take i).map fun _ => .lit (.bool true)) hm (by simp)
      simp only [List.map_take] at hP
      simp [dcall, tabOf, setAt, h3, hobj, ty94, ty9, hP]
      refine hK _ _ ?_ rfl; clear hK K
      refine Dwp.reg tab0 rfl fun K hK => ?_
      simp [dcall, tabOf, setAt, h9]
      refine hK _ _ ?_ rfl; clear hK K
      refine ⟨l.length - (i + 1), by omega, i + 1, by omega, rfl, ?_, by simp [upd, h3], by simp [upd, h7], by simp [upd, h8], ?_, ?_⟩
      · rw [List.take_succ_eq_append_getElem hlt, List.nodup_append]
        exact ⟨hnd, by simp, fun a ha b hb e => by simp at hb; subst hb; subst e; exact hm ha⟩
      · simp [upd, wrap_small (n := (i : Int) + 1) (by omega) (by omega)]
      · rw [List.take_succ_eq_append_getElem hlt]; simp [upd]; constructor <;> (rw [List.take_succ_eq_append_getElem (by simpa using hlt)]; simp)
  · refine Dwp.seq (Dwp.condF (by simp [eval, upd, hlt]) (Dwp.exit ?_))
    refine Dwp.step tab0 rfl fun K hK => ?_
    simp [dcall, tabOf, setAt]
    refine hK _ _ (Dwp.ret ?_) rfl
    have : l.take i = l := List.take_of_length_le (by omega)
    rw [this] at hnd
    simp [Done, dresults, dres, frz, frz1, frz2, init, arg1, arg2, arg3, EncR.one, EncR.and, Enc.bool, Enc.int, Enc.str, Enc.strs, Enc.slice, Enc.agg, Enc.tup, Enc.err, Enc.fn, upd, hnd]
theorem e80 : Go.FA.Good Tryz.prog (80, s80) := ⟨c80, Tryz.f80, _, Tryz.func80, rfl, by decide⟩
theorem e113 : Go.FA.Good Tryz.prog (113, s113) := ⟨c113, Tryz.f113, _, Tryz.func113, rfl, by decide⟩
end Go.Proofs.Yt
namespace Go.Proofs.Yt
open Go Go.FA Go.Proofs
set_option linter.unusedVariables false
set_option linter.unusedSimpArgs false
set_option maxRecDepth 100000

def nameByte (c : Int) : Bool := letter c || (decide (48 ≤ c) && decide (c ≤ 57)) || c == 95
def signByte (c : Int) : Bool := decide (33 ≤ c) && decide (c ≤ 126) && !nameByte c && c != 34 && c != 39 && c != 92
def s82 : Sp := sp (arg1 (Enc.int .u8)) Enc.bool (fun c => some (nameByte c))
def s163 : Sp := sp (arg1 (Enc.int .u8)) Enc.bool (fun c => some (signByte c))

theorem t80 : TabOk Tryz.prog (tabOf [(80, s80)]) := .cons e80 .nil

attribute [local simp] drunL drunO dwanted dopS own plainOf dop dput eval ofVal Then Ex.then Ex.inBlock upd dbin Tag.isNN nilTest intCmp dload dpart TyI.agg dfieldAddr dfield dindexAddr dindex dlen lenOk dlookup mapOf keyFits dmapUpdate dcallee dbuiltin dstore DV.cells dslice dboundOk dappend appTag rowsOf elemOk growLimit dbuildCells dbuildCells.go structOk fieldsOk dbuildRows goInt
theorem c82 : CallSound Tryz.prog 82 s82 := by
  refine CallSound.of_sp (T := tabOf [(80, s80)]) Tryz.func82 rfl (Nat.le_of_ble_eq_true rfl) fun E c y hy => ?_
  simp at hy; subst hy
  refine Dwp.step t80 rfl fun K hK => ?_
  simp [dcall, tabOf, setAt]
  refine hK _ _ ?_ rfl; clear hK K
  refine Dwp.step t80 rfl fun K hK => ?_
  by_cases h1 : letter c = true <;> by_cases h2 : 48 ≤ c <;> by_cases h3 : c ≤ 57 <;> by_cases h4 : c = 95 <;>
    simp [dcall, tabOf, setAt, init, arg1, arg2, arg3, EncR.one, EncR.and, Enc.bool, Enc.int, Enc.str, Enc.strs, Enc.slice, Enc.agg, Enc.tup, Enc.err, Enc.fn, s80, sp, h1, h2, h3, h4] <;> refine hK _ _ (Dwp.ret ?_) rfl <;> simp [Done, dresults, dres, frz, frz1, frz2, init, arg1, arg2, arg3, EncR.one, EncR.and, Enc.bool, Enc.int, Enc.str, Enc.strs, Enc.slice, Enc.agg, Enc.tup, Enc.err, Enc.fn, upd, nameByte, h1, h2, h3, h4]
theorem e82 : Go.FA.Good Tryz.prog (82, s82) := ⟨c82, Tryz.f82, _, Tryz.func82, rfl, by decide⟩
theorem t82 : TabOk Tryz.prog (tabOf [(82, s82)]) := .cons e82 .nil

theorem c163 : CallSound Tryz.prog 163 s163 := by
  refine CallSound.of_sp (T := tabOf [(82, s82)]) Tryz.func163 rfl (Nat.le_of_ble_eq_true rfl) fun E c y hy => ?_
  simp at hy; subst hy
  refine Dwp.step t82 rfl fun K hK => ?_
  simp [dcall, tabOf, setAt]
  refine hK _ _ ?_ rfl; clear hK K
  refine Dwp.step t82 rfl fun K hK => ?_
  by_cases h1 : 33 ≤ c
  · by_cases h2 : c ≤ 126
    · cases h3 : nameByte c with
      | true => simp [dcall, tabOf, setAt, init, arg1, arg2, arg3, EncR.one, EncR.and, Enc.bool, Enc.int, Enc.str, Enc.strs, Enc.slice, Enc.agg, Enc.tup, Enc.err, Enc.fn, s82, sp, h1, h2, h3] <;> refine hK _ _ (Dwp.ret ?_) rfl <;> simp [Done, dresults, dres, frz, frz1, frz2, init, arg1, arg2, arg3, EncR.one, EncR.and, Enc.bool, Enc.int, Enc.str, Enc.strs, Enc.slice, Enc.agg, Enc.tup, Enc.err, Enc.fn, upd, signByte, h1, h2, h3]
      | false =>
        cases h4 : (c != 34) <;> cases h5 : (c != 39) <;> cases h6 : (c != 92) <;>
          simp [dcall, tabOf, setAt, init, arg1, arg2, arg3, EncR.one, EncR.and, Enc.bool, Enc.int, Enc.str, Enc.strs, Enc.slice, Enc.agg, Enc.tup, Enc.err, Enc.fn, s82, sp, h1, h2, h3, h4, h5, h6] <;> refine hK _ _ (Dwp.ret ?_) rfl <;> simp [Done, dresults, dres, frz, frz1, frz2, init, arg1, arg2, arg3, EncR.one, EncR.and, Enc.bool, Enc.int, Enc.str, Enc.strs, Enc.slice, Enc.agg, Enc.tup, Enc.err, Enc.fn, upd, signByte, h1, h2, h3, h4, h5, h6]
    · simp [dcall, tabOf, setAt, init, arg1, arg2, arg3, EncR.one, EncR.and, Enc.bool, Enc.int, Enc.str, Enc.strs, Enc.slice, Enc.agg, Enc.tup, Enc.err, Enc.fn, s82, sp, h1, h2] <;> refine hK _ _ (Dwp.ret ?_) rfl <;> simp [Done, dresults, dres, frz, frz1, frz2, init, arg1, arg2, arg3, EncR.one, EncR.and, Enc.bool, Enc.int, Enc.str, Enc.strs, Enc.slice, Enc.agg, Enc.tup, Enc.err, Enc.fn, upd, signByte, h1, h2]
  · simp [dcall, tabOf, setAt, init, arg1, arg2, arg3, EncR.one, EncR.and, Enc.bool, Enc.int, Enc.str, Enc.strs, Enc.slice, Enc.agg, Enc.tup, Enc.err, Enc.fn, s82, sp, h1] <;> refine hK _ _ (Dwp.ret ?_) rfl <;> simp [Done, dresults, dres, frz, frz1, frz2, init, arg1, arg2, arg3, EncR.one, EncR.and, Enc.bool, Enc.int, Enc.str, Enc.strs, Enc.slice, Enc.agg, Enc.tup, Enc.err, Enc.fn, upd, signByte, h1]
theorem e163 : Go.FA.Good Tryz.prog (163, s163) := ⟨c163, Tryz.f163, _, Tryz.func163, rfl, by decide⟩

/-- the bytes of a string, all of them so -/
def allB (p : Int → Bool) (s : ByteArray) : Bool := s.data.toList.all fun b => p (b.toNat : Int)
def byteFn (f : FuncId) : Option (Int → Bool) := if f = 82 then some nameByte else if f = 163 then some signByte else none
def s81 : Sp := sp (arg2 Enc.str Enc.fn) Enc.bool (fun x => if x.1.size ≤ lim then (byteFn x.2).map fun p => allB p x.1 else none)
theorem t81 : TabOk Tryz.prog (tabOf [(82, s82), (163, s163)]) := .cons e82 (.cons e163 .nil)

theorem call81 (f : FuncId) (p : Int → Bool) (h : byteFn f = some p) (c : Int) : dcall (tabOf [(82, s82), (163, s163)]) f [.lit (.int .u8 c)] = some (.lit (.bool (p c))) := by
  unfold byteFn at h
  split at h
  · next e => simp at h; subst e; subst h; simp [dcall, tabOf, s82, sp, init, arg1, arg2, arg3, EncR.one, EncR.and, Enc.bool, Enc.int, Enc.str, Enc.strs, Enc.slice, Enc.agg, Enc.tup, Enc.err, Enc.fn]
  · split at h
    · next e => simp at h; subst e; subst h; simp [dcall, tabOf, s163, sp, init, arg1, arg2, arg3, EncR.one, EncR.and, Enc.bool, Enc.int, Enc.str, Enc.strs, Enc.slice, Enc.agg, Enc.tup, Enc.err, Enc.fn]
    · simp at h

def inv81 (s : ByteArray) (f : FuncId) (p : Int → Bool) : Nat → (Nat → DV) → St → Prop := fun k a σ => ∃ i, i ≤ s.size ∧ k = s.size - i ∧ ((s.data.toList.take i).all fun b => p (b.toNat : Int)) = true ∧
  a 0 = .lit (.string s) ∧ a 1 = .lit (.func (.func f) #[] #[]) ∧ a 7 = .lit (.int .i64 s.size) ∧ a 8 = .lit (.int .i64 i)

theorem c81 : CallSound Tryz.prog 81 s81 := by
  refine CallSound.of_sp (T := tabOf [(82, s82), (163, s163)]) Tryz.func81 rfl (Nat.le_of_ble_eq_true rfl) fun E x y hy => ?_
  obtain ⟨s, f⟩ := x
  by_cases hlim : s.size ≤ lim <;> simp [hlim] at hy
  obtain ⟨p, hp, rfl⟩ := hy
  unfold lim at hlim
  refine Dwp.step t81 rfl fun K hK => ?_
  simp [dcall, tabOf, setAt]
  refine hK _ _ ?_ rfl; clear hK K
  refine Dwp.seq ?_
  refine Dwp.step t81 rfl fun K hK => ?_
  simp [dcall, tabOf, setAt, init, arg1, arg2, arg3, EncR.one, EncR.and, Enc.bool, Enc.int, Enc.str, Enc.strs, Enc.slice, Enc.agg, Enc.tup, Enc.err, Enc.fn, ty9]
  refine hK _ _ ?_ rfl; clear hK K
  refine Dwp.block (Dwp.loop (inv81 s f p) s.size ⟨0, by simp, by simp, by simp, by simp [upd, init, init, arg1, arg2, arg3, EncR.one, EncR.and, Enc.bool, Enc.int, Enc.str, Enc.strs, Enc.slice, Enc.agg, Enc.tup, Enc.err, Enc.fn], by simp [upd, init, init, arg1, arg2, arg3, EncR.one, EncR.and, Enc.bool, Enc.int, Enc.str, Enc.strs, Enc.slice, Enc.agg, Enc.tup, Enc.err, Enc.fn], by simp [upd], by simp [upd]⟩ ?_)
  rintro k a σ ⟨i, hi, rfl, hall, h0, h1, h7, h8⟩
  refine Dwp.step t81 rfl fun K hK => ?_
  simp [dcall, tabOf, setAt, h7, h8]
  refine hK _ _ ?_ rfl; clear hK K
  by_cases hlt : i < s.size
  · refine Dwp.seq (Dwp.condT (by simp [eval, upd, hlt]) (Dwp.skip ?_))
    refine Dwp.seq (Dwp.block ?_)
    refine Dwp.step t81 rfl fun K hK => ?_
    simp [dcall, tabOf, setAt, h8]
    refine hK _ _ ?_ rfl; clear hK K
    refine Dwp.step t81 rfl fun K hK => ?_
    have hcall := call81 f p hp (s[i].toNat : Int)
    simp [drunL, dwanted, dopS, own, plainOf, dop, dput, eval, Then, upd, h0, h1, ty9, dindex, hlt, dcallee, hcall]
    refine hK _ _ ?_ rfl; clear hK K
    have hbyte : s[i] = s.data.toList[i]'(by simpa using hlt) := rfl
    have htk : s.data.toList.take (i + 1) = s.data.toList.take i ++ [s[i]] := by rw [List.take_succ_eq_append_getElem (by simpa using hlt)]; rfl
    cases hpc : p (s[i].toNat : Int) with
    | true =>
      refine Dwp.condF (by simp [eval, upd, hpc]) (Dwp.skip ?_)
      refine Dwp.reg t81 rfl fun K hK => ?_
      simp [dcall, tabOf, setAt, h8]
      refine hK _ _ ?_ rfl; clear hK K
      refine ⟨s.size - (i + 1), by omega, i + 1, by omega, rfl, ?_, by simp [upd, h0], by simp [upd, h1], by simp [upd, h7], by simp [upd, wrap_small (n := (i : Int) + 1) (by omega) (by omega)]⟩
      rw [htk, List.all_append, hall]; simp [hpc]
    | false =>
      refine Dwp.condT (by simp [eval, upd, hpc]) ?_
      refine Dwp.step t81 rfl fun K hK => ?_
      simp [dcall, tabOf, setAt]
      refine hK _ _ (Dwp.ret ?_) rfl
      have hno : allB p s = false := by
        unfold allB
        rw [List.all_eq_false]
        exact ⟨s[i], by rw [hbyte]; exact List.getElem_mem _, by simp [hpc]⟩
      simp [Done, dresults, dres, frz, frz1, frz2, init, arg1, arg2, arg3, EncR.one, EncR.and, Enc.bool, Enc.int, Enc.str, Enc.strs, Enc.slice, Enc.agg, Enc.tup, Enc.err, Enc.fn, Ex.then, Ex.inBlock, upd, hno]
  · refine Dwp.seq (Dwp.condF (by simp [eval, upd, hlt]) (Dwp.exit ?_))
    refine Dwp.step t81 rfl fun K hK => ?_
    simp [dcall, tabOf, setAt]
    refine hK _ _ (Dwp.ret ?_) rfl
    have hyes : allB p s = true := by
      unfold allB
      rwa [List.take_of_length_le (by simpa using (Nat.le_of_not_lt hlt))] at hall
    simp [Done, dresults, dres, frz, frz1, frz2, init, arg1, arg2, arg3, EncR.one, EncR.and, Enc.bool, Enc.int, Enc.str, Enc.strs, Enc.slice, Enc.agg, Enc.tup, Enc.err, Enc.fn, upd, hyes]
theorem e81 : Go.FA.Good Tryz.prog (81, s81) := ⟨c81, Tryz.f81, _, Tryz.func81, rfl, by decide⟩
end Go.Proofs.Yt
namespace Go.FA
open Go.RowKit
set_option linter.unusedVariables false
set_option linter.unusedSimpArgs false
variable {C : Ctx} {w : World} {α β γ : Type}

/-- the entries of a map with strings as keys, in the order in which they came -/
def decMap (A : Enc α) : List Value → List DV → Option (List (ByteArray × α))
  | [], [] => some []
  | .string k :: ks, v :: vs => match A.dec v, decMap A ks vs with
    | some x, some r => some ((k, x) :: r)
    | _, _ => none
  | _, _ => none
theorem decMap_enc (A : Enc α) : ∀ l : List (ByteArray × α), decMap A (l.map fun p => .string p.1) (l.map fun p => A.enc p.2) = some l
  | [] => rfl
  | p :: l => by simp [decMap, A.de, decMap_enc A l]
theorem decMap_le (A : Enc α) : ∀ (ks : List Value) (vs : List DV) (l : List (ByteArray × α)), decMap A ks vs = some l → ks = l.map (fun p => .string p.1) ∧ LLe vs (l.map fun p => A.enc p.2)
  | [], [], l, h => by simp [decMap] at h; subst h; exact ⟨rfl, .nil⟩
  | [], _ :: _, l, h => by simp [decMap] at h
  | k :: ks, [], l, h => by cases k <;> simp [decMap] at h
  | k :: ks, v :: vs, l, h => by
    cases k <;> simp only [decMap] at h <;> (try simp at h)
    split at h
    · next x r h1 h2 =>
      simp at h; subst h
      obtain ⟨q1, q2⟩ := decMap_le A ks vs r h2
      exact ⟨by simp [q1], .cons (A.le _ _ h1) q2⟩
    · simp at h
theorem pureL_map (A : Enc α) : ∀ l : List (ByteArray × α), pureL (l.map fun p => A.enc p.2) = true
  | [] => rfl
  | p :: l => by simp [pureL, A.pure, pureL_map A l]
def Enc.map (A : Enc α) : Enc (List (ByteArray × α)) where
  enc l := .fmap (l.map fun p => .string p.1) (l.map fun p => A.enc p.2)
  dec d := match d with | .fmap ks vs => decMap A ks vs | _ => none
  le d x h := by
    split at h
    · obtain ⟨h1, h2⟩ := decMap_le A _ _ _ h
      intro C w v hv
      simp only [VRel] at hv ⊢
      obtain ⟨b, es, clock, q1, q2, q3, q4, q5, q6⟩ := hv
      exact ⟨b, es, clock, q1, q2, q3, by rw [q4, h1], LRel_le h2 q5, q6⟩
    · simp at h
  pure x := by simp [pureB, pureL_map]
  de x := decMap_enc A x
/-- what a map holds for a key -/
def mget (k : ByteArray) : List (ByteArray × α) → Option α
  | [] => none
  | p :: l => if k = p.1 then some p.2 else mget k l
theorem assoc_enc (A : Enc α) (k : ByteArray) : ∀ l : List (ByteArray × α), assoc (.string k) (l.map fun p => .string p.1) (l.map fun p => A.enc p.2) = some ((mget k l).map A.enc)
  | [] => rfl
  | p :: l => by
    simp only [List.map_cons, assoc, eqKey, mget, assoc_enc A k l]
    by_cases h : k = p.1
    · simp [h]
    · simp [h]
end Go.FA
namespace Go.Proofs.Yt
open Go Go.FA Go.Proofs
set_option linter.unusedVariables false
set_option linter.unusedSimpArgs false
set_option maxRecDepth 100000

structure Bel where
  low : ByteArray
  high : ByteArray
  deriving DecidableEq
structure Pie where
  text : ByteArray
  sort : ByteArray
  deriving DecidableEq
structure OpD where
  name : ByteArray
  args : List ByteArray
  sort : ByteArray
  pieces : List Pie
  prec : Int
  assoc : Int
  strict : List Int
structure SigD where
  sorts : List ByteArray
  below : List Bel
  ops : List OpD
  funs : List OpD
  values : List ByteArray
structure Book where
  highs : List (ByteArray × List ByteArray)
  ops : List (ByteArray × OpD)
  funs : List (ByteArray × OpD)

def EncR.bel : EncR Bel where
  k := 2
  enc b := [.lit (.string b.low), .lit (.string b.high)]
  dec r := match r with | [.lit (.string a), .lit (.string b)] => some ⟨a, b⟩ | _ => none
  len _ := rfl
  le r x h := by split at h <;> simp_all [LLe.refl]; subst h; exact LLe.refl _
  pure _ := rfl
  de _ := rfl
def EncR.pie : EncR Pie where
  k := 2
  enc b := [.lit (.string b.text), .lit (.string b.sort)]
  dec r := match r with | [.lit (.string a), .lit (.string b)] => some ⟨a, b⟩ | _ => none
  len _ := rfl
  le r x h := by split at h <;> simp_all [LLe.refl]; subst h; exact LLe.refl _
  pure _ := rfl
  de _ := rfl
def Enc.bels : Enc (List Bel) := Enc.slice EncR.bel
def Enc.pies : Enc (List Pie) := Enc.slice EncR.pie
def Enc.i64 : Enc Int := Enc.int .i64
def Enc.ints : Enc (List Int) := Enc.slice (EncR.one Enc.i64)
def EncR.opd : EncR OpD where
  k := 7
  enc o := [.lit (.string o.name), Enc.strs.enc o.args, .lit (.string o.sort), Enc.pies.enc o.pieces, .lit (.int .i64 o.prec), .lit (.int .i64 o.assoc), Enc.ints.enc o.strict]
  dec r := match r with
    | [d1, d2, d3, d4, d5, d6, d7] => match Enc.str.dec d1, Enc.strs.dec d2, Enc.str.dec d3, Enc.pies.dec d4, Enc.i64.dec d5, Enc.i64.dec d6, Enc.ints.dec d7 with
      | some x1, some x2, some x3, some x4, some x5, some x6, some x7 => some ⟨x1, x2, x3, x4, x5, x6, x7⟩
      | _, _, _, _, _, _, _ => none
    | _ => none
  len _ := rfl
  le r x h := by
    split at h
    · split at h
      · next h1 h2 h3 h4 h5 h6 h7 =>
        simp at h; subst h
        exact .cons (Enc.str.le _ _ h1) (.cons (Enc.strs.le _ _ h2) (.cons (Enc.str.le _ _ h3) (.cons (Enc.pies.le _ _ h4) (.cons (Enc.i64.le _ _ h5) (.cons (Enc.i64.le _ _ h6) (.cons (Enc.ints.le _ _ h7) .nil))))))
      · simp at h
    · simp at h
  pure x := by simp [pureL, Enc.strs.pure, Enc.pies.pure, Enc.ints.pure, pureB]
  de x := by
    have h1 := Enc.strs.de x.args
    have h2 := Enc.pies.de x.pieces
    have h3 := Enc.ints.de x.strict
    simp [h1, h2, h3, Enc.str, Enc.i64, Enc.int]
def Enc.opd : Enc OpD := Enc.agg EncR.opd
def Enc.ops : Enc (List OpD) := Enc.slice EncR.opd
def EncR.sigd : EncR SigD where
  k := 5
  enc s := [Enc.strs.enc s.sorts, Enc.bels.enc s.below, Enc.ops.enc s.ops, Enc.ops.enc s.funs, Enc.strs.enc s.values]
  dec r := match r with
    | [d1, d2, d3, d4, d5] => match Enc.strs.dec d1, Enc.bels.dec d2, Enc.ops.dec d3, Enc.ops.dec d4, Enc.strs.dec d5 with
      | some x1, some x2, some x3, some x4, some x5 => some ⟨x1, x2, x3, x4, x5⟩
      | _, _, _, _, _ => none
    | _ => none
  len _ := rfl
  le r x h := by
    split at h
    · split at h
      · next h1 h2 h3 h4 h5 =>
        simp at h; subst h
        exact .cons (Enc.strs.le _ _ h1) (.cons (Enc.bels.le _ _ h2) (.cons (Enc.ops.le _ _ h3) (.cons (Enc.ops.le _ _ h4) (.cons (Enc.strs.le _ _ h5) .nil))))
      · simp at h
    · simp at h
  pure x := by simp [pureL, Enc.strs.pure, Enc.bels.pure, Enc.ops.pure]
  de x := by
    have h1 := Enc.strs.de x.sorts
    have h2 := Enc.bels.de x.below
    have h3 := Enc.ops.de x.ops
    have h4 := Enc.ops.de x.funs
    have h5 := Enc.strs.de x.values
    simp [h1, h2, h3, h4, h5]
def Enc.sigd : Enc SigD := Enc.agg EncR.sigd
def EncR.book : EncR Book where
  k := 3
  enc b := [(Enc.map Enc.strs).enc b.highs, (Enc.map Enc.opd).enc b.ops, (Enc.map Enc.opd).enc b.funs]
  dec r := match r with
    | [d1, d2, d3] => match (Enc.map Enc.strs).dec d1, (Enc.map Enc.opd).dec d2, (Enc.map Enc.opd).dec d3 with
      | some x1, some x2, some x3 => some ⟨x1, x2, x3⟩
      | _, _, _ => none
    | _ => none
  len _ := rfl
  le r x h := by
    split at h
    · split at h
      · next h1 h2 h3 =>
        simp at h; subst h
        exact .cons ((Enc.map Enc.strs).le _ _ h1) (.cons ((Enc.map Enc.opd).le _ _ h2) (.cons ((Enc.map Enc.opd).le _ _ h3) .nil))
      · simp at h
    · simp at h
  pure x := by simp [pureL, (Enc.map Enc.strs).pure, (Enc.map Enc.opd).pure]
  de x := by
    have h1 := (Enc.map Enc.strs).de x.highs
    have h2 := (Enc.map Enc.opd).de x.ops
    have h3 := (Enc.map Enc.opd).de x.funs
    simp [h1, h2, h3]
def Enc.book : Enc Book := Enc.agg EncR.book

/-- slices.Index of a string -/
def idx (s : ByteArray) : List ByteArray → Nat → Int
  | [], _ => -1
  | x :: l, i => if s = x then i else idx s l (i + 1)
theorem idx_drop (s : ByteArray) (l : List ByteArray) (i : Nat) (h : i < l.length) : idx s (l.drop i) i = if s = l[i] then (i : Int) else idx s (l.drop (i + 1)) (i + 1) := by
  rw [List.drop_eq_getElem_cons h]; rfl
theorem idx_mem (s : ByteArray) : ∀ (l : List ByteArray) (i : Nat), (0 ≤ idx s l i) = (s ∈ l)
  | [], i => by simp [idx]
  | x :: l, i => by
    simp only [idx, List.mem_cons]
    by_cases h : s = x
    · simp [h]
    · simp [h, idx_mem s l (i + 1)]
def s148 : Sp := sp (arg2 Enc.strs Enc.str) Enc.i64 (fun x => if x.1.length ≤ lim then some (idx x.2 x.1 0) else none)
def inv148 (l : List ByteArray) (s : ByteArray) : Nat → (Nat → DV) → St → Prop := fun k a σ => ∃ i, i ≤ l.length ∧ k = l.length - i ∧ idx s l 0 = idx s (l.drop i) i ∧
  a 0 = .slice 1 .none (l.map fun s => [DV.lit (.string s)]) ∧ a 1 = .lit (.string s) ∧ a 7 = .lit (.int .i64 l.length) ∧ a 8 = .lit (.int .i64 i)
attribute [local simp] drunL drunO dwanted dopS own plainOf dop dput eval ofVal Then Ex.then Ex.inBlock upd dbin Tag.isNN nilTest intCmp dload dpart TyI.agg dfieldAddr dfield dindexAddr dindex dlen lenOk dlookup mapOf keyFits dmapUpdate dcallee dbuiltin dstore DV.cells dslice dboundOk dappend appTag rowsOf elemOk growLimit dbuildCells dbuildCells.go structOk fieldsOk dbuildRows goInt
theorem c148 : CallSound Tryz.prog 148 s148 := by
  refine CallSound.of_sp (T := tabOf []) Tryz.func148 rfl (Nat.le_of_ble_eq_true rfl) fun E x y hy => ?_
  obtain ⟨l, s⟩ := x
  by_cases hlim : l.length ≤ lim <;> simp [hlim] at hy
  subst hy
  unfold lim at hlim
  refine Dwp.step tab0 rfl fun K hK => ?_
  simp [dcall, tabOf, setAt]
  refine hK _ _ ?_ rfl; clear hK K
  refine Dwp.seq ?_
  refine Dwp.step tab0 rfl fun K hK => ?_
  simp [dcall, tabOf, setAt, init, arg1, arg2, arg3, EncR.one, EncR.and, Enc.bool, Enc.int, Enc.str, Enc.strs, Enc.slice, Enc.agg, Enc.tup, Enc.err, Enc.fn, ty22]
  refine hK _ _ ?_ rfl; clear hK K
  refine Dwp.block (Dwp.loop (inv148 l s) l.length ⟨0, by simp, by simp, by simp, by simp [upd, init, init, arg1, arg2, arg3, EncR.one, EncR.and, Enc.bool, Enc.int, Enc.str, Enc.strs, Enc.slice, Enc.agg, Enc.tup, Enc.err, Enc.fn], by simp [upd, init, init, arg1, arg2, arg3, EncR.one, EncR.and, Enc.bool, Enc.int, Enc.str, Enc.strs, Enc.slice, Enc.agg, Enc.tup, Enc.err, Enc.fn], by simp [upd], by simp [upd]⟩ ?_)
  rintro k a σ ⟨i, hi, rfl, hidx, h0, h1, h7, h8⟩
  refine Dwp.step tab0 rfl fun K hK => ?_
  simp [dcall, tabOf, setAt, h7, h8]
  refine hK _ _ ?_ rfl; clear hK K
  by_cases hlt : i < l.length
  · refine Dwp.seq (Dwp.condT (by simp [eval, upd, hlt]) (Dwp.skip ?_))
    refine Dwp.seq (Dwp.block ?_)
    refine Dwp.step tab0 rfl fun K hK => ?_
    simp [dcall, tabOf, setAt, h8]
    refine hK _ _ ?_ rfl; clear hK K
    refine Dwp.step tab0 rfl fun K hK => ?_
    simp [dcall, tabOf, setAt, h0, h1, ty22, ty9, hlt]
    refine hK _ _ ?_ rfl; clear hK K
    by_cases he : s = l[i]
    · refine Dwp.condT (by simp [eval, upd, he]) ?_
      refine Dwp.step tab0 rfl fun K hK => ?_
      simp [dcall, tabOf, setAt]
      refine hK _ _ (Dwp.ret ?_) rfl
      have : idx s l 0 = i := by rw [hidx, idx_drop s l i hlt, if_pos he]
      simp [Done, dresults, dres, frz, frz1, frz2, init, arg1, arg2, arg3, EncR.one, EncR.and, Enc.bool, Enc.int, Enc.str, Enc.strs, Enc.slice, Enc.agg, Enc.tup, Enc.err, Enc.fn, Enc.i64, Ex.then, Ex.inBlock, upd, this]
    · refine Dwp.condF (by simp [eval, upd, he]) (Dwp.skip ?_)
      refine Dwp.reg tab0 rfl fun K hK => ?_
      simp [dcall, tabOf, setAt, h8]
      refine hK _ _ ?_ rfl; clear hK K
      refine ⟨l.length - (i + 1), by omega, i + 1, by omega, rfl, ?_, by simp [upd, h0], by simp [upd, h1], by simp [upd, h7], by simp [upd, wrap_small (n := (i : Int) + 1) (by omega) (by omega)]⟩
      rw [hidx, idx_drop s l i hlt, if_neg he]
  · refine Dwp.seq (Dwp.condF (by simp [eval, upd, hlt]) (Dwp.exit ?_))
    refine Dwp.step tab0 rfl fun K hK => ?_
    simp [dcall, tabOf, setAt]
    refine hK _ _ (Dwp.ret ?_) rfl
    have : idx s l 0 = -1 := by rw [hidx, List.drop_eq_nil_of_le (by omega)]; rfl
    simp [Done, dresults, dres, frz, frz1, frz2, init, arg1, arg2, arg3, EncR.one, EncR.and, Enc.bool, Enc.int, Enc.str, Enc.strs, Enc.slice, Enc.agg, Enc.tup, Enc.err, Enc.fn, Enc.i64, upd, this]
theorem e148 : Go.FA.Good Tryz.prog (148, s148) := ⟨c148, Tryz.f148, _, Tryz.func148, rfl, by decide⟩
theorem t148 : TabOk Tryz.prog (tabOf [(148, s148)]) := .cons e148 .nil

def s125 : Sp := sp (arg2 Enc.strs Enc.str) Enc.bool (fun x => if x.1.length ≤ lim then some (decide (x.2 ∈ x.1)) else none)
theorem c125 : CallSound Tryz.prog 125 s125 := by
  refine CallSound.of_sp (T := tabOf [(148, s148)]) Tryz.func125 rfl (Nat.le_of_ble_eq_true rfl) fun E x y hy => ?_
  obtain ⟨l, s⟩ := x
  by_cases hlim : l.length ≤ lim <;> simp [hlim] at hy
  subst hy
  refine Dwp.step t148 rfl fun K hK => ?_
  simp [dcall, tabOf, setAt]
  refine hK _ _ ?_ rfl; clear hK K
  refine Dwp.step t148 rfl fun K hK => ?_
  have hd := decRows_enc (EncR.one Enc.str) l
  simp only [EncR.one, Enc.str] at hd
  simp [dcall, tabOf, setAt, init, arg1, arg2, arg3, EncR.one, EncR.and, Enc.bool, Enc.int, Enc.str, Enc.strs, Enc.slice, Enc.agg, Enc.tup, Enc.err, Enc.fn, s148, sp, hd, hlim, Enc.i64]
  refine hK _ _ (Dwp.ret ?_) rfl
  simp [Done, dresults, dres, frz, frz1, frz2, init, arg1, arg2, arg3, EncR.one, EncR.and, Enc.bool, Enc.int, Enc.str, Enc.strs, Enc.slice, Enc.agg, Enc.tup, Enc.err, Enc.fn, upd, idx_mem]
theorem e125 : Go.FA.Good Tryz.prog (125, s125) := ⟨c125, Tryz.f125, _, Tryz.func125, rfl, by decide⟩
end Go.Proofs.Yt
namespace Go.Proofs.Yt
open Go Go.FA Go.Proofs
set_option linter.unusedVariables false
set_option linter.unusedSimpArgs false
set_option maxRecDepth 100000

def bs (l : List UInt8) : ByteArray := ⟨l.toArray⟩
def given : List ByteArray := [⟨#[65, 110, 121]⟩, ⟨#[73, 110, 116]⟩, ⟨#[66, 111, 111, 108]⟩, ⟨#[84, 101, 120, 116]⟩, ⟨#[73, 100]⟩, ⟨#[76, 105, 115, 116]⟩, ⟨#[77, 97, 112]⟩]
def EncR.unit : EncR Unit where
  k := 0
  enc _ := []
  dec r := match r with | [] => some () | _ => none
  len _ := rfl
  le r x h := by split at h <;> simp_all; exact .nil
  pure _ := rfl
  de _ := rfl
def s110 : Sp := sp EncR.unit Enc.strs (fun _ => some given)
attribute [local simp] drunL drunO dwanted dopS own plainOf dop dput eval ofVal Then Ex.then Ex.inBlock upd dbin Tag.isNN nilTest intCmp dload dpart TyI.agg dfieldAddr dfield dindexAddr dindex dlen lenOk dlookup mapOf keyFits dmapUpdate dcallee dbuiltin dstore DV.cells dslice dboundOk dappend appTag rowsOf elemOk growLimit dbuildCells dbuildCells.go structOk fieldsOk dbuildRows goInt
theorem c110 : CallSound Tryz.prog 110 s110 := by
  refine CallSound.of_sp (T := tabOf []) Tryz.func110 rfl (Nat.le_of_ble_eq_true rfl) fun E x y hy => ?_
  simp at hy; subst hy
  refine Dwp.step tab0 rfl fun K hK => ?_
  simp [dcall, tabOf, setAt]
  refine hK _ _ ?_ rfl; clear hK K
  refine Dwp.step tab0 rfl fun K hK => ?_
  simp [dcall, tabOf, setAt, ty22, ty9]
  refine hK _ _ (Dwp.ret ?_) rfl
  simp [Done, dresults, dres, frz, frz1, frz2, init, arg1, arg2, arg3, EncR.one, EncR.and, Enc.bool, Enc.int, Enc.str, Enc.strs, Enc.slice, Enc.agg, Enc.tup, Enc.err, Enc.fn, upd, decRows, given]
theorem e110 : Go.FA.Good Tryz.prog (110, s110) := ⟨c110, Tryz.f110, _, Tryz.func110, rfl, by decide⟩

/-- does a sort exist -/
def Book.has (b : Book) (s : ByteArray) : Bool := (mget s b.highs).isSome
def s54 : Sp := sp (arg2 Enc.book Enc.strs) Enc.bool (fun x => if x.2.length ≤ lim then some (x.2.all x.1.has) else none)
def inv54 (b : Book) (l : List ByteArray) : Nat → (Nat → DV) → St → Prop := fun k a σ => ∃ i, i ≤ l.length ∧ k = l.length - i ∧ (l.take i).all b.has = true ∧
  a 2 = .row (EncR.book.enc b) 0 ∧ a 9 = .slice 1 .none (l.map fun s => [DV.lit (.string s)]) ∧ a 10 = .lit (.int .i64 l.length) ∧ a 11 = .lit (.int .i64 i)
theorem c54 : CallSound Tryz.prog 54 s54 := by
  refine CallSound.of_sp (T := tabOf []) Tryz.func54 rfl (Nat.le_of_ble_eq_true rfl) fun E x y hy => ?_
  obtain ⟨b, l⟩ := x
  by_cases hlim : l.length ≤ lim <;> simp [hlim] at hy
  subst hy
  unfold lim at hlim
  refine Dwp.step tab0 rfl fun K hK => ?_
  simp [dcall, tabOf, setAt, init, arg1, arg2, arg3, EncR.one, EncR.and, Enc.bool, Enc.int, Enc.str, Enc.strs, Enc.slice, Enc.agg, Enc.tup, Enc.err, Enc.fn, Enc.book]
  refine hK _ _ ?_ rfl; clear hK K
  refine Dwp.seq ?_
  refine Dwp.step tab0 rfl fun K hK => ?_
  simp [dcall, tabOf, setAt, init, arg1, arg2, arg3, EncR.one, EncR.and, Enc.bool, Enc.int, Enc.str, Enc.strs, Enc.slice, Enc.agg, Enc.tup, Enc.err, Enc.fn, ty22]
  refine hK _ _ ?_ rfl; clear hK K
  refine Dwp.block (Dwp.loop (inv54 b l) l.length ⟨0, by simp, by simp, by simp, by simp [upd], by simp [upd], by simp [upd], by simp [upd]⟩ ?_)
  rintro k a σ ⟨i, hi, rfl, hall, h2, h9, h10, h11⟩
  refine Dwp.step tab0 rfl fun K hK => ?_
  simp [dcall, tabOf, setAt, h10, h11]
  refine hK _ _ ?_ rfl; clear hK K
  by_cases hlt : i < l.length
  · refine Dwp.seq (Dwp.condT (by simp [eval, upd, hlt]) (Dwp.skip ?_))
    refine Dwp.seq (Dwp.block ?_)
    refine Dwp.step tab0 rfl fun K hK => ?_
    simp [dcall, tabOf, setAt, h9, h11, ty22, ty9, hlt]
    refine hK _ _ ?_ rfl; clear hK K
    refine Dwp.step tab0 rfl fun K hK => ?_
    have ha := assoc_enc Enc.strs l[i] b.highs
    have htk : l.take (i + 1) = l.take i ++ [l[i]] := List.take_succ_eq_append_getElem hlt
    cases hl : mget l[i] b.highs with
    | none =>
      rw [hl] at ha
      simp [dcall, tabOf, setAt, h2, EncR.book, Enc.map, ty58, ty55, ty9, ty22, ha]
      refine hK _ _ ?_ rfl; clear hK K
      refine Dwp.step tab0 rfl fun K hK => ?_
      simp [dcall, tabOf, setAt]
      refine hK _ _ ?_ rfl; clear hK K
      refine Dwp.condT (by simp [eval, upd]) ?_
      refine Dwp.step tab0 rfl fun K hK => ?_
      simp [dcall, tabOf, setAt]
      refine hK _ _ (Dwp.ret ?_) rfl
      have hno : l.all b.has = false := by
        rw [List.all_eq_false]
        exact ⟨l[i], List.getElem_mem _, by simp [Book.has, hl]⟩
      simp [Done, dresults, dres, frz, frz1, frz2, init, arg1, arg2, arg3, EncR.one, EncR.and, Enc.bool, Enc.int, Enc.str, Enc.strs, Enc.slice, Enc.agg, Enc.tup, Enc.err, Enc.fn, Ex.then, Ex.inBlock, upd, hno]
    | some v =>
      rw [hl] at ha
      simp [dcall, tabOf, setAt, h2, EncR.book, Enc.map, ty58, ty55, ty9, ty22, ha]
      refine hK _ _ ?_ rfl; clear hK K
      refine Dwp.step tab0 rfl fun K hK => ?_
      simp [dcall, tabOf, setAt]
      refine hK _ _ ?_ rfl; clear hK K
      refine Dwp.condF (by simp [eval, upd]) (Dwp.skip ?_)
      refine Dwp.reg tab0 rfl fun K hK => ?_
      simp [dcall, tabOf, setAt, h11]
      refine hK _ _ ?_ rfl; clear hK K
      refine ⟨l.length - (i + 1), by omega, i + 1, by omega, rfl, ?_, by simp [upd, h2, EncR.book, Enc.map], by simp [upd, h9], by simp [upd, h10], by simp [upd, wrap_small (n := (i : Int) + 1) (by omega) (by omega)]⟩
      rw [htk, List.all_append, hall]; simp [Book.has, hl]
  · refine Dwp.seq (Dwp.condF (by simp [eval, upd, hlt]) (Dwp.exit ?_))
    refine Dwp.step tab0 rfl fun K hK => ?_
    simp [dcall, tabOf, setAt]
    refine hK _ _ (Dwp.ret ?_) rfl
    rw [List.take_of_length_le (by omega)] at hall
    simp [Done, dresults, dres, frz, frz1, frz2, init, arg1, arg2, arg3, EncR.one, EncR.and, Enc.bool, Enc.int, Enc.str, Enc.strs, Enc.slice, Enc.agg, Enc.tup, Enc.err, Enc.fn, upd, hall]
theorem e54 : Go.FA.Good Tryz.prog (54, s54) := ⟨c54, Tryz.f54, _, Tryz.func54, rfl, by decide⟩

theorem book_dec (b : Book) : EncR.book.dec (EncR.book.enc b) = some b := EncR.book.de b
theorem strs_dec (l : List ByteArray) : decRows (EncR.one Enc.str) (l.map fun s => [DV.lit (.string s)]) = some l := decRows_enc (EncR.one Enc.str) l

/-- is a sort declared -/
def Book.decl (b : Book) (s : ByteArray) : Bool := b.has s && !decide (s ∈ given)
def s99 : Sp := sp (arg2 Enc.book Enc.str) Enc.bool (fun x => some (x.1.decl x.2))
theorem t99 : TabOk Tryz.prog (tabOf [(54, s54), (110, s110), (125, s125)]) := .cons e54 (.cons e110 (.cons e125 .nil))
theorem call54 (T : Tab) (hT : T 54 = some s54) (b : Book) (d : DV) (l : List ByteArray) (hd : Enc.strs.dec d = some l) (hl : l.length ≤ lim) : dcall T 54 [.agg (EncR.book.enc b), d] = some (.lit (.bool (l.all b.has))) := by
  simp [dcall, hT, s54, sp, arg2, EncR.and, EncR.one, Enc.book, Enc.agg, EncR.book.de, hd, hl, Enc.bool]
theorem call110 (T : Tab) (hT : T 110 = some s110) : dcall T 110 [] = some (Enc.strs.enc given) := by
  simp [dcall, hT, s110, sp, EncR.unit]
theorem call125 (T : Tab) (hT : T 125 = some s125) (d : DV) (l : List ByteArray) (s : ByteArray) (hd : Enc.strs.dec d = some l) (hl : l.length ≤ lim) : dcall T 125 [d, .lit (.string s)] = some (.lit (.bool (decide (s ∈ l)))) := by
  simp [dcall, hT, s125, sp, arg2, EncR.and, EncR.one, hd, hl, Enc.bool, Enc.str]
theorem c99 : CallSound Tryz.prog 99 s99 := by
  refine CallSound.of_sp (T := tabOf [(54, s54), (110, s110), (125, s125)]) Tryz.func99 rfl (Nat.le_of_ble_eq_true rfl) fun E x y hy => ?_
  obtain ⟨b, s⟩ := x
  simp at hy; subst hy
  refine Dwp.step t99 rfl fun K hK => ?_
  simp [drunL, dwanted, dopS, own, plainOf, dop, dput, eval, ofVal, Then, init, arg1, arg2, arg3, EncR.one, EncR.and, Enc.bool, Enc.int, Enc.str, Enc.strs, Enc.slice, Enc.agg, Enc.tup, Enc.err, Enc.fn, Enc.book, DV.cells]
  refine hK _ _ ?_ rfl; clear hK K
  refine Dwp.step t99 rfl fun K hK => ?_
  have hk : (EncR.book.enc b).length = 3 := EncR.book.len b
  have ht3 : (EncR.book.enc b).take 3 = EncR.book.enc b := List.take_of_length_le (by rw [hk]; exact Nat.le_refl _)
  have h54 := fun d l h1 h2 => call54 (tabOf [(54, s54), (110, s110), (125, s125)]) rfl b d l h1 h2
  have h1 := h54 (.slice 1 .full [[.lit (.string s)]]) [s] (by simp [init, arg1, arg2, arg3, EncR.one, EncR.and, Enc.bool, Enc.int, Enc.str, Enc.strs, Enc.slice, Enc.agg, Enc.tup, Enc.err, Enc.fn, decRows]) (by simp [lim])
  have h2 := call110 (tabOf [(54, s54), (110, s110), (125, s125)]) rfl
  have h3 := call125 (tabOf [(54, s54), (110, s110), (125, s125)]) rfl (Enc.strs.enc given) given s (Enc.strs.de given) (by simp [given, lim])
  cases hb : b.has s with
  | false =>
    simp [hb] at h1
    simp [drunL, dwanted, dopS, own, plainOf, dop, dput, eval, ofVal, Then, upd, init, dload, dpart, TyI.agg, ty58, ty22, ty9, hk, ht3, dbuildRows, DV.cells, growLimit, dcallee, h1]
    refine hK _ _ (Dwp.ret ?_) rfl
    simp [Done, dresults, dres, frz, frz1, frz2, init, arg1, arg2, arg3, EncR.one, EncR.and, Enc.bool, Enc.int, Enc.str, Enc.strs, Enc.slice, Enc.agg, Enc.tup, Enc.err, Enc.fn, upd, Book.decl, hb]
  | true =>
    simp [hb] at h1
    simp [drunL, dwanted, dopS, own, plainOf, dop, dput, eval, ofVal, Then, upd, init, dload, dpart, TyI.agg, ty58, ty22, ty9, hk, ht3, dbuildRows, DV.cells, growLimit, dcallee, h1, h2, h3]
    refine hK _ _ (Dwp.ret ?_) rfl
    simp [Done, dresults, dres, frz, frz1, frz2, init, arg1, arg2, arg3, EncR.one, EncR.and, Enc.bool, Enc.int, Enc.str, Enc.strs, Enc.slice, Enc.agg, Enc.tup, Enc.err, Enc.fn, upd, Book.decl, hb, given]
theorem e99 : Go.FA.Good Tryz.prog (99, s99) := ⟨c99, Tryz.f99, _, Tryz.func99, rfl, by decide⟩
end Go.Proofs.Yt
namespace Go.Proofs.Yt
open Go Go.FA Go.Proofs
set_option linter.unusedVariables false
set_option linter.unusedSimpArgs false
set_option maxRecDepth 100000

/-- is a string a name -/
def isName (s : ByteArray) : Bool := decide (s.size ≤ 40) && (match s.data.toList with | c :: _ => letter (c.toNat : Int) | [] => false) && allB nameByte s
def s38 : Sp := sp (arg1 Enc.str) Enc.bool (fun s => some (isName s))
theorem t38 : TabOk Tryz.prog (tabOf [(80, s80), (81, s81)]) := .cons e80 (.cons e81 .nil)
theorem call80 (T : Tab) (hT : T 80 = some s80) (c : Int) : dcall T 80 [.lit (.int .u8 c)] = some (.lit (.bool (letter c))) := by
  simp [dcall, hT, s80, sp, init, arg1, arg2, arg3, EncR.one, EncR.and, Enc.bool, Enc.int, Enc.str, Enc.strs, Enc.slice, Enc.agg, Enc.tup, Enc.err, Enc.fn]
theorem call81' (T : Tab) (hT : T 81 = some s81) (s : ByteArray) (f : FuncId) (p : Int → Bool) (hp : byteFn f = some p) (hs : s.size ≤ lim) : dcall T 81 [.lit (.string s), .lit (.func (.func f) #[] #[])] = some (.lit (.bool (allB p s))) := by
  simp [dcall, hT, s81, sp, init, arg1, arg2, arg3, EncR.one, EncR.and, Enc.bool, Enc.int, Enc.str, Enc.strs, Enc.slice, Enc.agg, Enc.tup, Enc.err, Enc.fn, hp, hs]
theorem size_ne {s : ByteArray} : s ≠ ⟨#[]⟩ ↔ 0 < s.size := by
  constructor
  · intro h
    rcases Nat.eq_zero_or_pos s.size with q | q
    · exact absurd (ByteArray.ext (Array.eq_empty_of_size_eq_zero q)) h
    · exact q
  · rintro h rfl; simp [ByteArray.size] at h
theorem first_byte {s : ByteArray} (h : 0 < s.size) : ∃ r, s.data.toList = s[0] :: r := by
  have h' : 0 < s.data.toList.length := by simpa using h
  match hm : s.data.toList, h' with
  | c :: r, _ =>
    refine ⟨r, ?_⟩
    have : s[0] = s.data.toList[0] := rfl
    rw [this]; simp [hm]
attribute [local simp] drunL drunO dwanted dopS own plainOf dop dput eval ofVal Then Ex.then Ex.inBlock upd dbin Tag.isNN nilTest intCmp dload dpart TyI.agg dfieldAddr dfield dindexAddr dindex dlen lenOk dlookup mapOf keyFits dmapUpdate dcallee dbuiltin dstore DV.cells dslice dboundOk dappend appTag rowsOf elemOk growLimit dbuildCells dbuildCells.go structOk fieldsOk dbuildRows goInt
theorem c38 : CallSound Tryz.prog 38 s38 := by
  refine CallSound.of_sp (T := tabOf [(80, s80), (81, s81)]) Tryz.func38 rfl (Nat.le_of_ble_eq_true rfl) fun E s y hy => ?_
  simp at hy; subst hy
  refine Dwp.step t38 rfl fun K hK => ?_
  simp [dcall, tabOf, setAt]
  refine hK _ _ ?_ rfl; clear hK K
  refine Dwp.step t38 rfl fun K hK => ?_
  have g80 := call80 (tabOf [(80, s80), (81, s81)]) rfl
  by_cases h0 : s = ⟨#[]⟩
  · subst h0
    simp [drunL, dwanted, dopS, own, plainOf, dop, dput, eval, ofVal, Then, upd, init, dbin, init, arg1, arg2, arg3, EncR.one, EncR.and, Enc.bool, Enc.int, Enc.str, Enc.strs, Enc.slice, Enc.agg, Enc.tup, Enc.err, Enc.fn]
    refine hK _ _ (Dwp.ret ?_) rfl
    simp [Done, dresults, dres, frz, frz1, frz2, init, arg1, arg2, arg3, EncR.one, EncR.and, Enc.bool, Enc.int, Enc.str, Enc.strs, Enc.slice, Enc.agg, Enc.tup, Enc.err, Enc.fn, upd, isName]
  · have hpos := size_ne.1 h0
    obtain ⟨r, hr⟩ := first_byte hpos
    by_cases h1 : (s.size : Int) ≤ 40
    · have h1' : s.size ≤ 40 := by omega
      cases h2 : letter (s[0].toNat : Int) with
      | false =>
        simp [drunL, dwanted, dopS, own, plainOf, dop, dput, eval, ofVal, Then, upd, init, dbin, intCmp, init, arg1, arg2, arg3, EncR.one, EncR.and, Enc.bool, Enc.int, Enc.str, Enc.strs, Enc.slice, Enc.agg, Enc.tup, Enc.err, Enc.fn, h0, h1, dbuiltin, ty9, lenOk, dlen, goInt, dindex, hpos, dcallee, g80, h2]
        refine hK _ _ (Dwp.ret ?_) rfl
        simp [Done, dresults, dres, frz, frz1, frz2, init, arg1, arg2, arg3, EncR.one, EncR.and, Enc.bool, Enc.int, Enc.str, Enc.strs, Enc.slice, Enc.agg, Enc.tup, Enc.err, Enc.fn, upd, isName, hr, h2]
      | true =>
        have g81 := call81' (tabOf [(80, s80), (81, s81)]) rfl s 82 nameByte (by simp [byteFn]) (by unfold lim; omega)
        simp [drunL, dwanted, dopS, own, plainOf, dop, dput, eval, ofVal, Then, upd, init, dbin, intCmp, init, arg1, arg2, arg3, EncR.one, EncR.and, Enc.bool, Enc.int, Enc.str, Enc.strs, Enc.slice, Enc.agg, Enc.tup, Enc.err, Enc.fn, h0, h1, dbuiltin, ty9, lenOk, dlen, goInt, dindex, hpos, dcallee, g80, h2, g81]
        refine hK _ _ (Dwp.ret ?_) rfl
        simp [Done, dresults, dres, frz, frz1, frz2, init, arg1, arg2, arg3, EncR.one, EncR.and, Enc.bool, Enc.int, Enc.str, Enc.strs, Enc.slice, Enc.agg, Enc.tup, Enc.err, Enc.fn, upd, isName, hr, h2, h1']
    · have h1' : ¬ s.size ≤ 40 := by omega
      simp [drunL, dwanted, dopS, own, plainOf, dop, dput, eval, ofVal, Then, upd, init, dbin, intCmp, init, arg1, arg2, arg3, EncR.one, EncR.and, Enc.bool, Enc.int, Enc.str, Enc.strs, Enc.slice, Enc.agg, Enc.tup, Enc.err, Enc.fn, h0, h1, dbuiltin, ty9, lenOk, dlen, goInt]
      refine hK _ _ (Dwp.ret ?_) rfl
      simp [Done, dresults, dres, frz, frz1, frz2, init, arg1, arg2, arg3, EncR.one, EncR.and, Enc.bool, Enc.int, Enc.str, Enc.strs, Enc.slice, Enc.agg, Enc.tup, Enc.err, Enc.fn, upd, isName, h1']
theorem e38 : Go.FA.Good Tryz.prog (38, s38) := ⟨c38, Tryz.f38, _, Tryz.func38, rfl, by decide⟩
theorem call38 (T : Tab) (hT : T 38 = some s38) (s : ByteArray) : dcall T 38 [.lit (.string s)] = some (.lit (.bool (isName s))) := by
  simp [dcall, hT, s38, sp, init, arg1, arg2, arg3, EncR.one, EncR.and, Enc.bool, Enc.int, Enc.str, Enc.strs, Enc.slice, Enc.agg, Enc.tup, Enc.err, Enc.fn]

def isPiece (s : ByteArray) : Bool := decide (0 < s.size) && decide (s.size ≤ 20) && (isName s || allB signByte s)
def s151 : Sp := sp (arg1 Enc.str) Enc.bool (fun s => some (isPiece s))
theorem t151 : TabOk Tryz.prog (tabOf [(38, s38), (81, s81)]) := .cons e38 (.cons e81 .nil)
theorem c151 : CallSound Tryz.prog 151 s151 := by
  refine CallSound.of_sp (T := tabOf [(38, s38), (81, s81)]) Tryz.func151 rfl (Nat.le_of_ble_eq_true rfl) fun E s y hy => ?_
  simp at hy; subst hy
  refine Dwp.step t151 rfl fun K hK => ?_
  simp [dcall, tabOf, setAt]
  refine hK _ _ ?_ rfl; clear hK K
  refine Dwp.seq ?_
  refine Dwp.step t151 rfl fun K hK => ?_
  have g38 := call38 (tabOf [(38, s38), (81, s81)]) rfl s
  by_cases h0 : s = ⟨#[]⟩
  · subst h0
    simp [drunL, dwanted, dopS, own, plainOf, dop, dput, eval, ofVal, Then, upd, init, dbin, init, arg1, arg2, arg3, EncR.one, EncR.and, Enc.bool, Enc.int, Enc.str, Enc.strs, Enc.slice, Enc.agg, Enc.tup, Enc.err, Enc.fn]
    refine hK _ _ ?_ rfl; clear hK K
    refine Dwp.condT (by simp [eval, upd]) ?_
    refine Dwp.step t151 rfl fun K hK => ?_
    simp [dcall, tabOf, setAt]
    refine hK _ _ (Dwp.ret ?_) rfl
    simp [Done, dresults, dres, frz, frz1, frz2, init, arg1, arg2, arg3, EncR.one, EncR.and, Enc.bool, Enc.int, Enc.str, Enc.strs, Enc.slice, Enc.agg, Enc.tup, Enc.err, Enc.fn, Ex.then, upd, isPiece, ByteArray.size]
  · have hpos := size_ne.1 h0
    by_cases h1 : (20 : Int) < s.size
    · have h1' : ¬ s.size ≤ 20 := by omega
      simp [drunL, dwanted, dopS, own, plainOf, dop, dput, eval, ofVal, Then, upd, init, dbin, intCmp, init, arg1, arg2, arg3, EncR.one, EncR.and, Enc.bool, Enc.int, Enc.str, Enc.strs, Enc.slice, Enc.agg, Enc.tup, Enc.err, Enc.fn, h0, h1, dbuiltin, ty9, lenOk, dlen, goInt]
      refine hK _ _ ?_ rfl; clear hK K
      refine Dwp.condT (by simp [eval, upd]) ?_
      refine Dwp.step t151 rfl fun K hK => ?_
      simp [dcall, tabOf, setAt]
      refine hK _ _ (Dwp.ret ?_) rfl
      simp [Done, dresults, dres, frz, frz1, frz2, init, arg1, arg2, arg3, EncR.one, EncR.and, Enc.bool, Enc.int, Enc.str, Enc.strs, Enc.slice, Enc.agg, Enc.tup, Enc.err, Enc.fn, Ex.then, upd, isPiece, h1']
    · have h1' : s.size ≤ 20 := by omega
      simp [drunL, dwanted, dopS, own, plainOf, dop, dput, eval, ofVal, Then, upd, init, dbin, intCmp, init, arg1, arg2, arg3, EncR.one, EncR.and, Enc.bool, Enc.int, Enc.str, Enc.strs, Enc.slice, Enc.agg, Enc.tup, Enc.err, Enc.fn, h0, h1, dbuiltin, ty9, lenOk, dlen, goInt]
      refine hK _ _ ?_ rfl; clear hK K
      refine Dwp.condF (by simp [eval, upd]) (Dwp.skip ?_)
      refine Dwp.step t151 rfl fun K hK => ?_
      have g81 := call81' (tabOf [(38, s38), (81, s81)]) rfl s 163 signByte (by simp [byteFn]) (by unfold lim; omega)
      cases h2 : isName s with
      | true =>
        rw [h2] at g38
        simp [drunL, dwanted, dopS, own, plainOf, dop, dput, eval, ofVal, Then, upd, init, init, arg1, arg2, arg3, EncR.one, EncR.and, Enc.bool, Enc.int, Enc.str, Enc.strs, Enc.slice, Enc.agg, Enc.tup, Enc.err, Enc.fn, dcallee, g38]
        refine hK _ _ (Dwp.ret ?_) rfl
        simp [Done, dresults, dres, frz, frz1, frz2, init, arg1, arg2, arg3, EncR.one, EncR.and, Enc.bool, Enc.int, Enc.str, Enc.strs, Enc.slice, Enc.agg, Enc.tup, Enc.err, Enc.fn, upd, isPiece, h2, hpos, h1']
      | false =>
        rw [h2] at g38
        simp [drunL, dwanted, dopS, own, plainOf, dop, dput, eval, ofVal, Then, upd, init, init, arg1, arg2, arg3, EncR.one, EncR.and, Enc.bool, Enc.int, Enc.str, Enc.strs, Enc.slice, Enc.agg, Enc.tup, Enc.err, Enc.fn, dcallee, g38, g81]
        refine hK _ _ (Dwp.ret ?_) rfl
        simp [Done, dresults, dres, frz, frz1, frz2, init, arg1, arg2, arg3, EncR.one, EncR.and, Enc.bool, Enc.int, Enc.str, Enc.strs, Enc.slice, Enc.agg, Enc.tup, Enc.err, Enc.fn, upd, isPiece, h2, hpos, h1']
theorem e151 : Go.FA.Good Tryz.prog (151, s151) := ⟨c151, Tryz.f151, _, Tryz.func151, rfl, by decide⟩
end Go.Proofs.Yt
namespace Go.Proofs.Yt
open Go Go.FA Go.Proofs
set_option linter.unusedVariables false
set_option linter.unusedSimpArgs false
set_option maxRecDepth 100000

theorem mixed : Tryz.prog.follows .mixedOrders = true := by kernel_rfl

theorem assoc_keys {α : Type} [DecidableEq α] (k : α → Value) (hk : ∀ x y, eqKey (k x) (k y) = some (decide (x = y))) (x : α) : ∀ (l : List α),
    assoc (k x) (l.map k) (l.map fun _ => .lit (.bool true)) = some (if x ∈ l then some (.lit (.bool true)) else none)
  | [] => rfl
  | y :: l => by
    simp only [List.map_cons, assoc, hk, assoc_keys k hk x l]
    by_cases h : x = y
    · simp [h]
    · simp [h]
theorem putKey_keys {α : Type} [DecidableEq α] (k : α → Value) (hk : ∀ x y, eqKey (k x) (k y) = some (decide (x = y))) (x : α) (d : DV) : ∀ (l : List α) (vs : List DV), x ∉ l → vs.length = l.length →
    putKey (k x) d (l.map k) vs = some (l.map k ++ [k x], vs ++ [d])
  | [], [], _, _ => rfl
  | [], _ :: _, _, h => by simp at h
  | _ :: _, [], _, h => by simp at h
  | y :: l, v :: vs, hn, h => by
    have h1 : x ≠ y := fun e => hn (by simp [e])
    have h2 : x ∉ l := fun e => hn (by simp [e])
    simp [putKey, hk, h1, putKey_keys k hk x d l vs h2 (by simpa using h)]
theorem not_nodup {α : Type} {l : List α} {i : Nat} (hlt : i < l.length) (hm : l[i] ∈ l.take i) : ¬ l.Nodup := by
  intro hn
  have h1 : l.take (i + 1) = l.take i ++ [l[i]] := by rw [List.take_succ_eq_append_getElem hlt]
  have h2 : (l.take (i + 1)).Nodup := List.Nodup.sublist (List.take_sublist _ _) hn
  rw [h1, List.nodup_append] at h2
  exact h2.2.2 _ hm _ (by simp) rfl
theorem nodup_succ {α : Type} {l : List α} {i : Nat} (hlt : i < l.length) (hn : (l.take i).Nodup) (hm : l[i] ∉ l.take i) : (l.take (i + 1)).Nodup := by
  rw [List.take_succ_eq_append_getElem hlt, List.nodup_append]
  exact ⟨hn, by simp, fun a ha b hb e => by simp at hb; subst hb; subst e; exact hm ha⟩

def s152 : Sp := sp (arg1 Enc.ints) Enc.bool (fun l => if l.length ≤ lim then some (decide l.Nodup) else none)
def inv152 (l : List Int) : Nat → (Nat → DV) → St → Prop := fun k a σ => ∃ i, i ≤ l.length ∧ k = l.length - i ∧ (l.take i).Nodup ∧ a 3 = .map 1 ∧ a 7 = .slice 1 .none (l.map fun s => [DV.lit (.int .i64 s)]) ∧
    a 8 = .lit (.int .i64 l.length) ∧ a 9 = .lit (.int .i64 i) ∧ σ.objs 1 = some (.map ((l.take i).map (.int .i64)) ((l.take i).map fun _ => .lit (.bool true)))
theorem keyInt (x y : Int) : eqKey (.int .i64 x) (.int .i64 y) = some (decide (x = y)) := by simp [eqKey]; rfl
attribute [local simp] drunL drunO dwanted dopS own plainOf dop dput eval ofVal Then Ex.then Ex.inBlock upd dbin Tag.isNN nilTest intCmp dload dpart TyI.agg dfieldAddr dfield dindexAddr dindex dlen lenOk dlookup mapOf keyFits dmapUpdate dcallee dbuiltin dstore DV.cells dslice dboundOk dappend appTag rowsOf elemOk growLimit dbuildCells dbuildCells.go structOk fieldsOk dbuildRows goInt
theorem c152 : CallSound Tryz.prog 152 s152 := by
  refine CallSound.of_sp (T := tabOf []) Tryz.func152 rfl (Nat.le_of_ble_eq_true rfl) fun E l y hy => ?_
  by_cases hlim : l.length ≤ lim <;> simp [hlim] at hy
  subst hy
  unfold lim at hlim
  refine Dwp.step tab0 rfl fun K hK => ?_
  simp [dcall, tabOf, setAt]
  refine hK _ _ ?_ rfl; clear hK K
  refine Dwp.step tab0 rfl fun K hK => ?_
  simp [dcall, tabOf, setAt]
  refine hK _ _ ?_ rfl; clear hK K
  refine Dwp.seq ?_
  refine Dwp.step tab0 rfl fun K hK => ?_
  simp [dcall, tabOf, setAt, init, arg1, arg2, arg3, EncR.one, EncR.and, Enc.bool, Enc.int, Enc.str, Enc.strs, Enc.slice, Enc.agg, Enc.tup, Enc.err, Enc.fn, Enc.ints, Enc.i64, ty36]
  refine hK _ _ ?_ rfl; clear hK K
  refine Dwp.block (Dwp.loop (inv152 l) l.length ⟨0, by simp, by simp, by simp, by simp [upd, σ0], by simp [upd], by simp [upd], by simp [upd], by simp [upd, σ0]⟩ ?_)
  rintro k a σ ⟨i, hi, rfl, hnd, h3, h7, h8, h9, hobj⟩
  refine Dwp.step tab0 rfl fun K hK => ?_
  simp [dcall, tabOf, setAt, h8, h9]
  refine hK _ _ ?_ rfl; clear hK K
  by_cases hlt : i < l.length
  · refine Dwp.seq (Dwp.condT (by simp [eval, upd, hlt]) (Dwp.skip ?_))
    refine Dwp.seq (Dwp.block ?_)
    refine Dwp.step tab0 rfl fun K hK => ?_
    simp [dcall, tabOf, setAt, h7, h9, ty36, ty3, hlt]
    refine hK _ _ ?_ rfl; clear hK K
    have hA := assoc_keys _ keyInt l[i] (l.take i)
    simp only [List.map_take] at hA
    refine Dwp.seq ?_
    refine Dwp.step tab0 rfl fun K hK => ?_
    by_cases hm : l[i] ∈ l.take i
    · simp [dcall, tabOf, setAt, h3, hobj, ty149, ty3, ty4, hA, hm]
      refine hK _ _ ?_ rfl; clear hK K
      refine Dwp.condT (by simp [eval, upd]) ?_
      refine Dwp.step tab0 rfl fun K hK => ?_
      simp [dcall, tabOf, setAt]
      refine hK _ _ (Dwp.ret ?_) rfl
      simp [Done, dresults, dres, frz, frz1, frz2, init, arg1, arg2, arg3, EncR.one, EncR.and, Enc.bool, Enc.int, Enc.str, Enc.strs, Enc.slice, Enc.agg, Enc.tup, Enc.err, Enc.fn, Ex.then, Ex.inBlock, upd, not_nodup hlt hm]
    · simp [dcall, tabOf, setAt, h3, hobj, ty149, ty3, ty4, hA, hm]
      refine hK _ _ ?_ rfl; clear hK K
      refine Dwp.condF (by simp [eval, upd]) (Dwp.skip ?_)
      refine Dwp.reg tab0 rfl fun K hK => ?_
      have hP := putKey_keys _ keyInt l[i] (.lit (.bool true)) (l.take i) ((l.take i).map fun _ => .lit (.bool true)) hm (by simp)
      simp only [List.map_take] at hP
      simp [dcall, tabOf, setAt, h3, hobj, ty149, ty3, hP]
      refine hK _ _ ?_ rfl; clear hK K
      refine Dwp.reg tab0 rfl fun K hK => ?_
      simp [dcall, tabOf, setAt, h9]
      refine hK _ _ ?_ rfl; clear hK K
      refine ⟨l.length - (i + 1), by omega, i + 1, by omega, rfl, nodup_succ hlt hnd hm, by simp [upd, h3], by simp [upd, h7], by simp [upd, h8], ?_, ?_⟩
      · simp [upd, wrap_small (n := (i : Int) + 1) (by omega) (by omega)]
      · simp [upd]; constructor <;> (rw [List.take_succ_eq_append_getElem (by simpa using hlt)]; simp)
  · refine Dwp.seq (Dwp.condF (by simp [eval, upd, hlt]) (Dwp.exit ?_))
    refine Dwp.step tab0 rfl fun K hK => ?_
    simp [dcall, tabOf, setAt]
    refine hK _ _ (Dwp.ret ?_) rfl
    rw [List.take_of_length_le (by omega)] at hnd
    simp [Done, dresults, dres, frz, frz1, frz2, init, arg1, arg2, arg3, EncR.one, EncR.and, Enc.bool, Enc.int, Enc.str, Enc.strs, Enc.slice, Enc.agg, Enc.tup, Enc.err, Enc.fn, upd, hnd]
theorem e152 : Go.FA.Good Tryz.prog (152, s152) := ⟨c152, Tryz.f152, _, Tryz.func152, rfl, by decide⟩

/-- slices.Equal of strings -/
def s75 : Sp := sp (arg2 Enc.strs Enc.strs) Enc.bool (fun x => if x.1.length ≤ lim ∧ x.2.length ≤ lim then some (decide (x.1 = x.2)) else none)
def inv75 (l m : List ByteArray) : Nat → (Nat → DV) → St → Prop := fun k a σ => ∃ i, i ≤ l.length ∧ k = l.length - i ∧ l.take i = m.take i ∧ a 0 = .slice 1 .none (l.map fun s => [DV.lit (.string s)]) ∧
  a 1 = .slice 1 .none (m.map fun s => [DV.lit (.string s)]) ∧ a 12 = .lit (.int .i64 l.length) ∧ a 13 = .lit (.int .i64 i)
theorem c75 : CallSound Tryz.prog 75 s75 := by
  refine CallSound.of_sp (T := tabOf []) Tryz.func75 rfl (Nat.le_of_ble_eq_true rfl) fun E x y hy => ?_
  obtain ⟨l, m⟩ := x
  by_cases hlim : l.length ≤ lim ∧ m.length ≤ lim <;> simp [hlim] at hy
  subst hy
  unfold lim at hlim
  refine Dwp.step tab0 rfl fun K hK => ?_
  simp [dcall, tabOf, setAt]
  refine hK _ _ ?_ rfl; clear hK K
  refine Dwp.seq ?_
  refine Dwp.step tab0 rfl fun K hK => ?_
  simp [dcall, tabOf, setAt, init, arg1, arg2, arg3, EncR.one, EncR.and, Enc.bool, Enc.int, Enc.str, Enc.strs, Enc.slice, Enc.agg, Enc.tup, Enc.err, Enc.fn, ty22]
  refine hK _ _ ?_ rfl; clear hK K
  by_cases hlm : l.length = m.length
  · refine Dwp.condF (by simp [eval, upd, hlm]) (Dwp.skip ?_)
    refine Dwp.seq ?_
    refine Dwp.step tab0 rfl fun K hK => ?_
    simp [dcall, tabOf, setAt, init, arg1, arg2, arg3, EncR.one, EncR.and, Enc.bool, Enc.int, Enc.str, Enc.strs, Enc.slice, Enc.agg, Enc.tup, Enc.err, Enc.fn, ty22]
    refine hK _ _ ?_ rfl; clear hK K
    refine Dwp.block (Dwp.loop (inv75 l m) l.length ⟨0, by simp, by simp, by simp, by simp [upd, init, init, arg1, arg2, arg3, EncR.one, EncR.and, Enc.bool, Enc.int, Enc.str, Enc.strs, Enc.slice, Enc.agg, Enc.tup, Enc.err, Enc.fn], by simp [upd, init, init, arg1, arg2, arg3, EncR.one, EncR.and, Enc.bool, Enc.int, Enc.str, Enc.strs, Enc.slice, Enc.agg, Enc.tup, Enc.err, Enc.fn], by simp [upd], by simp [upd]⟩ ?_)
    rintro k a σ ⟨i, hi, rfl, htk, h0, h1, h12, h13⟩
    refine Dwp.step tab0 rfl fun K hK => ?_
    simp [dcall, tabOf, setAt, h12, h13]
    refine hK _ _ ?_ rfl; clear hK K
    by_cases hlt : i < l.length
    · have hlt' : i < m.length := by omega
      refine Dwp.seq (Dwp.condT (by simp [eval, upd, hlt]) (Dwp.skip ?_))
      refine Dwp.seq (Dwp.block ?_)
      refine Dwp.step tab0 rfl fun K hK => ?_
      simp [dcall, tabOf, setAt, h13]
      refine hK _ _ ?_ rfl; clear hK K
      refine Dwp.drawStep [] mixed tab0 rfl (by decide) fun K hK => ?_
      by_cases he : l[i] = m[i]
      · simp [drunT, touch, touchP, dcall, tabOf, setAt, h0, h1, ty22, ty9, hlt, hlt', he]
        refine hK _ _ ?_ rfl; clear hK K
        refine Dwp.condF (by simp [eval, upd]) (Dwp.skip ?_)
        refine Dwp.reg tab0 rfl fun K hK => ?_
        simp [dcall, tabOf, setAt, h13]
        refine hK _ _ ?_ rfl; clear hK K
        refine ⟨l.length - (i + 1), by omega, i + 1, by omega, rfl, ?_, by simp [upd, h0], by simp [upd, h1], by simp [upd, h12], by simp [upd, wrap_small (n := (i : Int) + 1) (by omega) (by omega)]⟩
        rw [List.take_succ_eq_append_getElem hlt, List.take_succ_eq_append_getElem hlt', htk, he]
      · simp [drunT, touch, touchP, dcall, tabOf, setAt, h0, h1, ty22, ty9, hlt, hlt', he]
        refine hK _ _ ?_ rfl; clear hK K
        refine Dwp.condT (by simp [eval, upd]) ?_
        refine Dwp.step tab0 rfl fun K hK => ?_
        simp [dcall, tabOf, setAt]
        refine hK _ _ (Dwp.ret ?_) rfl
        have : l ≠ m := fun e => he (by subst e; rfl)
        simp [Done, dresults, dres, frz, frz1, frz2, init, arg1, arg2, arg3, EncR.one, EncR.and, Enc.bool, Enc.int, Enc.str, Enc.strs, Enc.slice, Enc.agg, Enc.tup, Enc.err, Enc.fn, Ex.then, Ex.inBlock, upd, this]
    · refine Dwp.seq (Dwp.condF (by simp [eval, upd, hlt]) (Dwp.exit ?_))
      refine Dwp.step tab0 rfl fun K hK => ?_
      simp [dcall, tabOf, setAt]
      refine hK _ _ (Dwp.ret ?_) rfl
      rw [List.take_of_length_le (by omega), List.take_of_length_le (by omega)] at htk
      simp [Done, dresults, dres, frz, frz1, frz2, init, arg1, arg2, arg3, EncR.one, EncR.and, Enc.bool, Enc.int, Enc.str, Enc.strs, Enc.slice, Enc.agg, Enc.tup, Enc.err, Enc.fn, upd, htk]
  · have hne : (l.length : Int) ≠ m.length := by omega
    refine Dwp.condT (by simp [eval, upd, hne]) ?_
    refine Dwp.step tab0 rfl fun K hK => ?_
    simp [dcall, tabOf, setAt]
    refine hK _ _ (Dwp.ret ?_) rfl
    have : l ≠ m := fun e => hlm (by rw [e])
    simp [Done, dresults, dres, frz, frz1, frz2, init, arg1, arg2, arg3, EncR.one, EncR.and, Enc.bool, Enc.int, Enc.str, Enc.strs, Enc.slice, Enc.agg, Enc.tup, Enc.err, Enc.fn, Ex.then, upd, this]
theorem e75 : Go.FA.Good Tryz.prog (75, s75) := ⟨c75, Tryz.f75, _, Tryz.func75, rfl, by decide⟩
end Go.Proofs.Yt
namespace Go.Proofs.Yt
open Go Go.FA Go.Proofs
set_option linter.unusedVariables false
set_option linter.unusedSimpArgs false
set_option maxRecDepth 100000

theorem init1 (d : DV) : init [d] 0 = d := rfl
theorem DLe.slice_none (k : Nat) (t : Tag) (rows : List (List DV)) : DLe (.slice k t rows) (.slice k .none rows) := by
  intro C w v h
  simp only [VRel] at h ⊢
  rcases h with ⟨b, o, cap, h1, h2, h3, _⟩ | ⟨ad, h1, h2, _⟩
  · exact .inl ⟨b, o, cap, h1, h2, h3, trivial⟩
  · exact .inr ⟨ad, h1, h2, trivial⟩

def s120 : Sp := sp (arg1 Enc.strs) Enc.strs (fun l => if l.length ≤ 1048576 then some l else none)
attribute [local simp] drunL drunO dwanted dopS own plainOf dop dput eval ofVal Then Ex.then Ex.inBlock upd dbin Tag.isNN nilTest intCmp dload dpart TyI.agg dfieldAddr dfield dindexAddr dindex dlen lenOk dlookup mapOf keyFits dmapUpdate dcallee dbuiltin dstore DV.cells dslice dboundOk dappend appTag rowsOf elemOk growLimit dbuildCells dbuildCells.go structOk fieldsOk dbuildRows goInt
theorem c120 : CallSound Tryz.prog 120 s120 := by
  refine CallSound.of_sp (T := tabOf []) Tryz.func120 rfl (Nat.le_of_ble_eq_true rfl) fun E l y hy => ?_
  by_cases hlim : l.length ≤ 1048576 <;> simp [hlim] at hy
  subst hy
  have hd := strs_dec l
  simp only [EncR.one, Enc.str] at hd
  have go : ∀ (a : Nat → DV) (tag : Tag), tag = .none ∧ l ≠ [] ∨ tag = .nn → a 0 = .slice 1 tag (l.map fun s => [DV.lit (.string s)]) → ∀ c, Tryz.f120.body = some c → Dwp Tryz.prog (tabOf []) E Tryz.f120.ntmps c (Done Tryz.prog Tryz.f120.results Enc.strs l) a σ0 := by
    intro a tag htag h0 c hc
    cases hc
    refine Dwp.step tab0 rfl fun K hK => ?_
    simp [dcall, tabOf, setAt]
    refine hK _ _ ?_ rfl; clear hK K
    refine Dwp.seq ?_
    refine Dwp.step tab0 rfl fun K hK => ?_
    have hnn : tag.isNN = true ∨ ¬l = [] := by
      rcases htag with ⟨rfl, hne⟩ | rfl
      · exact .inr hne
      · exact .inl rfl
    simp [dcall, tabOf, setAt, h0, ty22]
    simp only [Tag.isNN] at hnn
    rw [if_pos hnn]
    simp [dcall, tabOf, setAt]
    refine hK _ _ ?_ rfl; clear hK K
    refine Dwp.condF (by simp [eval, upd]) (Dwp.skip ?_)
    refine Dwp.step tab0 rfl fun K hK => ?_
    have hle : l.length ≤ 16777216 := by omega
    simp [dcall, tabOf, setAt, h0, ty22, ty9, hle]
    refine hK _ _ (Dwp.ret ?_) rfl
    simp [Done, dresults, dres, frz, frz1, frz2, init, arg1, arg2, arg3, EncR.one, EncR.and, Enc.bool, Enc.int, Enc.str, Enc.strs, Enc.slice, Enc.agg, Enc.tup, Enc.err, Enc.fn, upd, hd]
  cases l with
  | nil =>
    refine Dwp.nilCase 0 1 (by simp [init, arg1, arg2, arg3, EncR.one, EncR.and, Enc.bool, Enc.int, Enc.str, Enc.strs, Enc.slice, Enc.agg, Enc.tup, Enc.err, Enc.fn]) ?_ (go _ .nn (.inr rfl) (by simp [upd]) _ rfl)
    refine Dwp.step tab0 rfl fun K hK => ?_
    simp [dcall, tabOf, setAt]
    refine hK _ _ ?_ rfl; clear hK K
    refine Dwp.seq ?_
    refine Dwp.step tab0 rfl fun K hK => ?_
    simp [dcall, tabOf, setAt, ty22]
    refine hK _ _ ?_ rfl; clear hK K
    refine Dwp.condT (by simp [eval, upd]) ?_
    refine Dwp.step tab0 rfl fun K hK => ?_
    simp [dcall, tabOf, setAt]
    refine hK _ _ (Dwp.ret ?_) rfl
    simp [Done, dresults, dres, frz, frz1, frz2, init, arg1, arg2, arg3, EncR.one, EncR.and, Enc.bool, Enc.int, Enc.str, Enc.strs, Enc.slice, Enc.agg, Enc.tup, Enc.err, Enc.fn, Ex.then, upd]
  | cons x r => exact go _ .none (.inl ⟨rfl, by simp⟩) (by simp [init, arg1, arg2, arg3, EncR.one, EncR.and, Enc.bool, Enc.int, Enc.str, Enc.strs, Enc.slice, Enc.agg, Enc.tup, Enc.err, Enc.fn]) _ rfl
theorem e120 : Go.FA.Good Tryz.prog (120, s120) := ⟨c120, Tryz.f120, _, Tryz.func120, rfl, by decide⟩

def s133 : Sp := sp (arg2 Enc.book Enc.opd) Enc.bool (fun x => some (decide (x.2.args.length ≤ 8) && x.2.args.all x.1.has))
theorem t133 : TabOk Tryz.prog (tabOf [(54, s54)]) := .cons e54 .nil
theorem c133 : CallSound Tryz.prog 133 s133 := by
  refine CallSound.of_sp (T := tabOf [(54, s54)]) Tryz.func133 rfl (Nat.le_of_ble_eq_true rfl) fun E x y hy => ?_
  obtain ⟨b, o⟩ := x
  simp at hy; subst hy
  have hk : (EncR.book.enc b).length = 3 := EncR.book.len b
  have ht3 : (EncR.book.enc b).take 3 = EncR.book.enc b := List.take_of_length_le (by rw [hk]; exact Nat.le_refl _)
  refine Dwp.step t133 rfl fun K hK => ?_
  simp [dcall, tabOf, setAt, init, arg1, arg2, arg3, EncR.one, EncR.and, Enc.bool, Enc.int, Enc.str, Enc.strs, Enc.slice, Enc.agg, Enc.tup, Enc.err, Enc.fn, Enc.book, Enc.opd]
  refine hK _ _ ?_ rfl; clear hK K
  refine Dwp.step t133 rfl fun K hK => ?_
  by_cases h : o.args.length ≤ 8
  · have h' : (o.args.length : Int) ≤ 8 := by omega
    have g := call54 (tabOf [(54, s54)]) rfl b (Enc.strs.enc o.args) o.args (Enc.strs.de _) (by unfold lim; omega)
    simp only [init, arg1, arg2, arg3, EncR.one, EncR.and, Enc.bool, Enc.int, Enc.str, Enc.strs, Enc.slice, Enc.agg, Enc.tup, Enc.err, Enc.fn] at g
    simp [drunL, dwanted, dopS, own, plainOf, dop, dput, eval, ofVal, Then, upd, dfieldAddr, dload, dpart, TyI.agg, ty38, ty58, ty22, ty9, ty34, ty3, ty35, ty36, EncR.opd, init, arg1, arg2, arg3, EncR.one, EncR.and, Enc.bool, Enc.int, Enc.str, Enc.strs, Enc.slice, Enc.agg, Enc.tup, Enc.err, Enc.fn, dbuiltin, lenOk, dlen, goInt, dbin, intCmp, dcallee, hk, ht3, h', g]
    refine hK _ _ (Dwp.ret ?_) rfl
    simp [Done, dresults, dres, frz, frz1, frz2, init, arg1, arg2, arg3, EncR.one, EncR.and, Enc.bool, Enc.int, Enc.str, Enc.strs, Enc.slice, Enc.agg, Enc.tup, Enc.err, Enc.fn, upd, h]
  · have h' : ¬ (o.args.length : Int) ≤ 8 := by omega
    simp [drunL, dwanted, dopS, own, plainOf, dop, dput, eval, ofVal, Then, upd, dfieldAddr, dload, dpart, TyI.agg, ty38, ty58, ty22, ty9, ty34, ty3, ty35, ty36, EncR.opd, init, arg1, arg2, arg3, EncR.one, EncR.and, Enc.bool, Enc.int, Enc.str, Enc.strs, Enc.slice, Enc.agg, Enc.tup, Enc.err, Enc.fn, dbuiltin, lenOk, dlen, goInt, dbin, intCmp, h']
    refine hK _ _ (Dwp.ret ?_) rfl
    simp [Done, dresults, dres, frz, frz1, frz2, init, arg1, arg2, arg3, EncR.one, EncR.and, Enc.bool, Enc.int, Enc.str, Enc.strs, Enc.slice, Enc.agg, Enc.tup, Enc.err, Enc.fn, upd, h]
theorem e133 : Go.FA.Good Tryz.prog (133, s133) := ⟨c133, Tryz.f133, _, Tryz.func133, rfl, by decide⟩

def okBinding (o : OpD) : Bool :=
  if o.prec = 0 then decide (o.assoc = 0) else decide (0 < o.prec) && decide (o.prec ≤ 20) && decide (0 < o.pieces.length) && decide (0 ≤ o.assoc) && decide (o.assoc ≤ 2)
def s135 : Sp := sp (arg1 Enc.opd) Enc.bool (fun o => some (okBinding o))
theorem c135 : CallSound Tryz.prog 135 s135 := by
  refine CallSound.of_sp (T := tabOf []) Tryz.func135 rfl (Nat.le_of_ble_eq_true rfl) fun E o y hy => ?_
  simp at hy; subst hy
  refine Dwp.step tab0 rfl fun K hK => ?_
  simp [dcall, tabOf, setAt, init, arg1, arg2, arg3, EncR.one, EncR.and, Enc.bool, Enc.int, Enc.str, Enc.strs, Enc.slice, Enc.agg, Enc.tup, Enc.err, Enc.fn, Enc.opd]
  refine hK _ _ ?_ rfl; clear hK K
  refine Dwp.seq ?_
  refine Dwp.step tab0 rfl fun K hK => ?_
  simp [dcall, tabOf, setAt, ty38, ty3, EncR.opd]
  refine hK _ _ ?_ rfl; clear hK K
  by_cases h0 : o.prec = 0
  · refine Dwp.condT (by simp [eval, upd, h0]) ?_
    refine Dwp.step tab0 rfl fun K hK => ?_
    simp [dcall, tabOf, setAt, ty38, ty3, ty35]
    refine hK _ _ (Dwp.ret ?_) rfl
    simp [Done, dresults, dres, frz, frz1, frz2, init, arg1, arg2, arg3, EncR.one, EncR.and, Enc.bool, Enc.int, Enc.str, Enc.strs, Enc.slice, Enc.agg, Enc.tup, Enc.err, Enc.fn, Ex.then, upd, okBinding, h0]
    rfl
  · refine Dwp.condF (by simp [eval, upd, h0]) (Dwp.skip ?_)
    refine Dwp.step tab0 rfl fun K hK => ?_
    by_cases h1 : 0 < o.prec <;> by_cases h2 : o.prec ≤ 20 <;> by_cases h3 : 0 < o.pieces.length <;> by_cases h4 : 0 ≤ o.assoc <;> by_cases h5 : o.assoc ≤ 2 <;> (
      simp [drunL, dwanted, dopS, own, plainOf, dop, dput, eval, ofVal, Then, upd, dfieldAddr, dload, dpart, TyI.agg, ty38, ty3, ty35, ty34, dbuiltin, lenOk, dlen, goInt, dbin, intCmp, Enc.pies, Enc.slice, h0, h1, h2, h3, h4, h5]
      refine hK _ _ (Dwp.ret ?_) rfl
      simp [Done, dresults, dres, frz, frz1, frz2, init, arg1, arg2, arg3, EncR.one, EncR.and, Enc.bool, Enc.int, Enc.str, Enc.strs, Enc.slice, Enc.agg, Enc.tup, Enc.err, Enc.fn, upd, okBinding, h0, h1, h2, h3, h4, h5])
theorem e135 : Go.FA.Good Tryz.prog (135, s135) := ⟨c135, Tryz.f135, _, Tryz.func135, rfl, by decide⟩
end Go.Proofs.Yt
namespace Go.Proofs.Yt
open Go Go.FA Go.Proofs
set_option linter.unusedVariables false
set_option linter.unusedSimpArgs false
set_option maxRecDepth 100000

@[simp] theorem pie_k : EncR.pie.k = 2 := rfl
@[simp] theorem opd_k : EncR.opd.k = 7 := rfl
@[simp] theorem bel_k : EncR.bel.k = 2 := rfl
@[simp] theorem book_k : EncR.book.k = 3 := rfl
@[simp] theorem sigd_k : EncR.sigd.k = 5 := rfl
theorem pies_dec (l : List Pie) : decRows EncR.pie (l.map EncR.pie.enc) = some l := decRows_enc EncR.pie l
theorem ints_dec (l : List Int) : decRows (EncR.one Enc.i64) (l.map fun x => [DV.lit (.int .i64 x)]) = some l := decRows_enc (EncR.one Enc.i64) l
def s122 : Sp := sp (arg1 Enc.ints) Enc.ints (fun l => if l.length ≤ 1048576 then some l else none)
attribute [local simp] drunL drunO dwanted dopS own plainOf dop dput eval ofVal Then Ex.then Ex.inBlock upd dbin Tag.isNN nilTest intCmp dload dpart TyI.agg dfieldAddr dfield dindexAddr dindex dlen lenOk dlookup mapOf keyFits dmapUpdate dcallee dbuiltin dstore DV.cells dslice dboundOk dappend appTag rowsOf elemOk growLimit dbuildCells dbuildCells.go structOk fieldsOk dbuildRows goInt
theorem c122 : CallSound Tryz.prog 122 s122 := by
  refine CallSound.of_sp (T := tabOf []) Tryz.func122 rfl (Nat.le_of_ble_eq_true rfl) fun E l y hy => ?_
  by_cases hlim : l.length ≤ 1048576 <;> simp [hlim] at hy
  subst hy
  have hd := ints_dec l
  simp only [EncR.one, Enc.i64, Enc.int] at hd
  have go : ∀ (a : Nat → DV) (tag : Tag), tag = .none ∧ l ≠ [] ∨ tag = .nn → a 0 = .slice 1 tag (l.map fun s => [DV.lit (.int .i64 s)]) → ∀ c, Tryz.f122.body = some c → Dwp Tryz.prog (tabOf []) E Tryz.f122.ntmps c (Done Tryz.prog Tryz.f122.results Enc.ints l) a σ0 := by
    intro a tag htag h0 c hc
    cases hc
    refine Dwp.step tab0 rfl fun K hK => ?_
    simp [dcall, tabOf, setAt]
    refine hK _ _ ?_ rfl; clear hK K
    refine Dwp.seq ?_
    refine Dwp.step tab0 rfl fun K hK => ?_
    have hnn : tag.isNN = true ∨ ¬l = [] := by
      rcases htag with ⟨rfl, hne⟩ | rfl
      · exact .inr hne
      · exact .inl rfl
    simp [dcall, tabOf, setAt, h0, ty36]
    simp only [Tag.isNN] at hnn
    rw [if_pos hnn]
    simp [dcall, tabOf, setAt]
    refine hK _ _ ?_ rfl; clear hK K
    refine Dwp.condF (by simp [eval, upd]) (Dwp.skip ?_)
    refine Dwp.step tab0 rfl fun K hK => ?_
    have hle : l.length ≤ 16777216 := by omega
    simp [dcall, tabOf, setAt, h0, ty36, ty3, hle]
    refine hK _ _ (Dwp.ret ?_) rfl
    simp [Done, dresults, dres, frz, frz1, frz2, init, arg1, arg2, arg3, EncR.one, EncR.and, Enc.bool, Enc.int, Enc.str, Enc.strs, Enc.slice, Enc.agg, Enc.tup, Enc.err, Enc.fn, Enc.ints, Enc.i64, upd, hd]
  cases l with
  | nil =>
    refine Dwp.nilCase 0 1 (by simp [init, arg1, arg2, arg3, EncR.one, EncR.and, Enc.bool, Enc.int, Enc.str, Enc.strs, Enc.slice, Enc.agg, Enc.tup, Enc.err, Enc.fn, Enc.ints, Enc.i64]) ?_ (go _ .nn (.inr rfl) (by simp [upd]) _ rfl)
    refine Dwp.step tab0 rfl fun K hK => ?_
    simp [dcall, tabOf, setAt]
    refine hK _ _ ?_ rfl; clear hK K
    refine Dwp.seq ?_
    refine Dwp.step tab0 rfl fun K hK => ?_
    simp [dcall, tabOf, setAt, ty36]
    refine hK _ _ ?_ rfl; clear hK K
    refine Dwp.condT (by simp [eval, upd]) ?_
    refine Dwp.step tab0 rfl fun K hK => ?_
    simp [dcall, tabOf, setAt]
    refine hK _ _ (Dwp.ret ?_) rfl
    simp [Done, dresults, dres, frz, frz1, frz2, init, arg1, arg2, arg3, EncR.one, EncR.and, Enc.bool, Enc.int, Enc.str, Enc.strs, Enc.slice, Enc.agg, Enc.tup, Enc.err, Enc.fn, Enc.ints, Enc.i64, Ex.then, upd]
  | cons x r => exact go _ .none (.inl ⟨rfl, by simp⟩) (by simp [init, arg1, arg2, arg3, EncR.one, EncR.and, Enc.bool, Enc.int, Enc.str, Enc.strs, Enc.slice, Enc.agg, Enc.tup, Enc.err, Enc.fn, Enc.ints, Enc.i64]) _ rfl
theorem e122 : Go.FA.Good Tryz.prog (122, s122) := ⟨c122, Tryz.f122, _, Tryz.func122, rfl, by decide⟩

def s121 : Sp := sp (arg1 Enc.pies) Enc.pies (fun l => if l.length ≤ 1048576 then some l else none)
theorem c121 : CallSound Tryz.prog 121 s121 := by
  refine CallSound.of_sp (T := tabOf []) Tryz.func121 rfl (Nat.le_of_ble_eq_true rfl) fun E l y hy => ?_
  by_cases hlim : l.length ≤ 1048576 <;> simp [hlim] at hy
  subst hy
  have hd := pies_dec l
  have go : ∀ (a : Nat → DV) (tag : Tag), tag = .none ∧ l ≠ [] ∨ tag = .nn → a 0 = .slice 2 tag (l.map EncR.pie.enc) → ∀ c, Tryz.f121.body = some c → Dwp Tryz.prog (tabOf []) E Tryz.f121.ntmps c (Done Tryz.prog Tryz.f121.results Enc.pies l) a σ0 := by
    intro a tag htag h0 c hc
    cases hc
    refine Dwp.step tab0 rfl fun K hK => ?_
    simp [dcall, tabOf, setAt]
    refine hK _ _ ?_ rfl; clear hK K
    refine Dwp.seq ?_
    refine Dwp.step tab0 rfl fun K hK => ?_
    have hnn : tag.isNN = true ∨ ¬l = [] := by
      rcases htag with ⟨rfl, hne⟩ | rfl
      · exact .inr hne
      · exact .inl rfl
    simp [dcall, tabOf, setAt, h0, ty34]
    simp only [Tag.isNN] at hnn
    rw [if_pos hnn]
    simp [dcall, tabOf, setAt]
    refine hK _ _ ?_ rfl; clear hK K
    refine Dwp.condF (by simp [eval, upd]) (Dwp.skip ?_)
    refine Dwp.step tab0 rfl fun K hK => ?_
    have hle : l.length ≤ 16777216 := by omega
    simp [dcall, tabOf, setAt, h0, ty34, ty69, hle]
    refine hK _ _ (Dwp.ret ?_) rfl
    simp [Done, dresults, dres, frz, frz1, frz2, init, arg1, arg2, arg3, EncR.one, EncR.and, Enc.bool, Enc.int, Enc.str, Enc.strs, Enc.slice, Enc.agg, Enc.tup, Enc.err, Enc.fn, Enc.pies, upd, hd]
  cases l with
  | nil =>
    refine Dwp.nilCase 0 2 (by simp [init, arg1, arg2, arg3, EncR.one, EncR.and, Enc.bool, Enc.int, Enc.str, Enc.strs, Enc.slice, Enc.agg, Enc.tup, Enc.err, Enc.fn, Enc.pies]) ?_ (go _ .nn (.inr rfl) (by simp [upd]) _ rfl)
    refine Dwp.step tab0 rfl fun K hK => ?_
    simp [dcall, tabOf, setAt]
    refine hK _ _ ?_ rfl; clear hK K
    refine Dwp.seq ?_
    refine Dwp.step tab0 rfl fun K hK => ?_
    simp [dcall, tabOf, setAt, ty34]
    refine hK _ _ ?_ rfl; clear hK K
    refine Dwp.condT (by simp [eval, upd]) ?_
    refine Dwp.step tab0 rfl fun K hK => ?_
    simp [dcall, tabOf, setAt]
    refine hK _ _ (Dwp.ret ?_) rfl
    simp [Done, dresults, dres, frz, frz1, frz2, init, arg1, arg2, arg3, EncR.one, EncR.and, Enc.bool, Enc.int, Enc.str, Enc.strs, Enc.slice, Enc.agg, Enc.tup, Enc.err, Enc.fn, Enc.pies, Ex.then, upd]
  | cons x r => exact go _ .none (.inl ⟨rfl, by simp⟩) (by simp [init, arg1, arg2, arg3, EncR.one, EncR.and, Enc.bool, Enc.int, Enc.str, Enc.strs, Enc.slice, Enc.agg, Enc.tup, Enc.err, Enc.fn, Enc.pies]) _ rfl
theorem e121 : Go.FA.Good Tryz.prog (121, s121) := ⟨c121, Tryz.f121, _, Tryz.func121, rfl, by decide⟩

end Go.Proofs.Yt
namespace Go.Proofs.Yt
open Go Go.FA Go.Proofs
set_option linter.unusedVariables false
set_option linter.unusedSimpArgs false
set_option maxRecDepth 100000

/-- a slice under way: nil, or owned at its end -/
def Acc (σ : St) (k : Nat) (rows : List (List DV)) (d : DV) : Prop := rows = [] ∧ d = .lit (.slice none 0 0) ∨ ∃ tk g, d = .slice k (.tok tk g) rows ∧ σ.toks tk = some g
theorem Acc.dec {α : Type} {σ : St} {A : EncR α} {rows : List (List DV)} {d : DV} {l : List α} (h : Acc σ A.k rows d) (hl : decRows A rows = some l) : (Enc.slice A).dec d = some l := by
  rcases h with ⟨rfl, rfl⟩ | ⟨tk, g, rfl, _⟩
  · simp [decRows] at hl; subst hl; rfl
  · simp [Enc.slice, hl]
theorem Acc.toks {σ τ : St} {k : Nat} {rows : List (List DV)} {d : DV} (h : Acc σ k rows d) (e : τ.toks = σ.toks) : Acc τ k rows d := by
  unfold Acc; rw [e]; exact h
theorem acc_append {P : Program} {σ : St} {k : Nat} {rows xs : List (List DV)} {d : DV} {tag : Tag} {t e : TypeId} {i : TyI} {b c : Nat} {z : DV} (id : Nat) (h : Acc σ k rows d)
    (ht : tyOf P t = some ⟨.slice e, b, c, z⟩) (he : tyOf P e = some i) (hk : i.size = k) (ho : elemOk i = true) (hl : rows.length + xs.length ≤ growLimit) :
    ∃ d' tk g, dappend P id σ t d (.slice k tag xs) = some (d', { σ with toks := upd σ.toks tk (some g) }) ∧ Acc { σ with toks := upd σ.toks tk (some g) } k (rows ++ xs) d' := by
  subst hk
  rcases h with ⟨rfl, rfl⟩ | ⟨tk, g, rfl, hg⟩
  · refine ⟨.slice i.size (.tok id 0) xs, id, 0, ?_, .inr ⟨id, 0, by simp, by simp [upd]⟩⟩
    simp at hl
    simp [dappend, ht, he, rowsOf, appTag, ho, hl]
  · refine ⟨.slice i.size (.tok tk (g + 1)) (rows ++ xs), tk, g + 1, ?_, .inr ⟨tk, g + 1, rfl, by simp [upd]⟩⟩
    simp [dappend, ht, he, rowsOf, appTag, ho, hl, hg]

/-- validStrict -/
def s136 : Sp := sp (arg1 Enc.opd) Enc.bool (fun o => if o.args.length ≤ lim ∧ o.strict.length ≤ lim then some (o.strict.all (fun n => decide (1 ≤ n) && decide (n ≤ o.args.length)) && decide o.strict.Nodup) else none)
def inv136 (o : OpD) : Nat → (Nat → DV) → St → Prop := fun k a σ => ∃ i, i ≤ o.strict.length ∧ k = o.strict.length - i ∧ ((o.strict.take i).all fun n => decide (1 ≤ n) && decide (n ≤ o.args.length)) = true ∧
  a 1 = .row (EncR.opd.enc o) 0 ∧ a 6 = .slice 1 .none (o.strict.map fun n => [DV.lit (.int .i64 n)]) ∧ a 7 = .lit (.int .i64 o.strict.length) ∧ a 8 = .lit (.int .i64 i)
theorem t136 : TabOk Tryz.prog (tabOf [(152, s152)]) := .cons e152 .nil
theorem all_take {α : Type} {p : α → Bool} {l : List α} {i : Nat} (h : i < l.length) (hp : (l.take i).all p = true) (hx : p l[i] = true) : (l.take (i + 1)).all p = true := by
  rw [List.take_succ_eq_append_getElem h]; simp only [List.all_append, hp, List.all_cons, hx, List.all_nil]; rfl
theorem all_false {α : Type} {p : α → Bool} {l : List α} {i : Nat} (h : i < l.length) (hx : p l[i] = false) : l.all p = false := by
  rw [List.all_eq_false]; exact ⟨l[i], List.getElem_mem h, by simp [hx]⟩
theorem call152 (T : Tab) (hT : T 152 = some s152) (l : List Int) (hl : l.length ≤ lim) : dcall T 152 [.slice 1 .none (l.map fun n => [DV.lit (.int .i64 n)])] = some (.lit (.bool (decide l.Nodup))) := by
  have hd := ints_dec l
  simp [dcall, hT, s152, sp, arg1, EncR.one, Enc.ints, Enc.slice, Enc.i64, Enc.int, Enc.bool] at hd ⊢
  simp [hd, hl]
attribute [local simp] drunL drunO dwanted dopS own plainOf dop dput eval ofVal Then Ex.then Ex.inBlock upd dbin Tag.isNN nilTest intCmp dload dpart TyI.agg dfieldAddr dfield dindexAddr dindex dlen lenOk dlookup mapOf keyFits dmapUpdate dcallee dbuiltin dstore DV.cells dslice dboundOk dappend appTag rowsOf elemOk growLimit dbuildCells dbuildCells.go structOk fieldsOk dbuildRows goInt
theorem c136 : CallSound Tryz.prog 136 s136 := by
  refine CallSound.of_sp (T := tabOf [(152, s152)]) Tryz.func136 rfl (Nat.le_of_ble_eq_true rfl) fun E o y hy => ?_
  by_cases hlim : o.args.length ≤ lim ∧ o.strict.length ≤ lim <;> simp [hlim] at hy
  subst hy
  have hl1 := hlim.1
  have hl2 := hlim.2
  unfold lim at hl1 hl2
  refine Dwp.step t136 rfl fun K hK => ?_
  simp [dcall, tabOf, setAt, init, arg1, arg2, arg3, EncR.one, EncR.and, Enc.bool, Enc.int, Enc.str, Enc.strs, Enc.slice, Enc.agg, Enc.tup, Enc.err, Enc.fn, Enc.opd]
  refine hK _ _ ?_ rfl; clear hK K
  refine Dwp.seq ?_
  refine Dwp.step t136 rfl fun K hK => ?_
  simp [dcall, tabOf, setAt, ty38, ty36, EncR.opd, Enc.ints, Enc.slice, EncR.one, Enc.i64, Enc.int]
  refine hK _ _ ?_ rfl; clear hK K
  refine Dwp.block (Dwp.loop (inv136 o) o.strict.length ⟨0, by simp, by simp, by simp, by simp [upd, EncR.opd, Enc.ints, Enc.slice, EncR.one, Enc.i64, Enc.int], by simp [upd], by simp [upd], by simp [upd]⟩ ?_)
  rintro k a σ ⟨i, hi, rfl, hall, h1, h6, h7, h8⟩
  refine Dwp.step t136 rfl fun K hK => ?_
  simp [dcall, tabOf, setAt, h7, h8]
  refine hK _ _ ?_ rfl; clear hK K
  by_cases hlt : i < o.strict.length
  · refine Dwp.seq (Dwp.condT (by simp [eval, upd, hlt]) (Dwp.skip ?_))
    refine Dwp.seq (Dwp.block ?_)
    refine Dwp.step t136 rfl fun K hK => ?_
    simp [dcall, tabOf, setAt, h6, h8, ty36, ty3, hlt]
    refine hK _ _ ?_ rfl; clear hK K
    refine Dwp.step t136 rfl fun K hK => ?_
    by_cases hx : o.strict[i] < 1
    · simp [dcall, tabOf, setAt, h1, hx]
      refine hK _ _ ?_ rfl; clear hK K
      refine Dwp.condT (by simp [eval, upd]) ?_
      refine Dwp.step t136 rfl fun K hK => ?_
      simp [dcall, tabOf, setAt]
      refine hK _ _ (Dwp.ret ?_) rfl
      have := all_false (p := fun n => decide (1 ≤ n) && decide (n ≤ (o.args.length : Int))) hlt (by simp; omega)
      simp [Done, dresults, dres, frz, frz1, frz2, init, arg1, arg2, arg3, EncR.one, EncR.and, Enc.bool, Enc.int, Enc.str, Enc.strs, Enc.slice, Enc.agg, Enc.tup, Enc.err, Enc.fn, Ex.then, Ex.inBlock, upd, this]
    · by_cases hy : (o.args.length : Int) < o.strict[i]
      · simp [dcall, tabOf, setAt, h1, hx, hy, ty38, ty22, EncR.opd, Enc.strs, Enc.slice]
        refine hK _ _ ?_ rfl; clear hK K
        refine Dwp.condT (by simp [eval, upd]) ?_
        refine Dwp.step t136 rfl fun K hK => ?_
        simp [dcall, tabOf, setAt]
        refine hK _ _ (Dwp.ret ?_) rfl
        have := all_false (p := fun n => decide (1 ≤ n) && decide (n ≤ (o.args.length : Int))) hlt (by simp; omega)
        simp [Done, dresults, dres, frz, frz1, frz2, init, arg1, arg2, arg3, EncR.one, EncR.and, Enc.bool, Enc.int, Enc.str, Enc.strs, Enc.slice, Enc.agg, Enc.tup, Enc.err, Enc.fn, Ex.then, Ex.inBlock, upd, this]
      · simp [dcall, tabOf, setAt, h1, hx, hy, ty38, ty22, EncR.opd, Enc.strs, Enc.slice]
        refine hK _ _ ?_ rfl; clear hK K
        refine Dwp.condF (by simp [eval, upd]) (Dwp.skip ?_)
        refine Dwp.reg t136 rfl fun K hK => ?_
        simp [dcall, tabOf, setAt, h8]
        refine hK _ _ ?_ rfl; clear hK K
        refine ⟨o.strict.length - (i + 1), by omega, i + 1, by omega, rfl, all_take hlt hall (by simp; omega), by simp [upd, h1], by simp [upd, h6], by simp [upd, h7], by simp [upd, wrap_small (n := (i : Int) + 1) (by omega) (by omega)]⟩
  · refine Dwp.seq (Dwp.condF (by simp [eval, upd, hlt]) (Dwp.exit ?_))
    refine Dwp.step t136 rfl fun K hK => ?_
    rw [List.take_of_length_le (by omega)] at hall
    have g := call152 (tabOf [(152, s152)]) rfl o.strict hlim.2
    simp [dcall, tabOf] at g
    simp [dcall, tabOf, setAt, h1, ty38, ty36, EncR.opd, Enc.ints, Enc.slice, EncR.one, Enc.i64, Enc.int, g]
    refine hK _ _ (Dwp.ret ?_) rfl
    simp only [hall, Bool.true_and]
    simp [Done, dresults, dres, frz, frz1, frz2, init, arg1, arg2, arg3, EncR.one, EncR.and, Enc.bool, Enc.int, Enc.str, Enc.strs, Enc.slice, Enc.agg, Enc.tup, Enc.err, Enc.fn, upd]
theorem e136 : Go.FA.Good Tryz.prog (136, s136) := ⟨c136, Tryz.f136, _, Tryz.func136, rfl, by decide⟩
end Go.Proofs.Yt
namespace Go.Proofs.Yt
open Go Go.FA Go.Proofs
set_option linter.unusedVariables false
set_option linter.unusedSimpArgs false
set_option maxRecDepth 100000

def pieArgs : List Pie → Option (List ByteArray)
  | [] => some []
  | p :: r => if p.sort = ⟨#[]⟩ then (if isPiece p.text then pieArgs r else none) else if p.text = ⟨#[]⟩ then (pieArgs r).map (p.sort :: ·) else none
def okPieces (o : OpD) : Bool :=
  if o.pieces.length = 0 then true else if 20 < o.pieces.length then false else decide (pieArgs o.pieces = some o.args)
theorem call151 (T : Tab) (hT : T 151 = some s151) (s : ByteArray) : dcall T 151 [.lit (.string s)] = some (.lit (.bool (isPiece s))) := by
  simp [dcall, hT, s151, sp, arg1, EncR.one, Enc.str, Enc.bool]
theorem call75 (T : Tab) (hT : T 75 = some s75) (d e : DV) (l m : List ByteArray) (hd : Enc.strs.dec d = some l) (he : Enc.strs.dec e = some m) (hl : l.length ≤ lim) (hm : m.length ≤ lim) :
    dcall T 75 [d, e] = some (.lit (.bool (decide (l = m)))) := by
  simp [dcall, hT, s75, sp, arg2, EncR.and, EncR.one, hd, he, hl, hm, Enc.bool]

def s134 : Sp := sp (arg1 Enc.opd) Enc.bool (fun o => if o.args.length ≤ lim then some (okPieces o) else none)
def inv134 (o : OpD) : Nat → (Nat → DV) → St → Prop := fun k a σ => ∃ (i : Nat) (acc : List ByteArray), i ≤ o.pieces.length ∧ k = o.pieces.length - i ∧ pieArgs o.pieces = (pieArgs (o.pieces.drop i)).map (acc ++ ·) ∧ acc.length ≤ i ∧
  a 1 = .row (EncR.opd.enc o) 0 ∧ a 15 = .slice 2 .none (o.pieces.map EncR.pie.enc) ∧ a 16 = .lit (.int .i64 o.pieces.length) ∧ a 17 = .lit (.int .i64 i) ∧ Acc σ 1 (acc.map fun s => [DV.lit (.string s)]) (a 3)
theorem t134 : TabOk Tryz.prog (tabOf [(151, s151), (75, s75)]) := .cons e151 (.cons e75 .nil)
attribute [local simp] drunL drunO dwanted dopS own plainOf dop dput eval ofVal Then Ex.then Ex.inBlock upd dbin Tag.isNN nilTest intCmp dload dpart TyI.agg dfieldAddr dfield dindexAddr dindex dlen lenOk dlookup mapOf keyFits dmapUpdate dcallee dbuiltin dstore DV.cells dslice dboundOk dappend appTag rowsOf elemOk growLimit dbuildCells dbuildCells.go structOk fieldsOk dbuildRows goInt
theorem c134 : CallSound Tryz.prog 134 s134 := by
  refine CallSound.of_sp (T := tabOf [(151, s151), (75, s75)]) Tryz.func134 rfl (Nat.le_of_ble_eq_true rfl) fun E o y hy => ?_
  by_cases hlim : o.args.length ≤ lim <;> simp [hlim] at hy
  subst hy
  refine Dwp.step t134 rfl fun K hK => ?_
  simp [dcall, tabOf, setAt, init, arg1, arg2, arg3, EncR.one, EncR.and, Enc.bool, Enc.int, Enc.str, Enc.strs, Enc.slice, Enc.agg, Enc.tup, Enc.err, Enc.fn, Enc.opd]
  refine hK _ _ ?_ rfl; clear hK K
  refine Dwp.seq ?_
  refine Dwp.step t134 rfl fun K hK => ?_
  simp [dcall, tabOf, setAt, ty38, ty34, EncR.opd, Enc.pies, Enc.slice]
  refine hK _ _ ?_ rfl; clear hK K
  by_cases h0 : o.pieces.length = 0
  · have h0' : o.pieces = [] := List.length_eq_zero_iff.1 h0
    refine Dwp.condT (by simp [eval, upd, h0']) ?_
    refine Dwp.step t134 rfl fun K hK => ?_
    simp [dcall, tabOf, setAt]
    refine hK _ _ (Dwp.ret ?_) rfl
    simp [Done, dresults, dres, frz, frz1, frz2, init, arg1, arg2, arg3, EncR.one, EncR.and, Enc.bool, Enc.int, Enc.str, Enc.strs, Enc.slice, Enc.agg, Enc.tup, Enc.err, Enc.fn, Ex.then, upd, okPieces, h0']
  refine Dwp.condF (by have h0' : o.pieces ≠ [] := fun e => h0 (by simp [e]); simp [eval, upd, h0']) (Dwp.skip ?_)
  refine Dwp.seq ?_
  refine Dwp.step t134 rfl fun K hK => ?_
  simp [dcall, tabOf, setAt, ty38, ty34, EncR.opd, Enc.pies, Enc.slice]
  refine hK _ _ ?_ rfl; clear hK K
  by_cases h20 : 20 < o.pieces.length
  · have h20' : (20 : Int) < o.pieces.length := by omega
    refine Dwp.condT (by simp [eval, upd, h20']) ?_
    refine Dwp.step t134 rfl fun K hK => ?_
    simp [dcall, tabOf, setAt]
    refine hK _ _ (Dwp.ret ?_) rfl
    simp [Done, dresults, dres, frz, frz1, frz2, init, arg1, arg2, arg3, EncR.one, EncR.and, Enc.bool, Enc.int, Enc.str, Enc.strs, Enc.slice, Enc.agg, Enc.tup, Enc.err, Enc.fn, Ex.then, upd, okPieces, h0, h20]
  have h20' : ¬ (20 : Int) < o.pieces.length := by omega
  refine Dwp.condF (by simp [eval, upd, h20']) (Dwp.skip ?_)
  refine Dwp.step t134 rfl fun K hK => ?_
  simp [dcall, tabOf, setAt]
  refine hK _ _ ?_ rfl; clear hK K
  refine Dwp.seq ?_
  refine Dwp.step t134 rfl fun K hK => ?_
  simp [dcall, tabOf, setAt, ty38, ty34, EncR.opd, Enc.pies, Enc.slice]
  refine hK _ _ ?_ rfl; clear hK K
  refine Dwp.block (Dwp.loop (inv134 o) o.pieces.length ⟨0, [], by simp, by simp, by simp, by simp, by simp [upd, EncR.opd, Enc.pies, Enc.slice], by simp [upd], by simp [upd], by simp [upd], .inl ⟨rfl, by simp [upd]⟩⟩ ?_)
  rintro k a σ ⟨i, acc, hi, rfl, hpa, hacc, h1, h15, h16, h17, h3⟩
  refine Dwp.step t134 rfl fun K hK => ?_
  simp [dcall, tabOf, setAt, h16, h17]
  refine hK _ _ ?_ rfl; clear hK K
  by_cases hlt : i < o.pieces.length
  · rw [List.drop_eq_getElem_cons hlt, pieArgs] at hpa
    refine Dwp.seq (Dwp.condT (by simp [eval, upd, hlt]) (Dwp.skip ?_))
    refine Dwp.seq (Dwp.block ?_)
    refine Dwp.step t134 rfl fun K hK => ?_
    simp [dcall, tabOf, setAt, h15, h17, ty34, ty69, hlt, EncR.pie]
    refine hK _ _ ?_ rfl; clear hK K
    refine Dwp.block ?_
    refine Dwp.step t134 rfl fun K hK => ?_
    simp [dcall, tabOf, setAt, ty69, ty9]
    refine hK _ _ ?_ rfl; clear hK K
    by_cases hs : o.pieces[i].sort = ⟨#[]⟩
    · refine Dwp.condT (by simp [eval, upd, hs]) ?_
      refine Dwp.step t134 rfl fun K hK => ?_
      have g := call151 (tabOf [(151, s151), (75, s75)]) rfl o.pieces[i].text
      simp [dcall, tabOf] at g
      simp [dcall, tabOf, setAt, ty69, ty9, g]
      refine hK _ _ ?_ rfl; clear hK K
      by_cases hp : isPiece o.pieces[i].text = true
      · refine Dwp.condF (by simp [eval, upd, hp]) (Dwp.skip ?_)
        simp [hs, hp] at hpa
        refine Dwp.reg t134 rfl fun K hK => ?_
        simp [dcall, tabOf, setAt, h17]
        refine hK _ _ ?_ rfl; clear hK K
        exact ⟨o.pieces.length - (i + 1), by omega, i + 1, acc, by omega, rfl, hpa, by omega, by simp [upd, h1], by simp [upd, h15], by simp [upd, h16], by simp [upd, wrap_small (n := (i : Int) + 1) (by omega) (by omega)], by simp only [upd]; exact h3.toks rfl⟩
      · refine Dwp.condT (by simp [eval, upd, hp]) ?_
        simp [hs, hp] at hpa
        refine Dwp.step t134 rfl fun K hK => ?_
        simp [dcall, tabOf, setAt]
        refine hK _ _ (Dwp.ret ?_) rfl
        simp [Done, dresults, dres, frz, frz1, frz2, init, arg1, arg2, arg3, EncR.one, EncR.and, Enc.bool, Enc.int, Enc.str, Enc.strs, Enc.slice, Enc.agg, Enc.tup, Enc.err, Enc.fn, Ex.then, Ex.inBlock, upd, okPieces, h0, h20, hpa]
    · refine Dwp.condF (by simp [eval, upd, hs]) ?_
      refine Dwp.step t134 rfl fun K hK => ?_
      simp [dcall, tabOf, setAt, ty69, ty9]
      refine hK _ _ ?_ rfl; clear hK K
      by_cases ht : o.pieces[i].text = ⟨#[]⟩
      · refine Dwp.condT (by simp [eval, upd, ht]) ?_
        simp only [hs, ht, if_false, if_true] at hpa
        refine Dwp.reg t134 rfl fun K hK => ?_
        have hpa' : pieArgs o.pieces = (pieArgs (o.pieces.drop (i + 1))).map ((acc ++ [o.pieces[i].sort]) ++ ·) := by
          rw [hpa]; cases pieArgs (o.pieces.drop (i + 1)) <;> simp
        have hsmall : acc.length + 1 ≤ 16777216 := by omega
        rcases h3 with ⟨hr, h3⟩ | ⟨tk, g, h3, hg⟩
        · simp at hr; subst hr
          simp [dcall, tabOf, setAt, h3, ty69, ty9, ty22]
          refine hK _ _ ?_ rfl; clear hK K
          refine Dwp.reg t134 rfl fun K hK => ?_
          simp [dcall, tabOf, setAt, h17]
          refine hK _ _ ?_ rfl; clear hK K
          exact ⟨o.pieces.length - (i + 1), by omega, i + 1, _, by omega, rfl, hpa', by simp <;> omega, by simp [upd, h1], by simp [upd, h15], by simp [upd, h16], by simp [upd, wrap_small (n := (i : Int) + 1) (by omega) (by omega)], .inr ⟨_, _, by simp [upd]; exact ⟨rfl, rfl⟩, by simp [upd]⟩⟩
        · simp [dcall, tabOf, setAt, h3, hg, ty69, ty9, ty22, hsmall]
          refine hK _ _ ?_ rfl; clear hK K
          refine Dwp.reg t134 rfl fun K hK => ?_
          simp [dcall, tabOf, setAt, h17]
          refine hK _ _ ?_ rfl; clear hK K
          exact ⟨o.pieces.length - (i + 1), by omega, i + 1, _, by omega, rfl, hpa', by simp <;> omega, by simp [upd, h1], by simp [upd, h15], by simp [upd, h16], by simp [upd, wrap_small (n := (i : Int) + 1) (by omega) (by omega)], .inr ⟨_, _, by simp [upd]; exact ⟨rfl, rfl⟩, by simp [upd]⟩⟩
      · refine Dwp.condF (by simp [eval, upd, ht]) ?_
        simp [hs, ht] at hpa
        refine Dwp.step t134 rfl fun K hK => ?_
        simp [dcall, tabOf, setAt]
        refine hK _ _ (Dwp.ret ?_) rfl
        simp [Done, dresults, dres, frz, frz1, frz2, init, arg1, arg2, arg3, EncR.one, EncR.and, Enc.bool, Enc.int, Enc.str, Enc.strs, Enc.slice, Enc.agg, Enc.tup, Enc.err, Enc.fn, Ex.then, Ex.inBlock, upd, okPieces, h0, h20, hpa]
  · refine Dwp.seq (Dwp.condF (by simp [eval, upd, hlt]) (Dwp.exit ?_))
    rw [List.drop_eq_nil_of_le (by omega)] at hpa
    simp [pieArgs] at hpa
    refine Dwp.step t134 rfl fun K hK => ?_
    have g := call75 (tabOf [(151, s151), (75, s75)]) rfl (a 3) (Enc.strs.enc o.args) acc o.args (h3.dec (A := EncR.one Enc.str) (strs_dec acc)) (Enc.strs.de _) (by unfold lim; omega) hlim
    simp [dcall, tabOf, Enc.strs, Enc.slice] at g
    simp [dcall, tabOf, setAt, h1, ty38, ty22, EncR.opd, Enc.strs, Enc.slice, g]
    refine hK _ _ (Dwp.ret ?_) rfl
    simp [Done, dresults, dres, frz, frz1, frz2, init, arg1, arg2, arg3, EncR.one, EncR.and, Enc.bool, Enc.int, Enc.str, Enc.strs, Enc.slice, Enc.agg, Enc.tup, Enc.err, Enc.fn, upd, okPieces, h0, h20, hpa]
theorem e134 : Go.FA.Good Tryz.prog (134, s134) := ⟨c134, Tryz.f134, _, Tryz.func134, rfl, by decide⟩
end Go.Proofs.Yt
namespace Go.Proofs.Yt
open Go Go.FA Go.Proofs
set_option linter.unusedVariables false
set_option linter.unusedSimpArgs false
set_option maxRecDepth 100000

def bins : List ByteArray := [⟨#[97, 100, 100]⟩, ⟨#[115, 117, 98]⟩, ⟨#[109, 117, 108]⟩, ⟨#[100, 105, 118]⟩, ⟨#[109, 111, 100]⟩, ⟨#[110, 101, 103]⟩, ⟨#[108, 116]⟩, ⟨#[108, 101]⟩, ⟨#[103, 116]⟩, ⟨#[103, 101]⟩, ⟨#[101, 113]⟩, ⟨#[110, 101]⟩, ⟨#[97, 110, 100]⟩, ⟨#[111, 114]⟩, ⟨#[110, 111, 116]⟩, ⟨#[112, 105, 99, 107]⟩, ⟨#[99, 97, 116]⟩, ⟨#[108, 101, 110, 103, 116, 104]⟩, ⟨#[116, 101, 120, 116]⟩, ⟨#[106, 111, 105, 110]⟩, ⟨#[103, 101, 116]⟩, ⟨#[112, 117, 116]⟩, ⟨#[104, 97, 115]⟩, ⟨#[100, 101, 108]⟩, ⟨#[107, 101, 121, 115]⟩, ⟨#[115, 105, 122, 101]⟩, ⟨#[105, 115]⟩, ⟨#[105, 115, 118, 97, 108, 117, 101]⟩]
def builtIn (s : ByteArray) : Bool := decide (s ∈ bins)
def s36 : Sp := sp (arg1 Enc.str) Enc.bool (fun s => some (builtIn s))
attribute [local simp] drunL drunO dwanted dopS own plainOf dop dput eval ofVal Then Ex.then Ex.inBlock upd dbin Tag.isNN nilTest intCmp dload dpart TyI.agg dfieldAddr dfield dindexAddr dindex dlen lenOk dlookup mapOf keyFits dmapUpdate dcallee dbuiltin dstore DV.cells dslice dboundOk dappend appTag rowsOf elemOk growLimit dbuildCells dbuildCells.go structOk fieldsOk dbuildRows goInt
theorem c36 : CallSound Tryz.prog 36 s36 := by
  refine CallSound.of_sp (T := tabOf []) Tryz.func36 rfl (Nat.le_of_ble_eq_true rfl) fun E s y hy => ?_
  simp at hy; subst hy
  refine Dwp.step tab0 rfl fun K hK => ?_
  simp [dcall, tabOf, setAt, init, arg1, arg2, arg3, EncR.one, EncR.and, Enc.bool, Enc.int, Enc.str, Enc.strs, Enc.slice, Enc.agg, Enc.tup, Enc.err, Enc.fn]
  refine hK _ _ ?_ rfl; clear hK K
  refine Dwp.seq ?_
  refine Dwp.step tab0 rfl fun K hK => ?_
  simp [dcall, tabOf, setAt]
  refine hK _ _ ?_ rfl; clear hK K
  refine Dwp.block ?_
  refine Dwp.seq (Dwp.mono (Q := fun e a _ => e = .normal ∧ a 4 = .lit (.bool (builtIn s))) ?_ ?_)
  rotate_left
  · rintro _ a σ ⟨rfl, h4⟩
    simp only [Ex.then]
    cases hb : builtIn s with
    | true =>
      rw [hb] at h4
      refine Dwp.condT h4 ?_
      refine Dwp.step tab0 rfl fun K hK => ?_
      simp [dcall, tabOf, setAt]
      refine hK _ _ (Dwp.ret ?_) rfl
      simp [Done, dresults, dres, frz, frz1, frz2, init, arg1, arg2, arg3, EncR.one, EncR.and, Enc.bool, Enc.int, Enc.str, Enc.strs, Enc.slice, Enc.agg, Enc.tup, Enc.err, Enc.fn, Ex.then, Ex.inBlock, upd]
    | false =>
      rw [hb] at h4
      refine Dwp.condF h4 (Dwp.skip ?_)
      simp only [Ex.inBlock, Ex.then]
      refine Dwp.step tab0 rfl fun K hK => ?_
      simp [dcall, tabOf, setAt]
      refine hK _ _ (Dwp.ret ?_) rfl
      simp [Done, dresults, dres, frz, frz1, frz2, init, arg1, arg2, arg3, EncR.one, EncR.and, Enc.bool, Enc.int, Enc.str, Enc.strs, Enc.slice, Enc.agg, Enc.tup, Enc.err, Enc.fn, Ex.then, Ex.inBlock, upd]
  refine Dwp.mono (Q := fun e a _ => e = .normal ∧ a 4 = .lit (.bool (builtIn s))) ?_ (fun _ _ _ h => h)
  have h3 : (upd (upd (init [DV.lit (.string s)]) 2 (.lit (.bool false))) 3 (.lit (.string s))) 3 = .lit (.string s) := rfl
  refine Dwp.step tab0 rfl fun K hK => ?_
  simp [dcall, tabOf, setAt]
  refine hK _ _ ?_ rfl; clear hK K
  by_cases h0 : s = ⟨#[97, 100, 100]⟩
  · exact Dwp.condT (by simp [eval, upd, h0]) (Dwp.skip ⟨rfl, by simp [upd, h0]; rfl⟩)
  refine Dwp.condF (by simp [eval, upd, h0]) ?_
  refine Dwp.step tab0 rfl fun K hK => ?_
  simp [dcall, tabOf, setAt]
  refine hK _ _ ?_ rfl; clear hK K
  by_cases h1 : s = ⟨#[115, 117, 98]⟩
  · exact Dwp.condT (by simp [eval, upd, h1]) (Dwp.skip ⟨rfl, by simp [upd, h1]; rfl⟩)
  refine Dwp.condF (by simp [eval, upd, h1]) ?_
  refine Dwp.step tab0 rfl fun K hK => ?_
  simp [dcall, tabOf, setAt]
  refine hK _ _ ?_ rfl; clear hK K
  by_cases h2 : s = ⟨#[109, 117, 108]⟩
  · exact Dwp.condT (by simp [eval, upd, h2]) (Dwp.skip ⟨rfl, by simp [upd, h2]; rfl⟩)
  refine Dwp.condF (by simp [eval, upd, h2]) ?_
  refine Dwp.step tab0 rfl fun K hK => ?_
  simp [dcall, tabOf, setAt]
  refine hK _ _ ?_ rfl; clear hK K
  by_cases h3 : s = ⟨#[100, 105, 118]⟩
  · exact Dwp.condT (by simp [eval, upd, h3]) (Dwp.skip ⟨rfl, by simp [upd, h3]; rfl⟩)
  refine Dwp.condF (by simp [eval, upd, h3]) ?_
  refine Dwp.step tab0 rfl fun K hK => ?_
  simp [dcall, tabOf, setAt]
  refine hK _ _ ?_ rfl; clear hK K
  by_cases h4 : s = ⟨#[109, 111, 100]⟩
  · exact Dwp.condT (by simp [eval, upd, h4]) (Dwp.skip ⟨rfl, by simp [upd, h4]; rfl⟩)
  refine Dwp.condF (by simp [eval, upd, h4]) ?_
  refine Dwp.step tab0 rfl fun K hK => ?_
  simp [dcall, tabOf, setAt]
  refine hK _ _ ?_ rfl; clear hK K
  by_cases h5 : s = ⟨#[110, 101, 103]⟩
  · exact Dwp.condT (by simp [eval, upd, h5]) (Dwp.skip ⟨rfl, by simp [upd, h5]; rfl⟩)
  refine Dwp.condF (by simp [eval, upd, h5]) ?_
  refine Dwp.step tab0 rfl fun K hK => ?_
  simp [dcall, tabOf, setAt]
  refine hK _ _ ?_ rfl; clear hK K
  by_cases h6 : s = ⟨#[108, 116]⟩
  · exact Dwp.condT (by simp [eval, upd, h6]) (Dwp.skip ⟨rfl, by simp [upd, h6]; rfl⟩)
  refine Dwp.condF (by simp [eval, upd, h6]) ?_
  refine Dwp.step tab0 rfl fun K hK => ?_
  simp [dcall, tabOf, setAt]
  refine hK _ _ ?_ rfl; clear hK K
  by_cases h7 : s = ⟨#[108, 101]⟩
  · exact Dwp.condT (by simp [eval, upd, h7]) (Dwp.skip ⟨rfl, by simp [upd, h7]; rfl⟩)
  refine Dwp.condF (by simp [eval, upd, h7]) ?_
  refine Dwp.step tab0 rfl fun K hK => ?_
  simp [dcall, tabOf, setAt]
  refine hK _ _ ?_ rfl; clear hK K
  by_cases h8 : s = ⟨#[103, 116]⟩
  · exact Dwp.condT (by simp [eval, upd, h8]) (Dwp.skip ⟨rfl, by simp [upd, h8]; rfl⟩)
  refine Dwp.condF (by simp [eval, upd, h8]) ?_
  refine Dwp.step tab0 rfl fun K hK => ?_
  simp [dcall, tabOf, setAt]
  refine hK _ _ ?_ rfl; clear hK K
  by_cases h9 : s = ⟨#[103, 101]⟩
  · exact Dwp.condT (by simp [eval, upd, h9]) (Dwp.skip ⟨rfl, by simp [upd, h9]; rfl⟩)
  refine Dwp.condF (by simp [eval, upd, h9]) ?_
  refine Dwp.step tab0 rfl fun K hK => ?_
  simp [dcall, tabOf, setAt]
  refine hK _ _ ?_ rfl; clear hK K
  by_cases h10 : s = ⟨#[101, 113]⟩
  · exact Dwp.condT (by simp [eval, upd, h10]) (Dwp.skip ⟨rfl, by simp [upd, h10]; rfl⟩)
  refine Dwp.condF (by simp [eval, upd, h10]) ?_
  refine Dwp.step tab0 rfl fun K hK => ?_
  simp [dcall, tabOf, setAt]
  refine hK _ _ ?_ rfl; clear hK K
  by_cases h11 : s = ⟨#[110, 101]⟩
  · exact Dwp.condT (by simp [eval, upd, h11]) (Dwp.skip ⟨rfl, by simp [upd, h11]; rfl⟩)
  refine Dwp.condF (by simp [eval, upd, h11]) ?_
  refine Dwp.step tab0 rfl fun K hK => ?_
  simp [dcall, tabOf, setAt]
  refine hK _ _ ?_ rfl; clear hK K
  by_cases h12 : s = ⟨#[97, 110, 100]⟩
  · exact Dwp.condT (by simp [eval, upd, h12]) (Dwp.skip ⟨rfl, by simp [upd, h12]; rfl⟩)
  refine Dwp.condF (by simp [eval, upd, h12]) ?_
  refine Dwp.step tab0 rfl fun K hK => ?_
  simp [dcall, tabOf, setAt]
  refine hK _ _ ?_ rfl; clear hK K
  by_cases h13 : s = ⟨#[111, 114]⟩
  · exact Dwp.condT (by simp [eval, upd, h13]) (Dwp.skip ⟨rfl, by simp [upd, h13]; rfl⟩)
  refine Dwp.condF (by simp [eval, upd, h13]) ?_
  refine Dwp.step tab0 rfl fun K hK => ?_
  simp [dcall, tabOf, setAt]
  refine hK _ _ ?_ rfl; clear hK K
  by_cases h14 : s = ⟨#[110, 111, 116]⟩
  · exact Dwp.condT (by simp [eval, upd, h14]) (Dwp.skip ⟨rfl, by simp [upd, h14]; rfl⟩)
  refine Dwp.condF (by simp [eval, upd, h14]) ?_
  refine Dwp.step tab0 rfl fun K hK => ?_
  simp [dcall, tabOf, setAt]
  refine hK _ _ ?_ rfl; clear hK K
  by_cases h15 : s = ⟨#[112, 105, 99, 107]⟩
  · exact Dwp.condT (by simp [eval, upd, h15]) (Dwp.skip ⟨rfl, by simp [upd, h15]; rfl⟩)
  refine Dwp.condF (by simp [eval, upd, h15]) ?_
  refine Dwp.step tab0 rfl fun K hK => ?_
  simp [dcall, tabOf, setAt]
  refine hK _ _ ?_ rfl; clear hK K
  by_cases h16 : s = ⟨#[99, 97, 116]⟩
  · exact Dwp.condT (by simp [eval, upd, h16]) (Dwp.skip ⟨rfl, by simp [upd, h16]; rfl⟩)
  refine Dwp.condF (by simp [eval, upd, h16]) ?_
  refine Dwp.step tab0 rfl fun K hK => ?_
  simp [dcall, tabOf, setAt]
  refine hK _ _ ?_ rfl; clear hK K
  by_cases h17 : s = ⟨#[108, 101, 110, 103, 116, 104]⟩
  · exact Dwp.condT (by simp [eval, upd, h17]) (Dwp.skip ⟨rfl, by simp [upd, h17]; rfl⟩)
  refine Dwp.condF (by simp [eval, upd, h17]) ?_
  refine Dwp.step tab0 rfl fun K hK => ?_
  simp [dcall, tabOf, setAt]
  refine hK _ _ ?_ rfl; clear hK K
  by_cases h18 : s = ⟨#[116, 101, 120, 116]⟩
  · exact Dwp.condT (by simp [eval, upd, h18]) (Dwp.skip ⟨rfl, by simp [upd, h18]; rfl⟩)
  refine Dwp.condF (by simp [eval, upd, h18]) ?_
  refine Dwp.step tab0 rfl fun K hK => ?_
  simp [dcall, tabOf, setAt]
  refine hK _ _ ?_ rfl; clear hK K
  by_cases h19 : s = ⟨#[106, 111, 105, 110]⟩
  · exact Dwp.condT (by simp [eval, upd, h19]) (Dwp.skip ⟨rfl, by simp [upd, h19]; rfl⟩)
  refine Dwp.condF (by simp [eval, upd, h19]) ?_
  refine Dwp.step tab0 rfl fun K hK => ?_
  simp [dcall, tabOf, setAt]
  refine hK _ _ ?_ rfl; clear hK K
  by_cases h20 : s = ⟨#[103, 101, 116]⟩
  · exact Dwp.condT (by simp [eval, upd, h20]) (Dwp.skip ⟨rfl, by simp [upd, h20]; rfl⟩)
  refine Dwp.condF (by simp [eval, upd, h20]) ?_
  refine Dwp.step tab0 rfl fun K hK => ?_
  simp [dcall, tabOf, setAt]
  refine hK _ _ ?_ rfl; clear hK K
  by_cases h21 : s = ⟨#[112, 117, 116]⟩
  · exact Dwp.condT (by simp [eval, upd, h21]) (Dwp.skip ⟨rfl, by simp [upd, h21]; rfl⟩)
  refine Dwp.condF (by simp [eval, upd, h21]) ?_
  refine Dwp.step tab0 rfl fun K hK => ?_
  simp [dcall, tabOf, setAt]
  refine hK _ _ ?_ rfl; clear hK K
  by_cases h22 : s = ⟨#[104, 97, 115]⟩
  · exact Dwp.condT (by simp [eval, upd, h22]) (Dwp.skip ⟨rfl, by simp [upd, h22]; rfl⟩)
  refine Dwp.condF (by simp [eval, upd, h22]) ?_
  refine Dwp.step tab0 rfl fun K hK => ?_
  simp [dcall, tabOf, setAt]
  refine hK _ _ ?_ rfl; clear hK K
  by_cases h23 : s = ⟨#[100, 101, 108]⟩
  · exact Dwp.condT (by simp [eval, upd, h23]) (Dwp.skip ⟨rfl, by simp [upd, h23]; rfl⟩)
  refine Dwp.condF (by simp [eval, upd, h23]) ?_
  refine Dwp.step tab0 rfl fun K hK => ?_
  simp [dcall, tabOf, setAt]
  refine hK _ _ ?_ rfl; clear hK K
  by_cases h24 : s = ⟨#[107, 101, 121, 115]⟩
  · exact Dwp.condT (by simp [eval, upd, h24]) (Dwp.skip ⟨rfl, by simp [upd, h24]; rfl⟩)
  refine Dwp.condF (by simp [eval, upd, h24]) ?_
  refine Dwp.step tab0 rfl fun K hK => ?_
  simp [dcall, tabOf, setAt]
  refine hK _ _ ?_ rfl; clear hK K
  by_cases h25 : s = ⟨#[115, 105, 122, 101]⟩
  · exact Dwp.condT (by simp [eval, upd, h25]) (Dwp.skip ⟨rfl, by simp [upd, h25]; rfl⟩)
  refine Dwp.condF (by simp [eval, upd, h25]) ?_
  refine Dwp.step tab0 rfl fun K hK => ?_
  simp [dcall, tabOf, setAt]
  refine hK _ _ ?_ rfl; clear hK K
  by_cases h26 : s = ⟨#[105, 115]⟩
  · exact Dwp.condT (by simp [eval, upd, h26]) (Dwp.skip ⟨rfl, by simp [upd, h26]; rfl⟩)
  refine Dwp.condF (by simp [eval, upd, h26]) ?_
  refine Dwp.reg tab0 rfl fun K hK => ?_
  simp [dcall, tabOf, setAt]
  refine hK _ _ ?_ rfl; clear hK K
  exact ⟨rfl, by simp [upd, builtIn, bins, h0, h1, h2, h3, h4, h5, h6, h7, h8, h9, h10, h11, h12, h13, h14, h15, h16, h17, h18, h19, h20, h21, h22, h23, h24, h25, h26]⟩
theorem e36 : Go.FA.Good Tryz.prog (36, s36) := ⟨c36, Tryz.f36, _, Tryz.func36, rfl, by decide⟩
end Go.Proofs.Yt
namespace Go.Proofs.Yt
open Go Go.FA Go.Proofs
set_option linter.unusedVariables false
set_option linter.unusedSimpArgs false
set_option maxRecDepth 100000

def ren217 : Go.Shelf.Ren := ⟨fun n => if n = 217 then 159 else if n = 266 then 165 else n, fun n => n, fun n => n⟩
theorem lays217 : Lays.n217 Tryz.prog ren217 where
  mixed := mixed
  f217 := by kernel_rfl
  f266 := by kernel_rfl
  t3 := by kernel_rfl
  a3 := Tryz.isAgg3
  z3 := Tryz.sizeOf3
  v3 := Tryz.zeroValue3
  t5 := by kernel_rfl
  a5 := Tryz.isAgg5
  z5 := Tryz.sizeOf5
  v5 := Tryz.zeroValue5
  t9 := by kernel_rfl
  a9 := Tryz.isAgg9
  z9 := Tryz.sizeOf9
  v9 := Tryz.zeroValue9

def s159 : Sp := sp (arg2 Enc.str (Enc.int .u8)) Enc.i64 (fun x => some (Lib.indexByte x.1.data.toList x.2.toNat.toUInt8))
theorem c159 : CallSound Tryz.prog 159 s159 := by
  intro args r hr
  simp only [s159, sp, Option.bind_eq_some_iff, Option.map_eq_some_iff] at hr
  obtain ⟨⟨s, c⟩, hx, y, hy, rfl⟩ := hr
  refine .inl ⟨Enc.i64.pure y, fun C w cargs hpc hpm hl1 => ?_⟩
  have hl := LRel_le ((arg2 Enc.str (Enc.int .u8)).le _ _ hx) hl1
  simp at hy; subst hy
  have hc : cargs = [.string s, .int .u8 c] := by
    simp only [arg2, EncR.and, EncR.one, Enc.str, Enc.int] at hl
    match cargs, hl with
    | [a, b], hl =>
      simp [LRel, VRel] at hl
      rw [hl.1, hl.2]
  subst hc
  refine (Any.stringslite_IndexByte lays217 s c w).mono ?_
  rintro e w' ⟨rfl, rfl⟩
  exact ⟨_, rfl, Go.RowKit.Below.refl _ _, by simp [VRel, Enc.i64, Enc.int]⟩
theorem e159 : Go.FA.Good Tryz.prog (159, s159) := ⟨c159, Tryz.f159, _, Tryz.func159, rfl, by decide⟩

/-- where the mark of a frame stands -/
def mark (s : ByteArray) : Int := Lib.indexByte s.data.toList 39
theorem mark_cases : ∀ l : List UInt8, Lib.indexByte l 39 = -1 ∨ ∃ i : Nat, i < l.length ∧ Lib.indexByte l 39 = i
  | [] => .inl rfl
  | b :: l => by
    simp only [Lib.indexByte]
    by_cases h : b = 39
    · exact .inr ⟨0, by simp, by simp [h]⟩
    · rcases mark_cases l with e | ⟨i, h1, e⟩
      · left; simp [h, e]
      · right
        refine ⟨i + 1, by simp; omega, ?_⟩
        have : ¬ (i : Int) = -1 := by omega
        simp [h, e, this]
def s149 : Sp := sp (arg2 Enc.str Enc.str) Enc.i64 (fun x => if x.2 = ⟨#[39]⟩ then some (mark x.1) else none)
theorem t149 : TabOk Tryz.prog (tabOf [(159, s159)]) := .cons e159 .nil
attribute [local simp] drunL drunO dwanted dopS own plainOf dop dput eval ofVal Then Ex.then Ex.inBlock upd dbin Tag.isNN nilTest intCmp dload dpart TyI.agg dfieldAddr dfield dindexAddr dindex dlen lenOk dlookup mapOf keyFits dmapUpdate dcallee dbuiltin dstore DV.cells dslice dboundOk dappend appTag rowsOf elemOk growLimit dbuildCells dbuildCells.go structOk fieldsOk dbuildRows goInt
theorem c149 : CallSound Tryz.prog 149 s149 := by
  refine CallSound.of_sp (T := tabOf [(159, s159)]) Tryz.func149 rfl (Nat.le_of_ble_eq_true rfl) fun E x y hy => ?_
  obtain ⟨s, m⟩ := x
  by_cases hm : m = ⟨#[39]⟩ <;> simp [hm] at hy
  subst hy; subst hm
  have h1 : (ByteArray.mk #[39]).size = 1 := rfl
  have h2 : (ByteArray.mk #[39])[0]? = some 39 := rfl
  refine Dwp.step t149 rfl fun K hK => ?_
  simp [dcall, tabOf, setAt, init, arg1, arg2, arg3, EncR.one, EncR.and, Enc.bool, Enc.int, Enc.str, Enc.strs, Enc.slice, Enc.agg, Enc.tup, Enc.err, Enc.fn]
  refine hK _ _ ?_ rfl; clear hK K
  refine Dwp.step t149 rfl fun K hK => ?_
  simp [dcall, tabOf, setAt, init, arg1, arg2, arg3, EncR.one, EncR.and, Enc.bool, Enc.int, Enc.str, Enc.strs, Enc.slice, Enc.agg, Enc.tup, Enc.err, Enc.fn, ty9, h1]
  refine hK _ _ ?_ rfl; clear hK K
  refine Dwp.seq ?_
  refine Dwp.block ?_
  refine Dwp.step t149 rfl fun K hK => ?_
  by_cases hs : (ByteArray.mk #[39]) = s
  · subst hs
    simp [dcall, tabOf, setAt, init, arg1, arg2, arg3, EncR.one, EncR.and, Enc.bool, Enc.int, Enc.str, Enc.strs, Enc.slice, Enc.agg, Enc.tup, Enc.err, Enc.fn, ty9, h1]
    refine hK _ _ ?_ rfl; clear hK K
    refine Dwp.condT (by simp [eval, upd]) ?_
    refine Dwp.step t149 rfl fun K hK => ?_
    simp [dcall, tabOf, setAt]
    refine hK _ _ (Dwp.ret ?_) rfl
    simp [Done, dresults, dres, frz, frz1, frz2, init, arg1, arg2, arg3, EncR.one, EncR.and, Enc.bool, Enc.int, Enc.str, Enc.strs, Enc.slice, Enc.agg, Enc.tup, Enc.err, Enc.fn, Ex.then, Ex.inBlock, upd, mark, Enc.i64, Lib.indexByte]
  simp [dcall, tabOf, setAt, init, arg1, arg2, arg3, EncR.one, EncR.and, Enc.bool, Enc.int, Enc.str, Enc.strs, Enc.slice, Enc.agg, Enc.tup, Enc.err, Enc.fn, ty9, h1, hs]
  refine hK _ _ ?_ rfl; clear hK K
  refine Dwp.condF (by simp [eval, upd]) ?_
  refine Dwp.step t149 rfl fun K hK => ?_
  simp [dcall, tabOf, setAt, init, arg1, arg2, arg3, EncR.one, EncR.and, Enc.bool, Enc.int, Enc.str, Enc.strs, Enc.slice, Enc.agg, Enc.tup, Enc.err, Enc.fn, ty9, h1]
  refine hK _ _ ?_ rfl; clear hK K
  refine Dwp.condT (by simp [eval, upd]) ?_
  refine Dwp.step t149 rfl fun K hK => ?_
  simp [dcall, tabOf, setAt, init, arg1, arg2, arg3, EncR.one, EncR.and, Enc.bool, Enc.int, Enc.str, Enc.strs, Enc.slice, Enc.agg, Enc.tup, Enc.err, Enc.fn, ty9, h1, h2, s159, sp, Enc.i64]
  refine hK _ _ (Dwp.ret ?_) rfl
  simp [Done, dresults, dres, frz, frz1, frz2, init, arg1, arg2, arg3, EncR.one, EncR.and, Enc.bool, Enc.int, Enc.str, Enc.strs, Enc.slice, Enc.agg, Enc.tup, Enc.err, Enc.fn, Ex.then, Ex.inBlock, upd, mark, Enc.i64]
  rfl
theorem e149 : Go.FA.Good Tryz.prog (149, s149) := ⟨c149, Tryz.f149, _, Tryz.func149, rfl, by decide⟩

/-- strings.Cut at the mark -/
def cutMark (s : ByteArray) : ByteArray × ByteArray × Bool :=
  if 0 ≤ mark s then (s.extract 0 (mark s).toNat, s.extract ((mark s).toNat + 1) s.size, true) else (s, ⟨#[]⟩, false)
def Enc.cut : Enc (ByteArray × ByteArray × Bool) := Enc.tup (arg3 Enc.str Enc.str Enc.bool)
def s126 : Sp := sp (arg2 Enc.str Enc.str) Enc.cut (fun x => if x.2 = ⟨#[39]⟩ ∧ x.1.size ≤ lim then some (cutMark x.1) else none)
theorem t126 : TabOk Tryz.prog (tabOf [(149, s149)]) := .cons e149 .nil
theorem c126 : CallSound Tryz.prog 126 s126 := by
  refine CallSound.of_sp (T := tabOf [(149, s149)]) Tryz.func126 rfl (Nat.le_of_ble_eq_true rfl) fun E x y hy => ?_
  obtain ⟨s, m⟩ := x
  by_cases hm : m = ⟨#[39]⟩ ∧ s.size ≤ lim <;> simp [hm] at hy
  obtain ⟨hm, hs⟩ := hm
  unfold lim at hs
  subst hy; subst hm
  have h1 : (ByteArray.mk #[39]).size = 1 := rfl
  refine Dwp.step t126 rfl fun K hK => ?_
  simp [dcall, tabOf, setAt, init, arg1, arg2, arg3, EncR.one, EncR.and, Enc.bool, Enc.int, Enc.str, Enc.strs, Enc.slice, Enc.agg, Enc.tup, Enc.err, Enc.fn]
  refine hK _ _ ?_ rfl; clear hK K
  refine Dwp.seq ?_
  refine Dwp.step t126 rfl fun K hK => ?_
  simp [dcall, tabOf, setAt, init, arg1, arg2, arg3, EncR.one, EncR.and, Enc.bool, Enc.int, Enc.str, Enc.strs, Enc.slice, Enc.agg, Enc.tup, Enc.err, Enc.fn, s149, sp, Enc.i64]
  refine hK _ _ ?_ rfl; clear hK K
  refine Dwp.step t126 rfl fun K hK => ?_
  simp [dcall, tabOf, setAt]
  refine hK _ _ ?_ rfl; clear hK K
  rcases mark_cases s.data.toList with hk | ⟨i, hi, hk⟩
  · have hk' : mark s = -1 := hk
    refine Dwp.condF (by simp [eval, upd, hk']) (Dwp.skip ?_)
    refine Dwp.step t126 rfl fun K hK => ?_
    simp [dcall, tabOf, setAt, init, arg1, arg2, arg3, EncR.one, EncR.and, Enc.bool, Enc.int, Enc.str, Enc.strs, Enc.slice, Enc.agg, Enc.tup, Enc.err, Enc.fn]
    refine hK _ _ (Dwp.ret ?_) rfl
    simp [Done, dresults, dres, frz, frz1, frz2, init, arg1, arg2, arg3, EncR.one, EncR.and, Enc.bool, Enc.int, Enc.str, Enc.strs, Enc.slice, Enc.agg, Enc.tup, Enc.err, Enc.fn, Ex.then, upd, cutMark, hk', Enc.cut]
  · have hk' : mark s = i := hk
    have hi' : i < s.size := by simpa using hi
    refine Dwp.condT (by simp [eval, upd, hk']) ?_
    refine Dwp.drawStep [] mixed t126 rfl (by decide) fun K hK => ?_
    have hle : i ≤ s.size := by omega
    have hle' : (i : Int) + 1 ≤ s.size := by omega
    have hpos : (0 : Int) ≤ (i : Int) + 1 := by omega
    have htn : ((i : Int) + 1).toNat = i + 1 := by omega
    simp [drunT, touch, touchP, dcall, tabOf, setAt, init, arg1, arg2, arg3, EncR.one, EncR.and, Enc.bool, Enc.int, Enc.str, Enc.strs, Enc.slice, Enc.agg, Enc.tup, Enc.err, Enc.fn, hk', h1, ty9, hle, hle', hpos, htn, wrap_small (n := (i : Int) + 1) (by omega) (by omega)]
    refine hK _ _ (Dwp.ret ?_) rfl
    simp [Done, dresults, dres, frz, frz1, frz2, init, arg1, arg2, arg3, EncR.one, EncR.and, Enc.bool, Enc.int, Enc.str, Enc.strs, Enc.slice, Enc.agg, Enc.tup, Enc.err, Enc.fn, Ex.then, upd, cutMark, hk', Enc.cut]
theorem e126 : Go.FA.Good Tryz.prog (126, s126) := ⟨c126, Tryz.f126, _, Tryz.func126, rfl, by decide⟩
theorem t101 : TabOk Tryz.prog (tabOf [(126, s126)]) := .cons e126 .nil
theorem c101 : CallSound Tryz.prog 101 s126 := by
  refine CallSound.of_sp (T := tabOf [(126, s126)]) Tryz.func101 rfl (Nat.le_of_ble_eq_true rfl) fun E x y hy => ?_
  obtain ⟨s, m⟩ := x
  by_cases hm : m = ⟨#[39]⟩ ∧ s.size ≤ lim <;> simp [hm] at hy
  obtain ⟨hm, hs⟩ := hm
  subst hy; subst hm
  refine Dwp.step t101 rfl fun K hK => ?_
  simp [dcall, tabOf, setAt, init, arg1, arg2, arg3, EncR.one, EncR.and, Enc.bool, Enc.int, Enc.str, Enc.strs, Enc.slice, Enc.agg, Enc.tup, Enc.err, Enc.fn]
  refine hK _ _ ?_ rfl; clear hK K
  refine Dwp.step t101 rfl fun K hK => ?_
  simp [dcall, tabOf, setAt, init, arg1, arg2, arg3, EncR.one, EncR.and, Enc.bool, Enc.int, Enc.str, Enc.strs, Enc.slice, Enc.agg, Enc.tup, Enc.err, Enc.fn, s126, sp, Enc.cut, hs]
  refine hK _ _ (Dwp.ret ?_) rfl
  simp [Done, dresults, dres, frz, frz1, frz2, init, arg1, arg2, arg3, EncR.one, EncR.and, Enc.bool, Enc.int, Enc.str, Enc.strs, Enc.slice, Enc.agg, Enc.tup, Enc.err, Enc.fn, Ex.then, upd, Enc.cut]
theorem e101 : Go.FA.Good Tryz.prog (101, s126) := ⟨c101, Tryz.f101, _, Tryz.func101, rfl, by decide⟩
end Go.Proofs.Yt
namespace Go.Proofs.Yt
open Go Go.FA Go.Proofs
set_option linter.unusedVariables false
set_option linter.unusedSimpArgs false
set_option maxRecDepth 100000

def digit (d : ByteArray) : Bool := match d.data.toList with | [c] => decide (49 ≤ (c.toNat : Int)) && decide ((c.toNat : Int) ≤ 56) | _ => false
def okOp (s : ByteArray) : Bool := isName (cutMark s).1 && (!(cutMark s).2.2 || digit (cutMark s).2.1)
theorem size_one {d : ByteArray} (h : d.size = 1) : ∃ c, d = ⟨#[c]⟩ := by
  obtain ⟨⟨l⟩⟩ := d
  match l, h with
  | [c], _ => exact ⟨c, rfl⟩
theorem digit_ne {d : ByteArray} (h : d.size ≠ 1) : digit d = false := by
  obtain ⟨⟨l⟩⟩ := d
  match l, h with
  | [], _ => rfl
  | [c], h => exact absurd rfl h
  | _ :: _ :: _, _ => rfl
theorem callCut (T : Tab) (hT : T 101 = some s126) (s : ByteArray) (hs : s.size ≤ lim) : dcall T 101 [.lit (.string s), .lit (.string ⟨#[39]⟩)] = some (.tuple [.lit (.string (cutMark s).1), .lit (.string (cutMark s).2.1), .lit (.bool (cutMark s).2.2)]) := by
  simp [dcall, hT, s126, sp, arg2, arg3, EncR.and, EncR.one, Enc.str, Enc.bool, hs, Enc.cut, Enc.tup]
def s132 : Sp := sp (arg1 Enc.str) Enc.bool (fun s => if s.size ≤ lim then some (okOp s) else none)
theorem t132 : TabOk Tryz.prog (tabOf [(101, s126), (38, s38)]) := .cons e101 (.cons e38 .nil)
attribute [local simp] drunL drunO dwanted dopS own plainOf dop dput eval ofVal Then Ex.then Ex.inBlock upd dbin Tag.isNN nilTest intCmp dload dpart TyI.agg dfieldAddr dfield dindexAddr dindex dlen lenOk dlookup mapOf keyFits dmapUpdate dcallee dbuiltin dstore DV.cells dslice dboundOk dappend appTag rowsOf elemOk growLimit dbuildCells dbuildCells.go structOk fieldsOk dbuildRows goInt
theorem c132 : CallSound Tryz.prog 132 s132 := by
  refine CallSound.of_sp (T := tabOf [(101, s126), (38, s38)]) Tryz.func132 rfl (Nat.le_of_ble_eq_true rfl) fun E s y hy => ?_
  by_cases hlim : s.size ≤ lim <;> simp [hlim] at hy
  subst hy
  refine Dwp.step t132 rfl fun K hK => ?_
  simp [dcall, tabOf, setAt, init, arg1, arg2, arg3, EncR.one, EncR.and, Enc.bool, Enc.int, Enc.str, Enc.strs, Enc.slice, Enc.agg, Enc.tup, Enc.err, Enc.fn]
  refine hK _ _ ?_ rfl; clear hK K
  have g1 := callCut (tabOf [(101, s126), (38, s38)]) rfl s hlim
  have g2 := call38 (tabOf [(101, s126), (38, s38)]) rfl (cutMark s).1
  generalize hcut : cutMark s = q at g1 g2
  obtain ⟨n, d, f⟩ := q
  refine Dwp.step t132 rfl fun K hK => ?_
  simp only [dcall, tabOf] at g1 g2
  simp at g1 g2
  simp [dcall, tabOf, setAt, init, arg1, arg2, arg3, EncR.one, EncR.and, Enc.bool, Enc.int, Enc.str, Enc.strs, Enc.slice, Enc.agg, Enc.tup, Enc.err, Enc.fn, g1]
  refine hK _ _ ?_ rfl; clear hK K
  refine Dwp.step t132 rfl fun K hK => ?_
  have hok : okOp s = (isName n && (!f || digit d)) := by simp [okOp, hcut]
  cases h1 : isName n with
  | false =>
    simp [dcall, tabOf, setAt, g2, h1]
    refine hK _ _ (Dwp.ret ?_) rfl
    simp [Done, dresults, dres, frz, frz1, frz2, init, arg1, arg2, arg3, EncR.one, EncR.and, Enc.bool, Enc.int, Enc.str, Enc.strs, Enc.slice, Enc.agg, Enc.tup, Enc.err, Enc.fn, Ex.then, upd, hok, h1]
  | true =>
    cases f with
    | false =>
      simp [dcall, tabOf, setAt, g2, h1]
      refine hK _ _ (Dwp.ret ?_) rfl
      simp [Done, dresults, dres, frz, frz1, frz2, init, arg1, arg2, arg3, EncR.one, EncR.and, Enc.bool, Enc.int, Enc.str, Enc.strs, Enc.slice, Enc.agg, Enc.tup, Enc.err, Enc.fn, Ex.then, upd, hok, h1]
    | true =>
      by_cases hd : d.size = 1
      · obtain ⟨c, rfl⟩ := size_one hd
        have e1 : (ByteArray.mk #[c]).size = 1 := rfl
        have e2 : (ByteArray.mk #[c])[0]? = some c := rfl
        have e3 : (ByteArray.mk #[c])[0]'(by rw [e1]; omega) = c := rfl
        have hdg : digit ⟨#[c]⟩ = (decide (49 ≤ (c.toNat : Int)) && decide ((c.toNat : Int) ≤ 56)) := rfl
        by_cases h49 : 49 ≤ (c.toNat : Int)
        · simp [dcall, tabOf, setAt, g2, h1, ty9, e1, e2, e3, h49]
          refine hK _ _ (Dwp.ret ?_) rfl
          simp [Done, dresults, dres, frz, frz1, frz2, init, arg1, arg2, arg3, EncR.one, EncR.and, Enc.bool, Enc.int, Enc.str, Enc.strs, Enc.slice, Enc.agg, Enc.tup, Enc.err, Enc.fn, Ex.then, upd, hok, h1, hdg, h49]
        · simp [dcall, tabOf, setAt, g2, h1, ty9, e1, e2, e3, h49]
          refine hK _ _ (Dwp.ret ?_) rfl
          simp [Done, dresults, dres, frz, frz1, frz2, init, arg1, arg2, arg3, EncR.one, EncR.and, Enc.bool, Enc.int, Enc.str, Enc.strs, Enc.slice, Enc.agg, Enc.tup, Enc.err, Enc.fn, Ex.then, upd, hok, h1, hdg, h49]
      · have hd' : ((d.size : Int) == 1) = false := by simp; omega
        simp [dcall, tabOf, setAt, g2, h1, ty9, hd']
        refine hK _ _ (Dwp.ret ?_) rfl
        simp [Done, dresults, dres, frz, frz1, frz2, init, arg1, arg2, arg3, EncR.one, EncR.and, Enc.bool, Enc.int, Enc.str, Enc.strs, Enc.slice, Enc.agg, Enc.tup, Enc.err, Enc.fn, Ex.then, upd, hok, h1, digit_ne hd]
theorem e132 : Go.FA.Good Tryz.prog (132, s132) := ⟨c132, Tryz.f132, _, Tryz.func132, rfl, by decide⟩

@[simp] theorem opd0 (o : OpD) : (EncR.opd.enc o)[0]? = some (.lit (.string o.name)) := rfl
@[simp] theorem opd1 (o : OpD) : (EncR.opd.enc o)[1]? = some (Enc.strs.enc o.args) := rfl
@[simp] theorem opd2 (o : OpD) : (EncR.opd.enc o)[2]? = some (.lit (.string o.sort)) := rfl
@[simp] theorem opd3 (o : OpD) : (EncR.opd.enc o)[3]? = some (Enc.pies.enc o.pieces) := rfl
@[simp] theorem opd4 (o : OpD) : (EncR.opd.enc o)[4]? = some (.lit (.int .i64 o.prec)) := rfl
@[simp] theorem opd5 (o : OpD) : (EncR.opd.enc o)[5]? = some (.lit (.int .i64 o.assoc)) := rfl
@[simp] theorem opd6 (o : OpD) : (EncR.opd.enc o)[6]? = some (Enc.ints.enc o.strict) := rfl
@[simp] theorem opdLen (o : OpD) : (EncR.opd.enc o).length = 7 := rfl
@[simp] theorem opdTake (o : OpD) : (EncR.opd.enc o).take 7 = EncR.opd.enc o := rfl
@[simp] theorem bookLen (b : Book) : (EncR.book.enc b).length = 3 := rfl
@[simp] theorem bookTake (b : Book) : (EncR.book.enc b).take 3 = EncR.book.enc b := rfl

theorem call132 (T : Tab) (hT : T 132 = some s132) (s : ByteArray) (hs : s.size ≤ lim) : dcall T 132 [.lit (.string s)] = some (.lit (.bool (okOp s))) := by
  simp [dcall, hT, s132, sp, arg1, EncR.one, Enc.str, Enc.bool, hs]
theorem call36 (T : Tab) (hT : T 36 = some s36) (s : ByteArray) : dcall T 36 [.lit (.string s)] = some (.lit (.bool (builtIn s))) := by
  simp [dcall, hT, s36, sp, arg1, EncR.one, Enc.str, Enc.bool]
theorem call99 (T : Tab) (hT : T 99 = some s99) (b : Book) (s : ByteArray) : dcall T 99 [.agg (EncR.book.enc b), .lit (.string s)] = some (.lit (.bool (b.decl s))) := by
  simp [dcall, hT, s99, sp, arg2, EncR.and, EncR.one, Enc.book, Enc.agg, EncR.book.de, Enc.str, Enc.bool]
def okArgs (b : Book) (o : OpD) : Bool := decide (o.args.length ≤ 8) && o.args.all b.has
theorem call133 (T : Tab) (hT : T 133 = some s133) (b : Book) (o : OpD) : dcall T 133 [.agg (EncR.book.enc b), .agg (EncR.opd.enc o)] = some (.lit (.bool (okArgs b o))) := by
  simp [dcall, hT, s133, sp, arg2, EncR.and, EncR.one, Enc.book, Enc.opd, Enc.agg, EncR.book.de, EncR.opd.de, Enc.bool, okArgs]
theorem call134 (T : Tab) (hT : T 134 = some s134) (o : OpD) (h : o.args.length ≤ lim) : dcall T 134 [.agg (EncR.opd.enc o)] = some (.lit (.bool (okPieces o))) := by
  simp [dcall, hT, s134, sp, arg1, EncR.one, Enc.opd, Enc.agg, EncR.opd.de, Enc.bool, h]
theorem call135 (T : Tab) (hT : T 135 = some s135) (o : OpD) : dcall T 135 [.agg (EncR.opd.enc o)] = some (.lit (.bool (okBinding o))) := by
  simp [dcall, hT, s135, sp, arg1, EncR.one, Enc.opd, Enc.agg, EncR.opd.de, Enc.bool]
def okStrict (o : OpD) : Bool := o.strict.all (fun n => decide (1 ≤ n) && decide (n ≤ o.args.length)) && decide o.strict.Nodup
theorem call136 (T : Tab) (hT : T 136 = some s136) (o : OpD) (h : o.args.length ≤ lim) (h' : o.strict.length ≤ lim) : dcall T 136 [.agg (EncR.opd.enc o)] = some (.lit (.bool (okStrict o))) := by
  simp [dcall, hT, s136, sp, arg1, EncR.one, Enc.opd, Enc.agg, EncR.opd.de, Enc.bool, h, h', okStrict]

/-- a declaration that is not too large to be looked at -/
def OpD.small (o : OpD) : Prop := o.name.size ≤ lim ∧ o.args.length ≤ lim ∧ o.pieces.length ≤ lim ∧ o.strict.length ≤ lim
instance (o : OpD) : Decidable o.small := by unfold OpD.small; infer_instance
def badOp (b : Book) (o : OpD) : Bool := !okOp o.name || builtIn o.name || !okArgs b o || !b.decl o.sort || !okPieces o || !okBinding o || !okStrict o
def s116 : Sp := sp (arg2 Enc.book Enc.opd) Enc.bool (fun x => if x.2.small then some (badOp x.1 x.2) else none)
abbrev T116 : Tab := tabOf [(132, s132), (36, s36), (133, s133), (99, s99), (134, s134), (135, s135), (136, s136)]
theorem t116 : TabOk Tryz.prog T116 := .cons e132 (.cons e36 (.cons e133 (.cons e99 (.cons e134 (.cons e135 (.cons e136 .nil))))))
theorem c116 : CallSound Tryz.prog 116 s116 := by
  refine CallSound.of_sp (T := T116) Tryz.func116 rfl (Nat.le_of_ble_eq_true rfl) fun E x y hy => ?_
  obtain ⟨b, o⟩ := x
  by_cases hs : o.small <;> simp [hs] at hy
  subst hy
  obtain ⟨hn, ha, hp, hst⟩ := hs
  have g1 := call132 T116 rfl o.name hn
  have g2 := call36 T116 rfl o.name
  have g3 := call133 T116 rfl b o
  have g4 := call99 T116 rfl b o.sort
  have g5 := call134 T116 rfl o ha
  have g6 := call135 T116 rfl o
  have g7 := call136 T116 rfl o ha hst
  refine Dwp.step t116 rfl fun K hK => ?_
  simp [dcall, tabOf, setAt, init, arg1, arg2, arg3, EncR.one, EncR.and, Enc.bool, Enc.int, Enc.str, Enc.strs, Enc.slice, Enc.agg, Enc.tup, Enc.err, Enc.fn, Enc.opd, Enc.book]
  refine hK _ _ ?_ rfl; clear hK K
  refine Dwp.step t116 rfl fun K hK => ?_
  generalize hT : T116 = T at *
  cases k1 : okOp o.name with
  | false =>
    simp [drunL, dwanted, dopS, own, plainOf, dop, dput, eval, ofVal, Then, upd, dfieldAddr, dload, dpart, TyI.agg, ty38, ty58, ty9, dcallee, g1, k1]
    refine hK _ _ (Dwp.ret ?_) rfl
    simp [Done, dresults, dres, frz, frz1, frz2, init, arg1, arg2, arg3, EncR.one, EncR.and, Enc.bool, Enc.int, Enc.str, Enc.strs, Enc.slice, Enc.agg, Enc.tup, Enc.err, Enc.fn, Ex.then, upd, badOp, k1]
  | true =>
  cases k2 : builtIn o.name with
  | true =>
    simp [drunL, dwanted, dopS, own, plainOf, dop, dput, eval, ofVal, Then, upd, dfieldAddr, dload, dpart, TyI.agg, ty38, ty58, ty9, dcallee, g1, k1, g2, k2]
    refine hK _ _ (Dwp.ret ?_) rfl
    simp [Done, dresults, dres, frz, frz1, frz2, init, arg1, arg2, arg3, EncR.one, EncR.and, Enc.bool, Enc.int, Enc.str, Enc.strs, Enc.slice, Enc.agg, Enc.tup, Enc.err, Enc.fn, Ex.then, upd, badOp, k1, k2]
  | false =>
  cases k3 : okArgs b o with
  | false =>
    simp [drunL, dwanted, dopS, own, plainOf, dop, dput, eval, ofVal, Then, upd, dfieldAddr, dload, dpart, TyI.agg, ty38, ty58, ty9, dcallee, g1, k1, g2, k2, g3, k3]
    refine hK _ _ (Dwp.ret ?_) rfl
    simp [Done, dresults, dres, frz, frz1, frz2, init, arg1, arg2, arg3, EncR.one, EncR.and, Enc.bool, Enc.int, Enc.str, Enc.strs, Enc.slice, Enc.agg, Enc.tup, Enc.err, Enc.fn, Ex.then, upd, badOp, k1, k2, k3]
  | true =>
  cases k4 : b.decl o.sort with
  | false =>
    simp [drunL, dwanted, dopS, own, plainOf, dop, dput, eval, ofVal, Then, upd, dfieldAddr, dload, dpart, TyI.agg, ty38, ty58, ty9, dcallee, g1, k1, g2, k2, g3, k3, g4, k4]
    refine hK _ _ (Dwp.ret ?_) rfl
    simp [Done, dresults, dres, frz, frz1, frz2, init, arg1, arg2, arg3, EncR.one, EncR.and, Enc.bool, Enc.int, Enc.str, Enc.strs, Enc.slice, Enc.agg, Enc.tup, Enc.err, Enc.fn, Ex.then, upd, badOp, k1, k2, k3, k4]
  | true =>
  cases k5 : okPieces o with
  | false =>
    simp [drunL, dwanted, dopS, own, plainOf, dop, dput, eval, ofVal, Then, upd, dfieldAddr, dload, dpart, TyI.agg, ty38, ty58, ty9, dcallee, g1, k1, g2, k2, g3, k3, g4, k4, g5, k5]
    refine hK _ _ (Dwp.ret ?_) rfl
    simp [Done, dresults, dres, frz, frz1, frz2, init, arg1, arg2, arg3, EncR.one, EncR.and, Enc.bool, Enc.int, Enc.str, Enc.strs, Enc.slice, Enc.agg, Enc.tup, Enc.err, Enc.fn, Ex.then, upd, badOp, k1, k2, k3, k4, k5]
  | true =>
  cases k6 : okBinding o with
  | false =>
    simp [drunL, dwanted, dopS, own, plainOf, dop, dput, eval, ofVal, Then, upd, dfieldAddr, dload, dpart, TyI.agg, ty38, ty58, ty9, dcallee, g1, k1, g2, k2, g3, k3, g4, k4, g5, k5, g6, k6]
    refine hK _ _ (Dwp.ret ?_) rfl
    simp [Done, dresults, dres, frz, frz1, frz2, init, arg1, arg2, arg3, EncR.one, EncR.and, Enc.bool, Enc.int, Enc.str, Enc.strs, Enc.slice, Enc.agg, Enc.tup, Enc.err, Enc.fn, Ex.then, upd, badOp, k1, k2, k3, k4, k5, k6]
  | true =>
    simp [drunL, dwanted, dopS, own, plainOf, dop, dput, eval, ofVal, Then, upd, dfieldAddr, dload, dpart, TyI.agg, ty38, ty58, ty9, dcallee, g1, k1, g2, k2, g3, k3, g4, k4, g5, k5, g6, k6, g7]
    refine hK _ _ (Dwp.ret ?_) rfl
    simp [Done, dresults, dres, frz, frz1, frz2, init, arg1, arg2, arg3, EncR.one, EncR.and, Enc.bool, Enc.int, Enc.str, Enc.strs, Enc.slice, Enc.agg, Enc.tup, Enc.err, Enc.fn, Ex.then, upd, badOp, k1, k2, k3, k4, k5, k6]
theorem e116 : Go.FA.Good Tryz.prog (116, s116) := ⟨c116, Tryz.f116, _, Tryz.func116, rfl, by decide⟩
end Go.Proofs.Yt
namespace Go.Proofs.Yt
open Go Go.FA Go.Proofs
set_option linter.unusedVariables false
set_option linter.unusedSimpArgs false
set_option maxRecDepth 100000

def Enc.nil : Enc Unit where
  enc _ := .lit (.slice none 0 0)
  dec d := match d with | .lit (.slice none 0 0) => some () | _ => none
  le d x h := by split at h <;> simp_all [DLe.refl]
  pure _ := rfl
  de _ := rfl

/-- slices.Grow of the nil slice -/
def growSp {α : Type} (B : EncR α) : Sp := spOwn (arg2 Enc.nil (Enc.int .i64)) B (fun x => if 0 ≤ x.2 ∧ x.2 ≤ 1073741824 then some [] else none)
theorem grow_sound {α : Type} {P : Program} {ρ : Go.Shelf.Ren} (L : Lays8.n4 P ρ) (B : EncR α) {i : TypeInfo} {z : Value} (hi : P.info? (ρ.t 25) = some i) (hz : i.zero = some z) (hs : 0 < i.size) (hk : i.size = B.k)
    (hzs : z.cells.size = i.size) (hb : i.bytes ≤ 65536) : CallSound P (ρ.f 4) (growSp B) := by
  intro args r hr
  simp only [growSp, spOwn, Option.bind_eq_some_iff, Option.map_eq_some_iff] at hr
  obtain ⟨⟨u, n⟩, hx, l, hy, rfl⟩ := hr
  by_cases hn : 0 ≤ n ∧ n ≤ 1073741824 <;> simp [hn] at hy
  subst hy
  refine .inr ⟨_, _, rfl, rfl, fun C w cargs hpc hpm hl1 => ?_⟩
  have hl := LRel_le ((arg2 Enc.nil (Enc.int .i64)).le _ _ hx) hl1
  have hc : cargs = [.slice none 0 0, .int .i64 n] := by
    simp only [arg2, EncR.and, EncR.one, Enc.nil, Enc.int] at hl
    match cargs, hl with
    | [a, b], hl =>
      simp [LRel, VRel] at hl
      rw [hl.1, hl.2]
  subst hc
  obtain ⟨m, rfl⟩ : ∃ m : Nat, n = m := ⟨n.toNat, by omega⟩
  by_cases h0 : m = 0
  · subst h0
    refine (Any8.slices_Grow_room L none 0 0 0 w (Nat.le_refl _) (by omega) (by omega) (by omega)).mono ?_
    rintro e w' ⟨rfl, rfl⟩
    exact ⟨_, rfl, Go.RowKit.Below.refl _ _, ⟨0, 0, 0, 0⟩, rfl, fun q => by simp at q, by simp only [VRel]; exact .inr ⟨none, rfl, rfl, _, rfl, Nat.le_refl _⟩⟩
  · have hbb : (0 + m) * i.bytes ≤ 140737488355328 := by
      have : (0 + m) * i.bytes ≤ 1073741824 * 65536 := Nat.mul_le_mul (by omega) hb
      omega
    refine (Any8.slices_Grow_grow L i z hi hz hs none 0 0 m [] w (Nat.le_refl _) (by omega) hbb (by omega) (by simp) (fun _ => rfl) (by simp)).mono ?_
    rintro e w' ⟨rfl, rfl⟩
    have hG := grownCap_ge w (0 + m) 0 (ρ.t 25)
    generalize grownCap w (0 + m) 0 (ρ.t 25) = G at *
    have hsz : (([] : List Value).toArray ++ Builtin.zeroCells z.cells (0 + m - 0) ++ Builtin.zeroCells z.cells (G - (0 + m))).size = G * i.size := by
      simp only [Array.size_append, size_zeroCells, hzs, List.size_toArray, List.length_nil]
      have : G = m + (G - m) := by omega
      rw [show G * i.size = m * i.size + (G - m) * i.size by rw [← Nat.add_mul, ← this]]
      simp
    refine ⟨_, rfl, (Go.RowKit.Below.refl _ _).drew.alloc (Nat.le_refl _) _, ⟨0, w.heap.size, 0, G * i.size⟩, rfl, fun _ => ⟨Nat.le_refl _, _, ρ.t 25, ?_, Nat.le_of_eq hsz.symm⟩, ?_⟩
    · exact heap_alloc_new w.drew _
    · simp only [VRel]
      exact .inl ⟨w.heap.size, 0, G, rfl, Nat.zero_le _, by simp [RRel], ⟨_, rfl, Nat.le_refl _, fun _ => .inr ⟨rfl, by simp, by simp [hk]⟩⟩, Nat.le_refl _, _, _, heap_alloc_new w.drew _⟩

def renG (f s e : Nat) : Go.Shelf.Ren := ⟨fun n => if n = 4 then f else n, fun n => if n = 22 then s else if n = 25 then e else n, fun n => n⟩
theorem lays127 : Lays8.n4 Tryz.prog (renG 127 22 9) where
  mixed := mixed
  f4 := ⟨"slices.Grow[[]string,string]", by decide, by kernel_rfl⟩
  t0 := by kernel_rfl
  a0 := Tryz.isAgg0
  z0 := Tryz.sizeOf0
  v0 := Tryz.zeroValue0
  t3 := by kernel_rfl
  a3 := Tryz.isAgg3
  z3 := Tryz.sizeOf3
  v3 := Tryz.zeroValue3
  t4 := by kernel_rfl
  a4 := Tryz.isAgg4
  z4 := Tryz.sizeOf4
  v4 := Tryz.zeroValue4
  t9 := by kernel_rfl
  a9 := Tryz.isAgg9
  z9 := Tryz.sizeOf9
  v9 := Tryz.zeroValue9
  t20 := by kernel_rfl
  a20 := Tryz.isAgg20
  z20 := Tryz.sizeOf20
  v20 := Tryz.zeroValue20
  t22 := by kernel_rfl
  a22 := Tryz.isAgg22
  z22 := Tryz.sizeOf22
  v22 := Tryz.zeroValue22
theorem lays150 : Lays8.n4 Tryz.prog (renG 150 24 38) where
  mixed := mixed
  f4 := ⟨"slices.Grow[[]voussoir/api.Op,voussoir/api.Op]", by decide, by kernel_rfl⟩
  t0 := by kernel_rfl
  a0 := Tryz.isAgg0
  z0 := Tryz.sizeOf0
  v0 := Tryz.zeroValue0
  t3 := by kernel_rfl
  a3 := Tryz.isAgg3
  z3 := Tryz.sizeOf3
  v3 := Tryz.zeroValue3
  t4 := by kernel_rfl
  a4 := Tryz.isAgg4
  z4 := Tryz.sizeOf4
  v4 := Tryz.zeroValue4
  t9 := by kernel_rfl
  a9 := Tryz.isAgg9
  z9 := Tryz.sizeOf9
  v9 := Tryz.zeroValue9
  t20 := by kernel_rfl
  a20 := Tryz.isAgg20
  z20 := Tryz.sizeOf20
  v20 := Tryz.zeroValue20
  t22 := by kernel_rfl
  a22 := Tryz.isAgg24
  z22 := Tryz.sizeOf24
  v22 := Tryz.zeroValue24

def s127 : Sp := growSp (EncR.one Enc.str)
theorem c127 : CallSound Tryz.prog 127 s127 := grow_sound lays127 (EncR.one Enc.str) (i := Tryz.t9) (z := .string ⟨#[]⟩) (by kernel_rfl) (by kernel_rfl) (by decide) rfl (by decide) (by decide)
theorem e127 : Go.FA.Good Tryz.prog (127, s127) := ⟨c127, Tryz.f127, _, Tryz.func127, rfl, by decide⟩
def s150 : Sp := growSp EncR.opd
theorem c150 : CallSound Tryz.prog 150 s150 := grow_sound lays150 EncR.opd (i := Tryz.t38) (z := Tryz.t38.zero.get!) (by kernel_rfl) (by kernel_rfl) (by decide) rfl (by kernel_rfl) (by decide)
theorem e150 : Go.FA.Good Tryz.prog (150, s150) := ⟨c150, Tryz.f150, _, Tryz.func150, rfl, by decide⟩
end Go.Proofs.Yt
namespace Go.Proofs.Yt
open Go Go.FA Go.Proofs
set_option linter.unusedVariables false
set_option linter.unusedSimpArgs false
set_option maxRecDepth 100000

def s120o : Sp := spOwn (arg1 Enc.strs) (EncR.one Enc.str) (fun l => if l.length ≤ 1048576 then some l else none)
attribute [local simp] drunL drunO dwanted dopS own plainOf dop dput eval ofVal Then Ex.then Ex.inBlock upd dbin Tag.isNN nilTest intCmp dload dpart TyI.agg dfieldAddr dfield dindexAddr dindex dlen lenOk dlookup mapOf keyFits dmapUpdate dcallee dbuiltin dstore DV.cells dslice dboundOk dappend appTag rowsOf elemOk growLimit dbuildCells dbuildCells.go structOk fieldsOk dbuildRows goInt
theorem c120o : CallSound Tryz.prog 120 s120o := by
  refine CallSound.of_own (T := tabOf []) Tryz.func120 rfl (Nat.le_of_ble_eq_true rfl) fun E l y hy => ?_
  by_cases hlim : l.length ≤ 1048576 <;> simp [hlim] at hy
  subst hy
  have hd := strs_dec l
  simp only [EncR.one, Enc.str] at hd
  have go : ∀ (a : Nat → DV) (tag : Tag), tag = .none ∧ l ≠ [] ∨ tag = .nn → a 0 = .slice 1 tag (l.map fun s => [DV.lit (.string s)]) → ∀ c, Tryz.f120.body = some c → Dwp Tryz.prog (tabOf []) E Tryz.f120.ntmps c (DoneOwn Tryz.prog Tryz.f120.results (EncR.one Enc.str) l) a σ0 := by
    intro a tag htag h0 c hc
    cases hc
    refine Dwp.step tab0 rfl fun K hK => ?_
    simp [dcall, tabOf, setAt]
    refine hK _ _ ?_ rfl; clear hK K
    refine Dwp.seq ?_
    refine Dwp.step tab0 rfl fun K hK => ?_
    have hnn : tag.isNN = true ∨ ¬l = [] := by
      rcases htag with ⟨rfl, hne⟩ | rfl
      · exact .inr hne
      · exact .inl rfl
    simp [dcall, tabOf, setAt, h0, ty22]
    simp only [Tag.isNN] at hnn
    rw [if_pos hnn]
    simp [dcall, tabOf, setAt]
    refine hK _ _ ?_ rfl; clear hK K
    refine Dwp.condF (by simp [eval, upd]) (Dwp.skip ?_)
    refine Dwp.step tab0 rfl fun K hK => ?_
    have hle : l.length ≤ 16777216 := by omega
    simp [dcall, tabOf, setAt, h0, ty22, ty9, hle]
    refine hK _ _ (Dwp.ret ?_) rfl
    exact ⟨.inr rfl, _, rfl, .inr ⟨_, _, _, rfl, by simp [upd], by rw [decRows0_eq]; exact strs_dec l⟩⟩
  cases l with
  | nil =>
    refine Dwp.nilCase 0 1 (by simp [init, arg1, arg2, arg3, EncR.one, EncR.and, Enc.bool, Enc.int, Enc.str, Enc.strs, Enc.slice, Enc.agg, Enc.tup, Enc.err, Enc.fn]) ?_ (go _ .nn (.inr rfl) (by simp [upd]) _ rfl)
    refine Dwp.step tab0 rfl fun K hK => ?_
    simp [dcall, tabOf, setAt]
    refine hK _ _ ?_ rfl; clear hK K
    refine Dwp.seq ?_
    refine Dwp.step tab0 rfl fun K hK => ?_
    simp [dcall, tabOf, setAt, ty22]
    refine hK _ _ ?_ rfl; clear hK K
    refine Dwp.condT (by simp [eval, upd]) ?_
    refine Dwp.step tab0 rfl fun K hK => ?_
    simp [dcall, tabOf, setAt]
    refine hK _ _ (Dwp.ret ?_) rfl
    exact ⟨.inr rfl, _, rfl, .inl ⟨rfl, rfl⟩⟩
  | cons x r => exact go _ .none (.inl ⟨rfl, by simp⟩) (by simp [init, arg1, arg2, arg3, EncR.one, EncR.and, Enc.bool, Enc.int, Enc.str, Enc.strs, Enc.slice, Enc.agg, Enc.tup, Enc.err, Enc.fn]) _ rfl
theorem e120o : Go.FA.Good Tryz.prog (120, s120o) := ⟨c120o, Tryz.f120, _, Tryz.func120, rfl, by decide⟩

end Go.Proofs.Yt
namespace Go.Proofs.Yt
open Go Go.FA Go.Proofs
set_option linter.unusedVariables false
set_option linter.unusedSimpArgs false
set_option maxRecDepth 100000

theorem call127 (T : Tab) (hT : T 127 = some s127) (n : Int) (h0 : 0 ≤ n) (h1 : n ≤ 1073741824) : dcall T 127 [.lit (.slice none 0 0), .lit (.int .i64 n)] = some (.slice 1 (.tok 0 0) []) := by
  simp [dcall, hT, s127, growSp, spOwn, arg2, EncR.and, EncR.one, Enc.nil, Enc.int, h0, h1]
theorem call150 (T : Tab) (hT : T 150 = some s150) (n : Int) (h0 : 0 ≤ n) (h1 : n ≤ 1073741824) : dcall T 150 [.lit (.slice none 0 0), .lit (.int .i64 n)] = some (.slice 7 (.tok 0 0) []) := by
  simp [dcall, hT, s150, growSp, spOwn, arg2, EncR.and, EncR.one, Enc.nil, Enc.int, h0, h1]
/-- lists one behind another -/
def cat {α : Type} (l : List (List α)) : List α := List.flatten l
theorem cat_take {α : Type} {l : List (List α)} {i : Nat} (h : i < l.length) : cat (l.take (i + 1)) = cat (l.take i) ++ l[i] := by
  unfold cat; rw [List.take_succ_eq_append_getElem h, List.flatten_append]; simp
theorem cat_le {α : Type} {l : List (List α)} {i : Nat} : (cat (l.take i)).length ≤ (cat l).length := by
  have h : List.flatten l = List.flatten (l.take i) ++ List.flatten (l.drop i) := by rw [← List.flatten_append, List.take_append_drop]
  unfold cat; rw [h, List.length_append]; omega
@[simp] theorem cat_nil {α : Type} : cat ([] : List (List α)) = [] := rfl

def Enc.lists {α : Type} (B : Enc α) : Enc (List α) := Enc.slice (EncR.one B)
def s109 : Sp := sp (arg1 (Enc.lists Enc.strs)) Enc.strs (fun l => if l.length ≤ 1048576 ∧ (cat l).length ≤ 1048576 then some (cat l) else none)
def inv109a (l : List (List ByteArray)) : Nat → (Nat → DV) → St → Prop := fun k a σ => ∃ i, i ≤ l.length ∧ k = l.length - i ∧ a 0 = .slice 1 .none (l.map fun s => [Enc.strs.enc s]) ∧ a 3 = .lit (.int .i64 (cat (l.take i)).length) ∧
  a 9 = .slice 1 .none (l.map fun s => [Enc.strs.enc s]) ∧ a 10 = .lit (.int .i64 l.length) ∧ a 11 = .lit (.int .i64 i)
def inv109b (l : List (List ByteArray)) : Nat → (Nat → DV) → St → Prop := fun k a σ => ∃ (i tk g : Nat), i ≤ l.length ∧ k = l.length - i ∧
  a 6 = .slice 1 (.tok tk g) ((cat (l.take i)).map fun s => [DV.lit (.string s)]) ∧ σ.toks tk = some g ∧
  a 25 = .slice 1 .none (l.map fun s => [Enc.strs.enc s]) ∧ a 26 = .lit (.int .i64 l.length) ∧ a 27 = .lit (.int .i64 i)
theorem t109 : TabOk Tryz.prog (tabOf [(127, s127)]) := .cons e127 .nil
attribute [local simp] drunL drunO dwanted dopS own plainOf dop dput eval ofVal Then Ex.then Ex.inBlock upd dbin Tag.isNN nilTest intCmp dload dpart TyI.agg dfieldAddr dfield dindexAddr dindex dlen lenOk dlookup mapOf keyFits dmapUpdate dcallee dbuiltin dstore DV.cells dslice dboundOk dappend appTag rowsOf elemOk growLimit dbuildCells dbuildCells.go structOk fieldsOk dbuildRows goInt
theorem c109 : CallSound Tryz.prog 109 s109 := by
  refine CallSound.of_sp (T := tabOf [(127, s127)]) Tryz.func109 rfl (Nat.le_of_ble_eq_true rfl) fun E l y hy => ?_
  by_cases hlim : l.length ≤ 1048576 ∧ (cat l).length ≤ 1048576 <;> simp only [hlim, and_self, if_true, if_false, reduceCtorEq, Option.some.injEq] at hy
  subst hy
  obtain ⟨hl1, hl2⟩ := hlim
  refine Dwp.step t109 rfl fun K hK => ?_
  simp [dcall, tabOf, setAt]
  refine hK _ _ ?_ rfl; clear hK K
  refine Dwp.step t109 rfl fun K hK => ?_
  simp [dcall, tabOf, setAt]
  refine hK _ _ ?_ rfl; clear hK K
  refine Dwp.seq ?_
  refine Dwp.step t109 rfl fun K hK => ?_
  simp [dcall, tabOf, setAt, init, arg1, EncR.one, Enc.lists, Enc.slice, ty119]
  refine hK _ _ ?_ rfl; clear hK K
  refine Dwp.block (Dwp.loop (inv109a l) l.length ⟨0, by simp, by simp, by simp [upd, init, Enc.strs, Enc.slice, EncR.one], by simp [upd], by simp [upd, init, Enc.strs, Enc.slice, EncR.one], by simp [upd], by simp [upd]⟩ ?_)
  rintro k a σ ⟨i, hi, rfl, h0, h3, h9, h10, h11⟩
  refine Dwp.step t109 rfl fun K hK => ?_
  simp [dcall, tabOf, setAt, h10, h11]
  refine hK _ _ ?_ rfl; clear hK K
  by_cases hlt : i < l.length
  · refine Dwp.seq (Dwp.condT (by simp [eval, upd, hlt]) (Dwp.skip ?_))
    refine Dwp.seq (Dwp.block ?_)
    refine Dwp.step t109 rfl fun K hK => ?_
    simp [dcall, tabOf, setAt, h9, h11, ty119, ty22, hlt]
    refine hK _ _ ?_ rfl; clear hK K
    refine Dwp.step t109 rfl fun K hK => ?_
    have hft := cat_take hlt
    have hfl := cat_le (l := l) (i := i + 1)
    have hsum : (cat (l.take (i + 1))).length = (cat (l.take i)).length + l[i].length := by rw [hft]; simp
    have hw : IntKind.wrap .i64 (((cat (l.take i)).length : Int) + l[i].length) = ((cat (l.take (i + 1))).length : Int) := by rw [wrap_small (n := ((cat (l.take i)).length : Int) + l[i].length) (by omega) (by omega)]; omega
    simp [dcall, tabOf, setAt, h3, ty22, Enc.strs, Enc.slice, EncR.one, hw]
    refine hK _ _ ?_ rfl; clear hK K
    refine Dwp.step t109 rfl fun K hK => ?_
    have hnn : ¬ (((cat (l.take (i + 1))).length : Int) < 0) := by omega
    simp [dcall, tabOf, setAt, hnn]
    refine hK _ _ ?_ rfl; clear hK K
    refine Dwp.condF (by simp [eval, upd]) (Dwp.skip ?_)
    refine Dwp.reg t109 rfl fun K hK => ?_
    simp [dcall, tabOf, setAt, h11]
    refine hK _ _ ?_ rfl; clear hK K
    refine ⟨l.length - (i + 1), by omega, i + 1, by omega, rfl, by simp [upd, h0], by simp [upd], by simp [upd, h9], by simp [upd, h10], by simp [upd, wrap_small (n := (i : Int) + 1) (by omega) (by omega)]⟩
  · refine Dwp.seq (Dwp.condF (by simp [eval, upd, hlt]) (Dwp.exit ?_))
    rw [List.take_of_length_le (by omega)] at h3
    refine Dwp.step t109 rfl fun K hK => ?_
    have g := call127 (tabOf [(127, s127)]) rfl ((cat l).length : Int) (by omega) (by omega)
    simp [dcall, tabOf] at g
    simp [dcall, tabOf, setAt, h3, g]
    refine hK _ _ ?_ rfl; clear hK K
    refine Dwp.seq ?_
    refine Dwp.step t109 rfl fun K hK => ?_
    simp [dcall, tabOf, setAt, h0, ty119]
    refine hK _ _ ?_ rfl; clear hK K
    refine Dwp.block (Dwp.loop (inv109b l) l.length ⟨0, _, 0, by simp, by simp, by simp [upd]; rfl, by simp [upd], by simp [upd, h0], by simp [upd], by simp [upd]⟩ ?_)
    rintro k a σ ⟨i, tk, g, hi, rfl, h6, htk, h25, h26, h27⟩
    refine Dwp.step t109 rfl fun K hK => ?_
    simp [dcall, tabOf, setAt, h26, h27]
    refine hK _ _ ?_ rfl; clear hK K
    by_cases hlt : i < l.length
    · refine Dwp.seq (Dwp.condT (by simp [eval, upd, hlt]) (Dwp.skip ?_))
      refine Dwp.seq (Dwp.block ?_)
      refine Dwp.step t109 rfl fun K hK => ?_
      simp [dcall, tabOf, setAt, h25, h27, ty119, ty22, hlt]
      refine hK _ _ ?_ rfl; clear hK K
      refine Dwp.reg t109 rfl fun K hK => ?_
      have hft := cat_take hlt
      have hfl := cat_le (l := l) (i := i + 1)
      have hsum : (cat (l.take i)).length + l[i].length ≤ 16777216 := by rw [hft] at hfl; simp only [List.length_append] at hfl; omega
      simp [dcall, tabOf, setAt, h6, htk, ty22, ty9, Enc.strs, Enc.slice, EncR.one, Enc.str, hsum]
      refine hK _ _ ?_ rfl; clear hK K
      refine Dwp.reg t109 rfl fun K hK => ?_
      simp [dcall, tabOf, setAt, h27]
      refine hK _ _ ?_ rfl; clear hK K
      refine ⟨l.length - (i + 1), by omega, i + 1, _, _, by omega, rfl, by rw [hft]; simp [upd]; exact ⟨rfl, rfl⟩, by simp [upd], by simp [upd, h25], by simp [upd, h26], by simp [upd, wrap_small (n := (i : Int) + 1) (by omega) (by omega)]⟩
    · refine Dwp.seq (Dwp.condF (by simp [eval, upd, hlt]) (Dwp.exit ?_))
      rw [List.take_of_length_le (by omega)] at h6
      refine Dwp.step t109 rfl fun K hK => ?_
      simp [dcall, tabOf, setAt, h6]
      refine hK _ _ (Dwp.ret ?_) rfl
      have hd := strs_dec (cat l)
      simp [Done, dresults, dres, frz, frz1, frz2, upd, Enc.strs, Enc.slice, EncR.one, Enc.str] at hd ⊢
      exact hd
theorem e109 : Go.FA.Good Tryz.prog (109, s109) := ⟨c109, Tryz.f109, _, Tryz.func109, rfl, by decide⟩
end Go.Proofs.Yt
