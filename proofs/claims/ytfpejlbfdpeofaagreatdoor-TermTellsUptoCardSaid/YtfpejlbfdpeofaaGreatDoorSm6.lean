/- Contracts of functions of the program, by a machine over abstract values; part 7. No condition beyond those of each theorem. -/
import Derived.Test.YtfpejlbfdpeofaaGreatDoorSm5
import Derived.Shelf.Strings.Search1
set_option linter.unusedVariables false
set_option linter.unusedSimpArgs false
namespace Go.FA
open Go.RowKit
variable {P : Program} {T : Tab} {E : Entry} {F : Nat → Prop} {C : Ctx} {w : World} {n : Nat} {a : Nat → DV}
section
variable {S : Type} {dn : Nat → (Nat → DV) → S → Option (DV × S)} {ls : Nat → Nat → Bool} {σ : S}
def Qbg (dn : Nat → (Nat → DV) → S → Option (DV × S)) (ops : Array Oper) : List Nat → (Nat → DV) → S → Option ((Nat → DV) × S)
  | [], a, σ => some (a, σ)
  | i :: rest, a, σ => match dn i a σ with
    | some (d, σ') => Qbg dn ops rest (QN a (Qaa ops i) d) σ'
    | none => none
def Qk1 (dn : Nat → (Nat → DV) → S → Option (DV × S)) (ops : Array Oper) (ls : Nat → Nat → Bool) : Prop :=
  ∀ (j i : Nat) (rest : List Nat) (a : Nat → DV) (σ : S) (r : (Nat → DV) × S), ls j i = true → Qbg dn ops (j :: i :: rest) a σ = some r → Qbg dn ops (i :: j :: rest) a σ = some r
def Reach (ops : Array Oper) (i j : Nat) : Prop := ∀ L : Nat → Prop, (∀ m, L m → ∀ e ∈ direct ops m, L e) → (∀ x ∈ direct ops i, L x) → L j
def Qls (n : Nat) (k : Nat → Bool) : Bool := match n with
  | 0 => k 0
  | m + 1 => k (m + 1)
theorem forceN_eq (n : Nat) (k : Nat → Bool) : Qls n k = k n := by cases n <;> rfl
def QfE (tbl : List Nat) (i : Nat) : List Nat → Nat
  | [] => 0
  | e :: es => Nat.lor (Nat.lor (2 ^ e) (tbl.getD (i - 1 - e) 0)) (QfE tbl i es)
def Qd2 (ops : Array Oper) (ls : Nat → Nat → Bool) : Nat → Nat → List Nat → Bool
  | 0, _, _ => true
  | f + 1, i, tbl => (direct ops i).all (fun e => Nat.blt e i) && Qls (QfE tbl i (direct ops i)) fun a =>
      (Nat.beq (Nat.land a (2 ^ i - 1)) (2 ^ i - 1) || (List.range i).all fun j => Nat.testBit a j || ls j i) && Qd2 ops ls f (i + 1) (a :: tbl)
def QcS (ops : Array Oper) (ls : Nat → Nat → Bool) : Bool := Qd2 ops ls ops.size 0 []
theorem QeD {ops : Array Oper} {i0 : Nat} {tbl : List Nat} {i : Nat} (ht : ∀ e, e < i → ∀ j, Nat.testBit (tbl.getD (i - 1 - e) 0) j = true → Reach ops e j) : ∀ (ds : List Nat), (∀ e ∈ ds, e < i) → (∀ e ∈ ds, e ∈ direct ops i0) → ∀ j, Nat.testBit (QfE tbl i ds) j = true → Reach ops i0 j
  | [], _, _, j, h => by simp [QfE] at h
  | e :: es, hlt, hd, j, h => by
    have h' : Nat.testBit (2 ^ e ||| tbl.getD (i - 1 - e) 0 ||| QfE tbl i es) j = true := h
    rw [Nat.testBit_or, Nat.testBit_or, Nat.testBit_two_pow] at h'
    simp only [Bool.or_eq_true, decide_eq_true_eq] at h'
    rcases h' with (h' | h') | h'
    · subst h'; exact fun L _ h2 => h2 e (hd e (by simp))
    · intro L h1 h2
      exact ht e (hlt e (by simp)) j h' L h1 (h1 e (h2 e (hd e (by simp))))
    · exact QeD ht es (fun x hx => hlt x (by simp [hx])) (fun x hx => hd x (by simp [hx])) j h'
theorem Qdh {ops : Array Oper} : ∀ (f i : Nat) (tbl : List Nat), (∀ e, e < i → ∀ j, Nat.testBit (tbl.getD (i - 1 - e) 0) j = true → Reach ops e j) → Qd2 ops ls f i tbl = true → ∀ k, i ≤ k → k < i + f →
    (∀ e ∈ direct ops k, e < k) ∧ ∀ j, j < k → Reach ops k j ∨ ls j k = true
  | 0, i, tbl, _, _, k, h1, h2 => by omega
  | f + 1, i, tbl, ht, h, k, h1, h2 => by
    simp only [Qd2, Bool.and_eq_true, forceN_eq] at h
    obtain ⟨hd, ha, hr⟩ := h
    have hd' : ∀ e ∈ direct ops i, e < i := fun e he => by
      have := List.all_eq_true.1 hd e he
      simpa [Nat.blt_eq] using this
    have hm : ∀ j, Nat.testBit (QfE tbl i (direct ops i)) j = true → Reach ops i j := QeD ht _ hd' (fun e he => he)
    by_cases hk : k = i
    · subst hk
      refine ⟨hd', fun j hj => ?_⟩
      rw [Bool.or_eq_true] at ha
      rcases ha with ha | ha
      · refine .inl (hm j ?_)
        have he : QfE tbl k (direct ops k) &&& (2 ^ k - 1) = 2 ^ k - 1 := Nat.eq_of_beq_eq_true ha
        have := congrArg (fun x => Nat.testBit x j) he
        simp only [Nat.testBit_and, Nat.testBit_two_pow_sub_one, hj, decide_true, Bool.and_true] at this
        exact this
      · have := List.all_eq_true.1 ha j (List.mem_range.2 hj)
        rw [Bool.or_eq_true] at this
        exact this.imp (hm j) (fun q => q)
    · refine Qdh f (i + 1) _ (fun e he j hj => ?_) hr k (by omega) (by omega)
      by_cases hei : e = i
      · subst hei
        refine hm j ?_
        have e0 : e + 1 - 1 - e = 0 := by omega
        rw [e0] at hj
        simpa using hj
      · have e1 : i + 1 - 1 - e = (i - 1 - e) + 1 := by omega
        rw [e1] at hj
        exact ht e (by omega) j (by simpa using hj)
theorem Qlc {ops : Array Oper} (hsw : Qk1 dn ops ls) {i : Nat} {r : (Nat → DV) × S} : ∀ (pre post : List Nat) (a : Nat → DV) (σ : S), (∀ j ∈ pre, ls j i = true) →
    Qbg dn ops (pre ++ i :: post) a σ = some r → Qbg dn ops (i :: (pre ++ post)) a σ = some r
  | [], post, a, σ, _, h => h
  | j :: pre, post, a, σ, hl, h => by
    simp only [List.cons_append] at h ⊢
    refine hsw _ _ _ _ _ _ (hl j (by simp)) ?_
    simp only [Qbg] at h ⊢
    cases hd : dn j a σ with
    | none => rw [hd] at h; simp at h
    | some p =>
      obtain ⟨d, σ'⟩ := p
      rw [hd] at h
      simp only [] at h ⊢
      have := Qlc hsw pre post _ _ (fun k hk => hl k (by simp [hk])) h
      simpa only [Qbg] using this
theorem Qdi {ops : Array Oper} (h : QcS ops ls = true) {i : Nat} (hi : i < ops.size) :
    (∀ e ∈ direct ops i, e < i) ∧ ∀ j, j < i → Reach ops i j ∨ ls j i = true :=
  Qdh ops.size 0 [] (fun e he => by omega) h i (by omega) (by omega)
theorem Qlq {ops : Array Oper} (hsw : Qk1 dn ops ls) {r : (Nat → DV) × S} (hany : QcS ops ls = true) : ∀ (fuel t : Nat) (l : List Nat) (listed : Array Bool) (a : Nat → DV) (σ : S), l.length ≤ fuel → l.Pairwise (· < ·) → (∀ i, i ∈ l ↔ i < ops.size ∧ listed.getD i true = false) →
    listed.size = ops.size → (∀ m, listed.getD m false = true → ∀ e ∈ direct ops m, listed.getD e false = true) → Qbg dn ops l a σ = some r → Qbg dn ops (Region.linearise.go .any ops fuel t listed []) a σ = some r := by
  intro fuel
  induction fuel with
  | zero =>
    intro t l listed a σ hlen _ _ _ _ hr
    have hl : l = [] := List.eq_nil_of_length_eq_zero (by omega)
    subst hl
    simpa [Region.linearise.go] using hr
  | succ fuel ih =>
    intro t l listed a σ hlen hp hmem hsz hcl hr
    simp only [Region.linearise.go]
    change Qbg dn ops (match (Region.ready .any ops listed)[t % (Region.ready .any ops listed).length]? with
      | some i => Region.linearise.go .any ops fuel (t / (Region.ready .any ops listed).length) (listed.setIfInBounds i true) [i]
      | none => [].reverse) a σ = some r
    cases hi : (Region.ready .any ops listed)[t % (Region.ready .any ops listed).length]? with
    | none =>
      have hnil : Region.ready .any ops listed = [] := by
        cases hrd : Region.ready .any ops listed with
        | nil => rfl
        | cons x xs =>
          rw [hrd] at hi
          have hlt : t % (x :: xs).length < (x :: xs).length := Nat.mod_lt _ (by simp)
          simp at hi; simp at hlt; omega
      cases l with
      | nil => simpa using hr
      | cons m r' =>
        exfalso
        obtain ⟨hm1, hm2⟩ := (hmem m).1 (by simp)
        have : m ∈ Region.ready .any ops listed := by
          refine mem_ready.2 ⟨hm2, ops[m], by simp [hm1], fun e he hb => ?_⟩
          have hdir : e.on ∈ direct ops m := QaS.2 ⟨ops[m], by simp [hm1], e, he, hb, rfl⟩
          have hlt := (Qdi hany hm1).1 _ hdir
          have hnl : e.on ∉ m :: r' := by
            intro hin
            rcases List.mem_cons.1 hin with q | q
            · omega
            · have := (List.pairwise_cons.1 hp).1 _ q; omega
          have h3 : ¬ (listed.getD e.on true = false) := fun q => hnl ((hmem e.on).2 ⟨by omega, q⟩)
          rw [Qaz (by omega)] at h3
          simpa using h3
        rw [hnil] at this; simp at this
    | some i =>
      simp only []
      rw [linearise_go_acc, List.reverse_singleton, List.singleton_append]
      have hi' := List.mem_of_getElem? hi
      obtain ⟨h0, o, ho, hall⟩ := mem_ready.1 hi'
      have hi1 : i < ops.size := (Array.getElem?_eq_some_iff.1 ho).1
      have hil : i ∈ l := (hmem i).2 ⟨hi1, h0⟩
      obtain ⟨pre, post, hsplit⟩ := List.append_of_mem hil
      subst hsplit
      have hp' := List.pairwise_append.1 hp
      have hloose : ∀ j ∈ pre, ls j i = true := by
        intro j hj
        have hji : j < i := hp'.2.2 j hj i (by simp)
        rcases (Qdi hany hi1).2 j hji with q | q
        · exfalso
          have hL : listed.getD j false = true := by
            refine q (fun k => listed.getD k false = true) hcl (fun x hx => ?_)
            obtain ⟨o', ho', ed, hed, hb, rfl⟩ := QaS.1 hx
            rw [ho] at ho'; cases ho'
            exact hall ed hed hb
          have h2 := ((hmem j).1 (by simp [hj])).2
          rw [Qaz (by omega)] at h2
          exact h2 hL
        · exact q
      have hr2 := Qlc hsw pre post a σ hloose hr
      have hnd : (pre ++ i :: post).Nodup := hp.imp (fun h => by omega)
      have hnotin : i ∉ pre ++ post := by
        intro hin
        rw [List.nodup_append] at hnd
        rcases List.mem_append.1 hin with q | q
        · exact hnd.2.2 i q i (by simp) rfl
        · exact (List.nodup_cons.1 hnd.2.1).1 q
      have hpair : (pre ++ post).Pairwise (· < ·) := by
        rw [List.pairwise_append]
        exact ⟨hp'.1, (List.pairwise_cons.1 hp'.2.1).2, fun x hx y hy => hp'.2.2 x hx y (by simp [hy])⟩
      have hmem' : ∀ k, k ∈ pre ++ post ↔ k < ops.size ∧ (listed.setIfInBounds i true).getD k true = false := by
        intro k
        by_cases hki : k = i
        · subst hki
          simp only [hnotin, false_iff, not_and]
          intro hk
          have : k < listed.size := by omega
          simp [this]
        · rw [getD_set_ne true (Ne.symm hki), ← hmem k]
          simp [hki]
      have hcl' : ∀ m, (listed.setIfInBounds i true).getD m false = true → ∀ e ∈ direct ops m, (listed.setIfInBounds i true).getD e false = true := by
        intro m hm e he
        by_cases hmi : m = i
        · subst hmi
          obtain ⟨o', ho', ed, hed, hb, rfl⟩ := QaS.1 he
          rw [ho] at ho'; cases ho'
          exact getD_set_true (hall ed hed hb)
        · rw [getD_set_ne false (Ne.symm hmi)] at hm
          exact getD_set_true (hcl m hm e he)
      have hlen' : (pre ++ post).length ≤ fuel := by simp at hlen ⊢; omega
      simp only [Qbg] at hr2 ⊢
      split at hr2
      · next d σ1 hdn => first | exact ih _ _ _ _ _ hlen' hpair hmem' (by simp [hsz]) hcl' hr2 | (rw [hdn]; exact ih _ _ _ _ _ hlen' hpair hmem' (by simp [hsz]) hcl' hr2)
      · simp at hr2
end
abbrev Sl := List (Value × Option DV)
theorem QcR {b : ByteArray} {x : DV} : ∀ {sl s' : Sl}, setSlot b x sl = some s' → s'.map (·.1) = sl.map (·.1)
  | [], s', h => by simp [setSlot] at h
  | (k, o) :: r, s', h => by
    simp only [setSlot] at h
    split at h
    · split at h
      · split at h
        · simp only [Option.some.injEq] at h; subst h; rfl
        · simp at h
      · simp at h
    · split at h
      · next r' hr => simp only [Option.some.injEq] at h; subst h; simp [QcR hr]
      · simp at h
    · simp at h
theorem Qey {b1 b2 : ByteArray} {x1 x2 : DV} : ∀ {sl s1 s2 : Sl}, setSlot b1 x1 sl = some s1 → setSlot b2 x2 s1 = some s2 → ∃ s3, setSlot b2 x2 sl = some s3 ∧ setSlot b1 x1 s3 = some s2
  | [], s1, s2, h, _ => by simp [setSlot] at h
  | (k, o) :: r, s1, s2, h, h2 => by
    simp only [setSlot] at h
    split at h
    · next hk =>
      split at h
      · split at h
        · next hm =>
          simp only [Option.some.injEq] at h; subst h
          simp only [setSlot] at h2
          split at h2
          · simp at h2
          · next hk2 =>
            split at h2
            · next r' hr =>
              simp only [Option.some.injEq] at h2; subst h2
              refine ⟨(k, none) :: r', by simp only [setSlot, hk2, hr], ?_⟩
              have : QcL (.string b1) (r'.map (·.1)) = true := by rw [QcR hr]; exact hm
              simp only [setSlot, hk, this]
            · simp at h2
          · simp at h2
        · simp at h
      · simp at h
    · next hk =>
      split at h
      · next r1 hr1 =>
        simp only [Option.some.injEq] at h; subst h
        simp only [setSlot] at h2
        split at h2
        · next hk2 =>
          split at h2
          · split at h2
            · next hm =>
              simp only [Option.some.injEq] at h2; subst h2
              have : QcL (.string b2) (r.map (·.1)) = true := by rw [← QcR hr1]; exact hm
              exact ⟨(k, some x2) :: r, by simp only [setSlot, hk2, this], by simp only [setSlot, hk, hr1]⟩
            · simp at h2
          · simp at h2
        · next hk2 =>
          split at h2
          · next r2 hr2 =>
            simp only [Option.some.injEq] at h2; subst h2
            obtain ⟨r3, q1, q2⟩ := Qey hr1 hr2
            exact ⟨(k, o) :: r3, by simp only [setSlot, hk2, q1], by simp only [setSlot, hk, q2]⟩
          · simp at h2
        · simp at h2
      · simp at h
    · simp at h
def Qlb (P : Program) (t : TypeId) (b : ByteArray) : Bool := match Qag P t with
  | some ⟨.map kt _, _, _, _⟩ => match Qag P kt with
    | some ki => Qcw P kt ki (.string b)
    | none => false
  | _ => false
def QcO (P : Program) (T : Tab) (ks : List Value) (σ : St) (a : Nat → DV) (s : Option Sl) (o : Op) : Option (DV × Option Sl) :=
  match o with
  | .makeMap _ none => match s with
    | none => some (.map σ.n, some (ks.map fun k => (k, none)))
    | some _ => none
  | .insert t m k x => match s with
    | none => none
    | some sl => match eval a m with
      | .map id => match Nat.beq id σ.n with
        | true => match eval a k with
          | .lit (.string b) => match Qlb P t b with
            | true => match setSlot b (eval a x) sl with
              | some sl' => some (.lit (.tuple #[]), some sl')
              | none => none
            | false => none
          | _ => none
        | false => none
      | _ => none
  | o => match touch 0 a o with
    | .none => match dop P T 0 a σ o with
      | some (d, _) => some (d, s)
      | none => none
    | _ => none
def Qcx : Op → Bool | .makeMap _ _ => true | _ => false
def QcG : Op → Bool | .insert _ _ _ _ => true | _ => false
def dnK (P : Program) (T : Tab) (ks : List Value) (σ : St) (ops : Array Oper) (i : Nat) (a : Nat → DV) (s : Option Sl) : Option (DV × Option Sl) :=
  match ops[i]? with
  | none => none
  | some o => match Qo ops a o.guard with
    | some true => QcO P T ks σ a s o.op
    | some false => some (.lit (.tuple #[]), s)
    | none => none
def lsK (ops : Array Oper) (j i : Nat) : Bool := match ops[j]?, ops[i]? with
  | some x, some y => x.apart ops y && (!(Qcx x.op || QcG x.op) || !(Qcx y.op || QcG y.op) || (QcG x.op && QcG y.op))
  | _, _ => false
def kst (σ : St) : Option Sl → St
  | none => σ
  | some sl => { σ with n := σ.n + 1, objs := upd σ.objs σ.n (some (.slots sl)) }
variable {ks : List Value} {σ : St} {s : Option Sl}
theorem QbP {o : Op} (h1 : Qcx o = false) (h2 : QcG o = false) : QcO P T ks σ a s o = match touch 0 a o with
    | .none => match dop P T 0 a σ o with
      | some (d, _) => some (d, s)
      | none => none
    | _ => none := by
  unfold QcO
  split
  · simp [Qcx] at h1
  · simp [QcG] at h2
  · rfl
theorem doneK_still {o : Op} {d : DV} {s1 : Option Sl} (h1 : Qcx o = false) (h2 : QcG o = false) (h : QcO P T ks σ a s o = some (d, s1)) : s1 = s ∧ ∀ s', QcO P T ks σ a s' o = some (d, s') := by
  rw [QbP h1 h2] at h
  split at h
  · next ht =>
    split at h
    · next d' σ1 hd => simp only [Option.some.injEq, Prod.mk.injEq] at h; obtain ⟨rfl, rfl⟩ := h; exact ⟨rfl, fun s' => by rw [QbP h1 h2, ht, hd]⟩
    · simp at h
  · simp at h
theorem doneK_congr {a' : Nat → DV} {o : Op} (h : ∀ x ∈ o.operands, eval a x = eval a' x) : QcO P T ks σ a s o = QcO P T ks σ a' s o := by
  cases h1 : Qcx o with
  | true => cases o <;> simp [Qcx] at h1; next t r => cases r <;> rfl
  | false =>
    cases h2 : QcG o with
    | true =>
      cases o <;> simp [QcG] at h2
      next t m k x =>
      have hm : eval a m = eval a' m := h m (by simp [Op.operands])
      have hk : eval a k = eval a' k := h k (by simp [Op.operands])
      have hx : eval a x = eval a' x := h x (by simp [Op.operands])
      simp only [QcO, hm, hk, hx]
    | false =>
      rw [QbP h1 h2, QbP h1 h2]
      have := Qcg (P := P) (T := T) (σ := σ) (id := 0) h
      rw [this.1, this.2]
theorem QiC {ops : Array Oper} {i : Nat} {dst : Option Tmp} {d : DV} {o : Oper} (ho : ops[i]? = some o) (h : ∀ t, dst = some t → t ∉ o.looksAt ops) :
    ∀ s, dnK P T ks σ ops i (QN a dst d) s = dnK P T ks σ ops i a s := by
  have hx : ∀ x ∈ o.op.operands, eval (QN a dst d) x = eval a x := fun x hx => Qd4 fun t ht e => h t ht (by
    unfold Oper.looksAt
    rw [List.mem_append]; left
    rw [List.mem_filterMap]
    exact ⟨x, by simpa using hx, by rw [e]⟩)
  have hw := Qco (a := a) (d := d) h
  intro s
  simp only [dnK, ho, hw]
  rw [doneK_congr (P := P) (T := T) (σ := σ) hx]
theorem QhN {ops : Array Oper} {i : Nat} {o : Oper} {d : DV} {s1 : Option Sl} (ho : ops[i]? = some o) (hq : (Qcx o.op || QcG o.op) = false) (h : dnK P T ks σ ops i a s = some (d, s1)) : s1 = s ∧ ∀ s', dnK P T ks σ ops i a s' = some (d, s') := by
  simp only [Bool.or_eq_false_iff] at hq
  unfold dnK at h ⊢
  simp only [ho] at h ⊢
  split at h
  · exact doneK_still hq.1 hq.2 h
  · simp only [Option.some.injEq, Prod.mk.injEq] at h; obtain ⟨rfl, rfl⟩ := h; exact ⟨rfl, fun _ => rfl⟩
  · simp at h
theorem doneK_ins {o : Op} {d : DV} {s1 : Option Sl} (hi : QcG o = true) (h : QcO P T ks σ a s o = some (d, s1)) : d = .lit (.tuple #[]) ∧ ∃ b x sl sl', s = some sl ∧ s1 = some sl' ∧ setSlot b x sl = some sl' ∧
    ∀ s2 s3, setSlot b x s2 = some s3 → QcO P T ks σ a (some s2) o = some (d, some s3) := by
  cases o <;> simp [QcG] at hi
  next t m k x =>
  simp only [QcO] at h
  split at h
  · simp at h
  · next sl =>
    split at h
    · next id hm =>
      split at h
      · next hid =>
        split at h
        · next b hk =>
          split at h
          · next hst =>
            split at h
            · next sl' hset =>
              simp only [Option.some.injEq, Prod.mk.injEq] at h; obtain ⟨rfl, rfl⟩ := h
              exact ⟨rfl, b, eval a x, sl, sl', rfl, rfl, hset, fun s2 s3 h3 => by simp only [QcO, hm, hid, hk, hst, h3]⟩
            · simp at h
          · simp at h
        · simp at h
      · simp at h
    · simp at h
theorem QjI {ops : Array Oper} {i : Nat} {o : Oper} {d : DV} {s1 : Option Sl} (ho : ops[i]? = some o) (hi : QcG o.op = true) (h : dnK P T ks σ ops i a s = some (d, s1)) : (s1 = s ∧ ∀ s', dnK P T ks σ ops i a s' = some (d, s')) ∨
    ∃ b x sl sl', s = some sl ∧ s1 = some sl' ∧ setSlot b x sl = some sl' ∧ ∀ s2 s3, setSlot b x s2 = some s3 → dnK P T ks σ ops i a (some s2) = some (d, some s3) := by
  unfold dnK at h ⊢
  simp only [ho] at h ⊢
  split at h
  · obtain ⟨_, q⟩ := doneK_ins hi h; exact .inr q
  · simp only [Option.some.injEq, Prod.mk.injEq] at h; obtain ⟨rfl, rfl⟩ := h; exact .inl ⟨rfl, fun _ => rfl⟩
  · simp at h
theorem swapK {ops : Array Oper} : Qk1 (dnK P T ks σ ops) ops (lsK ops) := by
  intro j i rest a s r hl h
  unfold lsK at hl
  split at hl
  · next oj oi hoj hoi =>
    simp only [Bool.and_eq_true] at hl
    obtain ⟨hap, hc1⟩ := hl
    obtain ⟨s1, s2, s3⟩ := Oper.apart_spec hap
    have hdj : Qaa ops j = oj.dst := by simp [Qaa, hoj]
    have hdi : Qaa ops i = oi.dst := by simp [Qaa, hoi]
    simp only [Qbg] at h
    cases hj : dnK P T ks σ ops j a s with
    | none => rw [hj] at h; simp at h
    | some p =>
      obtain ⟨dj, σ1⟩ := p
      rw [hj] at h
      simp only [] at h
      have e1 := QiC (P := P) (T := T) (ks := ks) (σ := σ) (a := a) (d := dj) (dst := Qaa ops j) hoi (fun t q => s1 t (hdj ▸ q))
      rw [e1] at h
      cases hi : dnK P T ks σ ops i a σ1 with
      | none => rw [hi] at h; simp at h
      | some q =>
        obtain ⟨di, σ2⟩ := q
        rw [hi] at h
        simp only [] at h
        have hcomm : QN (QN a (Qaa ops j) dj) (Qaa ops i) di = QN (QN a (Qaa ops i) di) (Qaa ops j) dj :=
          QdP fun t q => by rw [hdi]; exact s2 t (hdj ▸ q)
        have e2 := QiC (P := P) (T := T) (ks := ks) (σ := σ) (a := a) (d := di) (dst := Qaa ops i) hoj (fun t q => s3 t (hdi ▸ q))
        have goal : ∀ σ3, dnK P T ks σ ops i a s = some (di, σ3) → dnK P T ks σ ops j a σ3 = some (dj, σ2) →
            Qbg (dnK P T ks σ ops) ops (i :: j :: rest) a s = some r := by
          intro σ3 g1 g2
          simp only [Qbg]
          rw [g1]
          simp only [e2, g2]
          rw [← hcomm]; exact h
        cases hej : (Qcx oj.op || QcG oj.op) with
        | false =>
          obtain ⟨rfl, hall⟩ := QhN hoj hej hj
          exact goal _ hi (hall _)
        | true =>
          cases hei : (Qcx oi.op || QcG oi.op) with
          | false =>
            obtain ⟨rfl, hall⟩ := QhN hoi hei hi
            exact goal _ (hall _) hj
          | true =>
            rw [hej, hei] at hc1
            simp at hc1
            rcases QjI hoj hc1.1 hj with ⟨rfl, hall⟩ | ⟨b1, x1, sl, sl1, rfl, rfl, hs1, hall1⟩
            · exact goal _ hi (hall _)
            · rcases QjI hoi hc1.2 hi with ⟨rfl, hall⟩ | ⟨b2, x2, sl', sl2, hq, rfl, hs2, hall2⟩
              · exact goal _ (hall _) hj
              · cases hq
                obtain ⟨sl3, q1, q2⟩ := Qey hs1 hs2
                exact goal _ (hall2 _ _ q1) (hall1 _ _ q2)
  · simp at hl
theorem Rg.upon0 {ops : Array Oper} {K : (Nat → DV) → St → Prop} {i : Nat} {rest : List Nat} {o : Oper} {d : DV} {σ1 : St} (hd : Q8 n ops = true) (ho : ops[i]? = some o) (hw : Qo ops a o.guard = some true) (hn1 : σ1.n = σ.n)
    (hu : ∀ (ca : Array Value) (w : World) (ds : List Deferred) (C : Ctx), QfC C w a ca → Qav E (fun i => σ.n ≤ i) C w σ → Upon P (execOp (Act.eval ⟨ca, ds⟩) o) w (fun v w' => Res E (fun k => σ.n ≤ k) C w σ1 d v w'))
    (h : Rg P E n ops K rest (QN a o.dst d) σ1) : Rg P E n ops K (i :: rest) a σ := by
  intro ca w ds Q hok hq
  obtain ⟨hn, C, hg, hs⟩ := hok
  have hf := hg.rel
  simp only [wpOps, ho]
  rw [if_pos (Qaf hw hf hn hd)]
  left
  have hu := hu ca w ds C hf hs
  have key : ∀ v w', Res E (fun k => σ.n ≤ k) C w σ1 d v w' → wpOps P ops Q rest (Act.put ⟨ca, ds⟩ o.dst v) w' := by
    intro v w' ⟨C', r1, r2, r3, r4⟩
    rw [put_eq]
    exact h _ _ _ _ ⟨by rw [Qaq]; exact hn, C', (hg.mono r1 r2).put r3 (Ok.dst hn hd ho), hn1 ▸ r4⟩ hq
  unfold Oper.wp Oper.upon
  unfold Upon at hu
  split at hu
  · next v w' he => rw [he]; exact key _ _ hu
  · next w' he => rw [he]; exact key _ _ hu
  · next f args w' he =>
    rw [he]
    refine hu.mono fun e w'' ⟨v, hv, hk⟩ => ?_
    subst hv
    exact key _ _ hk
  · exact hu.elim
theorem Rg.opK {ops : Array Oper} {K : (Nat → DV) → St → Prop} {i : Nat} {rest : List Nat} {d : DV} {s1 : Option Sl} (hT : QH P T) (hd : Q8 n ops = true) (h : dnK P T ks σ ops i a s = some (d, s1))
    (hr : Rg P E n ops K rest (QN a (Qaa ops i) d) (kst σ s1)) : Rg P E n ops K (i :: rest) a (kst σ s) := by
  unfold dnK at h
  split at h
  · simp at h
  · next o ho =>
    have hdo : Qaa ops i = o.dst := by simp [Qaa, ho]
    rw [hdo] at hr
    split at h
    · next hw =>
      cases h1 : Qcx o.op with
      | true =>
        cases hop : o.op <;> rw [hop] at h1 <;> simp [Qcx] at h1
        next t r0 =>
        rw [hop] at h
        cases r0 with
        | some r1 => simp [QcO, touch] at h
        | none =>
          cases s with
          | some sl => simp [QcO] at h
          | none =>
            simp only [QcO, Option.some.injEq, Prod.mk.injEq] at h; obtain ⟨rfl, rfl⟩ := h
            refine Rg.upon (d := .map σ.n) (σ1 := { σ with objs := upd σ.objs σ.n (some (.slots (ks.map fun k => (k, none)))) }) hd ho hw (fun ca w ds C hf hs => ?_) hr
            obtain ⟨u, w', hrun, hres⟩ := makeSlots_sound (P := P) (t := t) (id := σ.n) (ks := ks) hs (Nat.le_refl _)
            have hr2 : (execOp (Act.eval ⟨ca, ds⟩) o).run P w = .ok (.value u) w' := by simp only [execOp, hop, Sem.run_bind, Option.map_none, hrun, Result.andThen_ok, Sem.run_pure]
            unfold Upon; rw [hr2]; exact hres
      | false =>
        cases h2 : QcG o.op with
        | true =>
          cases hop : o.op <;> rw [hop] at h2 <;> simp [QcG] at h2
          next t m k x =>
          rw [hop] at h
          simp only [QcO] at h
          split at h
          · simp at h
          · next sl =>
            split at h
            · next id hm =>
              split at h
              · next hid =>
                have hid' := Nat.eq_of_beq_eq_true hid
                subst hid'
                split at h
                · next b hk =>
                  split at h
                  · next hst =>
                    split at h
                    · next sl' hset =>
                      simp only [Option.some.injEq, Prod.mk.injEq] at h; obtain ⟨rfl, rfl⟩ := h
                      unfold Qlb at hst
                      split at hst
                      · next kt et _ _ _ htt =>
                        split at hst
                        · next ki hki =>
                          refine Rg.upon0 (d := .lit (.tuple #[])) (σ1 := kst σ (some sl')) hd ho hw rfl (fun ca w ds C hf hs => ?_) hr
                          have hm' := Qae (ds := ds) hf m
                          have hk' := Qae (ds := ds) hf k
                          have hx' := Qae (ds := ds) hf x
                          rw [hm] at hm'
                          rw [hk] at hk'
                          simp only [Qy] at hk'
                          obtain ⟨w', q2, q3, q4⟩ := slot_sound (P := P) (t := t) (id := σ.n) ⟨_, htt, rfl⟩ hki hst (by simp [kst, upd]) hset hm' hx' hs
                          rw [← hk'] at q2
                          simp only [execOp, hop]
                          refine upon_skip q2 ⟨C, .refl C, q3, by simp [Qy, undef], ?_⟩
                          have : ({ kst σ (some sl) with objs := upd (kst σ (some sl)).objs σ.n (some (.slots sl')) } : St) = kst σ (some sl') := by
                            simp only [kst, St.mk.injEq, true_and, and_true]
                            funext j; simp only [upd]; split <;> rfl
                          rw [this] at q4
                          exact q4
                        · simp at hst
                      · simp at hst
                    · simp at h
                  · simp at h
                · simp at h
              · simp at h
            · simp at h
        | false =>
          rw [QbP h1 h2] at h
          split at h
          · next ht =>
            have hu : Qam o.op = false := by
              revert ht
              cases o.op <;> simp [touch, Qam]
              next c =>
                obtain ⟨callee, args, tys⟩ := c
                cases callee with
                | builtin b => cases b <;> simp [touch, Qam]
                | _ => simp [touch, Qam]
            split at h
            · next d' σ2 hdop =>
              simp only [Option.some.injEq, Prod.mk.injEq] at h; obtain ⟨rfl, rfl⟩ := h
              have := Qbw hdop
              rw [ht] at this
              obtain ⟨rfl, hall⟩ := this
              exact Rg.op0 hT hd ho hw hu (hall _) rfl hr
            · simp at h
          · simp at h
    · next hw => simp only [Option.some.injEq, Prod.mk.injEq] at h; obtain ⟨rfl, rfl⟩ := h; exact Rg.no hd ho hw hr
    · simp at h
theorem Rg.runK {ops : Array Oper} {K : (Nat → DV) → St → Prop} (hT : QH P T) (hd : Q8 n ops = true) : ∀ (l : List Nat) (a : Nat → DV) (s : Option Sl) (r : (Nat → DV) × Option Sl), Qbg (dnK P T ks σ ops) ops l a s = some r → K r.1 (kst σ r.2) → Rg P E n ops K l a (kst σ s)
  | [], a, s, r, h, hk => by simp [Qbg] at h; subst h; exact Rg.nil hk
  | i :: l, a, s, r, h, hk => by
    simp only [Qbg] at h
    split at h
    · next d s1 hi => exact Rg.opK hT hd hi (Rg.runK hT hd l _ _ r h hk)
    · simp at h
theorem Dwp.drawK {T' : Tab} {id : Nat} {ops : Array Oper} {Q : Ex → (Nat → DV) → St → Prop} {a' : Nat → DV} {s' : Option Sl} (hm : P.follows .mixedOrders = true) (hT : QH P T') (hd : Q8 n ops = true) (hany : QcS ops (lsK ops) = true)
    (h : Qbg (dnK P T' ks σ ops) ops (List.range ops.size) a none = some (a', s')) (hq : Q .normal a' (kst σ s')) : Dwp P T E n (.region id ops true) Q a σ :=
  ⟨fun ca w ds hok => wp_region_draw fun t => by
    simp only [Region.schedule, hm, Bool.true_or, if_true]
    have hx := Qlq (dn := dnK P T' ks σ ops) (ls := lsK ops) swapK hany ops.size t (List.range ops.size) (Array.replicate ops.size false) a none (by simp) List.pairwise_lt_range (fun i => by simp; intro hi; simp [hi]) (by simp) (fun m hm' => by
      exfalso
      simp only [Array.getD_eq_getD_getElem?, Array.getElem?_replicate] at hm'
      split at hm' <;> simp at hm') h
    exact Rg.runK (E := E) (K := Q .normal) hT hd _ _ _ _ hx hq ca w.drew ds _ hok.drew fun ca' w' a2 σ2 hk hok' => ⟨rfl, .normal, a2, σ2, rfl, hk, hok'⟩⟩
end Go.FA
namespace Go.FA
open Go.RowKit
mutual
def QcH (I : Nat → Bool) : DV → Bool
  | .junk => false
  | .lit _ => true
  | .strNot _ => true
  | .ptr id _ => I id
  | .live _ _ _ _ => false
  | .row cells _ => QdN I cells
  | .slice _ tag rows => tag.pure && QkV I rows
  | .map id => I id
  | .fmap _ vs => QdN I vs
  | .func _ f c => QdN I f && QdN I c
  | .iface _ v => QcH I v
  | .agg cs => QdN I cs
  | .tuple cs => QdN I cs
def QdN (I : Nat → Bool) : List DV → Bool
  | [] => true
  | d :: ds => QcH I d && QdN I ds
def QkV (I : Nat → Bool) : List (List DV) → Bool
  | [] => true
  | r :: rs => QdN I r && QkV I rs
end
section
variable {C C' : Ctx} {w : World} {I : Nat → Bool}
mutual
theorem QdM (hpc : ∀ b o, C.pc b o → C'.pc b o) (hpm : ∀ b, C.pm b → C'.pm b) (ho : ∀ i b, I i = true → C.obj i = some b → C'.obj i = some b) : ∀ (d : DV) (v : Value), QcH I d = true → Qy C w d v → Qy C' w d v
  | .junk, _, p, _ => by simp [QcH] at p
  | .lit _, _, _, h => by simpa [Qy] using h
  | .strNot _, _, _, h => by simpa [Qy] using h
  | .ptr id off, _, p, h => by
    simp only [Qy, QcH] at h p ⊢
    obtain ⟨b, h1, rfl⟩ := h; exact ⟨b, ho _ _ p h1, rfl⟩
  | .live id k off n, _, p, _ => by simp [QcH] at p
  | .row cells off, _, p, h => by
    simp only [Qy, QcH] at h p ⊢
    obtain ⟨b, o, rfl, hr⟩ := h; exact ⟨b, o, rfl, Qfx hpc hpm ho b cells o p hr⟩
  | .slice k tag rows, _, p, h => by
    simp only [Qy, QcH, Bool.and_eq_true] at h p ⊢
    rcases h with ⟨b, o, cap, rfl, hl, hr, ht⟩ | ⟨ad, rfl, hr, ht⟩
    · refine .inl ⟨b, o, cap, rfl, hl, QhL hpc hpm ho k b rows o p.2 hr, ?_⟩
      cases tag with
      | none => trivial
      | nn => trivial
      | full => simp [Tag.pure] at p
      | tok t g => simp [Tag.pure] at p
    · cases tag with
      | none => exact .inr ⟨ad, rfl, hr, trivial⟩
      | nn => exact .inr ⟨ad, rfl, hr, ht⟩
      | full => exact .inr ⟨ad, rfl, hr, trivial⟩
      | tok t g => simp [Tag.pure] at p
  | .map id, _, p, h => by
    simp only [Qy, QcH] at h p ⊢
    obtain ⟨b, h1, rfl⟩ := h; exact ⟨b, ho _ _ p h1, rfl⟩
  | .fmap ks vs, _, p, h => by
    simp only [Qy, QcH] at h p ⊢
    obtain ⟨b, es, clock, rfl, hp, hh, hk, hl, hst⟩ := h
    exact ⟨b, es, clock, rfl, hpm _ hp, hh, hk, QbL hpc hpm ho vs _ p hl, hst⟩
  | .func fn f c, _, p, h => by
    simp only [Qy, QcH, Bool.and_eq_true] at h p ⊢
    obtain ⟨f', c', rfl, h1, h2⟩ := h
    exact ⟨f', c', rfl, QbL hpc hpm ho f _ p.1 h1, QbL hpc hpm ho c _ p.2 h2⟩
  | .iface t d, _, p, h => by
    simp only [Qy, QcH] at h p ⊢
    obtain ⟨y, rfl, h1⟩ := h; exact ⟨y, rfl, QdM hpc hpm ho d y p h1⟩
  | .agg cs, _, p, h => by
    simp only [Qy, QcH] at h p ⊢
    obtain ⟨ys, rfl, h1, h2⟩ := h; exact ⟨ys, rfl, QbL hpc hpm ho cs ys p h1, h2⟩
  | .tuple cs, _, p, h => by
    simp only [Qy, QcH] at h p ⊢
    obtain ⟨ys, rfl, h1⟩ := h; exact ⟨ys, rfl, QbL hpc hpm ho cs ys p h1⟩
theorem QbL (hpc : ∀ b o, C.pc b o → C'.pc b o) (hpm : ∀ b, C.pm b → C'.pm b) (ho : ∀ i b, I i = true → C.obj i = some b → C'.obj i = some b) : ∀ (ds : List DV) (vs : List Value), QdN I ds = true → QP C w ds vs → QP C' w ds vs
  | [], [], _, _ => by simp [QP]
  | d :: ds, v :: vs, p, h => by
    simp only [QP, QdN, Bool.and_eq_true] at h p ⊢
    exact ⟨QdM hpc hpm ho d v p.1 h.1, QbL hpc hpm ho ds vs p.2 h.2⟩
  | [], _ :: _, _, h => by simp [QP] at h
  | _ :: _, [], _, h => by simp [QP] at h
theorem Qfx (hpc : ∀ b o, C.pc b o → C'.pc b o) (hpm : ∀ b, C.pm b → C'.pm b) (ho : ∀ i b, I i = true → C.obj i = some b → C'.obj i = some b) (b : Nat) : ∀ (ds : List DV) (o : Nat), QdN I ds = true → Qa6 C w b o ds → Qa6 C' w b o ds
  | [], _, _, _ => by simp [Qa6]
  | d :: ds, o, p, h => by
    simp only [Qa6, QdN, Bool.and_eq_true] at h p ⊢
    obtain ⟨⟨hp, v, hv, h1, hr⟩, ht⟩ := h
    exact ⟨⟨hpc _ _ hp, v, hv, h1, QdM hpc hpm ho d v p.1 hr⟩, Qfx hpc hpm ho b ds (o + 1) p.2 ht⟩
theorem QhL (hpc : ∀ b o, C.pc b o → C'.pc b o) (hpm : ∀ b, C.pm b → C'.pm b) (ho : ∀ i b, I i = true → C.obj i = some b → C'.obj i = some b) (k b : Nat) : ∀ (rs : List (List DV)) (o : Nat), QkV I rs = true → QaP C w k b o rs → QaP C' w k b o rs
  | [], _, _, _ => by simp [QaP]
  | r :: rs, o, p, h => by
    simp only [QaP, QkV, Bool.and_eq_true] at h p ⊢
    exact ⟨h.1, Qfx hpc hpm ho b r o p.1 h.2.1, QhL hpc hpm ho k b rs (o + k) p.2 h.2.2⟩
end
mutual
def Qh8 : DV → List Nat
  | .junk => []
  | .lit _ => []
  | .strNot _ => []
  | .ptr id _ => [id]
  | .live _ _ _ _ => []
  | .row cells _ => QeI cells
  | .slice _ _ rows => idsR rows
  | .map id => [id]
  | .fmap _ vs => QeI vs
  | .func _ f c => QeI f ++ QeI c
  | .iface _ v => Qh8 v
  | .agg cs => QeI cs
  | .tuple cs => QeI cs
def QeI : List DV → List Nat
  | [] => []
  | d :: ds => Qh8 d ++ QeI ds
def idsR : List (List DV) → List Nat
  | [] => []
  | r :: rs => QeI r ++ idsR rs
end
mutual
theorem QgN : ∀ (d : DV) (v : Value), Qy C w d v → ∀ i ∈ Qh8 d, ∃ b, C.obj i = some b
  | .junk, _, _, i, hi => by simp [Qh8] at hi
  | .lit _, _, _, i, hi => by simp [Qh8] at hi
  | .strNot _, _, _, i, hi => by simp [Qh8] at hi
  | .ptr id off, _, h, i, hi => by
    simp only [Qy, Qh8, List.mem_singleton] at h hi
    subst hi; obtain ⟨b, h1, _⟩ := h; exact ⟨b, h1⟩
  | .live id k off n, _, _, i, hi => by simp [Qh8] at hi
  | .row cells off, _, h, i, hi => by
    simp only [Qy, Qh8] at h hi
    obtain ⟨b, o, _, hr⟩ := h; exact Qg3 b cells o hr i hi
  | .slice k tag rows, _, h, i, hi => by
    simp only [Qy, Qh8] at h hi
    rcases h with ⟨b, o, cap, _, _, hr, _⟩ | ⟨ad, _, rfl, _⟩
    · exact QiB k b rows o hr i hi
    · simp [idsR] at hi
  | .map id, _, h, i, hi => by
    simp only [Qy, Qh8, List.mem_singleton] at h hi
    subst hi; obtain ⟨b, h1, _⟩ := h; exact ⟨b, h1⟩
  | .fmap ks vs, _, h, i, hi => by
    simp only [Qy, Qh8] at h hi
    obtain ⟨b, es, clock, _, _, _, _, hl, _⟩ := h
    exact Qcu vs _ hl i hi
  | .func fn f c, _, h, i, hi => by
    simp only [Qy, Qh8, List.mem_append] at h hi
    obtain ⟨f', c', _, h1, h2⟩ := h
    exact hi.elim (Qcu f _ h1 i) (Qcu c _ h2 i)
  | .iface t d, _, h, i, hi => by
    simp only [Qy, Qh8] at h hi
    obtain ⟨y, _, h1⟩ := h; exact QgN d y h1 i hi
  | .agg cs, _, h, i, hi => by
    simp only [Qy, Qh8] at h hi
    obtain ⟨ys, _, h1, _⟩ := h; exact Qcu cs ys h1 i hi
  | .tuple cs, _, h, i, hi => by
    simp only [Qy, Qh8] at h hi
    obtain ⟨ys, _, h1⟩ := h; exact Qcu cs ys h1 i hi
theorem Qcu : ∀ (ds : List DV) (vs : List Value), QP C w ds vs → ∀ i ∈ QeI ds, ∃ b, C.obj i = some b
  | [], [], _, i, hi => by simp [QeI] at hi
  | d :: ds, v :: vs, h, i, hi => by
    simp only [QP, QeI, List.mem_append] at h hi
    exact hi.elim (QgN d v h.1 i) (Qcu ds vs h.2 i)
  | [], _ :: _, h, _, _ => by simp [QP] at h
  | _ :: _, [], h, _, _ => by simp [QP] at h
theorem Qg3 (b : Nat) : ∀ (ds : List DV) (o : Nat), Qa6 C w b o ds → ∀ i ∈ QeI ds, ∃ b, C.obj i = some b
  | [], _, _, i, hi => by simp [QeI] at hi
  | d :: ds, o, h, i, hi => by
    simp only [Qa6, QeI, List.mem_append] at h hi
    obtain ⟨⟨_, v, _, _, hr⟩, ht⟩ := h
    exact hi.elim (QgN d v hr i) (Qg3 b ds (o + 1) ht i)
theorem QiB (k b : Nat) : ∀ (rs : List (List DV)) (o : Nat), QaP C w k b o rs → ∀ i ∈ idsR rs, ∃ b, C.obj i = some b
  | [], _, _, i, hi => by simp [idsR] at hi
  | r :: rs, o, h, i, hi => by
    simp only [QaP, idsR, List.mem_append] at h hi
    exact hi.elim (Qg3 b r o h.2.1 i) (QiB k b rs (o + k) h.2.2 i)
end
end
def top (l : List Nat) : Nat := l.foldr (fun i m => Nat.max (i + 1) m) 0
theorem Qk5 {i : Nat} : ∀ {l : List Nat}, i ∈ l → i < top l
  | [], h => by simp at h
  | j :: l, h => by
    simp only [top, List.foldr_cons]
    rcases List.mem_cons.1 h with rfl | q
    · exact Nat.le_max_left (i + 1) _
    · exact Nat.lt_of_lt_of_le (Qk5 q) (Nat.le_max_right _ _)
def Qkd (i : Nat) : List Nat → Bool
  | [] => false
  | j :: l => match Nat.beq i j with
    | true => true
    | false => Qkd i l
theorem QgZ {i : Nat} : ∀ {l : List Nat}, Qkd i l = true → i ∈ l
  | [], h => by simp [Qkd] at h
  | j :: l, h => by
    simp only [Qkd] at h
    split at h
    · next hb => rw [Nat.eq_of_beq_eq_true hb]; simp
    · exact List.mem_cons_of_mem _ (QgZ h)
def σN (n : Nat) : St := ⟨n, fun _ => none, fun _ => none⟩
theorem Qb.of_calm {P : Program} {g : FuncId} {S : Sp} (h : ∀ xs r, S xs = some r → QdN (fun i => Qkd i (QeI xs)) xs = true ∧ QcH (fun i => Qkd i (QeI xs)) r = true ∧ ∃ f, HC P g xs (σN (top (QeI xs))) (fun d σ' => Qb9 σ' f d = r)) : Qb P g S := by
  intro xs r hr
  obtain ⟨hpx, hpr, f, hh⟩ := h xs r hr
  have hnt : QhS r = true := by
    unfold QhS
    split
    · simp [QcH, Tag.pure] at hpr
    · rfl
  refine .inl ⟨hnt, fun C w cargs hgl hpc hpm hl => ?_⟩
  have hids := Qcu xs cargs hl
  obtain ⟨C0, hC0⟩ : ∃ C0 : Ctx, C0 = ⟨fun i => if Qkd i (QeI xs) then C.obj i else none, fun _ => none, C.pc, C.pm, w.heap.size⟩ := ⟨_, rfl⟩
  have hl0 : QP C0 w xs cargs := QbL (C := C) (C' := C0) (I := fun i => Qkd i (QeI xs)) (fun _ _ p => by subst hC0; exact p) (fun _ p => by subst hC0; exact p) (fun i b hi hb => by subst hC0; simp only [] at hi ⊢; rw [if_pos hi]; exact hb) _ _ hpx hl
  have hs0 : Qav ⟨w.heap.size, w, C.pc, C.pm, C0, w, hgl⟩ (fun i => (σN (top (QeI xs))).n ≤ i) C0 w (σN (top (QeI xs))) := by
    subst hC0
    refine ⟨rfl, Below.refl _ _, Nat.le_refl _, hpc, hpm, fun _ _ p => p, fun _ p => p, fun _ _ p => .inl p, fun _ p => .inl p, ?_, ?_, ?_, ?_, ?_, fun i hi => ⟨?_, rfl⟩⟩
    · intro i o hi; simp [σN] at hi
    · intro i j oi oj b hi; simp [σN] at hi
    · intro t g ht; simp [σN] at ht
    · intro t t' g g' x x' ht; simp [σN] at ht
    · intro t g x i o ht; simp [σN] at ht
    · simp only []
      split
      · next hm => have := Qk5 (QgZ hm); simp only [σN] at hi; omega
      · rfl
  refine (hh.2 _ C0 w cargs hl0 hs0).mono fun e w' ⟨v, he, d, σ', hd, C', r1, r2, r3, r4⟩ => ?_
  subst hd
  refine ⟨v, he, r4.below, QdM (C := Ctx.all _ C' w') (I := fun i => Qkd i (QeI xs)) (fun b o p => Or.elim p (fun q => r4.psub b o q) (fun q => Or.inr q)) (fun b p => Or.elim p (fun q => r4.msub b q) (fun q => Or.inr q)) (fun i b hi hb => ?_) _ _ hpr (Qjg r4 f _ _ r3)⟩
  obtain ⟨b0, hb0⟩ := hids i (QgZ hi)
  have h0 : C0.obj i = some b0 := by subst hC0; simp only [] at hi ⊢; rw [if_pos hi]; exact hb0
  have h1 := r1.obj _ _ h0
  have h2 : C'.obj i = some b := hb
  rw [h1] at h2
  show C.obj i = some b
  rw [hb0]; exact h2
theorem weak_rel {C : Ctx} {w : World} : ∀ (f : Nat) (d : DV) (v : Value), Qy C w d v → Qy C w (Qb9 σ0 f d) v := by
  have keep : ∀ {d v}, Qy C w d v → Qy C w d v := fun h => h
  intro f
  induction f with
  | zero => intro d v h; exact keep h
  | succ f ih =>
    intro d v h
    have hp : ∀ b o, C.pc b o → C.pc b o := fun _ _ p => p
    cases d with
    | row cells off =>
      simp only [Qy, Qb9] at h ⊢
      obtain ⟨b, o, rfl, hr⟩ := h
      exact ⟨b, o, rfl, Qd9 hp ih hr⟩
    | slice k tag rows =>
      simp only [Qy, Qb9, List.length_map] at h ⊢
      rcases h with ⟨b, o, cap, rfl, h1, h2, h3⟩ | ⟨ad, rfl, rfl, h3⟩
      · exact .inl ⟨b, o, cap, rfl, h1, Qfk hp ih h2, by cases tag <;> trivial⟩
      · refine .inr ⟨ad, rfl, rfl, ?_⟩
        cases tag <;> first | exact h3 | trivial
    | live id k off n => simpa [Qb9, σ0, QgE] using h
    | map id => simpa [Qb9, σ0] using h
    | fmap ks vs =>
      simp only [Qy, Qb9] at h ⊢
      obtain ⟨b, es, clock, rfl, hp', hh, hk, hl, hst⟩ := h
      exact ⟨b, es, clock, rfl, hp', hh, hk, Qap ih hl, hst⟩
    | func fn a c =>
      simp only [Qy, Qb9] at h ⊢
      obtain ⟨f', c', rfl, h1, h2⟩ := h
      exact ⟨f', c', rfl, Qap ih h1, Qap ih h2⟩
    | iface t x =>
      simp only [Qy, Qb9] at h ⊢
      obtain ⟨y, rfl, h1⟩ := h
      exact ⟨y, rfl, ih _ _ h1⟩
    | agg cs =>
      simp only [Qy, Qb9] at h ⊢
      obtain ⟨ys, rfl, h1, h2⟩ := h
      exact ⟨ys, rfl, Qap ih h1, h2⟩
    | tuple cs =>
      simp only [Qy, Qb9] at h ⊢
      obtain ⟨ys, rfl, h1⟩ := h
      exact ⟨ys, rfl, Qap ih h1⟩
    | junk => exact keep h
    | strNot l => exact keep h
    | lit v => exact keep h
    | ptr id off => exact keep h
theorem Qe1 {C : Ctx} {w : World} : ∀ (ds : List DV) (vs : List Value), QP C w ds vs → QP C w (ds.map (Qb9 σ0 100)) vs
  | [], [], _ => by simp [QP]
  | d :: ds, v :: vs, h => by
    simp only [QP, List.map_cons] at h ⊢
    exact ⟨weak_rel 100 d v h.1, Qe1 ds vs h.2⟩
  | [], _ :: _, h => by simp [QP] at h
  | _ :: _, [], h => by simp [QP] at h
theorem Qb.weak {P : Program} {g : FuncId} {S : Sp} (h : Qb P g S) : Qb P g (fun xs => S (xs.map (Qb9 σ0 100))) := by
  intro xs r hr
  rcases h _ r hr with ⟨h1, h2⟩ | ⟨k, rows, h0, h1, h2⟩
  · exact .inl ⟨h1, fun C w cargs hgl q1 q2 hl => h2 C w cargs hgl q1 q2 (Qe1 _ _ hl)⟩
  · exact .inr ⟨k, rows, h0, h1, fun C w cargs hgl q1 q2 hl => h2 C w cargs hgl q1 q2 (Qe1 _ _ hl)⟩
end Go.FA
namespace Go.FA
open Go.RowKit
def codeOk (n : Nat) : Code → Bool
  | .region _ ops _ => Q8 n ops
  | .seq a b => codeOk n a && codeOk n b
  | .cond _ a b => codeOk n a && codeOk n b
  | .block _ c => codeOk n c
  | .loop c => codeOk n c
  | .skip | .exit _ | .ret => true
  | _ => false
structure Mode where
  live : Bool
  bx : List Nat
  /-- the keys of the map that it makes -/
  keys : List Value := []
  /-- it looks at none of the objects that its arguments name -/
  calm : Bool := false
  /-- behind which region which slots' objects are written no more -/
  fz : List (Nat × List Nat) := []
abbrev Ev := Mode → Code → Tr DV → EvS → Option (Ex × Tr DV × EvS)
def Mode.box (m : Mode) (d : Option Tmp) : Bool := match d with
  | some t => m.bx.any fun u => Nat.beq u t
  | none => false
def evM (P : Program) (m : Mode) (r : Tr DV) (s : EvS) (o : Oper) : Option (DV × EvS) :=
  match o.op with
  | .box t x => match m.box o.dst with
    | true => match (eval (rg r) x).cells with
      | some cs => some (.ptr s.n 0, ⟨s.n + 1, s.h.put s.n (some (.cells t cs)), s.tk⟩)
      | none => none
    | false => none
  | .call ⟨.builtin .append, ⟨[y, x]⟩, ⟨[t, t']⟩⟩ => match m.live with
    | true => match Nat.beq t t' with
      | true => match QbF P s.n s.st t (eval (rg r) y) (eval (rg r) x) with
        | some (d, σ1) => some (d, ⟨s.n + 1, (match eval (rg r) y with | .live sid _ _ _ => s.h.put sid none | _ => s.h).put s.n (σ1.objs s.n), s.tk⟩)
        | none => none
      | false => match Qbe P s.n s.st t t' (eval (rg r) y) (eval (rg r) x) with
        | some (d, σ1) => some (d, ⟨s.n + 1, (match eval (rg r) y with | .live sid _ _ _ => s.h.put sid none | _ => s.h).put s.n (σ1.objs s.n), s.tk⟩)
        | none => none
    | false => none
  | .makeSlice t x y => match m.live with
    | true => match QhX P s.n s.st t (eval (rg r) x) (eval (rg r) y) with
      | some (d, σ1) => some (d, ⟨s.n + 1, s.h.put s.n (σ1.objs s.n), s.tk⟩)
      | none => none
    | false => none
  | _ => none
abbrev Hs := FuncId → Option (List DV → EvS → Option (DV × EvS))
def QkR (P : Program) (H : Hs) : Prop := ∀ g S, H g = some S → ∀ xs s d s', S xs s = some (d, s') → HC P g xs s.st (fun d2 σ2 => d2 = d ∧ σ2 = s'.st)
def evB (P : Program) (M : FuncId → Mode) (ih : Ev) (g : FuncId) (xs : List DV) (s : EvS) : Option (DV × EvS) :=
  match P.funcs[g]? with
  | none => none
  | some fn => match fn.body with
    | none => none
    | some c => match Nat.ble xs.length fn.ntmps && codeOk fn.ntmps c with
      | false => none
      | true => match ih (M g) c (QhW 0 xs .leaf) s with
        | some (.normal, r, s') => match Qh P s'.st (rg r) fn.results.toList with
          | some d => some (d, s')
          | none => none
        | some (.ret, r, s') => match Qh P s'.st (rg r) fn.results.toList with
          | some d => some (d, s')
          | none => none
        | _ => none
def Qip (P : Program) (M : FuncId → Mode) (ih : Ev) (g : FuncId) : Sp := fun xs => match QaX xs with
  | false => none
  | true => match evB P M ih g xs ⟨0, .leaf, .leaf⟩ with
    | none => none
    | some (d, s') => match QaV (Qb9 s'.st 100 d) with
      | true => some (Qb9 s'.st 100 d)
      | false => none
def Qks (P : Program) (M : FuncId → Mode) (ih : Ev) (g : FuncId) : Sp := fun xs => match QdN (fun i => Qkd i (QeI xs)) xs with
  | false => none
  | true => match evB P M ih g xs ⟨top (QeI xs), .leaf, .leaf⟩ with
    | none => none
    | some (d, s') => match QcH (fun i => Qkd i (QeI xs)) (Qb9 s'.st 100 d) with
      | true => some (Qb9 s'.st 100 d)
      | false => none
def Qk3 (P : Program) (M : FuncId → Mode) (ih : Ev) (g : FuncId) : Sp := match (M g).calm with
  | true => fun xs => Qks P M ih g (xs.map (Qb9 σ0 100))
  | false => fun xs => Qip P M ih g (xs.map (Qb9 σ0 100))
def Qf1 (P : Program) (T : Tab) (H : Hs) (L : FuncId → Bool) (M : FuncId → Mode) (ih : Ev) : Tab := fun g => match T g with
  | some S => some S
  | none => match H g with
    | some _ => none
    | none => match L g with
      | true => none
      | false => match P.funcs[g]? with
        | none => none
        | some fn => match fn.body with
          | none => none
          | some _ => some (Qk3 P M ih g)
def evC (P : Program) (T : Tab) (H : Hs) (L : FuncId → Bool) (M : FuncId → Mode) (ih : Ev) (g : FuncId) (xs : List DV) (s : EvS) : Option (DV × EvS) :=
  match dcall (Qf1 P T H L M ih) g xs with
  | some (.slice k (.tok _ _) rows) => some (.slice k (.tok s.n 0) rows, ⟨s.n + 1, s.h, s.tk.put s.n (some 0)⟩)
  | some d => some (d, s)
  | none => match H g with
    | some S => S xs s
    | none => match T g with
      | some _ => none
      | none => evB P M ih g xs s
def evOp (P : Program) (T : Tab) (H : Hs) (L : FuncId → Bool) (M : FuncId → Mode) (ih : Ev) (r : Tr DV) (s : EvS) (o : Op) : Option (DV × EvS) :=
  match o with
  | .call ⟨.value x, args, _⟩ => match Qi (rg r) x (args.toList.map (eval (rg r))) with
    | some (g, xs) => evC P T H L M ih g xs s
    | none => none
  | op => match dop P (Qf1 P T H L M ih) s.n (rg r) s.st op with
    | some (d, σ1) => match Qam op with
      | true => some (d, ⟨s.n + 1, (nextS s.n s (rg r) op σ1).h, (nextS s.n s (rg r) op σ1).tk⟩)
      | false => some (d, nextS s.n s (rg r) op σ1)
    | none => none
def evOpA (P : Program) (T : Tab) (H : Hs) (L : FuncId → Bool) (M : FuncId → Mode) (ih : Ev) (a : Nat → DV) (s : EvS) (o : Op) : Option (DV × EvS) :=
  match o with
  | .call ⟨.value x, args, _⟩ => match Qi a x (args.toList.map (eval a)) with
    | some (g, xs) => evC P T H L M ih g xs s
    | none => none
  | op => match dop P (Qf1 P T H L M ih) s.n a s.st op with
    | some (d, σ1) => match Qam op with
      | true => some (d, ⟨s.n + 1, (nextS s.n s a op σ1).h, (nextS s.n s a op σ1).tk⟩)
      | false => some (d, nextS s.n s a op σ1)
    | none => none
def effS : Op → Bool
  | .call _ | .store .. | .mapUpdate .. | .insert .. | .makeMap .. | .alloc _ | .range .. | .entry _ => true
  | _ => false
def opZ (P : Program) (T : Tab) (H : Hs) (L : FuncId → Bool) (M : FuncId → Mode) (ih : Ev) (a : Nat → DV) (s : EvS) (o : Op) : Option (DV × EvS) :=
  match effS o with
  | true => evOpA P T H L M ih a s o
  | false => match touch 0 a o with
    | .none => match dop P (Qf1 P T H L M ih) 0 a s.st o with
      | some (d, _) => some (d, s)
      | none => none
    | _ => none
def dnZ (P : Program) (T : Tab) (H : Hs) (L : FuncId → Bool) (M : FuncId → Mode) (ih : Ev) (ops : Array Oper) (i : Nat) (a : Nat → DV) (s : EvS) : Option (DV × EvS) :=
  match ops[i]? with
  | none => none
  | some o => match Qo ops a o.guard with
    | some true => opZ P T H L M ih a s o.op
    | some false => some (.lit (.tuple #[]), s)
    | none => none
def lsZ (ops : Array Oper) (j i : Nat) : Bool := match ops[j]?, ops[i]? with
  | some x, some y => x.apart ops y && !(effS x.op && effS y.op)
  | _, _ => false
def evZL (P : Program) (T : Tab) (H : Hs) (L : FuncId → Bool) (M : FuncId → Mode) (ih : Ev) (ops : Array Oper) : List Oper → Tr DV → EvS → Option (Tr DV × EvS)
  | [], r, s => some (r, s)
  | o :: rest, r, s => match Qo ops (rg r) o.guard with
    | some true => match opZ P T H L M ih (rg r) s o.op with
      | some (d, s') => evZL P T H L M ih ops rest (Qje r o.dst d) s'
      | none => none
    | some false => evZL P T H L M ih ops rest (Qje r o.dst (.lit (.tuple #[]))) s
    | none => none
def evZ (P : Program) (T : Tab) (H : Hs) (L : FuncId → Bool) (M : FuncId → Mode) (ih : Ev) (ops : Array Oper) (r : Tr DV) (s : EvS) : Option (Tr DV × EvS) :=
  match QcS ops (lsZ ops) with
  | true => evZL P T H L M ih ops ops.toList r s
  | false => none
def Tr.map (f : DV → DV) : Tr DV → Tr DV
  | .leaf => .leaf
  | .node l v r => .node (Tr.map f l) (match v with | some x => some (f x) | none => none) (Tr.map f r)
def frzD (id : Nat) (cs : List DV) (d : DV) : DV := match d with
  | .ptr i off => match Nat.beq i id with
    | true => .row cs off
    | false => d
  | _ => d
def QjJ (t : Nat) (r : Tr DV) (s : EvS) : Tr DV × EvS := match rg r t with
  | .ptr id _ => match s.h.get id with
    | some (.cells _ cs) => (Tr.map (frzD id cs) r, ⟨s.n, s.h.put id none, s.tk⟩)
    | _ => (r, s)
  | _ => (r, s)
def fzL : List Nat → Tr DV → EvS → Tr DV × EvS
  | [], r, s => (r, s)
  | t :: ts, r, s => match QjJ t r s with
    | (r', s') => fzL ts r' s'
def QjS (rid : Nat) : List (Nat × List Nat) → List Nat
  | [] => []
  | (i, ts) :: l => match Nat.beq i rid with
    | true => ts
    | false => QjS rid l
def Qku (m : Mode) : Code → List Nat
  | .region rid _ _ => QjS rid m.fz
  | _ => []
def Qid (P : Program) (T : Tab) (H : Hs) (L : FuncId → Bool) (M : FuncId → Mode) (ih : Ev) (m : Mode) (ops : Array Oper) : List Oper → Tr DV → EvS → Option (Tr DV × EvS)
  | [], r, s => some (r, s)
  | o :: rest, r, s => match Qo ops (rg r) o.guard with
    | some true => match evM P m r s o with
      | some (d, s') => Qid P T H L M ih m ops rest (Qje r o.dst d) s'
      | none => match evOp P T H L M ih r s o.op with
        | some (d, s') => Qid P T H L M ih m ops rest (Qje r o.dst d) s'
        | none => none
    | some false => Qid P T H L M ih m ops rest (Qje r o.dst (.lit (.tuple #[]))) s
    | none => none
def evX (P : Program) (T : Tab) (H : Hs) (L : FuncId → Bool) (M : FuncId → Mode) (ih : Ev) (ops : Array Oper) : List Oper → Tr DV → EvS → Option (Tr DV × EvS)
  | [], r, s => some (r, s)
  | o :: rest, r, s => match Qo ops (rg r) o.guard with
    | some true => match o.op with
      | .call ⟨.value x, args, _⟩ => match Qi (rg r) x (args.toList.map (eval (rg r))) with
        | some (g, xs) => match evC P T H L M ih g xs s with
          | some (d, s') => evX P T H L M ih ops rest (Qje r o.dst d) s'
          | none => none
        | none => none
      | op => match touch 0 (rg r) op with
        | .none => match dop P (Qf1 P T H L M ih) 0 (rg r) s.st op with
          | some (d, _) => evX P T H L M ih ops rest (Qje r o.dst d) s
          | none => none
        | _ => none
    | some false => evX P T H L M ih ops rest (Qje r o.dst (.lit (.tuple #[]))) s
    | none => none
def evT (P : Program) (T : Tab) (H : Hs) (L : FuncId → Bool) (M : FuncId → Mode) (ih : Ev) (ops : Array Oper) (n0 : Nat) : Nat → List Oper → List Touch → Tr DV → EvS → Option (List Touch × Tr DV × EvS)
  | _, [], ts, r, s => some (ts, r, s)
  | i, o :: rest, ts, r, s => match Qo ops (rg r) o.guard with
    | some true => match dop P (Qf1 P T H L M ih) (n0 + i) (rg r) s.st o.op with
      | some (d, σ1) => evT P T H L M ih ops n0 (i + 1) rest (touch (n0 + i) (rg r) o.op :: ts) (Qje r o.dst d) (nextS (n0 + i) s (rg r) o.op σ1)
      | none => none
    | some false => evT P T H L M ih ops n0 (i + 1) rest (.none :: ts) (Qje r o.dst (.lit (.tuple #[]))) s
    | none => none
def evKL (P : Program) (T : Tab) (ks : List Value) (σ : St) (ops : Array Oper) : List Oper → Tr DV → Option Sl → Option (Tr DV × Option Sl)
  | [], r, s => some (r, s)
  | o :: rest, r, s => match Qo ops (rg r) o.guard with
    | some true => match QcO P T ks σ (rg r) s o.op with
      | some (d, s') => evKL P T ks σ ops rest (Qje r o.dst d) s'
      | none => none
    | some false => evKL P T ks σ ops rest (Qje r o.dst (.lit (.tuple #[]))) s
    | none => none
def evK (P : Program) (T : Tab) (H : Hs) (L : FuncId → Bool) (M : FuncId → Mode) (ih : Ev) (m : Mode) (ops : Array Oper) (r : Tr DV) (s : EvS) : Option (Tr DV × EvS) :=
  match m.keys with
  | [] => none
  | k :: ks => match QcS ops (lsK ops) with
    | false => none
    | true => match evKL P (Qf1 P T H L M ih) (k :: ks) s.st ops ops.toList r none with
      | some (r', none) => some (r', s)
      | some (r', some sl) => some (r', ⟨s.n + 1, s.h.put s.n (some (.slots sl)), s.tk⟩)
      | none => none
def Qdg {α : Type} (l : List Touch) (k : List Touch → α) : List Touch → α := match l with
  | [] => k
  | .none :: ts => fun acc => Qdg ts k (.none :: acc)
  | .robj i :: ts => fun acc => Qdg ts k (.robj i :: acc)
  | .wobj i :: ts => fun acc => Qdg ts k (.wobj i :: acc)
  | .newobj i :: ts => fun acc => Qdg ts k (.newobj i :: acc)
  | .tok :: ts => fun acc => Qdg ts k (.tok :: acc)
def ev (P : Program) (T : Tab) (H : Hs) (L : FuncId → Bool) (M : FuncId → Mode) : Nat → Ev
  | 0, _, _, _, _ => none
  | f + 1, m, c, r, s => match c with
    | .skip => some (.normal, r, s)
    | .exit id => some (.exit id, r, s)
    | .ret => some (.ret, r, s)
    | .seq x y => match ev P T H L M f m x r s with
      | some (.normal, r', s') => match fzL (Qku m x) r' s' with
        | (r2, s2) => ev P T H L M f m y r2 s2
      | q => q
    | .cond c x y => match eval (rg r) c with
      | .lit (.bool true) => ev P T H L M f m x r s
      | .lit (.bool false) => ev P T H L M f m y r s
      | _ => none
    | .block id c => match ev P T H L M f m c r s with
      | some (.exit id', r', s') => match Nat.beq id' id with
        | true => some (.normal, r', s')
        | false => some (.exit id', r', s')
      | q => q
    | .loop c => match ev P T H L M f m c r s with
      | some (.normal, r', s') => ev P T H L M f m (.loop c) r' s'
      | q => q
    | .region _ ops false => match Qid P T H L M (ev P T H L M f) m ops ops.toList r s with
      | some (r', s') => some (.normal, r', s')
      | none => none
    | .region _ ops true => match evK P T H L M (ev P T H L M f) m ops r s with
      | some (r', s') => some (.normal, r', s')
      | none => match evZ P T H L M (ev P T H L M f) ops r s with
      | some (r', s') => some (.normal, r', s')
      | none => match QdQ ops with
          | true => match evX P T H L M (ev P T H L M f) ops ops.toList r s with
            | some (r', s') => some (.normal, r', s')
            | none => match evT P T H L M (ev P T H L M f) ops s.n 0 ops.toList [] r s with
              | some (ts, r', s') => Qdg ts (fun τs => match QbH ops (fun i => τs.getD i .none) with
                | true => some (.normal, r', ⟨s'.n + ops.size, s'.h, s'.tk⟩)
                | false => none) []
              | none => none
          | false => match evT P T H L M (ev P T H L M f) ops s.n 0 ops.toList [] r s with
            | some (ts, r', s') => Qdg ts (fun τs => match QbH ops (fun i => τs.getD i .none) with
              | true => some (.normal, r', ⟨s'.n + ops.size, s'.h, s'.tk⟩)
              | false => none) []
            | none => none
    | _ => none
variable {P : Program} {T : Tab} {H : Hs} {L : FuncId → Bool} {M : FuncId → Mode}
def At (e : Ex) (r : Tr DV) (s : EvS) : Ex → (Nat → DV) → St → Prop := fun e2 a2 σ2 => e2 = e ∧ a2 = rg r ∧ σ2 = s.st
def Qb7 (P : Program) : Prop := ∀ (g : FuncId) (fn : Func), P.funcs[g]? = some fn → fn.body.isSome = true → fn.name ≠ "runtime.NumGoroutine"
def QkO (P : Program) (T : Tab) (ih : Ev) : Prop := ∀ m c r s e r' s', ih m c r s = some (e, r', s') → ∀ n, codeOk n c = true → ∀ E, Dwp P T E n c (At e r' s') (rg r) s.st
theorem Qfw {ih : Ev} (hng : Qb7 P) (hih : QkO P T ih) {g : FuncId} {xs : List DV} {s s' : EvS} {d : DV} (h : evB P M ih g xs s = some (d, s')) :
    HC P g xs s.st (fun d2 σ2 => d2 = d ∧ σ2 = s'.st) := by
  unfold evB at h
  split at h
  · simp at h
  · next fn hfn =>
    split at h
    · simp at h
    · next c hb =>
      split at h
      · simp at h
      · next hk =>
        simp only [Bool.and_eq_true] at hk
        have hk1 : xs.length ≤ fn.ntmps := Nat.le_of_ble_eq_true hk.1
        have fin : ∀ e r s2, (e = .normal ∨ e = .ret) → ih (M g) c (QhW 0 xs .leaf) s = some (e, r, s2) → Qh P s2.st (rg r) fn.results.toList = some d → s2 = s' → HC P g xs s.st (fun d2 σ2 => d2 = d ∧ σ2 = s'.st) := by
          intro e r s2 he hev hd hs
          subst hs
          refine HC.of_body (T := T) hfn hb (hng g fn hfn (by simp [hb])) hk1 fun E => ?_
          have := hih _ c _ s e r s2 hev fn.ntmps hk.2 E
          rw [QjV] at this
          exact this.mono fun e2 a2 σ2 ⟨q1, q2, q3⟩ => by subst q1; subst q2; subst q3; exact ⟨he, d, hd, rfl, rfl⟩
        split at h
        · next r s2 hev =>
          split at h
          · next d2 hd => simp only [Option.some.injEq, Prod.mk.injEq] at h; obtain ⟨rfl, rfl⟩ := h; exact fin _ _ _ (.inl rfl) hev hd rfl
          · simp at h
        · next r s2 hev =>
          split at h
          · next d2 hd => simp only [Option.some.injEq, Prod.mk.injEq] at h; obtain ⟨rfl, rfl⟩ := h; exact fin _ _ _ (.inr rfl) hev hd rfl
          · simp at h
        · simp at h
theorem Qbj {ih : Ev} (hT : QH P T) (hng : Qb7 P) (hih : QkO P T ih) : QH P (Qf1 P T H L M ih) := by
  intro g S hS
  unfold Qf1 at hS
  split at hS
  · next S' h => simp only [Option.some.injEq] at hS; subst hS; exact hT g _ h
  · split at hS
    · simp at hS
    · split at hS
      · simp at hS
      · split at hS
        · simp at hS
        · next fn hfn =>
          split at hS
          · simp at hS
          · next c hb =>
            simp only [Option.some.injEq] at hS; subst hS
            refine ⟨?_, fn, c, hfn, hb, hng g fn hfn (by simp [hb])⟩
            unfold Qk3
            split
            · refine Qb.weak (S := Qks P M ih g) (Qb.of_calm fun xs r hr => ?_)
              unfold Qks at hr
              split at hr
              · simp at hr
              · next hp =>
                split at hr
                · simp at hr
                · next d s' hev =>
                  split at hr
                  · next hpb =>
                    simp only [Option.some.injEq] at hr; subst hr
                    refine ⟨hp, hpb, 100, ?_⟩
                    have := Qfw hng hih hev
                    exact this.mono fun d2 σ2 ⟨q1, q2⟩ => by subst q1; subst q2; rfl
                  · simp at hr
            · refine Qb.weak (S := Qip P M ih g) (Qb.of_pure fun xs r hr => ?_)
              unfold Qip at hr
              split at hr
              · simp at hr
              · next hp =>
                split at hr
                · simp at hr
                · next d s' hev =>
                  split at hr
                  · next hpb =>
                    simp only [Option.some.injEq] at hr; subst hr
                    refine ⟨hp, hpb, 100, ?_⟩
                    have := Qfw hng hih hev
                    rw [st0] at this
                    exact this.mono fun d2 σ2 ⟨q1, q2⟩ => by subst q1; subst q2; rfl
                  · simp at hr
theorem Qd8 {ih : Ev} (hT : QH P T) (hH : QkR P H) (hng : Qb7 P) (hih : QkO P T ih) {g : FuncId} {xs : List DV} {s s' : EvS} {d : DV} (h : evC P T H L M ih g xs s = some (d, s')) :
    HC P g xs s.st (fun d2 σ2 => d2 = d ∧ σ2 = s'.st) := by
  have hT' := Qbj (H := H) (L := L) (M := M) hT hng hih
  unfold evC at h
  have hpl : ∀ d0, dcall (Qf1 P T H L M ih) g xs = some d0 → (∀ k t u rows, d0 ≠ .slice k (.tok t u) rows) → HC P g xs s.st (fun d2 σ2 => d2 = d0 ∧ σ2 = s.st) := by
    intro d0 hd hne
    unfold dcall at hd
    split at hd
    · next S hS =>
      obtain ⟨h1, h2⟩ := hT' g S hS
      refine ⟨h2, fun E C w args hl hs => ?_⟩
      rcases h1 _ _ hd with ⟨hpr, hcalls⟩ | ⟨k, rows, rfl, hpr, hcalls⟩
      · exact (hcalls C w _ hs.glob hs.pcsize hs.pmsize hl).mono fun e w' ⟨v, he, hb, hv⟩ => ⟨v, he, _, _, ⟨rfl, rfl⟩, Res.of_call hs hb hpr hv⟩
      · exact (hne _ _ _ _ rfl).elim
    · simp at hd
  split at h
  · next k t u rows hr =>
    simp only [Option.some.injEq, Prod.mk.injEq] at h; obtain ⟨rfl, rfl⟩ := h
    unfold dcall at hr
    split at hr
    · next S hS =>
      obtain ⟨h1, h2⟩ := hT' g S hS
      refine HC.of_sound h1 h2 hr ⟨rfl, ?_⟩
      simp only [own, EvS.st, St.mk.injEq, true_and]
      funext j; rw [Tr.get_put]; simp [upd]
    · simp at hr
  · next d' hne hr =>
    simp only [Option.some.injEq, Prod.mk.injEq] at h; obtain ⟨rfl, rfl⟩ := h
    exact hpl _ hr fun k t u rows e => hne k t u rows e
  · split at h
    · next S hS => exact hH g S hS _ _ _ _ h
    · split at h
      · simp at h
      · exact Qfw hng hih h
theorem evM_sound {m : Mode} {E : Entry} {n i : Nat} {rest : List Nat} {ops : Array Oper} {K : (Nat → DV) → St → Prop} {r : Tr DV} {s s2 : EvS} {o : Oper} {d : DV} (hd : Q8 n ops = true) (ho : ops[i]? = some o) (hw : Qo ops (rg r) o.guard = some true)
    (h : evM P m r s o = some (d, s2)) (hk : Rg P E n ops K rest (QN (rg r) o.dst d) s2.st) : Rg P E n ops K (i :: rest) (rg r) s.st := by
  unfold evM at h
  split at h
  · next t x hop =>
    split at h
    · split at h
      · next cs hx =>
        simp only [Option.some.injEq, Prod.mk.injEq] at h; obtain ⟨rfl, rfl⟩ := h
        refine Rg.box hd ho hw hop hx ?_
        have : (⟨s.n + 1, s.h.put s.n (some (.cells t cs)), s.tk⟩ : EvS).st = { s.st with n := s.st.n + 1, objs := upd s.st.objs s.st.n (some (.cells t cs)) } := by
          simp only [EvS.st, St.mk.injEq, true_and, and_true]
          funext j; rw [Tr.get_put]; rfl
        rw [← this]; exact hk
      · simp at h
    · simp at h
  · next y x t t' hop =>
    split at h
    · split at h
      · next htt =>
        have htt := Nat.eq_of_beq_eq_true htt
        subst htt
        split at h
        · next d' σ1 happ =>
          simp only [Option.some.injEq, Prod.mk.injEq] at h; obtain ⟨rfl, rfl⟩ := h
          refine Rg.appendL (d := d') (σ1 := σ1) hd ho hw hop happ ?_
          have : (⟨s.n + 1, (match eval (rg r) y with | .live sid _ _ _ => s.h.put sid none | _ => s.h).put s.n (σ1.objs s.n), s.tk⟩ : EvS).st = { σ1 with n := s.st.n + 1 } := by
            unfold QbF at happ
            split at happ
            · split at happ
              · split at happ
                · split at happ
                  · split at happ
                    · next hy =>
                      split at happ
                      · simp only [Option.some.injEq, Prod.mk.injEq] at happ; obtain ⟨_, rfl⟩ := happ
                        simp only [EvS.st, St.mk.injEq, true_and, and_true, hy]
                        funext j; rw [Tr.get_put]; simp only [upd]; split <;> simp
                      · simp at happ
                    · next sid k n0 hy =>
                      split at happ
                      · split at happ
                        · next hcc =>
                          simp only [Option.some.injEq, Prod.mk.injEq] at happ; obtain ⟨_, rfl⟩ := happ
                          simp only [EvS.st, St.mk.injEq, true_and, and_true, hy]
                          funext j; rw [Tr.get_put, Tr.get_put]; simp only [upd]; split <;> simp
                        · simp at happ
                      · simp at happ
                    · simp at happ
                  · simp at happ
                · simp at happ
              · simp at happ
            · simp at happ
          rw [← this]; exact hk
        · simp at h
      · split at h
        · next d' σ1 happ =>
          simp only [Option.some.injEq, Prod.mk.injEq] at h; obtain ⟨rfl, rfl⟩ := h
          refine Rg.appendLS (d := d') (σ1 := σ1) hd ho hw hop happ ?_
          have : (⟨s.n + 1, (match eval (rg r) y with | .live sid _ _ _ => s.h.put sid none | _ => s.h).put s.n (σ1.objs s.n), s.tk⟩ : EvS).st = { σ1 with n := s.st.n + 1 } := by
            unfold Qbe at happ
            split at happ
            · split at happ
              · split at happ
                · split at happ
                  · split at happ
                    · next hy =>
                      split at happ
                      · simp only [Option.some.injEq, Prod.mk.injEq] at happ; obtain ⟨_, rfl⟩ := happ
                        simp only [EvS.st, St.mk.injEq, true_and, and_true, hy]
                        funext j; rw [Tr.get_put]; simp only [upd]; split <;> simp
                      · simp at happ
                    · next sid k n0 hy =>
                      split at happ
                      · split at happ
                        · next hcc =>
                          simp only [Option.some.injEq, Prod.mk.injEq] at happ; obtain ⟨_, rfl⟩ := happ
                          simp only [EvS.st, St.mk.injEq, true_and, and_true, hy]
                          funext j; rw [Tr.get_put, Tr.get_put]; simp only [upd]; split <;> simp
                        · simp at happ
                      · simp at happ
                    · simp at happ
                  · simp at happ
                · simp at happ
              · simp at happ
            · simp at happ
          rw [← this]; exact hk
        · simp at h
    · simp at h
  · next t x y hop =>
    split at h
    · split at h
      · next d' σ1 hmk =>
        simp only [Option.some.injEq, Prod.mk.injEq] at h; obtain ⟨rfl, rfl⟩ := h
        refine Rg.makeL (d := d') (σ1 := σ1) hd ho hw hop hmk ?_
        have : (⟨s.n + 1, s.h.put s.n (σ1.objs s.n), s.tk⟩ : EvS).st = { σ1 with n := s.st.n + 1 } := by
          unfold QhX at hmk
          split at hmk
          · split at hmk
            · split at hmk
              · split at hmk
                · simp only [Option.some.injEq, Prod.mk.injEq] at hmk; obtain ⟨_, rfl⟩ := hmk
                  simp only [EvS.st, St.mk.injEq, true_and, and_true]
                  funext j; rw [Tr.get_put]; simp only [upd]; split <;> simp
                · simp at hmk
              · simp at hmk
            · simp at hmk
          · simp at hmk
        rw [← this]; exact hk
      · simp at h
    · simp at h
  · simp at h
theorem Qbi {ih : Ev} (hT : QH P T) (hH : QkR P H) (hng : Qb7 P) (hih : QkO P T ih) {m : Mode} {ops : Array Oper} {n : Nat} (hd : Q8 n ops = true) {E : Entry} {K : (Nat → DV) → St → Prop} :
    ∀ (l : List Oper) (i : Nat) (r : Tr DV) (s : EvS) (r' : Tr DV) (s' : EvS), (∀ j, l[j]? = ops[i + j]?) → Qid P T H L M ih m ops l r s = some (r', s') → K (rg r') s'.st → Rg P E n ops K (List.range' i l.length) (rg r) s.st
  | [], i, r, s, r', s', _, h, hk => by
    simp [Qid] at h; obtain ⟨rfl, rfl⟩ := h
    exact Rg.nil hk
  | o :: rest, i, r, s, r', s', hl, h, hk => by
    have h0 : ops[i]? = some o := by have := hl 0; simpa using this.symm
    have ht : ∀ j, rest[j]? = ops[i + 1 + j]? := fun j => by have := hl (j + 1); rw [show i + 1 + j = i + (j + 1) by omega]; simpa using this
    simp only [List.length_cons, List.range'_succ]
    simp only [Qid] at h
    split at h
    · next hw =>
      split at h
      · next d s2 hm =>
        refine evM_sound hd h0 hw hm ?_
        rw [← Qbm]
        exact Qbi hT hH hng hih hd rest (i + 1) _ _ _ _ ht h hk
      · split at h
        case h_2 => simp at h
        next d s2 hop =>
        unfold evOp at hop
        split at hop
        · next x args tys hopo =>
          split at hop
          · next g xs hc =>
            refine Rg.call hd h0 hopo hw hc (Qd8 hT hH hng hih hop) ?_
            rintro d2 σ2 ⟨rfl, rfl⟩
            rw [← Qbm]
            exact Qbi hT hH hng hih hd rest (i + 1) _ _ _ _ ht h hk
          · simp at hop
        · next hne =>
          split at hop
          · next d' σ1 hdop =>
            have hnx := QeV hdop
            split at hop
            · next hu =>
              simp only [Option.some.injEq, Prod.mk.injEq] at hop; obtain ⟨rfl, rfl⟩ := hop
              refine Rg.op (Qbj (H := H) (L := L) (M := M) hT hng hih) hd h0 hw (d := d') (σ1 := σ1) ?_ ?_
              · unfold QJ
                split
                · next f args tys hopo => exact (hne _ _ _ hopo).elim
                · exact hdop
              · rw [← Qbm]
                have : ({ σ1 with n := s.st.n + 1 } : St) = (⟨s.n + 1, (nextS s.n s (rg r) o.op σ1).h, (nextS s.n s (rg r) o.op σ1).tk⟩ : EvS).st := by
                  have q1 := congrArg St.objs hnx
                  have q2 := congrArg St.toks hnx
                  simp only [EvS.st, St.mk.injEq, true_and] at q1 q2 ⊢
                  exact ⟨q1.symm, q2.symm⟩
                rw [this]
                exact Qbi hT hH hng hih hd rest (i + 1) _ _ _ _ ht h hk
            · next hu =>
              simp only [Option.some.injEq, Prod.mk.injEq] at hop; obtain ⟨rfl, rfl⟩ := hop
              refine Rg.op0 (Qbj (H := H) (L := L) (M := M) hT hng hih) hd h0 hw hu hdop (Qkj hdop) ?_
              rw [← Qbm, ← hnx]
              exact Qbi hT hH hng hih hd rest (i + 1) _ _ _ _ ht h hk
          · simp at hop
    · next hw =>
      refine Rg.no hd h0 hw ?_
      rw [← Qbm]
      exact Qbi hT hH hng hih hd rest (i + 1) _ _ _ _ ht h hk
    · simp at h
theorem doneO_op {S : Type} {st : S → St} {hc : Hc S} {a : Nat → DV} {s : S} {o : Op} (hne : ∀ x args tys, o ≠ .call ⟨.value x, args, tys⟩) :
    Qe9 st P T hc a s o = match touch 0 a o with | .none => (dop P T 0 a (st s) o).map fun p => (p.1, s) | _ => none := by
  unfold Qe9
  split
  · next x args tys => exact (hne x args tys rfl).elim
  · rfl
theorem Qd1 {ih : Ev} {ops : Array Oper} : ∀ (l : List Oper) (i : Nat) (r : Tr DV) (s : EvS) (r' : Tr DV) (s' : EvS), (∀ j, l[j]? = ops[i + j]?) → evX P T H L M ih ops l r s = some (r', s') →
    Qcz EvS.st P (Qf1 P T H L M ih) (evC P T H L M ih) ops (List.range' i l.length) (rg r) s = some (rg r', s')
  | [], i, r, s, r', s', _, h => by simp [evX] at h; obtain ⟨rfl, rfl⟩ := h; rfl
  | o :: rest, i, r, s, r', s', hl, h => by
    have h0 : ops[i]? = some o := by have := hl 0; simpa using this.symm
    have ht : ∀ j, rest[j]? = ops[i + 1 + j]? := fun j => by have := hl (j + 1); rw [show i + 1 + j = i + (j + 1) by omega]; simpa using this
    have hdo : Qaa ops i = o.dst := by simp [Qaa, h0]
    simp only [List.length_cons, List.range'_succ, Qcz, Qef, h0, hdo]
    simp only [evX] at h
    split at h
    · next hw =>
      rw [hw]
      simp only []
      split at h
      · next x args tys hopo =>
        simp only [Qe9, hopo]
        split at h
        · next g xs hc =>
          simp only [hc, Option.bind_some]
          split at h
          · next d s2 hcall =>
            simp only [hcall]
            rw [← Qbm]
            exact Qd1 rest (i + 1) _ _ _ _ ht h
          · simp at h
        · simp at h
      · next hne =>
        rw [doneO_op (fun x args tys e => hne x args tys e)]
        split at h
        · next htc =>
          split at h
          · next d σ1 hdop =>
            simp only [hdop, Option.map_some]
            rw [← Qbm]
            exact Qd1 rest (i + 1) _ _ _ _ ht h
          · simp at h
        · simp at h
    · next hw =>
      rw [hw]
      simp only []
      rw [← Qbm]
      exact Qd1 rest (i + 1) _ _ _ _ ht h
    · simp at h
theorem Qhu {ih : Ev} {ops : Array Oper} {n0 : Nat} : ∀ (l : List Oper) (i : Nat) (ts : List Touch) (r : Tr DV) (s : EvS) (ts' : List Touch) (r' : Tr DV) (s' : EvS), (∀ j, l[j]? = ops[i + j]?) → evT P T H L M ih ops n0 i l ts r s = some (ts', r', s') →
    ∃ us : List Touch, ts' = us.reverse ++ ts ∧ QbV P (Qf1 P T H L M ih) ops n0 (List.range' i l.length) (rg r) s.st = some (rg r', s'.st) ∧
      ∀ τ : Nat → Touch, (∀ j, j < us.length → τ (i + j) = us.getD j .none) → us.length = l.length → Qan P (Qf1 P T H L M ih) ops n0 τ (List.range' i l.length) (rg r) s.st
  | [], i, ts, r, s, ts', r', s', _, h => by
    simp [evT] at h; obtain ⟨rfl, rfl, rfl⟩ := h
    exact ⟨[], rfl, rfl, fun _ _ _ => trivial⟩
  | o :: rest, i, ts, r, s, ts', r', s', hl, h => by
    have h0 : ops[i]? = some o := by have := hl 0; simpa using this.symm
    have ht : ∀ j, rest[j]? = ops[i + 1 + j]? := fun j => by have := hl (j + 1); rw [show i + 1 + j = i + (j + 1) by omega]; simpa using this
    have hdo : Qaa ops i = o.dst := by simp [Qaa, h0]
    simp only [List.length_cons, List.range'_succ]
    have key : ∀ (u : Touch) (d : DV) (s2 : EvS), done P (Qf1 P T H L M ih) ops n0 i (rg r) s.st = some (d, s2.st) → QbZ ops n0 i (rg r) = u → evT P T H L M ih ops n0 (i + 1) rest (u :: ts) (Qje r o.dst d) s2 = some (ts', r', s') →
        ∃ us : List Touch, ts' = us.reverse ++ ts ∧ QbV P (Qf1 P T H L M ih) ops n0 (i :: List.range' (i + 1) rest.length) (rg r) s.st = some (rg r', s'.st) ∧
          ∀ τ : Nat → Touch, (∀ j, j < us.length → τ (i + j) = us.getD j .none) → us.length = rest.length + 1 → Qan P (Qf1 P T H L M ih) ops n0 τ (i :: List.range' (i + 1) rest.length) (rg r) s.st := by
      intro u d s2 hdn htc hev
      obtain ⟨us, q1, q2, q3⟩ := Qhu rest (i + 1) _ _ _ _ _ _ ht hev
      rw [Qbm] at q2 q3
      refine ⟨u :: us, by rw [q1]; simp, ?_, fun τ hτ hlen => ?_⟩
      · rw [Qa4, hdn]; simp only [hdo]; exact q2
      · simp only [Qan, hdn, hdo]
        refine ⟨?_, q3 τ (fun j hj => ?_) (by simpa using hlen)⟩
        · rw [htc]; have := hτ 0 (by simp); simpa using this.symm
        · have := hτ (j + 1) (by simpa using hj)
          rw [show i + 1 + j = i + (j + 1) by omega, this]; simp
    simp only [evT] at h
    split at h
    · next hw =>
      split at h
      · next d σ1 hdop =>
        refine key _ d _ ?_ (by simp [QbZ, h0, hw]) h
        rw [QeV hdop]
        simp [done, h0, hw, hdop]
      · simp at h
    · next hw => exact key _ _ s (by simp [done, h0, hw]) (by simp [QbZ, h0, hw]) h
    · simp at h
theorem Qij {ih : Ev} {ops : Array Oper} {n0 : Nat} : ∀ (l : List Oper) (i : Nat) (ts : List Touch) (r : Tr DV) (s : EvS) (ts' : List Touch) (r' : Tr DV) (s' : EvS), evT P T H L M ih ops n0 i l ts r s = some (ts', r', s') → ts'.length = l.length + ts.length
  | [], i, ts, r, s, ts', r', s', h => by simp [evT] at h; obtain ⟨rfl, _⟩ := h; simp
  | o :: rest, i, ts, r, s, ts', r', s', h => by
    simp only [evT] at h
    split at h
    · split at h
      · have := Qij rest _ _ _ _ _ _ _ h; simp at this ⊢; omega
      · simp at h
    · have := Qij rest _ _ _ _ _ _ _ h; simp at this ⊢; omega
    · simp at h
theorem evT_n {ih : Ev} {ops : Array Oper} {n0 : Nat} : ∀ (l : List Oper) (i : Nat) (ts : List Touch) (r : Tr DV) (s : EvS) (ts' : List Touch) (r' : Tr DV) (s' : EvS), evT P T H L M ih ops n0 i l ts r s = some (ts', r', s') → s'.n = s.n
  | [], i, ts, r, s, ts', r', s', h => by simp [evT] at h; obtain ⟨_, _, rfl⟩ := h; rfl
  | o :: rest, i, ts, r, s, ts', r', s', h => by
    simp only [evT] at h
    split at h
    · split at h
      · next d σ1 hdop =>
        have := evT_n rest _ _ _ _ _ _ _ h
        rw [this]
        have h1 := QeV hdop
        have h2 := Qkj hdop
        have h3 := congrArg St.n h1
        exact h3.trans h2
      · simp at h
    · have := evT_n rest _ _ _ _ _ _ _ h; exact this
    · simp at h
theorem Qhf {α : Type} (k : List Touch → α) : ∀ (l acc : List Touch), Qdg l k acc = k (l.reverse ++ acc)
  | [], acc => rfl
  | t :: l, acc => by cases t <;> simp [Qdg, Qhf k l]
theorem Dwp.drawn {T' : Tab} {E : Entry} {n id : Nat} {ops : Array Oper} {Q : Ex → (Nat → DV) → St → Prop} {a a' : Nat → DV} {σ σ' : St} {τ : Nat → Touch} (hm : P.follows .mixedOrders = true) (hT : QH P T') (hd : Q8 n ops = true) (hany : QbH ops τ = true)
    (hr : QbV P T' ops σ.n (List.range ops.size) a σ = some (a', σ')) (ht : Qan P T' ops σ.n τ (List.range ops.size) a σ) (hn1 : σ'.n = σ.n) (hq : Q .normal a' { σ' with n := σ.n + ops.size }) : Dwp P T E n (.region id ops true) Q a σ := by
  refine ⟨fun ca w ds hok => wp_region_any hm ?_⟩
  refine Qgu (E := E) hT hd hany ops.size (List.range ops.size) _ a σ ca w.drew a' σ' (by simp) List.pairwise_lt_range (fun i => by simp; intro hi; simp [hi]) (by simp) (fun m hm' => ?_) hr ht ?_ fun ca' w' hok' => ?_
  · exfalso
    simp only [Array.getD_eq_getD_getElem?, Array.getElem?_replicate] at hm'
    split at hm' <;> simp at hm'
  · have hok2 := hok.drew
    obtain ⟨hn, C, hf, hs⟩ := hok2
    refine ⟨hn, C, hf, hs.fewer fun i hi => ?_⟩
    rcases hi with ⟨j, _, rfl⟩ | hi <;> omega
  · obtain ⟨hn', C, hf, hs⟩ := hok'
    refine ⟨rfl, .normal, a', _, rfl, hq, hn', C, hf, ?_⟩
    exact ⟨hs.lo, hs.below, hs.bsize, hs.pB, hs.mB, hs.psup, hs.msup, hs.psub, hs.msub, hs.obj, hs.inj, hs.tok, hs.tinj, hs.tobj, fun i hi => hs.fresh i (.inr hi)⟩
theorem chg_congr {n : Nat} {a a' : Nat → DV} {o : Op} (h : ∀ x ∈ o.operands, eval a x = eval a' x) : QkI n a o = QkI n a' o ∧ QkX n a o = QkX n a' o := by
  constructor
  · unfold QkI
    split
    · next t ad x => rw [h ad (by simp [Op.operands])]
    · next t m k x => rw [h m (by simp [Op.operands])]
    · next t m k x => rw [h m (by simp [Op.operands])]
    · rfl
  · unfold QkX
    split
    · next args tys =>
      split
      · next y ys hy => rw [h y (by simp [Op.operands, Call.operands]; have : y ∈ args.toList := by rw [hy]; simp
                                    simpa using this)]
      · rfl
    · rfl
theorem evOpA_congr {ih : Ev} {a a' : Nat → DV} {s : EvS} {o : Op} (h : ∀ x ∈ o.operands, eval a x = eval a' x) : evOpA P T H L M ih a s o = evOpA P T H L M ih a' s o := by
  have h2 := Qcg (P := P) (T := Qf1 P T H L M ih) (σ := s.st) (id := s.n) h
  have h3 := chg_congr (n := s.n) h
  have h4 : ∀ σ1, nextS s.n s a o σ1 = nextS s.n s a' o σ1 := fun σ1 => by unfold nextS; rw [h3.1, h3.2]
  unfold evOpA
  split
  · next x args tys =>
    have hx : eval a x = eval a' x := h x (by simp [Op.operands, Call.operands])
    have ha : args.toList.map (eval a) = args.toList.map (eval a') := List.map_congr_left fun y hy => h y (by simp [Op.operands, Call.operands]; right; simpa using hy)
    simp only [Qi, hx, ha]
  · rw [h2.1]
    simp only [h4]
theorem opZ_congr {ih : Ev} {a a' : Nat → DV} {s : EvS} {o : Op} (h : ∀ x ∈ o.operands, eval a x = eval a' x) : opZ P T H L M ih a s o = opZ P T H L M ih a' s o := by
  have h2 := Qcg (P := P) (T := Qf1 P T H L M ih) (σ := s.st) (id := 0) h
  unfold opZ
  rw [evOpA_congr h, h2.1, h2.2]
theorem opZ_still {ih : Ev} {a : Nat → DV} {s : EvS} {o : Op} {d : DV} {s1 : EvS} (hn : effS o = false) (h : opZ P T H L M ih a s o = some (d, s1)) : s1 = s ∧ ∀ s', opZ P T H L M ih a s' o = some (d, s') := by
  unfold opZ at h
  rw [hn] at h
  simp only [] at h
  split at h
  · next ht =>
    split at h
    · next d' σ1 hd =>
      simp only [Option.some.injEq, Prod.mk.injEq] at h; obtain ⟨rfl, rfl⟩ := h
      have := Qbw hd
      rw [ht] at this
      exact ⟨rfl, fun s' => by unfold opZ; rw [hn]; have q := this.2 s'.st; simp only [] at q ⊢; simp only [ht, q]⟩
    · simp at h
  · simp at h
theorem Qi9 {ih : Ev} {ops : Array Oper} {i : Nat} {a : Nat → DV} {dst : Option Tmp} {d : DV} {o : Oper} (ho : ops[i]? = some o) (h : ∀ t, dst = some t → t ∉ o.looksAt ops) :
    ∀ s, dnZ P T H L M ih ops i (QN a dst d) s = dnZ P T H L M ih ops i a s := by
  have hx : ∀ x ∈ o.op.operands, eval (QN a dst d) x = eval a x := fun x hx => Qd4 fun t ht e => h t ht (by
    unfold Oper.looksAt
    rw [List.mem_append]; left
    rw [List.mem_filterMap]
    exact ⟨x, by simpa using hx, by rw [e]⟩)
  have hw := Qco (a := a) (d := d) h
  intro s
  simp only [dnZ, ho, hw]
  rw [opZ_congr hx]
theorem Qht {ih : Ev} {ops : Array Oper} {i : Nat} {a : Nat → DV} {s s1 : EvS} {o : Oper} {d : DV} (ho : ops[i]? = some o) (hq : effS o.op = false) (h : dnZ P T H L M ih ops i a s = some (d, s1)) : s1 = s ∧ ∀ s', dnZ P T H L M ih ops i a s' = some (d, s') := by
  unfold dnZ at h ⊢
  simp only [ho] at h ⊢
  split at h
  · exact opZ_still hq h
  · simp only [Option.some.injEq, Prod.mk.injEq] at h; obtain ⟨rfl, rfl⟩ := h; exact ⟨rfl, fun _ => rfl⟩
  · simp at h
theorem swapZ {ih : Ev} {ops : Array Oper} : Qk1 (dnZ P T H L M ih ops) ops (lsZ ops) := by
  intro j i rest a s r hl h
  unfold lsZ at hl
  split at hl
  · next oj oi hoj hoi =>
    simp only [Bool.and_eq_true, Bool.not_eq_true'] at hl
    obtain ⟨hap, hc1⟩ := hl
    obtain ⟨s1, s2, s3⟩ := Oper.apart_spec hap
    have hdj : Qaa ops j = oj.dst := by simp [Qaa, hoj]
    have hdi : Qaa ops i = oi.dst := by simp [Qaa, hoi]
    simp only [Qbg] at h
    cases hj : dnZ P T H L M ih ops j a s with
    | none => rw [hj] at h; simp at h
    | some p =>
      obtain ⟨dj, σ1⟩ := p
      rw [hj] at h
      simp only [] at h
      have e1 := Qi9 (P := P) (T := T) (H := H) (L := L) (M := M) (ih := ih) (a := a) (d := dj) (dst := Qaa ops j) hoi (fun t q => s1 t (hdj ▸ q))
      rw [e1] at h
      cases hi : dnZ P T H L M ih ops i a σ1 with
      | none => rw [hi] at h; simp at h
      | some q =>
        obtain ⟨di, σ2⟩ := q
        rw [hi] at h
        simp only [] at h
        have hcomm : QN (QN a (Qaa ops j) dj) (Qaa ops i) di = QN (QN a (Qaa ops i) di) (Qaa ops j) dj :=
          QdP fun t q => by rw [hdi]; exact s2 t (hdj ▸ q)
        have e2 := Qi9 (P := P) (T := T) (H := H) (L := L) (M := M) (ih := ih) (a := a) (d := di) (dst := Qaa ops i) hoj (fun t q => s3 t (hdi ▸ q))
        have goal : ∀ σ3, dnZ P T H L M ih ops i a s = some (di, σ3) → dnZ P T H L M ih ops j a σ3 = some (dj, σ2) →
            Qbg (dnZ P T H L M ih ops) ops (i :: j :: rest) a s = some r := by
          intro σ3 g1 g2
          simp only [Qbg]
          rw [g1]
          simp only [e2, g2]
          rw [← hcomm]; exact h
        cases hej : effS oj.op with
        | false =>
          obtain ⟨rfl, hall⟩ := Qht hoj hej hj
          exact goal _ hi (hall _)
        | true =>
          cases hei : effS oi.op with
          | false =>
            obtain ⟨rfl, hall⟩ := Qht hoi hei hi
            exact goal _ (hall _) hj
          | true => rw [hej, hei] at hc1; simp at hc1
  · simp at hl
theorem Rg.evOpA {ih : Ev} (hT : QH P T) (hH : QkR P H) (hng : Qb7 P) (hih : QkO P T ih) {E : Entry} {n i : Nat} {rest : List Nat} {ops : Array Oper} {K : (Nat → DV) → St → Prop} {a : Nat → DV} {s s' : EvS} {o : Oper} {d : DV} (hd : Q8 n ops = true) (h0 : ops[i]? = some o) (hw : Qo ops a o.guard = some true)
    (hop : evOpA P T H L M ih a s o.op = some (d, s')) (hk : Rg P E n ops K rest (QN a o.dst d) s'.st) : Rg P E n ops K (i :: rest) a s.st := by
  unfold Go.FA.evOpA at hop
  split at hop
  · next x args tys hopo =>
    split at hop
    · next g xs hc =>
      refine Rg.call hd h0 hopo hw hc (Qd8 hT hH hng hih hop) ?_
      rintro d2 σ2 ⟨rfl, rfl⟩
      exact hk
    · simp at hop
  · next hne =>
    split at hop
    · next d' σ1 hdop =>
      have hnx := QeV hdop
      split at hop
      · next hu =>
        simp only [Option.some.injEq, Prod.mk.injEq] at hop; obtain ⟨rfl, rfl⟩ := hop
        refine Rg.op (Qbj (H := H) (L := L) (M := M) hT hng hih) hd h0 hw (d := d') (σ1 := σ1) ?_ ?_
        · unfold QJ
          split
          · next f args tys hopo => exact (hne _ _ _ hopo).elim
          · exact hdop
        · have : ({ σ1 with n := s.st.n + 1 } : St) = (⟨s.n + 1, (nextS s.n s a o.op σ1).h, (nextS s.n s a o.op σ1).tk⟩ : EvS).st := by
            have q1 := congrArg St.objs hnx
            have q2 := congrArg St.toks hnx
            simp only [EvS.st, St.mk.injEq, true_and] at q1 q2 ⊢
            exact ⟨q1.symm, q2.symm⟩
          rw [this]
          exact hk
      · next hu =>
        simp only [Option.some.injEq, Prod.mk.injEq] at hop; obtain ⟨rfl, rfl⟩ := hop
        refine Rg.op0 (Qbj (H := H) (L := L) (M := M) hT hng hih) hd h0 hw hu hdop (Qkj hdop) ?_
        rw [← hnx]
        exact hk
    · simp at hop
theorem Rg.runZ {ih : Ev} (hT : QH P T) (hH : QkR P H) (hng : Qb7 P) (hih : QkO P T ih) {E : Entry} {n : Nat} {ops : Array Oper} {K : (Nat → DV) → St → Prop} (hd : Q8 n ops = true) : ∀ (l : List Nat) (a : Nat → DV) (s : EvS) (r : (Nat → DV) × EvS), Qbg (dnZ P T H L M ih ops) ops l a s = some r → K r.1 r.2.st → Rg P E n ops K l a s.st
  | [], a, s, r, h, hk => by simp [Qbg] at h; subst h; exact Rg.nil hk
  | i :: l, a, s, r, h, hk => by
    simp only [Qbg] at h
    split at h
    · next d s1 hi =>
      have hr := Rg.runZ hT hH hng hih (E := E) (K := K) hd l _ _ r h hk
      unfold dnZ at hi
      split at hi
      · simp at hi
      · next o ho =>
        have hdo : Qaa ops i = o.dst := by simp [Qaa, ho]
        rw [hdo] at hr
        split at hi
        · next hw =>
          unfold opZ at hi
          split at hi
          · exact Rg.evOpA hT hH hng hih hd ho hw hi hr
          · next hne =>
            split at hi
            · next ht =>
              split at hi
              · next d' σ1 hdop =>
                simp only [Option.some.injEq, Prod.mk.injEq] at hi; obtain ⟨rfl, rfl⟩ := hi
                have hu : Qam o.op = false := by
                  revert ht
                  cases o.op <;> simp [touch, Qam]
                  next c =>
                    obtain ⟨callee, args, tys⟩ := c
                    cases callee with
                    | builtin b => cases b <;> simp [touch, Qam]
                    | _ => simp [touch, Qam]
                have := Qbw hdop
                rw [ht] at this
                obtain ⟨rfl, hall⟩ := this
                exact Rg.op0 (Qbj (H := H) (L := L) (M := M) hT hng hih) hd ho hw hu hdop rfl hr
              · simp at hi
            · simp at hi
        · next hw => simp only [Option.some.injEq, Prod.mk.injEq] at hi; obtain ⟨rfl, rfl⟩ := hi; exact Rg.no hd ho hw hr
        · simp at hi
    · simp at h
theorem Qej {ih : Ev} {ops : Array Oper} : ∀ (l : List Oper) (i : Nat) (r : Tr DV) (s : EvS) (r' : Tr DV) (s' : EvS), (∀ j, l[j]? = ops[i + j]?) → evZL P T H L M ih ops l r s = some (r', s') →
    Qbg (dnZ P T H L M ih ops) ops (List.range' i l.length) (rg r) s = some (rg r', s')
  | [], i, r, s, r', s', _, h => by simp [evZL] at h; obtain ⟨rfl, rfl⟩ := h; rfl
  | o :: rest, i, r, s, r', s', hl, h => by
    have h0 : ops[i]? = some o := by have := hl 0; simpa using this.symm
    have ht : ∀ j, rest[j]? = ops[i + 1 + j]? := fun j => by have := hl (j + 1); rw [show i + 1 + j = i + (j + 1) by omega]; simpa using this
    have hdo : Qaa ops i = o.dst := by simp [Qaa, h0]
    simp only [List.length_cons, List.range'_succ, Qbg, dnZ, h0, hdo]
    simp only [evZL] at h
    split at h
    · next hw =>
      try rw [hw]
      try simp only []
      split at h
      · next d s2 hd =>
        simp only [hd]
        rw [← Qbm]
        exact Qej rest (i + 1) _ _ _ _ ht h
      · simp at h
    · next hw =>
      try rw [hw]
      try simp only []
      rw [← Qbm]
      exact Qej rest (i + 1) _ _ _ _ ht h
    · simp at h
theorem evZ_sound (hm : P.follows .mixedOrders = true) {ih : Ev} (hT : QH P T) (hH : QkR P H) (hng : Qb7 P) (hih : QkO P T ih) {E : Entry} {n id : Nat} {ops : Array Oper} {r r' : Tr DV} {s s' : EvS} (hc : Q8 n ops = true)
    (h : evZ P T H L M ih ops r s = some (r', s')) : Dwp P T E n (.region id ops true) (At .normal r' s') (rg r) s.st := by
  unfold evZ at h
  split at h
  · next hany =>
    have hl := Qej ops.toList 0 r s r' s' (fun j => by simp) h
    rw [show List.range' 0 ops.toList.length = List.range ops.size by rw [List.range_eq_range']; simp] at hl
    exact ⟨fun ca w ds hok => wp_region_draw fun t => by
      simp only [Region.schedule, hm, Bool.true_or, if_true]
      have hx := Qlq (dn := dnZ P T H L M ih ops) (ls := lsZ ops) swapZ hany ops.size t (List.range ops.size) (Array.replicate ops.size false) (rg r) s (by simp) List.pairwise_lt_range (fun i => by simp; intro hi; simp [hi]) (by simp) (fun m hm' => by
        exfalso
        simp only [Array.getD_eq_getD_getElem?, Array.getElem?_replicate] at hm'
        split at hm' <;> simp at hm') hl
      exact Rg.runZ hT hH hng hih (E := E) (K := At .normal r' s' .normal) hc _ _ _ _ hx ⟨rfl, rfl, rfl⟩ ca w.drew ds _ hok.drew fun ca' w' a2 σ2 hk hok' => ⟨rfl, .normal, a2, σ2, rfl, hk, hok'⟩⟩
  · simp at h
theorem Tr.get_map (f : DV → DV) : ∀ (r : Tr DV) (i : Nat), (Tr.map f r).get i = (r.get i).map f
  | .leaf, i => by simp [Tr.map, Tr.get]
  | .node l v r, 0 => by cases v <;> simp [Tr.map, Tr.get]
  | .node l v r, i + 1 => by
    simp only [Tr.map, Tr.get]
    split
    · exact Tr.get_map f l _
    · exact Tr.get_map f r _
theorem fzOne_sound {E : Entry} {n : Nat} {c : Code} {Q : Ex → (Nat → DV) → St → Prop} {t : Nat} {r r' : Tr DV} {s s' : EvS} (h : QjJ t r s = (r', s')) (hq : Dwp P T E n c Q (rg r') s'.st) : Dwp P T E n c Q (rg r) s.st := by
  unfold QjJ at h
  split at h
  · next id off hr =>
    split at h
    · next ty cs ho =>
      simp only [Prod.mk.injEq] at h; obtain ⟨rfl, rfl⟩ := h
      refine Dwp.freeze id (rg (Tr.map (frzD id cs) r)) (o := .cells ty cs) ho (fun t => ?_) ?_
      · simp only [rg, Tr.get_map]
        cases hg : r.get t with
        | none => exact .keep _
        | some d =>
          simp only [Option.map_some]
          unfold frzD
          split
          · next i off' =>
            split
            · next hb =>
              have := Nat.eq_of_beq_eq_true hb
              subst this
              exact .box off' ho
            · exact .keep _
          · exact .keep _
      · have : (⟨s.n, s.h.put id none, s.tk⟩ : EvS).st = { s.st with objs := upd s.st.objs id none } := by
          simp only [EvS.st, St.mk.injEq, true_and, and_true]
          funext j; rw [Tr.get_put]; rfl
        rw [← this]; exact hq
    · simp only [Prod.mk.injEq] at h; obtain ⟨rfl, rfl⟩ := h; exact hq
  · simp only [Prod.mk.injEq] at h; obtain ⟨rfl, rfl⟩ := h; exact hq
theorem QhQ {E : Entry} {n : Nat} {c : Code} {Q : Ex → (Nat → DV) → St → Prop} : ∀ (ts : List Nat) {r r' : Tr DV} {s s' : EvS}, fzL ts r s = (r', s') → Dwp P T E n c Q (rg r') s'.st → Dwp P T E n c Q (rg r) s.st
  | [], r, r', s, s', h, hq => by simp only [fzL, Prod.mk.injEq] at h; obtain ⟨rfl, rfl⟩ := h; exact hq
  | t :: ts, r, r', s, s', h, hq => by
    simp only [fzL] at h
    exact fzOne_sound (t := t) (r' := (QjJ t r s).1) (s' := (QjJ t r s).2) rfl (QhQ ts h hq)
theorem Qep {T' : Tab} {ks : List Value} {σ : St} {ops : Array Oper} : ∀ (l : List Oper) (i : Nat) (r : Tr DV) (s : Option Sl) (r' : Tr DV) (s' : Option Sl), (∀ j, l[j]? = ops[i + j]?) → evKL P T' ks σ ops l r s = some (r', s') →
    Qbg (dnK P T' ks σ ops) ops (List.range' i l.length) (rg r) s = some (rg r', s')
  | [], i, r, s, r', s', _, h => by simp [evKL] at h; obtain ⟨rfl, rfl⟩ := h; rfl
  | o :: rest, i, r, s, r', s', hl, h => by
    have h0 : ops[i]? = some o := by have := hl 0; simpa using this.symm
    have ht : ∀ j, rest[j]? = ops[i + 1 + j]? := fun j => by have := hl (j + 1); rw [show i + 1 + j = i + (j + 1) by omega]; simpa using this
    have hdo : Qaa ops i = o.dst := by simp [Qaa, h0]
    simp only [List.length_cons, List.range'_succ, Qbg, dnK, h0, hdo]
    simp only [evKL] at h
    split at h
    · next hw =>
      try rw [hw]
      try simp only []
      split at h
      · next d s2 hd =>
        simp only [hd]
        rw [← Qbm]
        exact Qep rest (i + 1) _ _ _ _ ht h
      · simp at h
    · next hw =>
      try rw [hw]
      try simp only []
      rw [← Qbm]
      exact Qep rest (i + 1) _ _ _ _ ht h
    · simp at h
theorem evK_sound (hm : P.follows .mixedOrders = true) {ih : Ev} (hT' : QH P (Qf1 P T H L M ih)) {E : Entry} {n id : Nat} {m : Mode} {ops : Array Oper} {r r' : Tr DV} {s s' : EvS} (hc : Q8 n ops = true)
    (h : evK P T H L M ih m ops r s = some (r', s')) : Dwp P T E n (.region id ops true) (At .normal r' s') (rg r) s.st := by
  unfold evK at h
  split at h
  · simp at h
  · next k ks hk =>
    split at h
    · simp at h
    · next hany =>
      have hl : ∀ {r1 : Tr DV} {s1 : Option Sl}, evKL P (Qf1 P T H L M ih) (k :: ks) s.st ops ops.toList r none = some (r1, s1) → Qbg (dnK P (Qf1 P T H L M ih) (k :: ks) s.st ops) ops (List.range ops.size) (rg r) none = some (rg r1, s1) := by
        intro r1 s1 h1
        have := Qep ops.toList 0 r none r1 s1 (fun j => by simp) h1
        rwa [show List.range' 0 ops.toList.length = List.range ops.size by rw [List.range_eq_range']; simp] at this
      split at h
      · next r1 h1 =>
        simp only [Option.some.injEq, Prod.mk.injEq] at h; obtain ⟨rfl, rfl⟩ := h
        exact Dwp.drawK hm hT' hc hany (hl h1) ⟨rfl, rfl, rfl⟩
      · next r1 sl h1 =>
        simp only [Option.some.injEq, Prod.mk.injEq] at h; obtain ⟨rfl, rfl⟩ := h
        refine Dwp.drawK hm hT' hc hany (hl h1) ⟨rfl, rfl, ?_⟩
        simp only [kst, EvS.st, St.mk.injEq, true_and, and_true]
        funext j
        rw [Tr.get_put]
        simp [upd]
      · simp at h
theorem Qi5 (hm : P.follows .mixedOrders = true) (hT : QH P T) (hH : QkR P H) (hng : Qb7 P) : ∀ f, QkO P T (ev P T H L M f) := by
  intro f
  induction f using Nat.strongRecOn with
  | _ f ih =>
    intro m c r s e r' s' h n hc E
    cases f with
    | zero => simp [ev] at h
    | succ f =>
      have ihf : QkO P T (ev P T H L M f) := ih f (by omega)
      cases c with
      | skip => simp [ev] at h; obtain ⟨rfl, rfl, rfl⟩ := h; exact Dwp.skip ⟨rfl, rfl, rfl⟩
      | exit id => simp [ev] at h; obtain ⟨rfl, rfl, rfl⟩ := h; exact Dwp.exit ⟨rfl, rfl, rfl⟩
      | ret => simp [ev] at h; obtain ⟨rfl, rfl, rfl⟩ := h; exact Dwp.ret ⟨rfl, rfl, rfl⟩
      | seq x y =>
        simp only [codeOk, Bool.and_eq_true] at hc
        simp only [ev] at h
        split at h
        · next r1 s1 h1 =>
          refine Dwp.seq ((ihf _ x _ _ _ _ _ h1 n hc.1 E).mono ?_)
          rintro e2 a2 σ2 ⟨rfl, rfl, rfl⟩
          exact QhQ (Qku m x) rfl (ihf _ y _ _ _ _ _ h n hc.2 E)
        · next hne =>
          refine Dwp.seq ((ihf _ x _ _ _ _ _ h n hc.1 E).mono ?_)
          rintro e2 a2 σ2 ⟨rfl, rfl, rfl⟩
          cases e2 with
          | normal => exact (hne _ _ h).elim
          | exit id => exact ⟨rfl, rfl, rfl⟩
          | ret => exact ⟨rfl, rfl, rfl⟩
      | cond c x y =>
        simp only [codeOk, Bool.and_eq_true] at hc
        simp only [ev] at h
        split at h
        · next hb => exact Dwp.condT hb (ihf _ x _ _ _ _ _ h n hc.1 E)
        · next hb => exact Dwp.condF hb (ihf _ y _ _ _ _ _ h n hc.2 E)
        · simp at h
      | block id c =>
        simp only [codeOk] at hc
        simp only [ev] at h
        split at h
        · next id' r1 s1 h1 =>
          split at h
          · next hb =>
            simp only [Option.some.injEq, Prod.mk.injEq] at h; obtain ⟨rfl, rfl, rfl⟩ := h
            refine Dwp.block ((ihf _ c _ _ _ _ _ h1 n hc E).mono ?_)
            rintro e2 a2 σ2 ⟨rfl, rfl, rfl⟩
            simp only [Ex.inBlock]; rw [if_pos (Nat.eq_of_beq_eq_true hb)]; exact ⟨rfl, rfl, rfl⟩
          · next hb =>
            simp only [Option.some.injEq, Prod.mk.injEq] at h; obtain ⟨rfl, rfl, rfl⟩ := h
            refine Dwp.block ((ihf _ c _ _ _ _ _ h1 n hc E).mono ?_)
            rintro e2 a2 σ2 ⟨rfl, rfl, rfl⟩
            simp only [Ex.inBlock]; rw [if_neg (Nat.ne_of_beq_eq_false hb)]; exact ⟨rfl, rfl, rfl⟩
        · next hne =>
          refine Dwp.block ((ihf _ c _ _ _ _ _ h n hc E).mono ?_)
          rintro e2 a2 σ2 ⟨rfl, rfl, rfl⟩
          cases e2 with
          | normal => exact ⟨rfl, rfl, rfl⟩
          | exit id => exact (hne _ _ _ h).elim
          | ret => exact ⟨rfl, rfl, rfl⟩
      | loop c =>
        simp only [codeOk] at hc
        refine Dwp.loop (fun k a σ => k ≤ f + 1 ∧ ∃ r s, a = rg r ∧ σ = s.st ∧ ev P T H L M k m (.loop c) r s = some (e, r', s')) (f + 1) ⟨Nat.le_refl _, r, s, rfl, rfl, h⟩ ?_
        rintro k a σ ⟨hk, r1, s1, rfl, rfl, h1⟩
        cases k with
        | zero => simp [ev] at h1
        | succ k =>
          have ihk : QkO P T (ev P T H L M k) := ih k (by omega)
          simp only [ev] at h1
          split at h1
          · next r2 s2 h2 =>
            refine (ihk _ c _ _ _ _ _ h2 n hc E).mono ?_
            rintro e2 a2 σ2 ⟨rfl, rfl, rfl⟩
            exact ⟨k, by omega, by omega, r2, s2, rfl, rfl, h1⟩
          · next hne =>
            refine (ihk _ c _ _ _ _ _ h1 n hc E).mono ?_
            rintro e2 a2 σ2 ⟨rfl, rfl, rfl⟩
            cases e2 with
            | normal => exact (hne _ _ h1).elim
            | exit id => exact ⟨rfl, rfl, rfl⟩
            | ret => exact ⟨rfl, rfl, rfl⟩
      | region id ops draw =>
        simp only [codeOk] at hc
        cases draw with
        | true =>
          have hT' := Qbj (H := H) (L := L) (M := M) hT hng ihf
          have viaT : ∀ ts r1 s1, evT P T H L M (ev P T H L M f) ops s.n 0 ops.toList [] r s = some (ts, r1, s1) →
              Qdg ts (fun τs => match QbH ops (fun i => τs.getD i .none) with
                | true => some (Ex.normal, r1, (⟨s1.n + ops.size, s1.h, s1.tk⟩ : EvS))
                | false => none) [] = some (e, r', s') → Dwp P T E n (.region id ops true) (At e r' s') (rg r) s.st := by
            intro ts r1 s1 hev hf
            rw [Qhf] at hf
            simp only [List.append_nil] at hf
            split at hf
            · next hany =>
              simp only [Option.some.injEq, Prod.mk.injEq] at hf; obtain ⟨rfl, rfl, rfl⟩ := hf
              obtain ⟨us, q1, q2, q3⟩ := Qhu ops.toList 0 [] r s ts r1 s1 (fun j => by simp) hev
              have hlen := Qij ops.toList 0 [] r s ts r1 s1 hev
              have hn1 := evT_n ops.toList 0 [] r s ts r1 s1 hev
              simp only [List.append_nil] at q1
              have hus : us = ts.reverse := by rw [q1]; simp
              have hr : List.range' 0 ops.toList.length = List.range ops.size := by rw [List.range_eq_range']; simp
              rw [hr] at q2 q3
              have hany' : QbH ops (fun i => us.getD i .none) = true := by rw [hus]; exact hany
              refine Dwp.drawn (τ := fun i => us.getD i .none) hm hT' hc hany' q2 (q3 _ (fun j _ => by simp) (by rw [hus]; simpa using hlen)) ?_ ⟨rfl, rfl, ?_⟩
              · exact hn1
              · show ({ s1.st with n := s.st.n + ops.size } : St) = _
                simp only [EvS.st, hn1]
            · simp at hf
          simp only [ev] at h
          split at h
          · next r1 s1 hK =>
            simp only [Option.some.injEq, Prod.mk.injEq] at h; obtain ⟨rfl, rfl, rfl⟩ := h
            exact evK_sound hm hT' hc hK
          split at h
          · next r1 s1 hZ =>
            simp only [Option.some.injEq, Prod.mk.injEq] at h; obtain ⟨rfl, rfl, rfl⟩ := h
            exact evZ_sound hm hT hH hng ihf hc hZ
          split at h
          · next hany =>
            split at h
            · next r1 s1 h1 =>
              simp only [Option.some.injEq, Prod.mk.injEq] at h; obtain ⟨rfl, rfl, rfl⟩ := h
              have := Qd1 (H := H) (L := L) (M := M) ops.toList 0 r s r1 s1 (fun j => by simp) h1
              rw [show List.range' 0 ops.toList.length = List.range ops.size by rw [List.range_eq_range']; simp] at this
              exact Dwp.drawX hm hT' (fun g xs s d s' hq => Qd8 hT hH hng ihf hq) hc hany this ⟨rfl, rfl, rfl⟩
            · split at h
              · next ts r1 s1 h1 => exact viaT _ _ _ h1 h
              · simp at h
          · split at h
            · next ts r1 s1 h1 => exact viaT _ _ _ h1 h
            · simp at h
        | false =>
          simp only [ev] at h
          split at h
          · next r1 s1 h1 =>
            simp only [Option.some.injEq, Prod.mk.injEq] at h; obtain ⟨rfl, rfl, rfl⟩ := h
            refine Dwp.regH fun K hK => ?_
            have := Qbi hT hH hng ihf hc (E := E) (K := K) ops.toList 0 r s r1 s1 (fun j => by simp) h1 (hK _ _ ⟨rfl, rfl, rfl⟩)
            rwa [show List.range' 0 ops.toList.length = List.range ops.size by rw [List.range_eq_range']; simp] at this
          · simp at h
      | _ => simp [codeOk] at hc
theorem HC.of_ev (hm : P.follows .mixedOrders = true) (hT : QH P T) (hH : QkR P H) (hng : Qb7 P) {g : FuncId} {xs : List DV} {s s' : EvS} {d : DV} (f : Nat) (h : evC P T H L M (ev P T H L M f) g xs s = some (d, s')) : HC P g xs s.st (fun d2 σ2 => d2 = d ∧ σ2 = s'.st) :=
  Qd8 hT hH hng (Qi5 hm hT hH hng f) h
end Go.FA
namespace Go.Proofs.Y
open Go Go.FA Go.Proofs Go.RowKit
theorem unnamed : Qb7 Tryz.prog := by
  intro g fn h _
  have : Tryz.prog.funcs.all (fun fn => fn.name != "runtime.NumGoroutine") = true := by kernel_rfl
  have := Array.all_eq_true.1 this
  obtain ⟨h1, h2⟩ := Array.getElem?_eq_some_iff.1 h
  have h3 := this g h1
  rw [h2] at h3
  simpa using h3
theorem mixed : Tryz.prog.follows .mixedOrders = true := by kernel_rfl
end Go.Proofs.Y
namespace Go.Proofs.Yt
open Go Go.FA Go.Proofs
set_option maxRecDepth 100000
section
attribute [local simp] QF QZ Qo QJ own Qm dop QN eval Qr Qn Ex.then Ex.inBlock upd QV Tag.isNN Qp intCmp Qv Qx TyI.agg Qa Qu Qg Qs QX QA QD mapOf QQ QC Qq Qi Qj QI DV.cells Qt Qk QE QK rowsOf QL Qd Qe Qe.go Qz QB Qc goInt
def letter (c : Int) : Bool := decide (97 ≤ c) && decide (c ≤ 122) || decide (65 ≤ c) && decide (c ≤ 90)
def s173 : Sp := sp (QM (Enc.int .u8)) Enc.bool (fun c => some (letter c))
theorem c173 : Qb Tryz.prog 173 s173 := by
  refine Qb.of_sp (T := Qf []) Tryz.func173 rfl (Nat.le_of_ble_eq_true rfl) fun E c y hy => ?_
  simp at hy; subst hy
  refine Dwp.seq (Dwp.run Q9 rfl ?_)
  simp only [QF, QZ, Qo, QJ, own, Qm, dop, QN, eval, Qr, Qn, Ex.then, Ex.inBlock, upd, QV, Tag.isNN, Qp, intCmp, Qv, Qx, TyI.agg, Qa, Qu, Qg, Qs, QX, QA, QD, mapOf, QQ, QC, Qq, Qi, dcall, Qf, Qj, QI, DV.cells, setAt, Qt, Qk, QE, QK, rowsOf, QL, Qd, Qe, Qe.go, Qz, QB, Qc, goInt, true_and]
  refine Dwp.seq (Dwp.run Q9 rfl ?_)
  by_cases h1 : 97 ≤ c <;> by_cases h2 : c ≤ 122 <;> by_cases h3 : 65 ≤ c <;> by_cases h4 : c ≤ 90 <;>
  simp [dcall, Qf, setAt, init, QM, QR, Q6, Ql.one, Ql.and, Enc.bool, Enc.int, Enc.str, Enc.strs, Enc.slice, Enc.agg, Enc.tup, Enc.err, Enc.fn, h1, h2, h3, h4]
  all_goals (refine Dwp.ret ?_; simp [Q3, Qh, QW, frz, Q2, Q0, init, QM, QR, Q6, Ql.one, Ql.and, Enc.bool, Enc.int, Enc.str, Enc.strs, Enc.slice, Enc.agg, Enc.tup, Enc.err, Enc.fn, Tryz.results173, upd, letter, h1, h2, h3, h4])
theorem QhG (k : ByteArray) : ∀ (l : List ByteArray), assoc (.string k) (l.map .string) (l.map fun _ => .lit (.bool true)) = some (if k ∈ l then some (.lit (.bool true)) else none)
  | [] => rfl
  | x :: l => by
    simp only [List.map_cons, assoc, Qax, QhG k l]
    by_cases h : k = x
    · simp [h]
    · simp [h]
theorem Qgv (k : ByteArray) (x : DV) : ∀ (l : List ByteArray) (vs : List DV), k ∉ l → vs.length = l.length → putKey (.string k) x (l.map .string) vs = some (l.map .string ++ [.string k], vs ++ [x])
  | [], [], _, _ => rfl
  | [], _ :: _, _, h => by simp at h
  | _ :: _, [], _, h => by simp at h
  | y :: l, v :: vs, hn, h => by
    have h1 : k ≠ y := fun e => hn (by simp [e])
    have h2 : k ∉ l := fun e => hn (by simp [e])
    simp [putKey, Qax, h1, Qgv k x l vs h2 (by simpa using h)]
def s327 : Sp := sp (QM Enc.strs) Enc.bool (fun l => if l.length ≤ lim then some (decide l.Nodup) else none)
def inv327 (l : List ByteArray) : Nat → (Nat → DV) → St → Prop := fun k a σ => ∃ i, i ≤ l.length ∧ k = l.length - i ∧ (l.take i).Nodup ∧ a 3 = .map 1 ∧ a 7 = .slice 1 .none (l.map fun s => [DV.lit (.string s)]) ∧
    a 8 = .lit (.int .i64 l.length) ∧ a 9 = .lit (.int .i64 i) ∧ σ.objs 1 = some (.map ((l.take i).map .string) ((l.take i).map fun _ => .lit (.bool true)))
theorem c327 : Qb Tryz.prog 327 s327 := by
  refine Qb.of_sp (T := Qf []) Tryz.func327 rfl (Nat.le_of_ble_eq_true rfl) fun E l y hy => ?_
  by_cases hlim : l.length ≤ lim <;> simp [hlim] at hy
  subst hy
  unfold lim at hlim
  refine Dwp.step Q9 rfl fun K hK => ?_
  simp [dcall, Qf, setAt]
  refine hK _ _ ?_ rfl; clear hK K
  refine Dwp.step Q9 rfl fun K hK => ?_
  simp [dcall, Qf, setAt]
  refine hK _ _ ?_ rfl; clear hK K
  refine Dwp.seq (Dwp.step Q9 rfl fun K hK => ?_)
  simp [dcall, Qf, setAt, init, QM, QR, Q6, Ql.one, Ql.and, Enc.bool, Enc.int, Enc.str, Enc.strs, Enc.slice, Enc.agg, Enc.tup, Enc.err, Enc.fn, Qah]
  refine hK _ _ ?_ rfl; clear hK K
  refine Dwp.block (Dwp.loop (inv327 l) l.length ⟨0, by simp, by simp, by simp, by simp [upd, σ0], by simp [upd], by simp [upd], by simp [upd], by simp [upd, σ0]⟩ ?_)
  rintro k a σ ⟨i, hi, rfl, hnd, h3, h7, h8, h9, hobj⟩
  refine Dwp.step Q9 rfl fun K hK => ?_
  simp [dcall, Qf, setAt, h8, h9]
  refine hK _ _ ?_ rfl; clear hK K
  by_cases hlt : i < l.length
  · refine Dwp.seq (Dwp.condT (by simp [eval, upd, hlt]) (Dwp.skip ?_))
    refine Dwp.seq (Dwp.block (Dwp.step Q9 rfl fun K hK => ?_))
    simp [dcall, Qf, setAt, h7, h9, Qah, ty9, hlt]
    refine hK _ _ ?_ rfl; clear hK K
    have hA := QhG l[i] (l.take i)
    simp only [List.map_take] at hA
    refine Dwp.seq (Dwp.step Q9 rfl fun K hK => ?_)
    by_cases hm : l[i] ∈ l.take i
    · simp [dcall, Qf, setAt, h3, hobj, QfU, ty9, ty4, hA, hm]
      refine hK _ _ ?_ rfl; clear hK K
      refine Dwp.condT (by simp [eval, upd]) (Dwp.step Q9 rfl fun K hK => ?_)
      simp [dcall, Qf, setAt]
      refine hK _ _ (Dwp.ret ?_) rfl
      have hno : ¬ l.Nodup := by
        intro hn
        have h1 : l.take (i + 1) = l.take i ++ [l[i]] := by rw [List.take_succ_eq_append_getElem hlt]
        have h2 : (l.take (i + 1)).Nodup := List.Nodup.sublist (List.take_sublist _ _) hn
        rw [h1, List.nodup_append] at h2
        exact h2.2.2 _ hm _ (by simp) rfl
      simp [Q3, Qh, QW, frz, Q2, Q0, init, QM, QR, Q6, Ql.one, Ql.and, Enc.bool, Enc.int, Enc.str, Enc.strs, Enc.slice, Enc.agg, Enc.tup, Enc.err, Enc.fn, Ex.then, Ex.inBlock, upd, hno]
    · simp [dcall, Qf, setAt, h3, hobj, QfU, ty9, ty4, hA, hm]
      refine hK _ _ ?_ rfl; clear hK K
      refine Dwp.condF (by simp [eval, upd]) (Dwp.skip ?_)
      refine Dwp.reg Q9 rfl fun K hK => ?_
      have hP := Qgv l[i] (.lit (.bool true)) (l.take i) ((l.take i).map fun _ => .lit (.bool true)) hm (by simp)
      simp only [List.map_take] at hP
      simp [dcall, Qf, setAt, h3, hobj, QfU, ty9, hP]
      refine hK _ _ ?_ rfl; clear hK K
      refine Dwp.reg Q9 rfl fun K hK => ?_
      simp [dcall, Qf, setAt, h9]
      refine hK _ _ ?_ rfl; clear hK K
      refine ⟨l.length - (i + 1), by omega, i + 1, by omega, rfl, ?_, by simp [upd, h3], by simp [upd, h7], by simp [upd, h8], ?_, ?_⟩
      · rw [List.take_succ_eq_append_getElem hlt, List.nodup_append]
        exact ⟨hnd, by simp, fun a ha b hb e => by simp at hb; subst hb; subst e; exact hm ha⟩
      · simp [upd, wrap_small (n := (i : Int) + 1) (by omega) (by omega)]
      · rw [List.take_succ_eq_append_getElem hlt]; simp [upd]; constructor <;> (rw [List.take_succ_eq_append_getElem (by simpa using hlt)]; simp)
  · refine Dwp.seq (Dwp.condF (by simp [eval, upd, hlt]) (Dwp.exit ?_))
    refine Dwp.step Q9 rfl fun K hK => ?_
    simp [dcall, Qf, setAt]
    refine hK _ _ (Dwp.ret ?_) rfl
    have : l.take i = l := List.take_of_length_le (by omega)
    rw [this] at hnd
    simp [Q3, Qh, QW, frz, Q2, Q0, init, QM, QR, Q6, Ql.one, Ql.and, Enc.bool, Enc.int, Enc.str, Enc.strs, Enc.slice, Enc.agg, Enc.tup, Enc.err, Enc.fn, upd, hnd]
theorem e173 : Go.FA.Good Tryz.prog (173, s173) := ⟨c173, Tryz.f173, _, Tryz.func173, rfl, by decide⟩
theorem e327 : Go.FA.Good Tryz.prog (327, s327) := ⟨c327, Tryz.f327, _, Tryz.func327, rfl, by decide⟩
def Qbo (c : Int) : Bool := letter c || (decide (48 ≤ c) && decide (c ≤ 57)) || c == 95
def Qb0 (c : Int) : Bool := decide (33 ≤ c) && decide (c ≤ 126) && !Qbo c && c != 34 && c != 39 && c != 92
def s175 : Sp := sp (QM (Enc.int .u8)) Enc.bool (fun c => some (Qbo c))
def s358 : Sp := sp (QM (Enc.int .u8)) Enc.bool (fun c => some (Qb0 c))
theorem t80 : QH Tryz.prog (Qf [(173, s173)]) := .cons e173 .nil
theorem c175 : Qb Tryz.prog 175 s175 := by
  refine Qb.of_sp (T := Qf [(173, s173)]) Tryz.func175 rfl (Nat.le_of_ble_eq_true rfl) fun E c y hy => ?_
  simp at hy; subst hy
  refine Dwp.step t80 rfl fun K hK => ?_
  simp [dcall, Qf, setAt]
  refine hK _ _ ?_ rfl; clear hK K
  refine Dwp.step t80 rfl fun K hK => ?_
  by_cases h1 : letter c = true <;> by_cases h2 : 48 ≤ c <;> by_cases h3 : c ≤ 57 <;> by_cases h4 : c = 95 <;>
    simp [dcall, Qf, setAt, init, QM, QR, Q6, Ql.one, Ql.and, Enc.bool, Enc.int, Enc.str, Enc.strs, Enc.slice, Enc.agg, Enc.tup, Enc.err, Enc.fn, s173, sp, h1, h2, h3, h4] <;> refine hK _ _ (Dwp.ret ?_) rfl <;> simp [Q3, Qh, QW, frz, Q2, Q0, init, QM, QR, Q6, Ql.one, Ql.and, Enc.bool, Enc.int, Enc.str, Enc.strs, Enc.slice, Enc.agg, Enc.tup, Enc.err, Enc.fn, upd, Qbo, h1, h2, h3, h4]
theorem e175 : Go.FA.Good Tryz.prog (175, s175) := ⟨c175, Tryz.f175, _, Tryz.func175, rfl, by decide⟩
theorem t82 : QH Tryz.prog (Qf [(175, s175)]) := .cons e175 .nil
theorem c358 : Qb Tryz.prog 358 s358 := by
  refine Qb.of_sp (T := Qf [(175, s175)]) Tryz.func358 rfl (Nat.le_of_ble_eq_true rfl) fun E c y hy => ?_
  simp at hy; subst hy
  refine Dwp.step t82 rfl fun K hK => ?_
  simp [dcall, Qf, setAt]
  refine hK _ _ ?_ rfl; clear hK K
  refine Dwp.step t82 rfl fun K hK => ?_
  by_cases h1 : 33 ≤ c
  · by_cases h2 : c ≤ 126
    · cases h3 : Qbo c with
      | true => simp [dcall, Qf, setAt, init, QM, QR, Q6, Ql.one, Ql.and, Enc.bool, Enc.int, Enc.str, Enc.strs, Enc.slice, Enc.agg, Enc.tup, Enc.err, Enc.fn, s175, sp, h1, h2, h3] <;> refine hK _ _ (Dwp.ret ?_) rfl <;> simp [Q3, Qh, QW, frz, Q2, Q0, init, QM, QR, Q6, Ql.one, Ql.and, Enc.bool, Enc.int, Enc.str, Enc.strs, Enc.slice, Enc.agg, Enc.tup, Enc.err, Enc.fn, upd, Qb0, h1, h2, h3]
      | false =>
        cases h4 : (c != 34) <;> cases h5 : (c != 39) <;> cases h6 : (c != 92) <;>
          simp [dcall, Qf, setAt, init, QM, QR, Q6, Ql.one, Ql.and, Enc.bool, Enc.int, Enc.str, Enc.strs, Enc.slice, Enc.agg, Enc.tup, Enc.err, Enc.fn, s175, sp, h1, h2, h3, h4, h5, h6] <;> refine hK _ _ (Dwp.ret ?_) rfl <;> simp [Q3, Qh, QW, frz, Q2, Q0, init, QM, QR, Q6, Ql.one, Ql.and, Enc.bool, Enc.int, Enc.str, Enc.strs, Enc.slice, Enc.agg, Enc.tup, Enc.err, Enc.fn, upd, Qb0, h1, h2, h3, h4, h5, h6]
    · simp [dcall, Qf, setAt, init, QM, QR, Q6, Ql.one, Ql.and, Enc.bool, Enc.int, Enc.str, Enc.strs, Enc.slice, Enc.agg, Enc.tup, Enc.err, Enc.fn, s175, sp, h1, h2] <;> refine hK _ _ (Dwp.ret ?_) rfl <;> simp [Q3, Qh, QW, frz, Q2, Q0, init, QM, QR, Q6, Ql.one, Ql.and, Enc.bool, Enc.int, Enc.str, Enc.strs, Enc.slice, Enc.agg, Enc.tup, Enc.err, Enc.fn, upd, Qb0, h1, h2]
  · simp [dcall, Qf, setAt, init, QM, QR, Q6, Ql.one, Ql.and, Enc.bool, Enc.int, Enc.str, Enc.strs, Enc.slice, Enc.agg, Enc.tup, Enc.err, Enc.fn, s175, sp, h1] <;> refine hK _ _ (Dwp.ret ?_) rfl <;> simp [Q3, Qh, QW, frz, Q2, Q0, init, QM, QR, Q6, Ql.one, Ql.and, Enc.bool, Enc.int, Enc.str, Enc.strs, Enc.slice, Enc.agg, Enc.tup, Enc.err, Enc.fn, upd, Qb0, h1]
theorem e358 : Go.FA.Good Tryz.prog (358, s358) := ⟨c358, Tryz.f358, _, Tryz.func358, rfl, by decide⟩
def Qgf (p : Int → Bool) (s : ByteArray) : Bool := s.data.toList.all fun b => p (b.toNat : Int)
def Qf4 (f : FuncId) : Option (Int → Bool) := if f = 175 then some Qbo else if f = 358 then some Qb0 else none
def s174 : Sp := sp (QR Enc.str Enc.fn) Enc.bool (fun x => if x.1.size ≤ lim then (Qf4 x.2).map fun p => Qgf p x.1 else none)
theorem t81 : QH Tryz.prog (Qf [(175, s175), (358, s358)]) := .cons e175 (.cons e358 .nil)
theorem call174 (f : FuncId) (p : Int → Bool) (h : Qf4 f = some p) (c : Int) : dcall (Qf [(175, s175), (358, s358)]) f [.lit (.int .u8 c)] = some (.lit (.bool (p c))) := by
  unfold Qf4 at h
  split at h
  · next e => simp at h; subst e; subst h; simp [dcall, Qf, s175, sp, init, QM, QR, Q6, Ql.one, Ql.and, Enc.bool, Enc.int, Enc.str, Enc.strs, Enc.slice, Enc.agg, Enc.tup, Enc.err, Enc.fn]
  · split at h
    · next e => simp at h; subst e; subst h; simp [dcall, Qf, s358, sp, init, QM, QR, Q6, Ql.one, Ql.and, Enc.bool, Enc.int, Enc.str, Enc.strs, Enc.slice, Enc.agg, Enc.tup, Enc.err, Enc.fn]
    · simp at h
def inv174 (s : ByteArray) (f : FuncId) (p : Int → Bool) : Nat → (Nat → DV) → St → Prop := fun k a σ => ∃ i, i ≤ s.size ∧ k = s.size - i ∧ ((s.data.toList.take i).all fun b => p (b.toNat : Int)) = true ∧
  a 0 = .lit (.string s) ∧ a 1 = .lit (.func (.func f) #[] #[]) ∧ a 7 = .lit (.int .i64 s.size) ∧ a 8 = .lit (.int .i64 i)
theorem c174 : Qb Tryz.prog 174 s174 := by
  refine Qb.of_sp (T := Qf [(175, s175), (358, s358)]) Tryz.func174 rfl (Nat.le_of_ble_eq_true rfl) fun E x y hy => ?_
  obtain ⟨s, f⟩ := x
  by_cases hlim : s.size ≤ lim <;> simp [hlim] at hy
  obtain ⟨p, hp, rfl⟩ := hy
  unfold lim at hlim
  refine Dwp.step t81 rfl fun K hK => ?_
  simp [dcall, Qf, setAt]
  refine hK _ _ ?_ rfl; clear hK K
  refine Dwp.seq ?_
  refine Dwp.step t81 rfl fun K hK => ?_
  simp [dcall, Qf, setAt, init, QM, QR, Q6, Ql.one, Ql.and, Enc.bool, Enc.int, Enc.str, Enc.strs, Enc.slice, Enc.agg, Enc.tup, Enc.err, Enc.fn, ty9]
  refine hK _ _ ?_ rfl; clear hK K
  refine Dwp.block (Dwp.loop (inv174 s f p) s.size ⟨0, by simp, by simp, by simp, by simp [upd, init, init, QM, QR, Q6, Ql.one, Ql.and, Enc.bool, Enc.int, Enc.str, Enc.strs, Enc.slice, Enc.agg, Enc.tup, Enc.err, Enc.fn], by simp [upd, init, init, QM, QR, Q6, Ql.one, Ql.and, Enc.bool, Enc.int, Enc.str, Enc.strs, Enc.slice, Enc.agg, Enc.tup, Enc.err, Enc.fn], by simp [upd], by simp [upd]⟩ ?_)
  rintro k a σ ⟨i, hi, rfl, hall, h0, h1, h7, h8⟩
  refine Dwp.step t81 rfl fun K hK => ?_
  simp [dcall, Qf, setAt, h7, h8]
  refine hK _ _ ?_ rfl; clear hK K
  by_cases hlt : i < s.size
  · refine Dwp.seq (Dwp.condT (by simp [eval, upd, hlt]) (Dwp.skip ?_))
    refine Dwp.seq (Dwp.block ?_)
    refine Dwp.step t81 rfl fun K hK => ?_
    simp [dcall, Qf, setAt, h8]
    refine hK _ _ ?_ rfl; clear hK K
    refine Dwp.step t81 rfl fun K hK => ?_
    have hcall := call174 f p hp (s[i].toNat : Int)
    simp [QF, Qo, QJ, own, Qm, dop, QN, eval, Qn, upd, h0, h1, ty9, Qs, hlt, Qi, hcall]
    refine hK _ _ ?_ rfl; clear hK K
    have hbyte : s[i] = s.data.toList[i]'(by simpa using hlt) := rfl
    have htk : s.data.toList.take (i + 1) = s.data.toList.take i ++ [s[i]] := by rw [List.take_succ_eq_append_getElem (by simpa using hlt)]; rfl
    cases hpc : p (s[i].toNat : Int) with
    | true =>
      refine Dwp.condF (by simp [eval, upd, hpc]) (Dwp.skip ?_)
      refine Dwp.reg t81 rfl fun K hK => ?_
      simp [dcall, Qf, setAt, h8]
      refine hK _ _ ?_ rfl; clear hK K
      refine ⟨s.size - (i + 1), by omega, i + 1, by omega, rfl, ?_, by simp [upd, h0], by simp [upd, h1], by simp [upd, h7], by simp [upd, wrap_small (n := (i : Int) + 1) (by omega) (by omega)]⟩
      rw [htk, List.all_append, hall]; simp [hpc]
    | false =>
      refine Dwp.condT (by simp [eval, upd, hpc]) ?_
      refine Dwp.step t81 rfl fun K hK => ?_
      simp [dcall, Qf, setAt]
      refine hK _ _ (Dwp.ret ?_) rfl
      have hno : Qgf p s = false := by
        unfold Qgf
        rw [List.all_eq_false]
        exact ⟨s[i], by rw [hbyte]; exact List.getElem_mem _, by simp [hpc]⟩
      simp [Q3, Qh, QW, frz, Q2, Q0, init, QM, QR, Q6, Ql.one, Ql.and, Enc.bool, Enc.int, Enc.str, Enc.strs, Enc.slice, Enc.agg, Enc.tup, Enc.err, Enc.fn, Ex.then, Ex.inBlock, upd, hno]
  · refine Dwp.seq (Dwp.condF (by simp [eval, upd, hlt]) (Dwp.exit ?_))
    refine Dwp.step t81 rfl fun K hK => ?_
    simp [dcall, Qf, setAt]
    refine hK _ _ (Dwp.ret ?_) rfl
    have hyes : Qgf p s = true := by
      unfold Qgf
      rwa [List.take_of_length_le (by simpa using (Nat.le_of_not_lt hlt))] at hall
    simp [Q3, Qh, QW, frz, Q2, Q0, init, QM, QR, Q6, Ql.one, Ql.and, Enc.bool, Enc.int, Enc.str, Enc.strs, Enc.slice, Enc.agg, Enc.tup, Enc.err, Enc.fn, upd, hyes]
theorem e174 : Go.FA.Good Tryz.prog (174, s174) := ⟨c174, Tryz.f174, _, Tryz.func174, rfl, by decide⟩
end
end Go.Proofs.Yt
namespace Go.FA
open Go.RowKit
variable {C : Ctx} {w : World} {α β γ : Type}
def QcQ (A : Enc α) : List Value → List DV → Option (List (ByteArray × α))
  | [], [] => some []
  | .string k :: ks, v :: vs => match A.dec v, QcQ A ks vs with
    | some x, some r => some ((k, x) :: r)
    | _, _ => none
  | _, _ => none
theorem Qc6 (A : Enc α) : ∀ l : List (ByteArray × α), QcQ A (l.map fun p => .string p.1) (l.map fun p => A.enc p.2) = some l
  | [] => rfl
  | p :: l => by simp [QcQ, A.de, Qc6 A l]
theorem Qh3 (A : Enc α) : ∀ (ks : List Value) (vs : List DV) (l : List (ByteArray × α)), QcQ A ks vs = some l → ks = l.map (fun p => .string p.1) ∧ LLe vs (l.map fun p => A.enc p.2)
  | [], [], l, h => by simp [QcQ] at h; subst h; exact ⟨rfl, .nil⟩
  | [], _ :: _, l, h => by simp [QcQ] at h
  | k :: ks, [], l, h => by cases k <;> simp [QcQ] at h
  | k :: ks, v :: vs, l, h => by
    cases k <;> simp only [QcQ] at h <;> (try simp at h)
    split at h
    · next x r h1 h2 =>
      simp at h; subst h
      obtain ⟨q1, q2⟩ := Qh3 A ks vs r h2
      exact ⟨by simp [q1], .cons (A.le _ _ h1) q2⟩
    · simp at h
theorem QhE (A : Enc α) : ∀ l : List (ByteArray × α), QaX (l.map fun p => A.enc p.2) = true
  | [] => rfl
  | p :: l => by simp [QaX, A.pure, QhE A l]
def Enc.map (A : Enc α) : Enc (List (ByteArray × α)) where
  enc l := .fmap (l.map fun p => .string p.1) (l.map fun p => A.enc p.2)
  dec d := match d with | .fmap ks vs => QcQ A ks vs | _ => none
  le d x h := by
    split at h
    · obtain ⟨h1, h2⟩ := Qh3 A _ _ _ h
      intro C w v hv
      simp only [Qy] at hv ⊢
      obtain ⟨b, es, clock, q1, q2, q3, q4, q5, q6⟩ := hv
      exact ⟨b, es, clock, q1, q2, q3, by rw [q4, h1], Qbk h2 q5, q6⟩
    · simp at h
  pure x := by simp [QaV, QhE]
  de x := Qc6 A x
def Qc2 (k : ByteArray) : List (ByteArray × α) → Option α
  | [] => none
  | p :: l => if k = p.1 then some p.2 else Qc2 k l
theorem Qd3 (A : Enc α) (k : ByteArray) : ∀ l : List (ByteArray × α), assoc (.string k) (l.map fun p => .string p.1) (l.map fun p => A.enc p.2) = some ((Qc2 k l).map A.enc)
  | [] => rfl
  | p :: l => by
    simp only [List.map_cons, assoc, Qax, Qc2, Qd3 A k l]
    by_cases h : k = p.1
    · simp [h]
    · simp [h]
end Go.FA
namespace Go.Proofs.Yt
open Go Go.FA Go.Proofs
set_option maxRecDepth 100000
section
attribute [local simp] QF QZ Qo QJ own Qm dop QN eval Qr Qn Ex.then Ex.inBlock upd QV Tag.isNN Qp intCmp Qv Qx TyI.agg Qa Qu Qg Qs QX QA QD mapOf QQ QC Qq Qi Qj QI DV.cells Qt Qk QE QK rowsOf QL Qd Qe Qe.go Qz QB Qc goInt
structure Bel where
  low : ByteArray
  high : ByteArray
  deriving DecidableEq
structure Pie where
  text : ByteArray
  sort : ByteArray
  deriving DecidableEq
structure OpD where
  name : ByteArray
  args : List ByteArray
  sort : ByteArray
  pieces : List Pie
  prec : Int
  assoc : Int
  strict : List Int
structure SigD where
  sorts : List ByteArray
  below : List Bel
  ops : List OpD
  funs : List OpD
  values : List ByteArray
structure Book where
  highs : List (ByteArray × List ByteArray)
  ops : List (ByteArray × OpD)
  funs : List (ByteArray × OpD)
def Ql.bel : Ql Bel where
  k := 2
  enc b := [.lit (.string b.low), .lit (.string b.high)]
  dec r := match r with | [.lit (.string a), .lit (.string b)] => some ⟨a, b⟩ | _ => none
  len _ := rfl
  le r x h := by split at h <;> simp_all [LLe.refl]; subst h; exact LLe.refl _
  pure _ := rfl
  de _ := rfl
def Ql.pie : Ql Pie where
  k := 2
  enc b := [.lit (.string b.text), .lit (.string b.sort)]
  dec r := match r with | [.lit (.string a), .lit (.string b)] => some ⟨a, b⟩ | _ => none
  len _ := rfl
  le r x h := by split at h <;> simp_all [LLe.refl]; subst h; exact LLe.refl _
  pure _ := rfl
  de _ := rfl
def Enc.bels : Enc (List Bel) := Enc.slice Ql.bel
def Enc.pies : Enc (List Pie) := Enc.slice Ql.pie
def Enc.i64 : Enc Int := Enc.int .i64
def Enc.ints : Enc (List Int) := Enc.slice (Ql.one Enc.i64)
def Ql.opd : Ql OpD where
  k := 7
  enc o := [.lit (.string o.name), Enc.strs.enc o.args, .lit (.string o.sort), Enc.pies.enc o.pieces, .lit (.int .i64 o.prec), .lit (.int .i64 o.assoc), Enc.ints.enc o.strict]
  dec r := match r with
    | [d1, d2, d3, d4, d5, d6, d7] => match Enc.str.dec d1, Enc.strs.dec d2, Enc.str.dec d3, Enc.pies.dec d4, Enc.i64.dec d5, Enc.i64.dec d6, Enc.ints.dec d7 with
      | some x1, some x2, some x3, some x4, some x5, some x6, some x7 => some ⟨x1, x2, x3, x4, x5, x6, x7⟩
      | _, _, _, _, _, _, _ => none
    | _ => none
  len _ := rfl
  le r x h := by
    split at h
    · split at h
      · next h1 h2 h3 h4 h5 h6 h7 =>
        simp at h; subst h
        exact .cons (Enc.str.le _ _ h1) (.cons (Enc.strs.le _ _ h2) (.cons (Enc.str.le _ _ h3) (.cons (Enc.pies.le _ _ h4) (.cons (Enc.i64.le _ _ h5) (.cons (Enc.i64.le _ _ h6) (.cons (Enc.ints.le _ _ h7) .nil))))))
      · simp at h
    · simp at h
  pure x := by simp [QaX, Enc.strs.pure, Enc.pies.pure, Enc.ints.pure, QaV]
  de x := by
    have h1 := Enc.strs.de x.args
    have h2 := Enc.pies.de x.pieces
    have h3 := Enc.ints.de x.strict
    simp [h1, h2, h3, Enc.str, Enc.i64, Enc.int]
def Enc.opd : Enc OpD := Enc.agg Ql.opd
def Enc.ops : Enc (List OpD) := Enc.slice Ql.opd
def Ql.sigd : Ql SigD where
  k := 5
  enc s := [Enc.strs.enc s.sorts, Enc.bels.enc s.below, Enc.ops.enc s.ops, Enc.ops.enc s.funs, Enc.strs.enc s.values]
  dec r := match r with
    | [d1, d2, d3, d4, d5] => match Enc.strs.dec d1, Enc.bels.dec d2, Enc.ops.dec d3, Enc.ops.dec d4, Enc.strs.dec d5 with
      | some x1, some x2, some x3, some x4, some x5 => some ⟨x1, x2, x3, x4, x5⟩
      | _, _, _, _, _ => none
    | _ => none
  len _ := rfl
  le r x h := by
    split at h
    · split at h
      · next h1 h2 h3 h4 h5 =>
        simp at h; subst h
        exact .cons (Enc.strs.le _ _ h1) (.cons (Enc.bels.le _ _ h2) (.cons (Enc.ops.le _ _ h3) (.cons (Enc.ops.le _ _ h4) (.cons (Enc.strs.le _ _ h5) .nil))))
      · simp at h
    · simp at h
  pure x := by simp [QaX, Enc.strs.pure, Enc.bels.pure, Enc.ops.pure]
  de x := by
    have h1 := Enc.strs.de x.sorts
    have h2 := Enc.bels.de x.below
    have h3 := Enc.ops.de x.ops
    have h4 := Enc.ops.de x.funs
    have h5 := Enc.strs.de x.values
    simp [h1, h2, h3, h4, h5]
def Enc.sigd : Enc SigD := Enc.agg Ql.sigd
def Ql.book : Ql Book where
  k := 3
  enc b := [(Enc.map Enc.strs).enc b.highs, (Enc.map Enc.opd).enc b.ops, (Enc.map Enc.opd).enc b.funs]
  dec r := match r with
    | [d1, d2, d3] => match (Enc.map Enc.strs).dec d1, (Enc.map Enc.opd).dec d2, (Enc.map Enc.opd).dec d3 with
      | some x1, some x2, some x3 => some ⟨x1, x2, x3⟩
      | _, _, _ => none
    | _ => none
  len _ := rfl
  le r x h := by
    split at h
    · split at h
      · next h1 h2 h3 =>
        simp at h; subst h
        exact .cons ((Enc.map Enc.strs).le _ _ h1) (.cons ((Enc.map Enc.opd).le _ _ h2) (.cons ((Enc.map Enc.opd).le _ _ h3) .nil))
      · simp at h
    · simp at h
  pure x := by simp [QaX, (Enc.map Enc.strs).pure, (Enc.map Enc.opd).pure]
  de x := by
    have h1 := (Enc.map Enc.strs).de x.highs
    have h2 := (Enc.map Enc.opd).de x.ops
    have h3 := (Enc.map Enc.opd).de x.funs
    simp [h1, h2, h3]
def Enc.book : Enc Book := Enc.agg Ql.book
def idx (s : ByteArray) : List ByteArray → Nat → Int
  | [], _ => -1
  | x :: l, i => if s = x then i else idx s l (i + 1)
theorem Qiu (s : ByteArray) (l : List ByteArray) (i : Nat) (h : i < l.length) : idx s (l.drop i) i = if s = l[i] then (i : Int) else idx s (l.drop (i + 1)) (i + 1) := by
  rw [List.drop_eq_getElem_cons h]; rfl
theorem Qj4 (s : ByteArray) : ∀ (l : List ByteArray) (i : Nat), (0 ≤ idx s l i) = (s ∈ l)
  | [], i => by simp [idx]
  | x :: l, i => by
    simp only [idx, List.mem_cons]
    by_cases h : s = x
    · simp [h]
    · simp [h, Qj4 s l (i + 1)]
def s288 : Sp := sp (QR Enc.strs Enc.str) Enc.i64 (fun x => if x.1.length ≤ lim then some (idx x.2 x.1 0) else none)
def inv288 (l : List ByteArray) (s : ByteArray) : Nat → (Nat → DV) → St → Prop := fun k a σ => ∃ i, i ≤ l.length ∧ k = l.length - i ∧ idx s l 0 = idx s (l.drop i) i ∧
  a 0 = .slice 1 .none (l.map fun s => [DV.lit (.string s)]) ∧ a 1 = .lit (.string s) ∧ a 7 = .lit (.int .i64 l.length) ∧ a 8 = .lit (.int .i64 i)
theorem c288 : Qb Tryz.prog 288 s288 := by
  refine Qb.of_sp (T := Qf []) Tryz.func288 rfl (Nat.le_of_ble_eq_true rfl) fun E x y hy => ?_
  obtain ⟨l, s⟩ := x
  by_cases hlim : l.length ≤ lim <;> simp [hlim] at hy
  subst hy
  unfold lim at hlim
  refine Dwp.step Q9 rfl fun K hK => ?_
  simp [dcall, Qf, setAt]
  refine hK _ _ ?_ rfl; clear hK K
  refine Dwp.seq ?_
  refine Dwp.step Q9 rfl fun K hK => ?_
  simp [dcall, Qf, setAt, init, QM, QR, Q6, Ql.one, Ql.and, Enc.bool, Enc.int, Enc.str, Enc.strs, Enc.slice, Enc.agg, Enc.tup, Enc.err, Enc.fn, Qah]
  refine hK _ _ ?_ rfl; clear hK K
  refine Dwp.block (Dwp.loop (inv288 l s) l.length ⟨0, by simp, by simp, by simp, by simp [upd, init, init, QM, QR, Q6, Ql.one, Ql.and, Enc.bool, Enc.int, Enc.str, Enc.strs, Enc.slice, Enc.agg, Enc.tup, Enc.err, Enc.fn], by simp [upd, init, init, QM, QR, Q6, Ql.one, Ql.and, Enc.bool, Enc.int, Enc.str, Enc.strs, Enc.slice, Enc.agg, Enc.tup, Enc.err, Enc.fn], by simp [upd], by simp [upd]⟩ ?_)
  rintro k a σ ⟨i, hi, rfl, hidx, h0, h1, h7, h8⟩
  refine Dwp.step Q9 rfl fun K hK => ?_
  simp [dcall, Qf, setAt, h7, h8]
  refine hK _ _ ?_ rfl; clear hK K
  by_cases hlt : i < l.length
  · refine Dwp.seq (Dwp.condT (by simp [eval, upd, hlt]) (Dwp.skip ?_))
    refine Dwp.seq (Dwp.block ?_)
    refine Dwp.step Q9 rfl fun K hK => ?_
    simp [dcall, Qf, setAt, h8]
    refine hK _ _ ?_ rfl; clear hK K
    refine Dwp.step Q9 rfl fun K hK => ?_
    simp [dcall, Qf, setAt, h0, h1, Qah, ty9, hlt]
    refine hK _ _ ?_ rfl; clear hK K
    by_cases he : s = l[i]
    · refine Dwp.condT (by simp [eval, upd, he]) ?_
      refine Dwp.step Q9 rfl fun K hK => ?_
      simp [dcall, Qf, setAt]
      refine hK _ _ (Dwp.ret ?_) rfl
      have : idx s l 0 = i := by rw [hidx, Qiu s l i hlt, if_pos he]
      simp [Q3, Qh, QW, frz, Q2, Q0, init, QM, QR, Q6, Ql.one, Ql.and, Enc.bool, Enc.int, Enc.str, Enc.strs, Enc.slice, Enc.agg, Enc.tup, Enc.err, Enc.fn, Enc.i64, Ex.then, Ex.inBlock, upd, this]
    · refine Dwp.condF (by simp [eval, upd, he]) (Dwp.skip ?_)
      refine Dwp.reg Q9 rfl fun K hK => ?_
      simp [dcall, Qf, setAt, h8]
      refine hK _ _ ?_ rfl; clear hK K
      refine ⟨l.length - (i + 1), by omega, i + 1, by omega, rfl, ?_, by simp [upd, h0], by simp [upd, h1], by simp [upd, h7], by simp [upd, wrap_small (n := (i : Int) + 1) (by omega) (by omega)]⟩
      rw [hidx, Qiu s l i hlt, if_neg he]
  · refine Dwp.seq (Dwp.condF (by simp [eval, upd, hlt]) (Dwp.exit ?_))
    refine Dwp.step Q9 rfl fun K hK => ?_
    simp [dcall, Qf, setAt]
    refine hK _ _ (Dwp.ret ?_) rfl
    have : idx s l 0 = -1 := by rw [hidx, List.drop_eq_nil_of_le (by omega)]; rfl
    simp [Q3, Qh, QW, frz, Q2, Q0, init, QM, QR, Q6, Ql.one, Ql.and, Enc.bool, Enc.int, Enc.str, Enc.strs, Enc.slice, Enc.agg, Enc.tup, Enc.err, Enc.fn, Enc.i64, upd, this]
theorem e288 : Go.FA.Good Tryz.prog (288, s288) := ⟨c288, Tryz.f288, _, Tryz.func288, rfl, by decide⟩
theorem t148 : QH Tryz.prog (Qf [(288, s288)]) := .cons e288 .nil
def s244 : Sp := sp (QR Enc.strs Enc.str) Enc.bool (fun x => if x.1.length ≤ lim then some (decide (x.2 ∈ x.1)) else none)
theorem c244 : Qb Tryz.prog 244 s244 := by
  refine Qb.of_sp (T := Qf [(288, s288)]) Tryz.func244 rfl (Nat.le_of_ble_eq_true rfl) fun E x y hy => ?_
  obtain ⟨l, s⟩ := x
  by_cases hlim : l.length ≤ lim <;> simp [hlim] at hy
  subst hy
  refine Dwp.step t148 rfl fun K hK => ?_
  simp [dcall, Qf, setAt]
  refine hK _ _ ?_ rfl; clear hK K
  refine Dwp.step t148 rfl fun K hK => ?_
  have hd := QaF (Ql.one Enc.str) l
  simp only [Ql.one, Enc.str] at hd
  simp [dcall, Qf, setAt, init, QM, QR, Q6, Ql.one, Ql.and, Enc.bool, Enc.int, Enc.str, Enc.strs, Enc.slice, Enc.agg, Enc.tup, Enc.err, Enc.fn, s288, sp, hd, hlim, Enc.i64]
  refine hK _ _ (Dwp.ret ?_) rfl
  simp [Q3, Qh, QW, frz, Q2, Q0, init, QM, QR, Q6, Ql.one, Ql.and, Enc.bool, Enc.int, Enc.str, Enc.strs, Enc.slice, Enc.agg, Enc.tup, Enc.err, Enc.fn, upd, Qj4]
theorem e244 : Go.FA.Good Tryz.prog (244, s244) := ⟨c244, Tryz.f244, _, Tryz.func244, rfl, by decide⟩
def bs (l : List UInt8) : ByteArray := ⟨l.toArray⟩
def QbR : List ByteArray := [⟨#[65, 110, 121]⟩, ⟨#[73, 110, 116]⟩, ⟨#[66, 111, 111, 108]⟩, ⟨#[84, 101, 120, 116]⟩, ⟨#[73, 100]⟩, ⟨#[76, 105, 115, 116]⟩, ⟨#[77, 97, 112]⟩]
def Ql.unit : Ql Unit where
  k := 0
  enc _ := []
  dec r := match r with | [] => some () | _ => none
  len _ := rfl
  le r x h := by split at h <;> simp_all; exact .nil
  pure _ := rfl
  de _ := rfl
def s324 : Sp := sp Ql.unit Enc.strs (fun _ => some QbR)
theorem c324 : Qb Tryz.prog 324 s324 := by
  refine Qb.of_sp (T := Qf []) Tryz.func324 rfl (Nat.le_of_ble_eq_true rfl) fun E x y hy => ?_
  simp at hy; subst hy
  refine Dwp.step Q9 rfl fun K hK => ?_
  simp [dcall, Qf, setAt]
  refine hK _ _ ?_ rfl; clear hK K
  refine Dwp.step Q9 rfl fun K hK => ?_
  simp [dcall, Qf, setAt, Qah, ty9]
  refine hK _ _ (Dwp.ret ?_) rfl
  simp [Q3, Qh, QW, frz, Q2, Q0, init, QM, QR, Q6, Ql.one, Ql.and, Enc.bool, Enc.int, Enc.str, Enc.strs, Enc.slice, Enc.agg, Enc.tup, Enc.err, Enc.fn, upd, Qat, QbR]
theorem e324 : Go.FA.Good Tryz.prog (324, s324) := ⟨c324, Tryz.f324, _, Tryz.func324, rfl, by decide⟩
def Book.has (b : Book) (s : ByteArray) : Bool := (Qc2 s b.highs).isSome
def s311 : Sp := sp (QR Enc.book Enc.strs) Enc.bool (fun x => if x.2.length ≤ lim then some (x.2.all x.1.has) else none)
def inv311 (b : Book) (l : List ByteArray) : Nat → (Nat → DV) → St → Prop := fun k a σ => ∃ i, i ≤ l.length ∧ k = l.length - i ∧ (l.take i).all b.has = true ∧
  a 2 = .row (Ql.book.enc b) 0 ∧ a 9 = .slice 1 .none (l.map fun s => [DV.lit (.string s)]) ∧ a 10 = .lit (.int .i64 l.length) ∧ a 11 = .lit (.int .i64 i)
theorem c311 : Qb Tryz.prog 311 s311 := by
  refine Qb.of_sp (T := Qf []) Tryz.func311 rfl (Nat.le_of_ble_eq_true rfl) fun E x y hy => ?_
  obtain ⟨b, l⟩ := x
  by_cases hlim : l.length ≤ lim <;> simp [hlim] at hy
  subst hy
  unfold lim at hlim
  refine Dwp.step Q9 rfl fun K hK => ?_
  simp [dcall, Qf, setAt, init, QM, QR, Q6, Ql.one, Ql.and, Enc.bool, Enc.int, Enc.str, Enc.strs, Enc.slice, Enc.agg, Enc.tup, Enc.err, Enc.fn, Enc.book]
  refine hK _ _ ?_ rfl; clear hK K
  refine Dwp.seq ?_
  refine Dwp.step Q9 rfl fun K hK => ?_
  simp [dcall, Qf, setAt, init, QM, QR, Q6, Ql.one, Ql.and, Enc.bool, Enc.int, Enc.str, Enc.strs, Enc.slice, Enc.agg, Enc.tup, Enc.err, Enc.fn, Qah]
  refine hK _ _ ?_ rfl; clear hK K
  refine Dwp.block (Dwp.loop (inv311 b l) l.length ⟨0, by simp, by simp, by simp, by simp [upd], by simp [upd], by simp [upd], by simp [upd]⟩ ?_)
  rintro k a σ ⟨i, hi, rfl, hall, h2, h9, h10, h11⟩
  refine Dwp.step Q9 rfl fun K hK => ?_
  simp [dcall, Qf, setAt, h10, h11]
  refine hK _ _ ?_ rfl; clear hK K
  by_cases hlt : i < l.length
  · refine Dwp.seq (Dwp.condT (by simp [eval, upd, hlt]) (Dwp.skip ?_))
    refine Dwp.seq (Dwp.block ?_)
    refine Dwp.step Q9 rfl fun K hK => ?_
    simp [dcall, Qf, setAt, h9, h11, Qah, ty9, hlt]
    refine hK _ _ ?_ rfl; clear hK K
    refine Dwp.step Q9 rfl fun K hK => ?_
    have ha := Qd3 Enc.strs l[i] b.highs
    have htk : l.take (i + 1) = l.take i ++ [l[i]] := List.take_succ_eq_append_getElem hlt
    cases hl : Qc2 l[i] b.highs with
    | none =>
      rw [hl] at ha
      simp [dcall, Qf, setAt, h2, Ql.book, Enc.map, Q1, Qdp, ty9, Qah, ha]
      refine hK _ _ ?_ rfl; clear hK K
      refine Dwp.step Q9 rfl fun K hK => ?_
      simp [dcall, Qf, setAt]
      refine hK _ _ ?_ rfl; clear hK K
      refine Dwp.condT (by simp [eval, upd]) ?_
      refine Dwp.step Q9 rfl fun K hK => ?_
      simp [dcall, Qf, setAt]
      refine hK _ _ (Dwp.ret ?_) rfl
      have hno : l.all b.has = false := by
        rw [List.all_eq_false]
        exact ⟨l[i], List.getElem_mem _, by simp [Book.has, hl]⟩
      simp [Q3, Qh, QW, frz, Q2, Q0, init, QM, QR, Q6, Ql.one, Ql.and, Enc.bool, Enc.int, Enc.str, Enc.strs, Enc.slice, Enc.agg, Enc.tup, Enc.err, Enc.fn, Ex.then, Ex.inBlock, upd, hno]
    | some v =>
      rw [hl] at ha
      simp [dcall, Qf, setAt, h2, Ql.book, Enc.map, Q1, Qdp, ty9, Qah, ha]
      refine hK _ _ ?_ rfl; clear hK K
      refine Dwp.step Q9 rfl fun K hK => ?_
      simp [dcall, Qf, setAt]
      refine hK _ _ ?_ rfl; clear hK K
      refine Dwp.condF (by simp [eval, upd]) (Dwp.skip ?_)
      refine Dwp.reg Q9 rfl fun K hK => ?_
      simp [dcall, Qf, setAt, h11]
      refine hK _ _ ?_ rfl; clear hK K
      refine ⟨l.length - (i + 1), by omega, i + 1, by omega, rfl, ?_, by simp [upd, h2, Ql.book, Enc.map], by simp [upd, h9], by simp [upd, h10], by simp [upd, wrap_small (n := (i : Int) + 1) (by omega) (by omega)]⟩
      rw [htk, List.all_append, hall]; simp [Book.has, hl]
  · refine Dwp.seq (Dwp.condF (by simp [eval, upd, hlt]) (Dwp.exit ?_))
    refine Dwp.step Q9 rfl fun K hK => ?_
    simp [dcall, Qf, setAt]
    refine hK _ _ (Dwp.ret ?_) rfl
    rw [List.take_of_length_le (by omega)] at hall
    simp [Q3, Qh, QW, frz, Q2, Q0, init, QM, QR, Q6, Ql.one, Ql.and, Enc.bool, Enc.int, Enc.str, Enc.strs, Enc.slice, Enc.agg, Enc.tup, Enc.err, Enc.fn, upd, hall]
theorem Qk6 : Go.FA.Good Tryz.prog (311, s311) := ⟨c311, Tryz.f311, _, Tryz.func311, rfl, by decide⟩
theorem QdU (l : List ByteArray) : Qat (Ql.one Enc.str) (l.map fun s => [DV.lit (.string s)]) = some l := QaF (Ql.one Enc.str) l
def Book.decl (b : Book) (s : ByteArray) : Bool := b.has s && !decide (s ∈ QbR)
def s339 : Sp := sp (QR Enc.book Enc.str) Enc.bool (fun x => some (x.1.decl x.2))
theorem t99 : QH Tryz.prog (Qf [(311, s311), (324, s324), (244, s244)]) := .cons Qk6 (.cons e324 (.cons e244 .nil))
theorem Qeq (T : Tab) (hT : T 311 = some s311) (b : Book) (d : DV) (l : List ByteArray) (hd : Enc.strs.dec d = some l) (hl : l.length ≤ lim) : dcall T 311 [.agg (Ql.book.enc b), d] = some (.lit (.bool (l.all b.has))) := by
  simp [dcall, hT, s311, sp, QR, Ql.and, Ql.one, Enc.book, Enc.agg, Ql.book.de, hd, hl, Enc.bool]
theorem Qis (T : Tab) (hT : T 324 = some s324) : dcall T 324 [] = some (Enc.strs.enc QbR) := by
  simp [dcall, hT, s324, sp, Ql.unit]
theorem call244 (T : Tab) (hT : T 244 = some s244) (d : DV) (l : List ByteArray) (s : ByteArray) (hd : Enc.strs.dec d = some l) (hl : l.length ≤ lim) : dcall T 244 [d, .lit (.string s)] = some (.lit (.bool (decide (s ∈ l)))) := by
  simp [dcall, hT, s244, sp, QR, Ql.and, Ql.one, hd, hl, Enc.bool, Enc.str]
theorem c339 : Qb Tryz.prog 339 s339 := by
  refine Qb.of_sp (T := Qf [(311, s311), (324, s324), (244, s244)]) Tryz.func339 rfl (Nat.le_of_ble_eq_true rfl) fun E x y hy => ?_
  obtain ⟨b, s⟩ := x
  simp at hy; subst hy
  refine Dwp.step t99 rfl fun K hK => ?_
  simp [QF, Qo, QJ, own, Qm, dop, QN, eval, Qr, Qn, init, QM, QR, Q6, Ql.one, Ql.and, Enc.bool, Enc.int, Enc.str, Enc.strs, Enc.slice, Enc.agg, Enc.tup, Enc.err, Enc.fn, Enc.book, DV.cells]
  refine hK _ _ ?_ rfl; clear hK K
  refine Dwp.step t99 rfl fun K hK => ?_
  have hk : (Ql.book.enc b).length = 3 := Ql.book.len b
  have ht3 : (Ql.book.enc b).take 3 = Ql.book.enc b := List.take_of_length_le (by rw [hk]; exact Nat.le_refl _)
  have h54 := fun d l h1 h2 => Qeq (Qf [(311, s311), (324, s324), (244, s244)]) rfl b d l h1 h2
  have h1 := h54 (.slice 1 .full [[.lit (.string s)]]) [s] (by simp [init, QM, QR, Q6, Ql.one, Ql.and, Enc.bool, Enc.int, Enc.str, Enc.strs, Enc.slice, Enc.agg, Enc.tup, Enc.err, Enc.fn, Qat]) (by simp [lim])
  have h2 := Qis (Qf [(311, s311), (324, s324), (244, s244)]) rfl
  have h3 := call244 (Qf [(311, s311), (324, s324), (244, s244)]) rfl (Enc.strs.enc QbR) QbR s (Enc.strs.de QbR) (by simp [QbR, lim])
  cases hb : b.has s with
  | false =>
    simp [hb] at h1
    simp [QF, Qo, QJ, own, Qm, dop, QN, eval, Qr, Qn, upd, init, Qv, Qx, TyI.agg, Q1, Qah, ty9, hk, ht3, Qc, DV.cells, Qd, Qi, h1]
    refine hK _ _ (Dwp.ret ?_) rfl
    simp [Q3, Qh, QW, frz, Q2, Q0, init, QM, QR, Q6, Ql.one, Ql.and, Enc.bool, Enc.int, Enc.str, Enc.strs, Enc.slice, Enc.agg, Enc.tup, Enc.err, Enc.fn, upd, Book.decl, hb]
  | true =>
    simp [hb] at h1
    simp [QF, Qo, QJ, own, Qm, dop, QN, eval, Qr, Qn, upd, init, Qv, Qx, TyI.agg, Q1, Qah, ty9, hk, ht3, Qc, DV.cells, Qd, Qi, h1, h2, h3]
    refine hK _ _ (Dwp.ret ?_) rfl
    simp [Q3, Qh, QW, frz, Q2, Q0, init, QM, QR, Q6, Ql.one, Ql.and, Enc.bool, Enc.int, Enc.str, Enc.strs, Enc.slice, Enc.agg, Enc.tup, Enc.err, Enc.fn, upd, Book.decl, hb, QbR]
theorem e339 : Go.FA.Good Tryz.prog (339, s339) := ⟨c339, Tryz.f339, _, Tryz.func339, rfl, by decide⟩
def QU (s : ByteArray) : Bool := decide (s.size ≤ 40) && (match s.data.toList with | c :: _ => letter (c.toNat : Int) | [] => false) && Qgf Qbo s
def s105 : Sp := sp (QM Enc.str) Enc.bool (fun s => some (QU s))
theorem t38 : QH Tryz.prog (Qf [(173, s173), (174, s174)]) := .cons e173 (.cons e174 .nil)
theorem call173 (T : Tab) (hT : T 173 = some s173) (c : Int) : dcall T 173 [.lit (.int .u8 c)] = some (.lit (.bool (letter c))) := by
  simp [dcall, hT, s173, sp, init, QM, QR, Q6, Ql.one, Ql.and, Enc.bool, Enc.int, Enc.str, Enc.strs, Enc.slice, Enc.agg, Enc.tup, Enc.err, Enc.fn]
theorem QiF (T : Tab) (hT : T 174 = some s174) (s : ByteArray) (f : FuncId) (p : Int → Bool) (hp : Qf4 f = some p) (hs : s.size ≤ lim) : dcall T 174 [.lit (.string s), .lit (.func (.func f) #[] #[])] = some (.lit (.bool (Qgf p s))) := by
  simp [dcall, hT, s174, sp, init, QM, QR, Q6, Ql.one, Ql.and, Enc.bool, Enc.int, Enc.str, Enc.strs, Enc.slice, Enc.agg, Enc.tup, Enc.err, Enc.fn, hp, hs]
theorem QkB {s : ByteArray} : s ≠ ⟨#[]⟩ ↔ 0 < s.size := by
  constructor
  · intro h
    rcases Nat.eq_zero_or_pos s.size with q | q
    · exact absurd (ByteArray.ext (Array.eq_empty_of_size_eq_zero q)) h
    · exact q
  · rintro h rfl; simp [ByteArray.size] at h
theorem first_byte {s : ByteArray} (h : 0 < s.size) : ∃ r, s.data.toList = s[0] :: r := by
  have h' : 0 < s.data.toList.length := by simpa using h
  match hm : s.data.toList, h' with
  | c :: r, _ =>
    refine ⟨r, ?_⟩
    have : s[0] = s.data.toList[0] := rfl
    rw [this]; simp [hm]
theorem c105 : Qb Tryz.prog 105 s105 := by
  refine Qb.of_sp (T := Qf [(173, s173), (174, s174)]) Tryz.func105 rfl (Nat.le_of_ble_eq_true rfl) fun E s y hy => ?_
  simp at hy; subst hy
  refine Dwp.step t38 rfl fun K hK => ?_
  simp [dcall, Qf, setAt]
  refine hK _ _ ?_ rfl; clear hK K
  refine Dwp.step t38 rfl fun K hK => ?_
  have g80 := call173 (Qf [(173, s173), (174, s174)]) rfl
  by_cases h0 : s = ⟨#[]⟩
  · subst h0
    simp [QF, Qo, QJ, own, Qm, dop, QN, eval, Qr, Qn, upd, init, QV, init, QM, QR, Q6, Ql.one, Ql.and, Enc.bool, Enc.int, Enc.str, Enc.strs, Enc.slice, Enc.agg, Enc.tup, Enc.err, Enc.fn]
    refine hK _ _ (Dwp.ret ?_) rfl
    simp [Q3, Qh, QW, frz, Q2, Q0, init, QM, QR, Q6, Ql.one, Ql.and, Enc.bool, Enc.int, Enc.str, Enc.strs, Enc.slice, Enc.agg, Enc.tup, Enc.err, Enc.fn, upd, QU]
  · have hpos := QkB.1 h0
    obtain ⟨r, hr⟩ := first_byte hpos
    by_cases h1 : (s.size : Int) ≤ 40
    · have h1' : s.size ≤ 40 := by omega
      cases h2 : letter (s[0].toNat : Int) with
      | false =>
        simp [QF, Qo, QJ, own, Qm, dop, QN, eval, Qr, Qn, upd, init, QV, intCmp, init, QM, QR, Q6, Ql.one, Ql.and, Enc.bool, Enc.int, Enc.str, Enc.strs, Enc.slice, Enc.agg, Enc.tup, Enc.err, Enc.fn, h0, h1, Qj, ty9, QA, QX, goInt, Qs, hpos, Qi, g80, h2]
        refine hK _ _ (Dwp.ret ?_) rfl
        simp [Q3, Qh, QW, frz, Q2, Q0, init, QM, QR, Q6, Ql.one, Ql.and, Enc.bool, Enc.int, Enc.str, Enc.strs, Enc.slice, Enc.agg, Enc.tup, Enc.err, Enc.fn, upd, QU, hr, h2]
      | true =>
        have g81 := QiF (Qf [(173, s173), (174, s174)]) rfl s 175 Qbo (by simp [Qf4]) (by unfold lim; omega)
        simp [QF, Qo, QJ, own, Qm, dop, QN, eval, Qr, Qn, upd, init, QV, intCmp, init, QM, QR, Q6, Ql.one, Ql.and, Enc.bool, Enc.int, Enc.str, Enc.strs, Enc.slice, Enc.agg, Enc.tup, Enc.err, Enc.fn, h0, h1, Qj, ty9, QA, QX, goInt, Qs, hpos, Qi, g80, h2, g81]
        refine hK _ _ (Dwp.ret ?_) rfl
        simp [Q3, Qh, QW, frz, Q2, Q0, init, QM, QR, Q6, Ql.one, Ql.and, Enc.bool, Enc.int, Enc.str, Enc.strs, Enc.slice, Enc.agg, Enc.tup, Enc.err, Enc.fn, upd, QU, hr, h2, h1']
    · have h1' : ¬ s.size ≤ 40 := by omega
      simp [QF, Qo, QJ, own, Qm, dop, QN, eval, Qr, Qn, upd, init, QV, intCmp, init, QM, QR, Q6, Ql.one, Ql.and, Enc.bool, Enc.int, Enc.str, Enc.strs, Enc.slice, Enc.agg, Enc.tup, Enc.err, Enc.fn, h0, h1, Qj, ty9, QA, QX, goInt]
      refine hK _ _ (Dwp.ret ?_) rfl
      simp [Q3, Qh, QW, frz, Q2, Q0, init, QM, QR, Q6, Ql.one, Ql.and, Enc.bool, Enc.int, Enc.str, Enc.strs, Enc.slice, Enc.agg, Enc.tup, Enc.err, Enc.fn, upd, QU, h1']
theorem Qk4 : Go.FA.Good Tryz.prog (105, s105) := ⟨c105, Tryz.f105, _, Tryz.func105, rfl, by decide⟩
theorem Qct (T : Tab) (hT : T 105 = some s105) (s : ByteArray) : dcall T 105 [.lit (.string s)] = some (.lit (.bool (QU s))) := by
  simp [dcall, hT, s105, sp, init, QM, QR, Q6, Ql.one, Ql.and, Enc.bool, Enc.int, Enc.str, Enc.strs, Enc.slice, Enc.agg, Enc.tup, Enc.err, Enc.fn]
def QcU (s : ByteArray) : Bool := decide (0 < s.size) && decide (s.size ≤ 20) && (QU s || Qgf Qb0 s)
def s354 : Sp := sp (QM Enc.str) Enc.bool (fun s => some (QcU s))
theorem t151 : QH Tryz.prog (Qf [(105, s105), (174, s174)]) := .cons Qk4 (.cons e174 .nil)
theorem c354 : Qb Tryz.prog 354 s354 := by
  refine Qb.of_sp (T := Qf [(105, s105), (174, s174)]) Tryz.func354 rfl (Nat.le_of_ble_eq_true rfl) fun E s y hy => ?_
  simp at hy; subst hy
  refine Dwp.step t151 rfl fun K hK => ?_
  simp [dcall, Qf, setAt]
  refine hK _ _ ?_ rfl; clear hK K
  refine Dwp.seq ?_
  refine Dwp.step t151 rfl fun K hK => ?_
  have g38 := Qct (Qf [(105, s105), (174, s174)]) rfl s
  by_cases h0 : s = ⟨#[]⟩
  · subst h0
    simp [QF, Qo, QJ, own, Qm, dop, QN, eval, Qr, Qn, upd, init, QV, init, QM, QR, Q6, Ql.one, Ql.and, Enc.bool, Enc.int, Enc.str, Enc.strs, Enc.slice, Enc.agg, Enc.tup, Enc.err, Enc.fn]
    refine hK _ _ ?_ rfl; clear hK K
    refine Dwp.condT (by simp [eval, upd]) ?_
    refine Dwp.step t151 rfl fun K hK => ?_
    simp [dcall, Qf, setAt]
    refine hK _ _ (Dwp.ret ?_) rfl
    simp [Q3, Qh, QW, frz, Q2, Q0, init, QM, QR, Q6, Ql.one, Ql.and, Enc.bool, Enc.int, Enc.str, Enc.strs, Enc.slice, Enc.agg, Enc.tup, Enc.err, Enc.fn, Ex.then, upd, QcU, ByteArray.size]
  · have hpos := QkB.1 h0
    by_cases h1 : (20 : Int) < s.size
    · have h1' : ¬ s.size ≤ 20 := by omega
      simp [QF, Qo, QJ, own, Qm, dop, QN, eval, Qr, Qn, upd, init, QV, intCmp, init, QM, QR, Q6, Ql.one, Ql.and, Enc.bool, Enc.int, Enc.str, Enc.strs, Enc.slice, Enc.agg, Enc.tup, Enc.err, Enc.fn, h0, h1, Qj, ty9, QA, QX, goInt]
      refine hK _ _ ?_ rfl; clear hK K
      refine Dwp.condT (by simp [eval, upd]) ?_
      refine Dwp.step t151 rfl fun K hK => ?_
      simp [dcall, Qf, setAt]
      refine hK _ _ (Dwp.ret ?_) rfl
      simp [Q3, Qh, QW, frz, Q2, Q0, init, QM, QR, Q6, Ql.one, Ql.and, Enc.bool, Enc.int, Enc.str, Enc.strs, Enc.slice, Enc.agg, Enc.tup, Enc.err, Enc.fn, Ex.then, upd, QcU, h1']
    · have h1' : s.size ≤ 20 := by omega
      simp [QF, Qo, QJ, own, Qm, dop, QN, eval, Qr, Qn, upd, init, QV, intCmp, init, QM, QR, Q6, Ql.one, Ql.and, Enc.bool, Enc.int, Enc.str, Enc.strs, Enc.slice, Enc.agg, Enc.tup, Enc.err, Enc.fn, h0, h1, Qj, ty9, QA, QX, goInt]
      refine hK _ _ ?_ rfl; clear hK K
      refine Dwp.condF (by simp [eval, upd]) (Dwp.skip ?_)
      refine Dwp.step t151 rfl fun K hK => ?_
      have g81 := QiF (Qf [(105, s105), (174, s174)]) rfl s 358 Qb0 (by simp [Qf4]) (by unfold lim; omega)
      cases h2 : QU s with
      | true =>
        rw [h2] at g38
        simp [QF, Qo, QJ, own, Qm, dop, QN, eval, Qr, Qn, upd, init, init, QM, QR, Q6, Ql.one, Ql.and, Enc.bool, Enc.int, Enc.str, Enc.strs, Enc.slice, Enc.agg, Enc.tup, Enc.err, Enc.fn, Qi, g38]
        refine hK _ _ (Dwp.ret ?_) rfl
        simp [Q3, Qh, QW, frz, Q2, Q0, init, QM, QR, Q6, Ql.one, Ql.and, Enc.bool, Enc.int, Enc.str, Enc.strs, Enc.slice, Enc.agg, Enc.tup, Enc.err, Enc.fn, upd, QcU, h2, hpos, h1']
      | false =>
        rw [h2] at g38
        simp [QF, Qo, QJ, own, Qm, dop, QN, eval, Qr, Qn, upd, init, init, QM, QR, Q6, Ql.one, Ql.and, Enc.bool, Enc.int, Enc.str, Enc.strs, Enc.slice, Enc.agg, Enc.tup, Enc.err, Enc.fn, Qi, g38, g81]
        refine hK _ _ (Dwp.ret ?_) rfl
        simp [Q3, Qh, QW, frz, Q2, Q0, init, QM, QR, Q6, Ql.one, Ql.and, Enc.bool, Enc.int, Enc.str, Enc.strs, Enc.slice, Enc.agg, Enc.tup, Enc.err, Enc.fn, upd, QcU, h2, hpos, h1']
theorem e354 : Go.FA.Good Tryz.prog (354, s354) := ⟨c354, Tryz.f354, _, Tryz.func354, rfl, by decide⟩
theorem mixed : Tryz.prog.follows .mixedOrders = true := by kernel_rfl
theorem Qci {α : Type} [DecidableEq α] (k : α → Value) (hk : ∀ x y, Qax (k x) (k y) = some (decide (x = y))) (x : α) : ∀ (l : List α),
    assoc (k x) (l.map k) (l.map fun _ => .lit (.bool true)) = some (if x ∈ l then some (.lit (.bool true)) else none)
  | [] => rfl
  | y :: l => by
    simp only [List.map_cons, assoc, hk, Qci k hk x l]
    by_cases h : x = y
    · simp [h]
    · simp [h]
theorem Qdz {α : Type} [DecidableEq α] (k : α → Value) (hk : ∀ x y, Qax (k x) (k y) = some (decide (x = y))) (x : α) (d : DV) : ∀ (l : List α) (vs : List DV), x ∉ l → vs.length = l.length →
    putKey (k x) d (l.map k) vs = some (l.map k ++ [k x], vs ++ [d])
  | [], [], _, _ => rfl
  | [], _ :: _, _, h => by simp at h
  | _ :: _, [], _, h => by simp at h
  | y :: l, v :: vs, hn, h => by
    have h1 : x ≠ y := fun e => hn (by simp [e])
    have h2 : x ∉ l := fun e => hn (by simp [e])
    simp [putKey, hk, h1, Qdz k hk x d l vs h2 (by simpa using h)]
theorem not_nodup {α : Type} {l : List α} {i : Nat} (hlt : i < l.length) (hm : l[i] ∈ l.take i) : ¬ l.Nodup := by
  intro hn
  have h1 : l.take (i + 1) = l.take i ++ [l[i]] := by rw [List.take_succ_eq_append_getElem hlt]
  have h2 : (l.take (i + 1)).Nodup := List.Nodup.sublist (List.take_sublist _ _) hn
  rw [h1, List.nodup_append] at h2
  exact h2.2.2 _ hm _ (by simp) rfl
theorem nodup_succ {α : Type} {l : List α} {i : Nat} (hlt : i < l.length) (hn : (l.take i).Nodup) (hm : l[i] ∉ l.take i) : (l.take (i + 1)).Nodup := by
  rw [List.take_succ_eq_append_getElem hlt, List.nodup_append]
  exact ⟨hn, by simp, fun a ha b hb e => by simp at hb; subst hb; subst e; exact hm ha⟩
def s356 : Sp := sp (QM Enc.ints) Enc.bool (fun l => if l.length ≤ lim then some (decide l.Nodup) else none)
def inv356 (l : List Int) : Nat → (Nat → DV) → St → Prop := fun k a σ => ∃ i, i ≤ l.length ∧ k = l.length - i ∧ (l.take i).Nodup ∧ a 3 = .map 1 ∧ a 7 = .slice 1 .none (l.map fun s => [DV.lit (.int .i64 s)]) ∧
    a 8 = .lit (.int .i64 l.length) ∧ a 9 = .lit (.int .i64 i) ∧ σ.objs 1 = some (.map ((l.take i).map (.int .i64)) ((l.take i).map fun _ => .lit (.bool true)))
theorem Qln (x y : Int) : Qax (.int .i64 x) (.int .i64 y) = some (decide (x = y)) := by simp [Qax]; rfl
theorem c356 : Qb Tryz.prog 356 s356 := by
  refine Qb.of_sp (T := Qf []) Tryz.func356 rfl (Nat.le_of_ble_eq_true rfl) fun E l y hy => ?_
  by_cases hlim : l.length ≤ lim <;> simp [hlim] at hy
  subst hy
  unfold lim at hlim
  refine Dwp.step Q9 rfl fun K hK => ?_
  simp [dcall, Qf, setAt]
  refine hK _ _ ?_ rfl; clear hK K
  refine Dwp.step Q9 rfl fun K hK => ?_
  simp [dcall, Qf, setAt]
  refine hK _ _ ?_ rfl; clear hK K
  refine Dwp.seq ?_
  refine Dwp.step Q9 rfl fun K hK => ?_
  simp [dcall, Qf, setAt, init, QM, QR, Q6, Ql.one, Ql.and, Enc.bool, Enc.int, Enc.str, Enc.strs, Enc.slice, Enc.agg, Enc.tup, Enc.err, Enc.fn, Enc.ints, Enc.i64, QeT]
  refine hK _ _ ?_ rfl; clear hK K
  refine Dwp.block (Dwp.loop (inv356 l) l.length ⟨0, by simp, by simp, by simp, by simp [upd, σ0], by simp [upd], by simp [upd], by simp [upd], by simp [upd, σ0]⟩ ?_)
  rintro k a σ ⟨i, hi, rfl, hnd, h3, h7, h8, h9, hobj⟩
  refine Dwp.step Q9 rfl fun K hK => ?_
  simp [dcall, Qf, setAt, h8, h9]
  refine hK _ _ ?_ rfl; clear hK K
  by_cases hlt : i < l.length
  · refine Dwp.seq (Dwp.condT (by simp [eval, upd, hlt]) (Dwp.skip ?_))
    refine Dwp.seq (Dwp.block ?_)
    refine Dwp.step Q9 rfl fun K hK => ?_
    simp [dcall, Qf, setAt, h7, h9, QeT, ty3, hlt]
    refine hK _ _ ?_ rfl; clear hK K
    have hA := Qci _ Qln l[i] (l.take i)
    simp only [List.map_take] at hA
    refine Dwp.seq ?_
    refine Dwp.step Q9 rfl fun K hK => ?_
    by_cases hm : l[i] ∈ l.take i
    · simp [dcall, Qf, setAt, h3, hobj, ty284, ty3, ty4, hA, hm]
      refine hK _ _ ?_ rfl; clear hK K
      refine Dwp.condT (by simp [eval, upd]) ?_
      refine Dwp.step Q9 rfl fun K hK => ?_
      simp [dcall, Qf, setAt]
      refine hK _ _ (Dwp.ret ?_) rfl
      simp [Q3, Qh, QW, frz, Q2, Q0, init, QM, QR, Q6, Ql.one, Ql.and, Enc.bool, Enc.int, Enc.str, Enc.strs, Enc.slice, Enc.agg, Enc.tup, Enc.err, Enc.fn, Ex.then, Ex.inBlock, upd, not_nodup hlt hm]
    · simp [dcall, Qf, setAt, h3, hobj, ty284, ty3, ty4, hA, hm]
      refine hK _ _ ?_ rfl; clear hK K
      refine Dwp.condF (by simp [eval, upd]) (Dwp.skip ?_)
      refine Dwp.reg Q9 rfl fun K hK => ?_
      have hP := Qdz _ Qln l[i] (.lit (.bool true)) (l.take i) ((l.take i).map fun _ => .lit (.bool true)) hm (by simp)
      simp only [List.map_take] at hP
      simp [dcall, Qf, setAt, h3, hobj, ty284, ty3, hP]
      refine hK _ _ ?_ rfl; clear hK K
      refine Dwp.reg Q9 rfl fun K hK => ?_
      simp [dcall, Qf, setAt, h9]
      refine hK _ _ ?_ rfl; clear hK K
      refine ⟨l.length - (i + 1), by omega, i + 1, by omega, rfl, nodup_succ hlt hnd hm, by simp [upd, h3], by simp [upd, h7], by simp [upd, h8], ?_, ?_⟩
      · simp [upd, wrap_small (n := (i : Int) + 1) (by omega) (by omega)]
      · simp [upd]; constructor <;> (rw [List.take_succ_eq_append_getElem (by simpa using hlt)]; simp)
  · refine Dwp.seq (Dwp.condF (by simp [eval, upd, hlt]) (Dwp.exit ?_))
    refine Dwp.step Q9 rfl fun K hK => ?_
    simp [dcall, Qf, setAt]
    refine hK _ _ (Dwp.ret ?_) rfl
    rw [List.take_of_length_le (by omega)] at hnd
    simp [Q3, Qh, QW, frz, Q2, Q0, init, QM, QR, Q6, Ql.one, Ql.and, Enc.bool, Enc.int, Enc.str, Enc.strs, Enc.slice, Enc.agg, Enc.tup, Enc.err, Enc.fn, upd, hnd]
theorem e356 : Go.FA.Good Tryz.prog (356, s356) := ⟨c356, Tryz.f356, _, Tryz.func356, rfl, by decide⟩
def s355 : Sp := sp (QR Enc.strs Enc.strs) Enc.bool (fun x => if x.1.length ≤ lim ∧ x.2.length ≤ lim then some (decide (x.1 = x.2)) else none)
def inv355 (l m : List ByteArray) : Nat → (Nat → DV) → St → Prop := fun k a σ => ∃ i, i ≤ l.length ∧ k = l.length - i ∧ l.take i = m.take i ∧ a 0 = .slice 1 .none (l.map fun s => [DV.lit (.string s)]) ∧
  a 1 = .slice 1 .none (m.map fun s => [DV.lit (.string s)]) ∧ a 12 = .lit (.int .i64 l.length) ∧ a 13 = .lit (.int .i64 i)
theorem c355 : Qb Tryz.prog 355 s355 := by
  refine Qb.of_sp (T := Qf []) Tryz.func355 rfl (Nat.le_of_ble_eq_true rfl) fun E x y hy => ?_
  obtain ⟨l, m⟩ := x
  by_cases hlim : l.length ≤ lim ∧ m.length ≤ lim <;> simp [hlim] at hy
  subst hy
  unfold lim at hlim
  refine Dwp.step Q9 rfl fun K hK => ?_
  simp [dcall, Qf, setAt]
  refine hK _ _ ?_ rfl; clear hK K
  refine Dwp.seq ?_
  refine Dwp.step Q9 rfl fun K hK => ?_
  simp [dcall, Qf, setAt, init, QM, QR, Q6, Ql.one, Ql.and, Enc.bool, Enc.int, Enc.str, Enc.strs, Enc.slice, Enc.agg, Enc.tup, Enc.err, Enc.fn, Qah]
  refine hK _ _ ?_ rfl; clear hK K
  by_cases hlm : l.length = m.length
  · refine Dwp.condF (by simp [eval, upd, hlm]) (Dwp.skip ?_)
    refine Dwp.seq ?_
    refine Dwp.step Q9 rfl fun K hK => ?_
    simp [dcall, Qf, setAt, init, QM, QR, Q6, Ql.one, Ql.and, Enc.bool, Enc.int, Enc.str, Enc.strs, Enc.slice, Enc.agg, Enc.tup, Enc.err, Enc.fn, Qah]
    refine hK _ _ ?_ rfl; clear hK K
    refine Dwp.block (Dwp.loop (inv355 l m) l.length ⟨0, by simp, by simp, by simp, by simp [upd, init, init, QM, QR, Q6, Ql.one, Ql.and, Enc.bool, Enc.int, Enc.str, Enc.strs, Enc.slice, Enc.agg, Enc.tup, Enc.err, Enc.fn], by simp [upd, init, init, QM, QR, Q6, Ql.one, Ql.and, Enc.bool, Enc.int, Enc.str, Enc.strs, Enc.slice, Enc.agg, Enc.tup, Enc.err, Enc.fn], by simp [upd], by simp [upd]⟩ ?_)
    rintro k a σ ⟨i, hi, rfl, htk, h0, h1, h12, h13⟩
    refine Dwp.step Q9 rfl fun K hK => ?_
    simp [dcall, Qf, setAt, h12, h13]
    refine hK _ _ ?_ rfl; clear hK K
    by_cases hlt : i < l.length
    · have hlt' : i < m.length := by omega
      refine Dwp.seq (Dwp.condT (by simp [eval, upd, hlt]) (Dwp.skip ?_))
      refine Dwp.seq (Dwp.block ?_)
      refine Dwp.step Q9 rfl fun K hK => ?_
      simp [dcall, Qf, setAt, h13]
      refine hK _ _ ?_ rfl; clear hK K
      refine Dwp.drawStep [] mixed Q9 rfl (by decide) fun K hK => ?_
      by_cases he : l[i] = m[i]
      · simp [QbI, touch, QaO, dcall, Qf, setAt, h0, h1, Qah, ty9, hlt, hlt', he]
        refine hK _ _ ?_ rfl; clear hK K
        refine Dwp.condF (by simp [eval, upd]) (Dwp.skip ?_)
        refine Dwp.reg Q9 rfl fun K hK => ?_
        simp [dcall, Qf, setAt, h13]
        refine hK _ _ ?_ rfl; clear hK K
        refine ⟨l.length - (i + 1), by omega, i + 1, by omega, rfl, ?_, by simp [upd, h0], by simp [upd, h1], by simp [upd, h12], by simp [upd, wrap_small (n := (i : Int) + 1) (by omega) (by omega)]⟩
        rw [List.take_succ_eq_append_getElem hlt, List.take_succ_eq_append_getElem hlt', htk, he]
      · simp [QbI, touch, QaO, dcall, Qf, setAt, h0, h1, Qah, ty9, hlt, hlt', he]
        refine hK _ _ ?_ rfl; clear hK K
        refine Dwp.condT (by simp [eval, upd]) ?_
        refine Dwp.step Q9 rfl fun K hK => ?_
        simp [dcall, Qf, setAt]
        refine hK _ _ (Dwp.ret ?_) rfl
        have : l ≠ m := fun e => he (by subst e; rfl)
        simp [Q3, Qh, QW, frz, Q2, Q0, init, QM, QR, Q6, Ql.one, Ql.and, Enc.bool, Enc.int, Enc.str, Enc.strs, Enc.slice, Enc.agg, Enc.tup, Enc.err, Enc.fn, Ex.then, Ex.inBlock, upd, this]
    · refine Dwp.seq (Dwp.condF (by simp [eval, upd, hlt]) (Dwp.exit ?_))
      refine Dwp.step Q9 rfl fun K hK => ?_
      simp [dcall, Qf, setAt]
      refine hK _ _ (Dwp.ret ?_) rfl
      rw [List.take_of_length_le (by omega), List.take_of_length_le (by omega)] at htk
      simp [Q3, Qh, QW, frz, Q2, Q0, init, QM, QR, Q6, Ql.one, Ql.and, Enc.bool, Enc.int, Enc.str, Enc.strs, Enc.slice, Enc.agg, Enc.tup, Enc.err, Enc.fn, upd, htk]
  · have hne : (l.length : Int) ≠ m.length := by omega
    refine Dwp.condT (by simp [eval, upd, hne]) ?_
    refine Dwp.step Q9 rfl fun K hK => ?_
    simp [dcall, Qf, setAt]
    refine hK _ _ (Dwp.ret ?_) rfl
    have : l ≠ m := fun e => hlm (by rw [e])
    simp [Q3, Qh, QW, frz, Q2, Q0, init, QM, QR, Q6, Ql.one, Ql.and, Enc.bool, Enc.int, Enc.str, Enc.strs, Enc.slice, Enc.agg, Enc.tup, Enc.err, Enc.fn, Ex.then, upd, this]
theorem e355 : Go.FA.Good Tryz.prog (355, s355) := ⟨c355, Tryz.f355, _, Tryz.func355, rfl, by decide⟩
def s345 : Sp := sp (QR Enc.book Enc.opd) Enc.bool (fun x => some (decide (x.2.args.length ≤ 8) && x.2.args.all x.1.has))
theorem t133 : QH Tryz.prog (Qf [(311, s311)]) := .cons Qk6 .nil
theorem c345 : Qb Tryz.prog 345 s345 := by
  refine Qb.of_sp (T := Qf [(311, s311)]) Tryz.func345 rfl (Nat.le_of_ble_eq_true rfl) fun E x y hy => ?_
  obtain ⟨b, o⟩ := x
  simp at hy; subst hy
  have hk : (Ql.book.enc b).length = 3 := Ql.book.len b
  have ht3 : (Ql.book.enc b).take 3 = Ql.book.enc b := List.take_of_length_le (by rw [hk]; exact Nat.le_refl _)
  refine Dwp.step t133 rfl fun K hK => ?_
  simp [dcall, Qf, setAt, init, QM, QR, Q6, Ql.one, Ql.and, Enc.bool, Enc.int, Enc.str, Enc.strs, Enc.slice, Enc.agg, Enc.tup, Enc.err, Enc.fn, Enc.book, Enc.opd]
  refine hK _ _ ?_ rfl; clear hK K
  refine Dwp.step t133 rfl fun K hK => ?_
  by_cases h : o.args.length ≤ 8
  · have h' : (o.args.length : Int) ≤ 8 := by omega
    have g := Qeq (Qf [(311, s311)]) rfl b (Enc.strs.enc o.args) o.args (Enc.strs.de _) (by unfold lim; omega)
    simp only [init, QM, QR, Q6, Ql.one, Ql.and, Enc.bool, Enc.int, Enc.str, Enc.strs, Enc.slice, Enc.agg, Enc.tup, Enc.err, Enc.fn] at g
    simp [QF, Qo, QJ, own, Qm, dop, QN, eval, Qr, Qn, upd, Qa, Qv, Qx, TyI.agg, QbY, Q1, Qah, ty9, QeL, ty3, QfX, QeT, Ql.opd, init, QM, QR, Q6, Ql.one, Ql.and, Enc.bool, Enc.int, Enc.str, Enc.strs, Enc.slice, Enc.agg, Enc.tup, Enc.err, Enc.fn, Qj, QA, QX, goInt, QV, intCmp, Qi, hk, ht3, h', g]
    refine hK _ _ (Dwp.ret ?_) rfl
    simp [Q3, Qh, QW, frz, Q2, Q0, init, QM, QR, Q6, Ql.one, Ql.and, Enc.bool, Enc.int, Enc.str, Enc.strs, Enc.slice, Enc.agg, Enc.tup, Enc.err, Enc.fn, upd, h]
  · have h' : ¬ (o.args.length : Int) ≤ 8 := by omega
    simp [QF, Qo, QJ, own, Qm, dop, QN, eval, Qr, Qn, upd, Qa, Qv, Qx, TyI.agg, QbY, Q1, Qah, ty9, QeL, ty3, QfX, QeT, Ql.opd, init, QM, QR, Q6, Ql.one, Ql.and, Enc.bool, Enc.int, Enc.str, Enc.strs, Enc.slice, Enc.agg, Enc.tup, Enc.err, Enc.fn, Qj, QA, QX, goInt, QV, intCmp, h']
    refine hK _ _ (Dwp.ret ?_) rfl
    simp [Q3, Qh, QW, frz, Q2, Q0, init, QM, QR, Q6, Ql.one, Ql.and, Enc.bool, Enc.int, Enc.str, Enc.strs, Enc.slice, Enc.agg, Enc.tup, Enc.err, Enc.fn, upd, h]
theorem e345 : Go.FA.Good Tryz.prog (345, s345) := ⟨c345, Tryz.f345, _, Tryz.func345, rfl, by decide⟩
def Qcc (o : OpD) : Bool :=
  if o.prec = 0 then decide (o.assoc = 0) else decide (0 < o.prec) && decide (o.prec ≤ 20) && decide (0 < o.pieces.length) && decide (0 ≤ o.assoc) && decide (o.assoc ≤ 2)
def s347 : Sp := sp (QM Enc.opd) Enc.bool (fun o => some (Qcc o))
theorem c347 : Qb Tryz.prog 347 s347 := by
  refine Qb.of_sp (T := Qf []) Tryz.func347 rfl (Nat.le_of_ble_eq_true rfl) fun E o y hy => ?_
  simp at hy; subst hy
  refine Dwp.step Q9 rfl fun K hK => ?_
  simp [dcall, Qf, setAt, init, QM, QR, Q6, Ql.one, Ql.and, Enc.bool, Enc.int, Enc.str, Enc.strs, Enc.slice, Enc.agg, Enc.tup, Enc.err, Enc.fn, Enc.opd]
  refine hK _ _ ?_ rfl; clear hK K
  refine Dwp.seq ?_
  refine Dwp.step Q9 rfl fun K hK => ?_
  simp [dcall, Qf, setAt, QbY, ty3, Ql.opd]
  refine hK _ _ ?_ rfl; clear hK K
  by_cases h0 : o.prec = 0
  · refine Dwp.condT (by simp [eval, upd, h0]) ?_
    refine Dwp.step Q9 rfl fun K hK => ?_
    simp [dcall, Qf, setAt, QbY, ty3, QfX]
    refine hK _ _ (Dwp.ret ?_) rfl
    simp [Q3, Qh, QW, frz, Q2, Q0, init, QM, QR, Q6, Ql.one, Ql.and, Enc.bool, Enc.int, Enc.str, Enc.strs, Enc.slice, Enc.agg, Enc.tup, Enc.err, Enc.fn, Ex.then, upd, Qcc, h0]
    rfl
  · refine Dwp.condF (by simp [eval, upd, h0]) (Dwp.skip ?_)
    refine Dwp.step Q9 rfl fun K hK => ?_
    by_cases h1 : 0 < o.prec <;> by_cases h2 : o.prec ≤ 20 <;> by_cases h3 : 0 < o.pieces.length <;> by_cases h4 : 0 ≤ o.assoc <;> by_cases h5 : o.assoc ≤ 2 <;> (
      simp [QF, Qo, QJ, own, Qm, dop, QN, eval, Qr, Qn, upd, Qa, Qv, Qx, TyI.agg, QbY, ty3, QfX, QeL, Qj, QA, QX, goInt, QV, intCmp, Enc.pies, Enc.slice, h0, h1, h2, h3, h4, h5]
      refine hK _ _ (Dwp.ret ?_) rfl
      simp [Q3, Qh, QW, frz, Q2, Q0, init, QM, QR, Q6, Ql.one, Ql.and, Enc.bool, Enc.int, Enc.str, Enc.strs, Enc.slice, Enc.agg, Enc.tup, Enc.err, Enc.fn, upd, Qcc, h0, h1, h2, h3, h4, h5])
theorem e347 : Go.FA.Good Tryz.prog (347, s347) := ⟨c347, Tryz.f347, _, Tryz.func347, rfl, by decide⟩
end
@[simp] theorem pie_k : Ql.pie.k = 2 := rfl
@[simp] theorem opd_k : Ql.opd.k = 7 := rfl
@[simp] theorem bel_k : Ql.bel.k = 2 := rfl
@[simp] theorem book_k : Ql.book.k = 3 := rfl
@[simp] theorem sigd_k : Ql.sigd.k = 5 := rfl
theorem ints_dec (l : List Int) : Qat (Ql.one Enc.i64) (l.map fun x => [DV.lit (.int .i64 x)]) = some l := QaF (Ql.one Enc.i64) l
section
attribute [local simp] QF QZ Qo QJ own Qm dop QN eval Qr Qn Ex.then Ex.inBlock upd QV Tag.isNN Qp intCmp Qv Qx TyI.agg Qa Qu Qg Qs QX QA QD mapOf QQ QC Qq Qi Qj QI DV.cells Qt Qk QE QK rowsOf QL Qd Qe Qe.go Qz QB Qc goInt
def Acc (σ : St) (k : Nat) (rows : List (List DV)) (d : DV) : Prop := rows = [] ∧ d = .lit (.slice none 0 0) ∨ ∃ tk g, d = .slice k (.tok tk g) rows ∧ σ.toks tk = some g
theorem Acc.dec {α : Type} {σ : St} {A : Ql α} {rows : List (List DV)} {d : DV} {l : List α} (h : Acc σ A.k rows d) (hl : Qat A rows = some l) : (Enc.slice A).dec d = some l := by
  rcases h with ⟨rfl, rfl⟩ | ⟨tk, g, rfl, _⟩
  · simp [Qat] at hl; subst hl; rfl
  · simp [Enc.slice, hl]
theorem Acc.toks {σ τ : St} {k : Nat} {rows : List (List DV)} {d : DV} (h : Acc σ k rows d) (e : τ.toks = σ.toks) : Acc τ k rows d := by
  unfold Acc; rw [e]; exact h
def s348 : Sp := sp (QM Enc.opd) Enc.bool (fun o => if o.args.length ≤ lim ∧ o.strict.length ≤ lim then some (o.strict.all (fun n => decide (1 ≤ n) && decide (n ≤ o.args.length)) && decide o.strict.Nodup) else none)
def inv348 (o : OpD) : Nat → (Nat → DV) → St → Prop := fun k a σ => ∃ i, i ≤ o.strict.length ∧ k = o.strict.length - i ∧ ((o.strict.take i).all fun n => decide (1 ≤ n) && decide (n ≤ o.args.length)) = true ∧
  a 1 = .row (Ql.opd.enc o) 0 ∧ a 6 = .slice 1 .none (o.strict.map fun n => [DV.lit (.int .i64 n)]) ∧ a 7 = .lit (.int .i64 o.strict.length) ∧ a 8 = .lit (.int .i64 i)
theorem Qk2 : QH Tryz.prog (Qf [(356, s356)]) := .cons e356 .nil
theorem QgY {α : Type} {p : α → Bool} {l : List α} {i : Nat} (h : i < l.length) (hp : (l.take i).all p = true) (hx : p l[i] = true) : (l.take (i + 1)).all p = true := by
  rw [List.take_succ_eq_append_getElem h]; simp only [List.all_append, hp, List.all_cons, hx, List.all_nil]; rfl
theorem Qch {α : Type} {p : α → Bool} {l : List α} {i : Nat} (h : i < l.length) (hx : p l[i] = false) : l.all p = false := by
  rw [List.all_eq_false]; exact ⟨l[i], List.getElem_mem h, by simp [hx]⟩
theorem call356 (T : Tab) (hT : T 356 = some s356) (l : List Int) (hl : l.length ≤ lim) : dcall T 356 [.slice 1 .none (l.map fun n => [DV.lit (.int .i64 n)])] = some (.lit (.bool (decide l.Nodup))) := by
  have hd := ints_dec l
  simp [dcall, hT, s356, sp, QM, Ql.one, Enc.ints, Enc.slice, Enc.i64, Enc.int, Enc.bool] at hd ⊢
  simp [hd, hl]
theorem c348 : Qb Tryz.prog 348 s348 := by
  refine Qb.of_sp (T := Qf [(356, s356)]) Tryz.func348 rfl (Nat.le_of_ble_eq_true rfl) fun E o y hy => ?_
  by_cases hlim : o.args.length ≤ lim ∧ o.strict.length ≤ lim <;> simp [hlim] at hy
  subst hy
  have hl1 := hlim.1
  have hl2 := hlim.2
  unfold lim at hl1 hl2
  refine Dwp.step Qk2 rfl fun K hK => ?_
  simp [dcall, Qf, setAt, init, QM, QR, Q6, Ql.one, Ql.and, Enc.bool, Enc.int, Enc.str, Enc.strs, Enc.slice, Enc.agg, Enc.tup, Enc.err, Enc.fn, Enc.opd]
  refine hK _ _ ?_ rfl; clear hK K
  refine Dwp.seq ?_
  refine Dwp.step Qk2 rfl fun K hK => ?_
  simp [dcall, Qf, setAt, QbY, QeT, Ql.opd, Enc.ints, Enc.slice, Ql.one, Enc.i64, Enc.int]
  refine hK _ _ ?_ rfl; clear hK K
  refine Dwp.block (Dwp.loop (inv348 o) o.strict.length ⟨0, by simp, by simp, by simp, by simp [upd, Ql.opd, Enc.ints, Enc.slice, Ql.one, Enc.i64, Enc.int], by simp [upd], by simp [upd], by simp [upd]⟩ ?_)
  rintro k a σ ⟨i, hi, rfl, hall, h1, h6, h7, h8⟩
  refine Dwp.step Qk2 rfl fun K hK => ?_
  simp [dcall, Qf, setAt, h7, h8]
  refine hK _ _ ?_ rfl; clear hK K
  by_cases hlt : i < o.strict.length
  · refine Dwp.seq (Dwp.condT (by simp [eval, upd, hlt]) (Dwp.skip ?_))
    refine Dwp.seq (Dwp.block ?_)
    refine Dwp.step Qk2 rfl fun K hK => ?_
    simp [dcall, Qf, setAt, h6, h8, QeT, ty3, hlt]
    refine hK _ _ ?_ rfl; clear hK K
    refine Dwp.step Qk2 rfl fun K hK => ?_
    by_cases hx : o.strict[i] < 1
    · simp [dcall, Qf, setAt, h1, hx]
      refine hK _ _ ?_ rfl; clear hK K
      refine Dwp.condT (by simp [eval, upd]) ?_
      refine Dwp.step Qk2 rfl fun K hK => ?_
      simp [dcall, Qf, setAt]
      refine hK _ _ (Dwp.ret ?_) rfl
      have := Qch (p := fun n => decide (1 ≤ n) && decide (n ≤ (o.args.length : Int))) hlt (by simp; omega)
      simp [Q3, Qh, QW, frz, Q2, Q0, init, QM, QR, Q6, Ql.one, Ql.and, Enc.bool, Enc.int, Enc.str, Enc.strs, Enc.slice, Enc.agg, Enc.tup, Enc.err, Enc.fn, Ex.then, Ex.inBlock, upd, this]
    · by_cases hy : (o.args.length : Int) < o.strict[i]
      · simp [dcall, Qf, setAt, h1, hx, hy, QbY, Qah, Ql.opd, Enc.strs, Enc.slice]
        refine hK _ _ ?_ rfl; clear hK K
        refine Dwp.condT (by simp [eval, upd]) ?_
        refine Dwp.step Qk2 rfl fun K hK => ?_
        simp [dcall, Qf, setAt]
        refine hK _ _ (Dwp.ret ?_) rfl
        have := Qch (p := fun n => decide (1 ≤ n) && decide (n ≤ (o.args.length : Int))) hlt (by simp; omega)
        simp [Q3, Qh, QW, frz, Q2, Q0, init, QM, QR, Q6, Ql.one, Ql.and, Enc.bool, Enc.int, Enc.str, Enc.strs, Enc.slice, Enc.agg, Enc.tup, Enc.err, Enc.fn, Ex.then, Ex.inBlock, upd, this]
      · simp [dcall, Qf, setAt, h1, hx, hy, QbY, Qah, Ql.opd, Enc.strs, Enc.slice]
        refine hK _ _ ?_ rfl; clear hK K
        refine Dwp.condF (by simp [eval, upd]) (Dwp.skip ?_)
        refine Dwp.reg Qk2 rfl fun K hK => ?_
        simp [dcall, Qf, setAt, h8]
        refine hK _ _ ?_ rfl; clear hK K
        refine ⟨o.strict.length - (i + 1), by omega, i + 1, by omega, rfl, QgY hlt hall (by simp; omega), by simp [upd, h1], by simp [upd, h6], by simp [upd, h7], by simp [upd, wrap_small (n := (i : Int) + 1) (by omega) (by omega)]⟩
  · refine Dwp.seq (Dwp.condF (by simp [eval, upd, hlt]) (Dwp.exit ?_))
    refine Dwp.step Qk2 rfl fun K hK => ?_
    rw [List.take_of_length_le (by omega)] at hall
    have g := call356 (Qf [(356, s356)]) rfl o.strict hlim.2
    simp [dcall, Qf] at g
    simp [dcall, Qf, setAt, h1, QbY, QeT, Ql.opd, Enc.ints, Enc.slice, Ql.one, Enc.i64, Enc.int, g]
    refine hK _ _ (Dwp.ret ?_) rfl
    simp only [hall, Bool.true_and]
    simp [Q3, Qh, QW, frz, Q2, Q0, init, QM, QR, Q6, Ql.one, Ql.and, Enc.bool, Enc.int, Enc.str, Enc.strs, Enc.slice, Enc.agg, Enc.tup, Enc.err, Enc.fn, upd]
theorem e348 : Go.FA.Good Tryz.prog (348, s348) := ⟨c348, Tryz.f348, _, Tryz.func348, rfl, by decide⟩
def Qb4 : List Pie → Option (List ByteArray)
  | [] => some []
  | p :: r => if p.sort = ⟨#[]⟩ then (if QcU p.text then Qb4 r else none) else if p.text = ⟨#[]⟩ then (Qb4 r).map (p.sort :: ·) else none
def QbC (o : OpD) : Bool :=
  if o.pieces.length = 0 then true else if 20 < o.pieces.length then false else decide (Qb4 o.pieces = some o.args)
theorem call354 (T : Tab) (hT : T 354 = some s354) (s : ByteArray) : dcall T 354 [.lit (.string s)] = some (.lit (.bool (QcU s))) := by
  simp [dcall, hT, s354, sp, QM, Ql.one, Enc.str, Enc.bool]
theorem call355 (T : Tab) (hT : T 355 = some s355) (d e : DV) (l m : List ByteArray) (hd : Enc.strs.dec d = some l) (he : Enc.strs.dec e = some m) (hl : l.length ≤ lim) (hm : m.length ≤ lim) :
    dcall T 355 [d, e] = some (.lit (.bool (decide (l = m)))) := by
  simp [dcall, hT, s355, sp, QR, Ql.and, Ql.one, hd, he, hl, hm, Enc.bool]
def s346 : Sp := sp (QM Enc.opd) Enc.bool (fun o => if o.args.length ≤ lim then some (QbC o) else none)
def inv346 (o : OpD) : Nat → (Nat → DV) → St → Prop := fun k a σ => ∃ (i : Nat) (acc : List ByteArray), i ≤ o.pieces.length ∧ k = o.pieces.length - i ∧ Qb4 o.pieces = (Qb4 (o.pieces.drop i)).map (acc ++ ·) ∧ acc.length ≤ i ∧
  a 1 = .row (Ql.opd.enc o) 0 ∧ a 15 = .slice 2 .none (o.pieces.map Ql.pie.enc) ∧ a 16 = .lit (.int .i64 o.pieces.length) ∧ a 17 = .lit (.int .i64 i) ∧ Acc σ 1 (acc.map fun s => [DV.lit (.string s)]) (a 3)
theorem Qg6 : QH Tryz.prog (Qf [(354, s354), (355, s355)]) := .cons e354 (.cons e355 .nil)
theorem c346 : Qb Tryz.prog 346 s346 := by
  refine Qb.of_sp (T := Qf [(354, s354), (355, s355)]) Tryz.func346 rfl (Nat.le_of_ble_eq_true rfl) fun E o y hy => ?_
  by_cases hlim : o.args.length ≤ lim <;> simp [hlim] at hy
  subst hy
  refine Dwp.step Qg6 rfl fun K hK => ?_
  simp [dcall, Qf, setAt, init, QM, QR, Q6, Ql.one, Ql.and, Enc.bool, Enc.int, Enc.str, Enc.strs, Enc.slice, Enc.agg, Enc.tup, Enc.err, Enc.fn, Enc.opd]
  refine hK _ _ ?_ rfl; clear hK K
  refine Dwp.seq ?_
  refine Dwp.step Qg6 rfl fun K hK => ?_
  simp [dcall, Qf, setAt, QbY, QeL, Ql.opd, Enc.pies, Enc.slice]
  refine hK _ _ ?_ rfl; clear hK K
  by_cases h0 : o.pieces.length = 0
  · have h0' : o.pieces = [] := List.length_eq_zero_iff.1 h0
    refine Dwp.condT (by simp [eval, upd, h0']) ?_
    refine Dwp.step Qg6 rfl fun K hK => ?_
    simp [dcall, Qf, setAt]
    refine hK _ _ (Dwp.ret ?_) rfl
    simp [Q3, Qh, QW, frz, Q2, Q0, init, QM, QR, Q6, Ql.one, Ql.and, Enc.bool, Enc.int, Enc.str, Enc.strs, Enc.slice, Enc.agg, Enc.tup, Enc.err, Enc.fn, Ex.then, upd, QbC, h0']
  refine Dwp.condF (by have h0' : o.pieces ≠ [] := fun e => h0 (by simp [e]); simp [eval, upd, h0']) (Dwp.skip ?_)
  refine Dwp.seq ?_
  refine Dwp.step Qg6 rfl fun K hK => ?_
  simp [dcall, Qf, setAt, QbY, QeL, Ql.opd, Enc.pies, Enc.slice]
  refine hK _ _ ?_ rfl; clear hK K
  by_cases h20 : 20 < o.pieces.length
  · have h20' : (20 : Int) < o.pieces.length := by omega
    refine Dwp.condT (by simp [eval, upd, h20']) ?_
    refine Dwp.step Qg6 rfl fun K hK => ?_
    simp [dcall, Qf, setAt]
    refine hK _ _ (Dwp.ret ?_) rfl
    simp [Q3, Qh, QW, frz, Q2, Q0, init, QM, QR, Q6, Ql.one, Ql.and, Enc.bool, Enc.int, Enc.str, Enc.strs, Enc.slice, Enc.agg, Enc.tup, Enc.err, Enc.fn, Ex.then, upd, QbC, h0, h20]
  have h20' : ¬ (20 : Int) < o.pieces.length := by omega
  refine Dwp.condF (by simp [eval, upd, h20']) (Dwp.skip ?_)
  refine Dwp.step Qg6 rfl fun K hK => ?_
  simp [dcall, Qf, setAt]
  refine hK _ _ ?_ rfl; clear hK K
  refine Dwp.seq ?_
  refine Dwp.step Qg6 rfl fun K hK => ?_
  simp [dcall, Qf, setAt, QbY, QeL, Ql.opd, Enc.pies, Enc.slice]
  refine hK _ _ ?_ rfl; clear hK K
  refine Dwp.block (Dwp.loop (inv346 o) o.pieces.length ⟨0, [], by simp, by simp, by simp, by simp, by simp [upd, Ql.opd, Enc.pies, Enc.slice], by simp [upd], by simp [upd], by simp [upd], .inl ⟨rfl, by simp [upd]⟩⟩ ?_)
  rintro k a σ ⟨i, acc, hi, rfl, hpa, hacc, h1, h15, h16, h17, h3⟩
  refine Dwp.step Qg6 rfl fun K hK => ?_
  simp [dcall, Qf, setAt, h16, h17]
  refine hK _ _ ?_ rfl; clear hK K
  by_cases hlt : i < o.pieces.length
  · rw [List.drop_eq_getElem_cons hlt, Qb4] at hpa
    refine Dwp.seq (Dwp.condT (by simp [eval, upd, hlt]) (Dwp.skip ?_))
    refine Dwp.seq (Dwp.block ?_)
    refine Dwp.step Qg6 rfl fun K hK => ?_
    simp [dcall, Qf, setAt, h15, h17, QeL, Qjp, hlt, Ql.pie]
    refine hK _ _ ?_ rfl; clear hK K
    refine Dwp.block ?_
    refine Dwp.step Qg6 rfl fun K hK => ?_
    simp [dcall, Qf, setAt, Qjp, ty9]
    refine hK _ _ ?_ rfl; clear hK K
    by_cases hs : o.pieces[i].sort = ⟨#[]⟩
    · refine Dwp.condT (by simp [eval, upd, hs]) ?_
      refine Dwp.step Qg6 rfl fun K hK => ?_
      have g := call354 (Qf [(354, s354), (355, s355)]) rfl o.pieces[i].text
      simp [dcall, Qf] at g
      simp [dcall, Qf, setAt, Qjp, ty9, g]
      refine hK _ _ ?_ rfl; clear hK K
      by_cases hp : QcU o.pieces[i].text = true
      · refine Dwp.condF (by simp [eval, upd, hp]) (Dwp.skip ?_)
        simp [hs, hp] at hpa
        refine Dwp.reg Qg6 rfl fun K hK => ?_
        simp [dcall, Qf, setAt, h17]
        refine hK _ _ ?_ rfl; clear hK K
        exact ⟨o.pieces.length - (i + 1), by omega, i + 1, acc, by omega, rfl, hpa, by omega, by simp [upd, h1], by simp [upd, h15], by simp [upd, h16], by simp [upd, wrap_small (n := (i : Int) + 1) (by omega) (by omega)], by simp only [upd]; exact h3.toks rfl⟩
      · refine Dwp.condT (by simp [eval, upd, hp]) ?_
        simp [hs, hp] at hpa
        refine Dwp.step Qg6 rfl fun K hK => ?_
        simp [dcall, Qf, setAt]
        refine hK _ _ (Dwp.ret ?_) rfl
        simp [Q3, Qh, QW, frz, Q2, Q0, init, QM, QR, Q6, Ql.one, Ql.and, Enc.bool, Enc.int, Enc.str, Enc.strs, Enc.slice, Enc.agg, Enc.tup, Enc.err, Enc.fn, Ex.then, Ex.inBlock, upd, QbC, h0, h20, hpa]
    · refine Dwp.condF (by simp [eval, upd, hs]) ?_
      refine Dwp.step Qg6 rfl fun K hK => ?_
      simp [dcall, Qf, setAt, Qjp, ty9]
      refine hK _ _ ?_ rfl; clear hK K
      by_cases ht : o.pieces[i].text = ⟨#[]⟩
      · refine Dwp.condT (by simp [eval, upd, ht]) ?_
        simp only [hs, ht, if_false, if_true] at hpa
        refine Dwp.reg Qg6 rfl fun K hK => ?_
        have hpa' : Qb4 o.pieces = (Qb4 (o.pieces.drop (i + 1))).map ((acc ++ [o.pieces[i].sort]) ++ ·) := by
          rw [hpa]; cases Qb4 (o.pieces.drop (i + 1)) <;> simp
        have hsmall : acc.length + 1 ≤ 16777216 := by omega
        rcases h3 with ⟨hr, h3⟩ | ⟨tk, g, h3, hg⟩
        · simp at hr; subst hr
          simp [dcall, Qf, setAt, h3, Qjp, ty9, Qah]
          refine hK _ _ ?_ rfl; clear hK K
          refine Dwp.reg Qg6 rfl fun K hK => ?_
          simp [dcall, Qf, setAt, h17]
          refine hK _ _ ?_ rfl; clear hK K
          exact ⟨o.pieces.length - (i + 1), by omega, i + 1, _, by omega, rfl, hpa', by simp <;> omega, by simp [upd, h1], by simp [upd, h15], by simp [upd, h16], by simp [upd, wrap_small (n := (i : Int) + 1) (by omega) (by omega)], .inr ⟨_, _, by simp [upd]; exact ⟨rfl, rfl⟩, by simp [upd]⟩⟩
        · simp [dcall, Qf, setAt, h3, hg, Qjp, ty9, Qah, hsmall]
          refine hK _ _ ?_ rfl; clear hK K
          refine Dwp.reg Qg6 rfl fun K hK => ?_
          simp [dcall, Qf, setAt, h17]
          refine hK _ _ ?_ rfl; clear hK K
          exact ⟨o.pieces.length - (i + 1), by omega, i + 1, _, by omega, rfl, hpa', by simp <;> omega, by simp [upd, h1], by simp [upd, h15], by simp [upd, h16], by simp [upd, wrap_small (n := (i : Int) + 1) (by omega) (by omega)], .inr ⟨_, _, by simp [upd]; exact ⟨rfl, rfl⟩, by simp [upd]⟩⟩
      · refine Dwp.condF (by simp [eval, upd, ht]) ?_
        simp [hs, ht] at hpa
        refine Dwp.step Qg6 rfl fun K hK => ?_
        simp [dcall, Qf, setAt]
        refine hK _ _ (Dwp.ret ?_) rfl
        simp [Q3, Qh, QW, frz, Q2, Q0, init, QM, QR, Q6, Ql.one, Ql.and, Enc.bool, Enc.int, Enc.str, Enc.strs, Enc.slice, Enc.agg, Enc.tup, Enc.err, Enc.fn, Ex.then, Ex.inBlock, upd, QbC, h0, h20, hpa]
  · refine Dwp.seq (Dwp.condF (by simp [eval, upd, hlt]) (Dwp.exit ?_))
    rw [List.drop_eq_nil_of_le (by omega)] at hpa
    simp [Qb4] at hpa
    refine Dwp.step Qg6 rfl fun K hK => ?_
    have g := call355 (Qf [(354, s354), (355, s355)]) rfl (a 3) (Enc.strs.enc o.args) acc o.args (h3.dec (A := Ql.one Enc.str) (QdU acc)) (Enc.strs.de _) (by unfold lim; omega) hlim
    simp [dcall, Qf, Enc.strs, Enc.slice] at g
    simp [dcall, Qf, setAt, h1, QbY, Qah, Ql.opd, Enc.strs, Enc.slice, g]
    refine hK _ _ (Dwp.ret ?_) rfl
    simp [Q3, Qh, QW, frz, Q2, Q0, init, QM, QR, Q6, Ql.one, Ql.and, Enc.bool, Enc.int, Enc.str, Enc.strs, Enc.slice, Enc.agg, Enc.tup, Enc.err, Enc.fn, upd, QbC, h0, h20, hpa]
theorem e346 : Go.FA.Good Tryz.prog (346, s346) := ⟨c346, Tryz.f346, _, Tryz.func346, rfl, by decide⟩
def bins : List ByteArray := [⟨#[97, 100, 100]⟩, ⟨#[115, 117, 98]⟩, ⟨#[109, 117, 108]⟩, ⟨#[100, 105, 118]⟩, ⟨#[109, 111, 100]⟩, ⟨#[110, 101, 103]⟩, ⟨#[108, 116]⟩, ⟨#[108, 101]⟩, ⟨#[103, 116]⟩, ⟨#[103, 101]⟩, ⟨#[101, 113]⟩, ⟨#[110, 101]⟩, ⟨#[97, 110, 100]⟩, ⟨#[111, 114]⟩, ⟨#[110, 111, 116]⟩, ⟨#[112, 105, 99, 107]⟩, ⟨#[99, 97, 116]⟩, ⟨#[108, 101, 110, 103, 116, 104]⟩, ⟨#[116, 101, 120, 116]⟩, ⟨#[106, 111, 105, 110]⟩, ⟨#[103, 101, 116]⟩, ⟨#[112, 117, 116]⟩, ⟨#[104, 97, 115]⟩, ⟨#[100, 101, 108]⟩, ⟨#[107, 101, 121, 115]⟩, ⟨#[115, 105, 122, 101]⟩, ⟨#[105, 115]⟩, ⟨#[105, 115, 118, 97, 108, 117, 101]⟩]
def Qb8 (s : ByteArray) : Bool := decide (s ∈ bins)
def s120 : Sp := sp (QM Enc.str) Enc.bool (fun s => some (Qb8 s))
theorem c120 : Qb Tryz.prog 120 s120 := by
  refine Qb.of_sp (T := Qf []) Tryz.func120 rfl (Nat.le_of_ble_eq_true rfl) fun E s y hy => ?_
  simp at hy; subst hy
  refine Dwp.step Q9 rfl fun K hK => ?_
  simp [dcall, Qf, setAt, init, QM, QR, Q6, Ql.one, Ql.and, Enc.bool, Enc.int, Enc.str, Enc.strs, Enc.slice, Enc.agg, Enc.tup, Enc.err, Enc.fn]
  refine hK _ _ ?_ rfl; clear hK K
  refine Dwp.seq ?_
  refine Dwp.step Q9 rfl fun K hK => ?_
  simp [dcall, Qf, setAt]
  refine hK _ _ ?_ rfl; clear hK K
  refine Dwp.block ?_
  refine Dwp.seq (Dwp.mono (Q := fun e a _ => e = .normal ∧ a 4 = .lit (.bool (Qb8 s))) ?_ ?_)
  rotate_left
  · rintro _ a σ ⟨rfl, h4⟩
    simp only [Ex.then]
    cases hb : Qb8 s with
    | true =>
      rw [hb] at h4
      refine Dwp.condT h4 ?_
      refine Dwp.step Q9 rfl fun K hK => ?_
      simp [dcall, Qf, setAt]
      refine hK _ _ (Dwp.ret ?_) rfl
      simp [Q3, Qh, QW, frz, Q2, Q0, init, QM, QR, Q6, Ql.one, Ql.and, Enc.bool, Enc.int, Enc.str, Enc.strs, Enc.slice, Enc.agg, Enc.tup, Enc.err, Enc.fn, Ex.then, Ex.inBlock, upd]
    | false =>
      rw [hb] at h4
      refine Dwp.condF h4 (Dwp.skip ?_)
      simp only [Ex.inBlock, Ex.then]
      refine Dwp.step Q9 rfl fun K hK => ?_
      simp [dcall, Qf, setAt]
      refine hK _ _ (Dwp.ret ?_) rfl
      simp [Q3, Qh, QW, frz, Q2, Q0, init, QM, QR, Q6, Ql.one, Ql.and, Enc.bool, Enc.int, Enc.str, Enc.strs, Enc.slice, Enc.agg, Enc.tup, Enc.err, Enc.fn, Ex.then, Ex.inBlock, upd]
  refine Dwp.mono (Q := fun e a _ => e = .normal ∧ a 4 = .lit (.bool (Qb8 s))) ?_ (fun _ _ _ h => h)
  have h3 : (upd (upd (init [DV.lit (.string s)]) 2 (.lit (.bool false))) 3 (.lit (.string s))) 3 = .lit (.string s) := rfl
  refine Dwp.step Q9 rfl fun K hK => ?_
  simp [dcall, Qf, setAt]
  refine hK _ _ ?_ rfl; clear hK K
  by_cases h0 : s = ⟨#[97, 100, 100]⟩
  · exact Dwp.condT (by simp [eval, upd, h0]) (Dwp.skip ⟨rfl, by simp [upd, h0]; rfl⟩)
  refine Dwp.condF (by simp [eval, upd, h0]) ?_
  refine Dwp.step Q9 rfl fun K hK => ?_
  simp [dcall, Qf, setAt]
  refine hK _ _ ?_ rfl; clear hK K
  by_cases h1 : s = ⟨#[115, 117, 98]⟩
  · exact Dwp.condT (by simp [eval, upd, h1]) (Dwp.skip ⟨rfl, by simp [upd, h1]; rfl⟩)
  refine Dwp.condF (by simp [eval, upd, h1]) ?_
  refine Dwp.step Q9 rfl fun K hK => ?_
  simp [dcall, Qf, setAt]
  refine hK _ _ ?_ rfl; clear hK K
  by_cases h2 : s = ⟨#[109, 117, 108]⟩
  · exact Dwp.condT (by simp [eval, upd, h2]) (Dwp.skip ⟨rfl, by simp [upd, h2]; rfl⟩)
  refine Dwp.condF (by simp [eval, upd, h2]) ?_
  refine Dwp.step Q9 rfl fun K hK => ?_
  simp [dcall, Qf, setAt]
  refine hK _ _ ?_ rfl; clear hK K
  by_cases h3 : s = ⟨#[100, 105, 118]⟩
  · exact Dwp.condT (by simp [eval, upd, h3]) (Dwp.skip ⟨rfl, by simp [upd, h3]; rfl⟩)
  refine Dwp.condF (by simp [eval, upd, h3]) ?_
  refine Dwp.step Q9 rfl fun K hK => ?_
  simp [dcall, Qf, setAt]
  refine hK _ _ ?_ rfl; clear hK K
  by_cases h4 : s = ⟨#[109, 111, 100]⟩
  · exact Dwp.condT (by simp [eval, upd, h4]) (Dwp.skip ⟨rfl, by simp [upd, h4]; rfl⟩)
  refine Dwp.condF (by simp [eval, upd, h4]) ?_
  refine Dwp.step Q9 rfl fun K hK => ?_
  simp [dcall, Qf, setAt]
  refine hK _ _ ?_ rfl; clear hK K
  by_cases h5 : s = ⟨#[110, 101, 103]⟩
  · exact Dwp.condT (by simp [eval, upd, h5]) (Dwp.skip ⟨rfl, by simp [upd, h5]; rfl⟩)
  refine Dwp.condF (by simp [eval, upd, h5]) ?_
  refine Dwp.step Q9 rfl fun K hK => ?_
  simp [dcall, Qf, setAt]
  refine hK _ _ ?_ rfl; clear hK K
  by_cases h6 : s = ⟨#[108, 116]⟩
  · exact Dwp.condT (by simp [eval, upd, h6]) (Dwp.skip ⟨rfl, by simp [upd, h6]; rfl⟩)
  refine Dwp.condF (by simp [eval, upd, h6]) ?_
  refine Dwp.step Q9 rfl fun K hK => ?_
  simp [dcall, Qf, setAt]
  refine hK _ _ ?_ rfl; clear hK K
  by_cases h7 : s = ⟨#[108, 101]⟩
  · exact Dwp.condT (by simp [eval, upd, h7]) (Dwp.skip ⟨rfl, by simp [upd, h7]; rfl⟩)
  refine Dwp.condF (by simp [eval, upd, h7]) ?_
  refine Dwp.step Q9 rfl fun K hK => ?_
  simp [dcall, Qf, setAt]
  refine hK _ _ ?_ rfl; clear hK K
  by_cases h8 : s = ⟨#[103, 116]⟩
  · exact Dwp.condT (by simp [eval, upd, h8]) (Dwp.skip ⟨rfl, by simp [upd, h8]; rfl⟩)
  refine Dwp.condF (by simp [eval, upd, h8]) ?_
  refine Dwp.step Q9 rfl fun K hK => ?_
  simp [dcall, Qf, setAt]
  refine hK _ _ ?_ rfl; clear hK K
  by_cases h9 : s = ⟨#[103, 101]⟩
  · exact Dwp.condT (by simp [eval, upd, h9]) (Dwp.skip ⟨rfl, by simp [upd, h9]; rfl⟩)
  refine Dwp.condF (by simp [eval, upd, h9]) ?_
  refine Dwp.step Q9 rfl fun K hK => ?_
  simp [dcall, Qf, setAt]
  refine hK _ _ ?_ rfl; clear hK K
  by_cases h10 : s = ⟨#[101, 113]⟩
  · exact Dwp.condT (by simp [eval, upd, h10]) (Dwp.skip ⟨rfl, by simp [upd, h10]; rfl⟩)
  refine Dwp.condF (by simp [eval, upd, h10]) ?_
  refine Dwp.step Q9 rfl fun K hK => ?_
  simp [dcall, Qf, setAt]
  refine hK _ _ ?_ rfl; clear hK K
  by_cases h11 : s = ⟨#[110, 101]⟩
  · exact Dwp.condT (by simp [eval, upd, h11]) (Dwp.skip ⟨rfl, by simp [upd, h11]; rfl⟩)
  refine Dwp.condF (by simp [eval, upd, h11]) ?_
  refine Dwp.step Q9 rfl fun K hK => ?_
  simp [dcall, Qf, setAt]
  refine hK _ _ ?_ rfl; clear hK K
  by_cases h12 : s = ⟨#[97, 110, 100]⟩
  · exact Dwp.condT (by simp [eval, upd, h12]) (Dwp.skip ⟨rfl, by simp [upd, h12]; rfl⟩)
  refine Dwp.condF (by simp [eval, upd, h12]) ?_
  refine Dwp.step Q9 rfl fun K hK => ?_
  simp [dcall, Qf, setAt]
  refine hK _ _ ?_ rfl; clear hK K
  by_cases h13 : s = ⟨#[111, 114]⟩
  · exact Dwp.condT (by simp [eval, upd, h13]) (Dwp.skip ⟨rfl, by simp [upd, h13]; rfl⟩)
  refine Dwp.condF (by simp [eval, upd, h13]) ?_
  refine Dwp.step Q9 rfl fun K hK => ?_
  simp [dcall, Qf, setAt]
  refine hK _ _ ?_ rfl; clear hK K
  by_cases h14 : s = ⟨#[110, 111, 116]⟩
  · exact Dwp.condT (by simp [eval, upd, h14]) (Dwp.skip ⟨rfl, by simp [upd, h14]; rfl⟩)
  refine Dwp.condF (by simp [eval, upd, h14]) ?_
  refine Dwp.step Q9 rfl fun K hK => ?_
  simp [dcall, Qf, setAt]
  refine hK _ _ ?_ rfl; clear hK K
  by_cases h15 : s = ⟨#[112, 105, 99, 107]⟩
  · exact Dwp.condT (by simp [eval, upd, h15]) (Dwp.skip ⟨rfl, by simp [upd, h15]; rfl⟩)
  refine Dwp.condF (by simp [eval, upd, h15]) ?_
  refine Dwp.step Q9 rfl fun K hK => ?_
  simp [dcall, Qf, setAt]
  refine hK _ _ ?_ rfl; clear hK K
  by_cases h16 : s = ⟨#[99, 97, 116]⟩
  · exact Dwp.condT (by simp [eval, upd, h16]) (Dwp.skip ⟨rfl, by simp [upd, h16]; rfl⟩)
  refine Dwp.condF (by simp [eval, upd, h16]) ?_
  refine Dwp.step Q9 rfl fun K hK => ?_
  simp [dcall, Qf, setAt]
  refine hK _ _ ?_ rfl; clear hK K
  by_cases h17 : s = ⟨#[108, 101, 110, 103, 116, 104]⟩
  · exact Dwp.condT (by simp [eval, upd, h17]) (Dwp.skip ⟨rfl, by simp [upd, h17]; rfl⟩)
  refine Dwp.condF (by simp [eval, upd, h17]) ?_
  refine Dwp.step Q9 rfl fun K hK => ?_
  simp [dcall, Qf, setAt]
  refine hK _ _ ?_ rfl; clear hK K
  by_cases h18 : s = ⟨#[116, 101, 120, 116]⟩
  · exact Dwp.condT (by simp [eval, upd, h18]) (Dwp.skip ⟨rfl, by simp [upd, h18]; rfl⟩)
  refine Dwp.condF (by simp [eval, upd, h18]) ?_
  refine Dwp.step Q9 rfl fun K hK => ?_
  simp [dcall, Qf, setAt]
  refine hK _ _ ?_ rfl; clear hK K
  by_cases h19 : s = ⟨#[106, 111, 105, 110]⟩
  · exact Dwp.condT (by simp [eval, upd, h19]) (Dwp.skip ⟨rfl, by simp [upd, h19]; rfl⟩)
  refine Dwp.condF (by simp [eval, upd, h19]) ?_
  refine Dwp.step Q9 rfl fun K hK => ?_
  simp [dcall, Qf, setAt]
  refine hK _ _ ?_ rfl; clear hK K
  by_cases h20 : s = ⟨#[103, 101, 116]⟩
  · exact Dwp.condT (by simp [eval, upd, h20]) (Dwp.skip ⟨rfl, by simp [upd, h20]; rfl⟩)
  refine Dwp.condF (by simp [eval, upd, h20]) ?_
  refine Dwp.step Q9 rfl fun K hK => ?_
  simp [dcall, Qf, setAt]
  refine hK _ _ ?_ rfl; clear hK K
  by_cases h21 : s = ⟨#[112, 117, 116]⟩
  · exact Dwp.condT (by simp [eval, upd, h21]) (Dwp.skip ⟨rfl, by simp [upd, h21]; rfl⟩)
  refine Dwp.condF (by simp [eval, upd, h21]) ?_
  refine Dwp.step Q9 rfl fun K hK => ?_
  simp [dcall, Qf, setAt]
  refine hK _ _ ?_ rfl; clear hK K
  by_cases h22 : s = ⟨#[104, 97, 115]⟩
  · exact Dwp.condT (by simp [eval, upd, h22]) (Dwp.skip ⟨rfl, by simp [upd, h22]; rfl⟩)
  refine Dwp.condF (by simp [eval, upd, h22]) ?_
  refine Dwp.step Q9 rfl fun K hK => ?_
  simp [dcall, Qf, setAt]
  refine hK _ _ ?_ rfl; clear hK K
  by_cases h23 : s = ⟨#[100, 101, 108]⟩
  · exact Dwp.condT (by simp [eval, upd, h23]) (Dwp.skip ⟨rfl, by simp [upd, h23]; rfl⟩)
  refine Dwp.condF (by simp [eval, upd, h23]) ?_
  refine Dwp.step Q9 rfl fun K hK => ?_
  simp [dcall, Qf, setAt]
  refine hK _ _ ?_ rfl; clear hK K
  by_cases h24 : s = ⟨#[107, 101, 121, 115]⟩
  · exact Dwp.condT (by simp [eval, upd, h24]) (Dwp.skip ⟨rfl, by simp [upd, h24]; rfl⟩)
  refine Dwp.condF (by simp [eval, upd, h24]) ?_
  refine Dwp.step Q9 rfl fun K hK => ?_
  simp [dcall, Qf, setAt]
  refine hK _ _ ?_ rfl; clear hK K
  by_cases h25 : s = ⟨#[115, 105, 122, 101]⟩
  · exact Dwp.condT (by simp [eval, upd, h25]) (Dwp.skip ⟨rfl, by simp [upd, h25]; rfl⟩)
  refine Dwp.condF (by simp [eval, upd, h25]) ?_
  refine Dwp.step Q9 rfl fun K hK => ?_
  simp [dcall, Qf, setAt]
  refine hK _ _ ?_ rfl; clear hK K
  by_cases h26 : s = ⟨#[105, 115]⟩
  · exact Dwp.condT (by simp [eval, upd, h26]) (Dwp.skip ⟨rfl, by simp [upd, h26]; rfl⟩)
  refine Dwp.condF (by simp [eval, upd, h26]) ?_
  refine Dwp.reg Q9 rfl fun K hK => ?_
  simp [dcall, Qf, setAt]
  refine hK _ _ ?_ rfl; clear hK K
  exact ⟨rfl, by simp [upd, Qb8, bins, h0, h1, h2, h3, h4, h5, h6, h7, h8, h9, h10, h11, h12, h13, h14, h15, h16, h17, h18, h19, h20, h21, h22, h23, h24, h25, h26]⟩
theorem e120 : Go.FA.Good Tryz.prog (120, s120) := ⟨c120, Tryz.f120, _, Tryz.func120, rfl, by decide⟩
def ren217 : Go.Shelf.Ren := ⟨fun n => if n = 217 then 296 else if n = 266 then 320 else n, fun n => n, fun n => n⟩
theorem lays217 : Lays.n217 Tryz.prog ren217 where
  mixed := mixed
  f217 := by kernel_rfl
  f266 := by kernel_rfl
  t3 := by kernel_rfl
  a3 := Tryz.isAgg3
  z3 := Tryz.sizeOf3
  v3 := Tryz.zeroValue3
  t5 := by kernel_rfl
  a5 := Tryz.isAgg5
  z5 := Tryz.sizeOf5
  v5 := Tryz.zeroValue5
  t9 := by kernel_rfl
  a9 := Tryz.isAgg9
  z9 := Tryz.sizeOf9
  v9 := Tryz.zeroValue9
def s296 : Sp := sp (QR Enc.str (Enc.int .u8)) Enc.i64 (fun x => some (Lib.indexByte x.1.data.toList x.2.toNat.toUInt8))
theorem c296 : Qb Tryz.prog 296 s296 := by
  intro args r hr
  simp only [s296, sp, Option.bind_eq_some_iff, Option.map_eq_some_iff] at hr
  obtain ⟨⟨s, c⟩, hx, y, hy, rfl⟩ := hr
  refine .inl ⟨Enc.i64.pure y, fun C w cargs hgl hpc hpm hl1 => ?_⟩
  have hl := Qbk ((QR Enc.str (Enc.int .u8)).le _ _ hx) hl1
  simp at hy; subst hy
  have hc : cargs = [.string s, .int .u8 c] := by
    simp only [QR, Ql.and, Ql.one, Enc.str, Enc.int] at hl
    match cargs, hl with
    | [a, b], hl =>
      simp [QP, Qy] at hl
      rw [hl.1, hl.2]
  subst hc
  refine (Any.stringslite_IndexByte lays217 s c w).mono ?_
  rintro e w' ⟨rfl, rfl⟩
  exact ⟨_, rfl, Go.RowKit.Below.refl _ _, by simp [Qy, Enc.i64, Enc.int]⟩
theorem e296 : Go.FA.Good Tryz.prog (296, s296) := ⟨c296, Tryz.f296, _, Tryz.func296, rfl, by decide⟩
def mark (s : ByteArray) : Int := Lib.indexByte s.data.toList 39
theorem Qc8 : ∀ l : List UInt8, Lib.indexByte l 39 = -1 ∨ ∃ i : Nat, i < l.length ∧ Lib.indexByte l 39 = i
  | [] => .inl rfl
  | b :: l => by
    simp only [Lib.indexByte]
    by_cases h : b = 39
    · exact .inr ⟨0, by simp, by simp [h]⟩
    · rcases Qc8 l with e | ⟨i, h1, e⟩
      · left; simp [h, e]
      · right
        refine ⟨i + 1, by simp; omega, ?_⟩
        have : ¬ (i : Int) = -1 := by omega
        simp [h, e, this]
def s359 : Sp := sp (QR Enc.str Enc.str) Enc.i64 (fun x => if x.2 = ⟨#[39]⟩ then some (mark x.1) else none)
theorem t149 : QH Tryz.prog (Qf [(296, s296)]) := .cons e296 .nil
theorem c359 : Qb Tryz.prog 359 s359 := by
  refine Qb.of_sp (T := Qf [(296, s296)]) Tryz.func359 rfl (Nat.le_of_ble_eq_true rfl) fun E x y hy => ?_
  obtain ⟨s, m⟩ := x
  by_cases hm : m = ⟨#[39]⟩ <;> simp [hm] at hy
  subst hy; subst hm
  have h1 : (ByteArray.mk #[39]).size = 1 := rfl
  have h2 : (ByteArray.mk #[39])[0]? = some 39 := rfl
  refine Dwp.step t149 rfl fun K hK => ?_
  simp [dcall, Qf, setAt, init, QM, QR, Q6, Ql.one, Ql.and, Enc.bool, Enc.int, Enc.str, Enc.strs, Enc.slice, Enc.agg, Enc.tup, Enc.err, Enc.fn]
  refine hK _ _ ?_ rfl; clear hK K
  refine Dwp.step t149 rfl fun K hK => ?_
  simp [dcall, Qf, setAt, init, QM, QR, Q6, Ql.one, Ql.and, Enc.bool, Enc.int, Enc.str, Enc.strs, Enc.slice, Enc.agg, Enc.tup, Enc.err, Enc.fn, ty9, h1]
  refine hK _ _ ?_ rfl; clear hK K
  refine Dwp.seq ?_
  refine Dwp.block ?_
  refine Dwp.step t149 rfl fun K hK => ?_
  by_cases hs : (ByteArray.mk #[39]) = s
  · subst hs
    simp [dcall, Qf, setAt, init, QM, QR, Q6, Ql.one, Ql.and, Enc.bool, Enc.int, Enc.str, Enc.strs, Enc.slice, Enc.agg, Enc.tup, Enc.err, Enc.fn, ty9, h1]
    refine hK _ _ ?_ rfl; clear hK K
    refine Dwp.condT (by simp [eval, upd]) ?_
    refine Dwp.step t149 rfl fun K hK => ?_
    simp [dcall, Qf, setAt]
    refine hK _ _ (Dwp.ret ?_) rfl
    simp [Q3, Qh, QW, frz, Q2, Q0, init, QM, QR, Q6, Ql.one, Ql.and, Enc.bool, Enc.int, Enc.str, Enc.strs, Enc.slice, Enc.agg, Enc.tup, Enc.err, Enc.fn, Ex.then, Ex.inBlock, upd, mark, Enc.i64, Lib.indexByte]
  simp [dcall, Qf, setAt, init, QM, QR, Q6, Ql.one, Ql.and, Enc.bool, Enc.int, Enc.str, Enc.strs, Enc.slice, Enc.agg, Enc.tup, Enc.err, Enc.fn, ty9, h1, hs]
  refine hK _ _ ?_ rfl; clear hK K
  refine Dwp.condF (by simp [eval, upd]) ?_
  refine Dwp.step t149 rfl fun K hK => ?_
  simp [dcall, Qf, setAt, init, QM, QR, Q6, Ql.one, Ql.and, Enc.bool, Enc.int, Enc.str, Enc.strs, Enc.slice, Enc.agg, Enc.tup, Enc.err, Enc.fn, ty9, h1]
  refine hK _ _ ?_ rfl; clear hK K
  refine Dwp.condT (by simp [eval, upd]) ?_
  refine Dwp.step t149 rfl fun K hK => ?_
  simp [dcall, Qf, setAt, init, QM, QR, Q6, Ql.one, Ql.and, Enc.bool, Enc.int, Enc.str, Enc.strs, Enc.slice, Enc.agg, Enc.tup, Enc.err, Enc.fn, ty9, h1, h2, s296, sp, Enc.i64]
  refine hK _ _ (Dwp.ret ?_) rfl
  simp [Q3, Qh, QW, frz, Q2, Q0, init, QM, QR, Q6, Ql.one, Ql.and, Enc.bool, Enc.int, Enc.str, Enc.strs, Enc.slice, Enc.agg, Enc.tup, Enc.err, Enc.fn, Ex.then, Ex.inBlock, upd, mark, Enc.i64]
  rfl
theorem e359 : Go.FA.Good Tryz.prog (359, s359) := ⟨c359, Tryz.f359, _, Tryz.func359, rfl, by decide⟩
def Qai (s : ByteArray) : ByteArray × ByteArray × Bool :=
  if 0 ≤ mark s then (s.extract 0 (mark s).toNat, s.extract ((mark s).toNat + 1) s.size, true) else (s, ⟨#[]⟩, false)
def Enc.cut : Enc (ByteArray × ByteArray × Bool) := Enc.tup (Q6 Enc.str Enc.str Enc.bool)
def s357 : Sp := sp (QR Enc.str Enc.str) Enc.cut (fun x => if x.2 = ⟨#[39]⟩ ∧ x.1.size ≤ lim then some (Qai x.1) else none)
theorem t126 : QH Tryz.prog (Qf [(359, s359)]) := .cons e359 .nil
theorem c357 : Qb Tryz.prog 357 s357 := by
  refine Qb.of_sp (T := Qf [(359, s359)]) Tryz.func357 rfl (Nat.le_of_ble_eq_true rfl) fun E x y hy => ?_
  obtain ⟨s, m⟩ := x
  by_cases hm : m = ⟨#[39]⟩ ∧ s.size ≤ lim <;> simp [hm] at hy
  obtain ⟨hm, hs⟩ := hm
  unfold lim at hs
  subst hy; subst hm
  have h1 : (ByteArray.mk #[39]).size = 1 := rfl
  refine Dwp.step t126 rfl fun K hK => ?_
  simp [dcall, Qf, setAt, init, QM, QR, Q6, Ql.one, Ql.and, Enc.bool, Enc.int, Enc.str, Enc.strs, Enc.slice, Enc.agg, Enc.tup, Enc.err, Enc.fn]
  refine hK _ _ ?_ rfl; clear hK K
  refine Dwp.seq ?_
  refine Dwp.step t126 rfl fun K hK => ?_
  simp [dcall, Qf, setAt, init, QM, QR, Q6, Ql.one, Ql.and, Enc.bool, Enc.int, Enc.str, Enc.strs, Enc.slice, Enc.agg, Enc.tup, Enc.err, Enc.fn, s359, sp, Enc.i64]
  refine hK _ _ ?_ rfl; clear hK K
  refine Dwp.step t126 rfl fun K hK => ?_
  simp [dcall, Qf, setAt]
  refine hK _ _ ?_ rfl; clear hK K
  rcases Qc8 s.data.toList with hk | ⟨i, hi, hk⟩
  · have hk' : mark s = -1 := hk
    refine Dwp.condF (by simp [eval, upd, hk']) (Dwp.skip ?_)
    refine Dwp.step t126 rfl fun K hK => ?_
    simp [dcall, Qf, setAt, init, QM, QR, Q6, Ql.one, Ql.and, Enc.bool, Enc.int, Enc.str, Enc.strs, Enc.slice, Enc.agg, Enc.tup, Enc.err, Enc.fn]
    refine hK _ _ (Dwp.ret ?_) rfl
    simp [Q3, Qh, QW, frz, Q2, Q0, init, QM, QR, Q6, Ql.one, Ql.and, Enc.bool, Enc.int, Enc.str, Enc.strs, Enc.slice, Enc.agg, Enc.tup, Enc.err, Enc.fn, Ex.then, upd, Qai, hk', Enc.cut]
  · have hk' : mark s = i := hk
    have hi' : i < s.size := by simpa using hi
    refine Dwp.condT (by simp [eval, upd, hk']) ?_
    refine Dwp.drawStep [] mixed t126 rfl (by decide) fun K hK => ?_
    have hle : i ≤ s.size := by omega
    have hle' : (i : Int) + 1 ≤ s.size := by omega
    have hpos : (0 : Int) ≤ (i : Int) + 1 := by omega
    have htn : ((i : Int) + 1).toNat = i + 1 := by omega
    simp [QbI, touch, QaO, dcall, Qf, setAt, init, QM, QR, Q6, Ql.one, Ql.and, Enc.bool, Enc.int, Enc.str, Enc.strs, Enc.slice, Enc.agg, Enc.tup, Enc.err, Enc.fn, hk', h1, ty9, hle, hle', hpos, htn, wrap_small (n := (i : Int) + 1) (by omega) (by omega)]
    refine hK _ _ (Dwp.ret ?_) rfl
    simp [Q3, Qh, QW, frz, Q2, Q0, init, QM, QR, Q6, Ql.one, Ql.and, Enc.bool, Enc.int, Enc.str, Enc.strs, Enc.slice, Enc.agg, Enc.tup, Enc.err, Enc.fn, Ex.then, upd, Qai, hk', Enc.cut]
theorem e357 : Go.FA.Good Tryz.prog (357, s357) := ⟨c357, Tryz.f357, _, Tryz.func357, rfl, by decide⟩
theorem t101 : QH Tryz.prog (Qf [(357, s357)]) := .cons e357 .nil
theorem c353 : Qb Tryz.prog 353 s357 := by
  refine Qb.of_sp (T := Qf [(357, s357)]) Tryz.func353 rfl (Nat.le_of_ble_eq_true rfl) fun E x y hy => ?_
  obtain ⟨s, m⟩ := x
  by_cases hm : m = ⟨#[39]⟩ ∧ s.size ≤ lim <;> simp [hm] at hy
  obtain ⟨hm, hs⟩ := hm
  subst hy; subst hm
  refine Dwp.step t101 rfl fun K hK => ?_
  simp [dcall, Qf, setAt, init, QM, QR, Q6, Ql.one, Ql.and, Enc.bool, Enc.int, Enc.str, Enc.strs, Enc.slice, Enc.agg, Enc.tup, Enc.err, Enc.fn]
  refine hK _ _ ?_ rfl; clear hK K
  refine Dwp.step t101 rfl fun K hK => ?_
  simp [dcall, Qf, setAt, init, QM, QR, Q6, Ql.one, Ql.and, Enc.bool, Enc.int, Enc.str, Enc.strs, Enc.slice, Enc.agg, Enc.tup, Enc.err, Enc.fn, s357, sp, Enc.cut, hs]
  refine hK _ _ (Dwp.ret ?_) rfl
  simp [Q3, Qh, QW, frz, Q2, Q0, init, QM, QR, Q6, Ql.one, Ql.and, Enc.bool, Enc.int, Enc.str, Enc.strs, Enc.slice, Enc.agg, Enc.tup, Enc.err, Enc.fn, Ex.then, upd, Enc.cut]
theorem e353 : Go.FA.Good Tryz.prog (353, s357) := ⟨c353, Tryz.f353, _, Tryz.func353, rfl, by decide⟩
end
end Go.Proofs.Yt
