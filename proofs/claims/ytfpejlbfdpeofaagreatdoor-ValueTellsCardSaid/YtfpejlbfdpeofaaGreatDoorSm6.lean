/- Contracts of functions of the program, by a machine over abstract values; part 7. No condition beyond those of each theorem. -/
import Derived.Test.YtfpejlbfdpeofaaGreatDoorSm5
import Derived.Test.YtfpejlbfdpeofaaGreatDoorProg
namespace Go.FA
open Go.RowKit
set_option linter.unusedVariables false
mutual
def calmB (I : Nat → Bool) : DV → Bool
  | .junk => false
  | .lit _ => true
  | .strNot _ => true
  | .ptr id _ => I id
  | .live _ _ _ _ => false
  | .row cells _ => calmL I cells
  | .slice _ tag rows => tag.pure && calmR I rows
  | .map id => I id
  | .fmap _ vs => calmL I vs
  | .func _ f c => calmL I f && calmL I c
  | .iface _ v => calmB I v
  | .agg cs => calmL I cs
  | .tuple cs => calmL I cs
def calmL (I : Nat → Bool) : List DV → Bool
  | [] => true
  | d :: ds => calmB I d && calmL I ds
def calmR (I : Nat → Bool) : List (List DV) → Bool
  | [] => true
  | r :: rs => calmL I r && calmR I rs
end

section
variable {C C' : Ctx} {w : World} {I : Nat → Bool}
mutual
theorem VRel_calm (hpc : ∀ b o, C.pc b o → C'.pc b o) (hpm : ∀ b, C.pm b → C'.pm b) (ho : ∀ i b, I i = true → C.obj i = some b → C'.obj i = some b) : ∀ (d : DV) (v : Value), calmB I d = true → VRel C w d v → VRel C' w d v
  | .junk, _, p, _ => by simp [calmB] at p
  | .lit _, _, _, h => by simpa [VRel] using h
  | .strNot _, _, _, h => by simpa [VRel] using h
  | .ptr id off, _, p, h => by
    simp only [VRel, calmB] at h p ⊢
    obtain ⟨b, h1, rfl⟩ := h; exact ⟨b, ho _ _ p h1, rfl⟩
  | .live id k off n, _, p, _ => by simp [calmB] at p
  | .row cells off, _, p, h => by
    simp only [VRel, calmB] at h p ⊢
    obtain ⟨b, o, rfl, hr⟩ := h; exact ⟨b, o, rfl, CRel_calm hpc hpm ho b cells o p hr⟩
  | .slice k tag rows, _, p, h => by
    simp only [VRel, calmB, Bool.and_eq_true] at h p ⊢
    rcases h with ⟨b, o, cap, rfl, hl, hr, ht⟩ | ⟨ad, rfl, hr, ht⟩
    · refine .inl ⟨b, o, cap, rfl, hl, RRel_calm hpc hpm ho k b rows o p.2 hr, ?_⟩
      cases tag with
      | none => trivial
      | nn => trivial
      | full => simp [Tag.pure] at p
      | tok t g => simp [Tag.pure] at p
    · cases tag with
      | none => exact .inr ⟨ad, rfl, hr, trivial⟩
      | nn => exact .inr ⟨ad, rfl, hr, ht⟩
      | full => exact .inr ⟨ad, rfl, hr, trivial⟩
      | tok t g => simp [Tag.pure] at p
  | .map id, _, p, h => by
    simp only [VRel, calmB] at h p ⊢
    obtain ⟨b, h1, rfl⟩ := h; exact ⟨b, ho _ _ p h1, rfl⟩
  | .fmap ks vs, _, p, h => by
    simp only [VRel, calmB] at h p ⊢
    obtain ⟨b, es, clock, rfl, hp, hh, hk, hl, hst⟩ := h
    exact ⟨b, es, clock, rfl, hpm _ hp, hh, hk, LRel_calm hpc hpm ho vs _ p hl, hst⟩
  | .func fn f c, _, p, h => by
    simp only [VRel, calmB, Bool.and_eq_true] at h p ⊢
    obtain ⟨f', c', rfl, h1, h2⟩ := h
    exact ⟨f', c', rfl, LRel_calm hpc hpm ho f _ p.1 h1, LRel_calm hpc hpm ho c _ p.2 h2⟩
  | .iface t d, _, p, h => by
    simp only [VRel, calmB] at h p ⊢
    obtain ⟨y, rfl, h1⟩ := h; exact ⟨y, rfl, VRel_calm hpc hpm ho d y p h1⟩
  | .agg cs, _, p, h => by
    simp only [VRel, calmB] at h p ⊢
    obtain ⟨ys, rfl, h1, h2⟩ := h; exact ⟨ys, rfl, LRel_calm hpc hpm ho cs ys p h1, h2⟩
  | .tuple cs, _, p, h => by
    simp only [VRel, calmB] at h p ⊢
    obtain ⟨ys, rfl, h1⟩ := h; exact ⟨ys, rfl, LRel_calm hpc hpm ho cs ys p h1⟩
theorem LRel_calm (hpc : ∀ b o, C.pc b o → C'.pc b o) (hpm : ∀ b, C.pm b → C'.pm b) (ho : ∀ i b, I i = true → C.obj i = some b → C'.obj i = some b) : ∀ (ds : List DV) (vs : List Value), calmL I ds = true → LRel C w ds vs → LRel C' w ds vs
  | [], [], _, _ => by simp [LRel]
  | d :: ds, v :: vs, p, h => by
    simp only [LRel, calmL, Bool.and_eq_true] at h p ⊢
    exact ⟨VRel_calm hpc hpm ho d v p.1 h.1, LRel_calm hpc hpm ho ds vs p.2 h.2⟩
  | [], _ :: _, _, h => by simp [LRel] at h
  | _ :: _, [], _, h => by simp [LRel] at h
theorem CRel_calm (hpc : ∀ b o, C.pc b o → C'.pc b o) (hpm : ∀ b, C.pm b → C'.pm b) (ho : ∀ i b, I i = true → C.obj i = some b → C'.obj i = some b) (b : Nat) : ∀ (ds : List DV) (o : Nat), calmL I ds = true → CRel C w b o ds → CRel C' w b o ds
  | [], _, _, _ => by simp [CRel]
  | d :: ds, o, p, h => by
    simp only [CRel, calmL, Bool.and_eq_true] at h p ⊢
    obtain ⟨⟨hp, v, hv, h1, hr⟩, ht⟩ := h
    exact ⟨⟨hpc _ _ hp, v, hv, h1, VRel_calm hpc hpm ho d v p.1 hr⟩, CRel_calm hpc hpm ho b ds (o + 1) p.2 ht⟩
theorem RRel_calm (hpc : ∀ b o, C.pc b o → C'.pc b o) (hpm : ∀ b, C.pm b → C'.pm b) (ho : ∀ i b, I i = true → C.obj i = some b → C'.obj i = some b) (k b : Nat) : ∀ (rs : List (List DV)) (o : Nat), calmR I rs = true → RRel C w k b o rs → RRel C' w k b o rs
  | [], _, _, _ => by simp [RRel]
  | r :: rs, o, p, h => by
    simp only [RRel, calmR, Bool.and_eq_true] at h p ⊢
    exact ⟨h.1, CRel_calm hpc hpm ho b r o p.1 h.2.1, RRel_calm hpc hpm ho k b rs (o + k) p.2 h.2.2⟩
end
mutual
/-- the objects that a value names -/
def idsB : DV → List Nat
  | .junk => []
  | .lit _ => []
  | .strNot _ => []
  | .ptr id _ => [id]
  | .live _ _ _ _ => []
  | .row cells _ => idsL cells
  | .slice _ _ rows => idsR rows
  | .map id => [id]
  | .fmap _ vs => idsL vs
  | .func _ f c => idsL f ++ idsL c
  | .iface _ v => idsB v
  | .agg cs => idsL cs
  | .tuple cs => idsL cs
def idsL : List DV → List Nat
  | [] => []
  | d :: ds => idsB d ++ idsL ds
def idsR : List (List DV) → List Nat
  | [] => []
  | r :: rs => idsL r ++ idsR rs
end
mutual
theorem idsB_rel : ∀ (d : DV) (v : Value), VRel C w d v → ∀ i ∈ idsB d, ∃ b, C.obj i = some b
  | .junk, _, _, i, hi => by simp [idsB] at hi
  | .lit _, _, _, i, hi => by simp [idsB] at hi
  | .strNot _, _, _, i, hi => by simp [idsB] at hi
  | .ptr id off, _, h, i, hi => by
    simp only [VRel, idsB, List.mem_singleton] at h hi
    subst hi; obtain ⟨b, h1, _⟩ := h; exact ⟨b, h1⟩
  | .live id k off n, _, _, i, hi => by simp [idsB] at hi
  | .row cells off, _, h, i, hi => by
    simp only [VRel, idsB] at h hi
    obtain ⟨b, o, _, hr⟩ := h; exact idsC_rel b cells o hr i hi
  | .slice k tag rows, _, h, i, hi => by
    simp only [VRel, idsB] at h hi
    rcases h with ⟨b, o, cap, _, _, hr, _⟩ | ⟨ad, _, rfl, _⟩
    · exact idsR_rel k b rows o hr i hi
    · simp [idsR] at hi
  | .map id, _, h, i, hi => by
    simp only [VRel, idsB, List.mem_singleton] at h hi
    subst hi; obtain ⟨b, h1, _⟩ := h; exact ⟨b, h1⟩
  | .fmap ks vs, _, h, i, hi => by
    simp only [VRel, idsB] at h hi
    obtain ⟨b, es, clock, _, _, _, _, hl, _⟩ := h
    exact idsL_rel vs _ hl i hi
  | .func fn f c, _, h, i, hi => by
    simp only [VRel, idsB, List.mem_append] at h hi
    obtain ⟨f', c', _, h1, h2⟩ := h
    exact hi.elim (idsL_rel f _ h1 i) (idsL_rel c _ h2 i)
  | .iface t d, _, h, i, hi => by
    simp only [VRel, idsB] at h hi
    obtain ⟨y, _, h1⟩ := h; exact idsB_rel d y h1 i hi
  | .agg cs, _, h, i, hi => by
    simp only [VRel, idsB] at h hi
    obtain ⟨ys, _, h1, _⟩ := h; exact idsL_rel cs ys h1 i hi
  | .tuple cs, _, h, i, hi => by
    simp only [VRel, idsB] at h hi
    obtain ⟨ys, _, h1⟩ := h; exact idsL_rel cs ys h1 i hi
theorem idsL_rel : ∀ (ds : List DV) (vs : List Value), LRel C w ds vs → ∀ i ∈ idsL ds, ∃ b, C.obj i = some b
  | [], [], _, i, hi => by simp [idsL] at hi
  | d :: ds, v :: vs, h, i, hi => by
    simp only [LRel, idsL, List.mem_append] at h hi
    exact hi.elim (idsB_rel d v h.1 i) (idsL_rel ds vs h.2 i)
  | [], _ :: _, h, _, _ => by simp [LRel] at h
  | _ :: _, [], h, _, _ => by simp [LRel] at h
theorem idsC_rel (b : Nat) : ∀ (ds : List DV) (o : Nat), CRel C w b o ds → ∀ i ∈ idsL ds, ∃ b, C.obj i = some b
  | [], _, _, i, hi => by simp [idsL] at hi
  | d :: ds, o, h, i, hi => by
    simp only [CRel, idsL, List.mem_append] at h hi
    obtain ⟨⟨_, v, _, _, hr⟩, ht⟩ := h
    exact hi.elim (idsB_rel d v hr i) (idsC_rel b ds (o + 1) ht i)
theorem idsR_rel (k b : Nat) : ∀ (rs : List (List DV)) (o : Nat), RRel C w k b o rs → ∀ i ∈ idsR rs, ∃ b, C.obj i = some b
  | [], _, _, i, hi => by simp [idsR] at hi
  | r :: rs, o, h, i, hi => by
    simp only [RRel, idsR, List.mem_append] at h hi
    exact hi.elim (idsC_rel b r o h.2.1 i) (idsR_rel k b rs (o + k) h.2.2 i)
end
end

def top (l : List Nat) : Nat := l.foldr (fun i m => Nat.max (i + 1) m) 0
theorem lt_top {i : Nat} : ∀ {l : List Nat}, i ∈ l → i < top l
  | [], h => by simp at h
  | j :: l, h => by
    simp only [top, List.foldr_cons]
    rcases List.mem_cons.1 h with rfl | q
    · exact Nat.le_max_left (i + 1) _
    · exact Nat.lt_of_lt_of_le (lt_top q) (Nat.le_max_right _ _)
def memN (i : Nat) : List Nat → Bool
  | [] => false
  | j :: l => match Nat.beq i j with
    | true => true
    | false => memN i l
theorem memN_iff {i : Nat} : ∀ {l : List Nat}, memN i l = true → i ∈ l
  | [], h => by simp [memN] at h
  | j :: l, h => by
    simp only [memN] at h
    split at h
    · next hb => rw [Nat.eq_of_beq_eq_true hb]; simp
    · exact List.mem_cons_of_mem _ (memN_iff h)
def σN (n : Nat) : St := ⟨n, fun _ => none, fun _ => none⟩
/-- a contract out of calls from the empty state, whose arguments may name the caller's objects; they are not looked at -/
theorem CallSound.of_calm {P : Program} {g : FuncId} {S : Sp} (h : ∀ xs r, S xs = some r → calmL (fun i => memN i (idsL xs)) xs = true ∧ calmB (fun i => memN i (idsL xs)) r = true ∧ ∃ f, HC P g xs (σN (top (idsL xs))) (fun d σ' => soft σ' f d = r)) : CallSound P g S := by
  intro xs r hr
  obtain ⟨hpx, hpr, f, hh⟩ := h xs r hr
  have hnt : noTok r = true := by
    unfold noTok
    split
    · simp [calmB, Tag.pure] at hpr
    · rfl
  refine .inl ⟨hnt, fun C w cargs hpc hpm hl => ?_⟩
  have hids := idsL_rel xs cargs hl
  obtain ⟨C0, hC0⟩ : ∃ C0 : Ctx, C0 = ⟨fun i => if memN i (idsL xs) then C.obj i else none, fun _ => none, C.pc, C.pm, w.heap.size⟩ := ⟨_, rfl⟩
  have hl0 : LRel C0 w xs cargs := LRel_calm (C := C) (C' := C0) (I := fun i => memN i (idsL xs)) (fun _ _ p => by subst hC0; exact p) (fun _ p => by subst hC0; exact p) (fun i b hi hb => by subst hC0; simp only [] at hi ⊢; rw [if_pos hi]; exact hb) _ _ hpx hl
  have hs0 : SRel ⟨w.heap.size, w, C.pc, C.pm, C0, w⟩ (fun i => (σN (top (idsL xs))).n ≤ i) C0 w (σN (top (idsL xs))) := by
    subst hC0
    refine ⟨rfl, Below.refl _ _, Nat.le_refl _, hpc, hpm, fun _ _ p => p, fun _ p => p, fun _ _ p => .inl p, fun _ p => .inl p, ?_, ?_, ?_, ?_, ?_, fun i hi => ⟨?_, rfl⟩⟩
    · intro i o hi; simp [σN] at hi
    · intro i j oi oj b hi; simp [σN] at hi
    · intro t g ht; simp [σN] at ht
    · intro t t' g g' x x' ht; simp [σN] at ht
    · intro t g x i o ht; simp [σN] at ht
    · simp only []
      split
      · next hm => have := lt_top (memN_iff hm); simp only [σN] at hi; omega
      · rfl
  refine (hh.2 _ C0 w cargs hl0 hs0).mono fun e w' ⟨v, he, d, σ', hd, C', r1, r2, r3, r4⟩ => ?_
  subst hd
  refine ⟨v, he, r4.below, VRel_calm (C := Ctx.all _ C' w') (I := fun i => memN i (idsL xs)) (fun b o p => Or.elim p (fun q => r4.psub b o q) (fun q => Or.inr q)) (fun b p => Or.elim p (fun q => r4.msub b q) (fun q => Or.inr q)) (fun i b hi hb => ?_) _ _ hpr (soft_rel r4 f _ _ r3)⟩
  obtain ⟨b0, hb0⟩ := hids i (memN_iff hi)
  have h0 : C0.obj i = some b0 := by subst hC0; simp only [] at hi ⊢; rw [if_pos hi]; exact hb0
  have h1 := r1.obj _ _ h0
  have h2 : C'.obj i = some b := hb
  rw [h1] at h2
  show C.obj i = some b
  rw [hb0]; exact h2
/-- a value told with less: no right to append to it -/
theorem weak_rel {C : Ctx} {w : World} : ∀ (f : Nat) (d : DV) (v : Value), VRel C w d v → VRel C w (soft σ0 f d) v := by
  have keep : ∀ {d v}, VRel C w d v → VRel C w d v := fun h => h
  intro f
  induction f with
  | zero => intro d v h; exact keep h
  | succ f ih =>
    intro d v h
    have hp : ∀ b o, C.pc b o → C.pc b o := fun _ _ p => p
    cases d with
    | row cells off =>
      simp only [VRel, soft] at h ⊢
      obtain ⟨b, o, rfl, hr⟩ := h
      exact ⟨b, o, rfl, CRel_map1 hp ih hr⟩
    | slice k tag rows =>
      simp only [VRel, soft, List.length_map] at h ⊢
      rcases h with ⟨b, o, cap, rfl, h1, h2, h3⟩ | ⟨ad, rfl, rfl, h3⟩
      · exact .inl ⟨b, o, cap, rfl, h1, RRel_map1 hp ih h2, by cases tag <;> trivial⟩
      · refine .inr ⟨ad, rfl, rfl, ?_⟩
        cases tag <;> first | exact h3 | trivial
    | live id k off n => simpa [soft, σ0, objCells] using h
    | map id => simpa [soft, σ0] using h
    | fmap ks vs =>
      simp only [VRel, soft] at h ⊢
      obtain ⟨b, es, clock, rfl, hp', hh, hk, hl, hst⟩ := h
      exact ⟨b, es, clock, rfl, hp', hh, hk, LRel_map1 ih hl, hst⟩
    | func fn a c =>
      simp only [VRel, soft] at h ⊢
      obtain ⟨f', c', rfl, h1, h2⟩ := h
      exact ⟨f', c', rfl, LRel_map1 ih h1, LRel_map1 ih h2⟩
    | iface t x =>
      simp only [VRel, soft] at h ⊢
      obtain ⟨y, rfl, h1⟩ := h
      exact ⟨y, rfl, ih _ _ h1⟩
    | agg cs =>
      simp only [VRel, soft] at h ⊢
      obtain ⟨ys, rfl, h1, h2⟩ := h
      exact ⟨ys, rfl, LRel_map1 ih h1, h2⟩
    | tuple cs =>
      simp only [VRel, soft] at h ⊢
      obtain ⟨ys, rfl, h1⟩ := h
      exact ⟨ys, rfl, LRel_map1 ih h1⟩
    | junk => exact keep h
    | strNot l => exact keep h
    | lit v => exact keep h
    | ptr id off => exact keep h

theorem weak_relL {C : Ctx} {w : World} : ∀ (ds : List DV) (vs : List Value), LRel C w ds vs → LRel C w (ds.map (soft σ0 100)) vs
  | [], [], _ => by simp [LRel]
  | d :: ds, v :: vs, h => by
    simp only [LRel, List.map_cons] at h ⊢
    exact ⟨weak_rel 100 d v h.1, weak_relL ds vs h.2⟩
  | [], _ :: _, h => by simp [LRel] at h
  | _ :: _, [], h => by simp [LRel] at h
theorem CallSound.weak {P : Program} {g : FuncId} {S : Sp} (h : CallSound P g S) : CallSound P g (fun xs => S (xs.map (soft σ0 100))) := by
  intro xs r hr
  rcases h _ r hr with ⟨h1, h2⟩ | ⟨k, rows, h0, h1, h2⟩
  · exact .inl ⟨h1, fun C w cargs q1 q2 hl => h2 C w cargs q1 q2 (weak_relL _ _ hl)⟩
  · exact .inr ⟨k, rows, h0, h1, fun C w cargs q1 q2 hl => h2 C w cargs q1 q2 (weak_relL _ _ hl)⟩
end Go.FA
namespace Go.FA
open Go.RowKit
set_option linter.unusedVariables false
set_option linter.unusedSimpArgs false

/-- a piece of code whose slots are slots of the frame -/
def codeOk (n : Nat) : Code → Bool
  | .region _ ops _ => dstsOk n ops
  | .seq a b => codeOk n a && codeOk n b
  | .cond _ a b => codeOk n a && codeOk n b
  | .block _ c => codeOk n c
  | .loop c => codeOk n c
  | .skip | .exit _ | .ret => true
  | _ => false

/-- how a function's variables are kept: which boxes are written, and whether what it appends to is an object -/
structure Mode where
  live : Bool
  bx : List Nat
  /-- the keys of the map that it makes -/
  keys : List Value := []
  /-- it looks at none of the objects that its arguments name -/
  calm : Bool := false
  /-- behind which region which slots' objects are written no more -/
  fz : List (Nat × List Nat) := []
abbrev Ev := Mode → Code → Tr DV → EvS → Option (Ex × Tr DV × EvS)
def Mode.box (m : Mode) (d : Option Tmp) : Bool := match d with
  | some t => m.bx.any fun u => Nat.beq u t
  | none => false
/-- operations that a mode tells otherwise -/
def evM (P : Program) (m : Mode) (r : Tr DV) (s : EvS) (o : Oper) : Option (DV × EvS) :=
  match o.op with
  | .box t x => match m.box o.dst with
    | true => match (eval (rg r) x).cells with
      | some cs => some (.ptr s.n 0, ⟨s.n + 1, s.h.put s.n (some (.cells t cs)), s.tk⟩)
      | none => none
    | false => none
  | .call ⟨.builtin .append, ⟨[y, x]⟩, ⟨[t, t']⟩⟩ => match m.live with
    | true => match Nat.beq t t' with
      | true => match dappendL P s.n s.st t (eval (rg r) y) (eval (rg r) x) with
        | some (d, σ1) => some (d, ⟨s.n + 1, (match eval (rg r) y with | .live sid _ _ _ => s.h.put sid none | _ => s.h).put s.n (σ1.objs s.n), s.tk⟩)
        | none => none
      | false => none
    | false => none
  | .makeSlice t x y => match m.live with
    | true => match dmakeL P s.n s.st t (eval (rg r) x) (eval (rg r) y) with
      | some (d, σ1) => some (d, ⟨s.n + 1, s.h.put s.n (σ1.objs s.n), s.tk⟩)
      | none => none
    | false => none
  | _ => none

abbrev Hs := FuncId → Option (List DV → EvS → Option (DV × EvS))
def HsOk (P : Program) (H : Hs) : Prop := ∀ g S, H g = some S → ∀ xs s d s', S xs s = some (d, s') → HC P g xs s.st (fun d2 σ2 => d2 = d ∧ σ2 = s'.st)

/-- a call's body, worked out -/
def evB (P : Program) (M : FuncId → Mode) (ih : Ev) (g : FuncId) (xs : List DV) (s : EvS) : Option (DV × EvS) :=
  match P.funcs[g]? with
  | none => none
  | some fn => match fn.body with
    | none => none
    | some c => match Nat.ble xs.length fn.ntmps && codeOk fn.ntmps c with
      | false => none
      | true => match ih (M g) c (initR 0 xs .leaf) s with
        | some (.normal, r, s') => match dresults P s'.st (rg r) fn.results.toList with
          | some d => some (d, s')
          | none => none
        | some (.ret, r, s') => match dresults P s'.st (rg r) fn.results.toList with
          | some d => some (d, s')
          | none => none
        | _ => none
/-- a call that is shown nothing live, worked out by itself -/
def evPure0 (P : Program) (M : FuncId → Mode) (ih : Ev) (g : FuncId) : Sp := fun xs => match pureL xs with
  | false => none
  | true => match evB P M ih g xs ⟨0, .leaf, .leaf⟩ with
    | none => none
    | some (d, s') => match pureB (soft s'.st 100 d) with
      | true => some (soft s'.st 100 d)
      | false => none
def evCalm (P : Program) (M : FuncId → Mode) (ih : Ev) (g : FuncId) : Sp := fun xs => match calmL (fun i => memN i (idsL xs)) xs with
  | false => none
  | true => match evB P M ih g xs ⟨top (idsL xs), .leaf, .leaf⟩ with
    | none => none
    | some (d, s') => match calmB (fun i => memN i (idsL xs)) (soft s'.st 100 d) with
      | true => some (soft s'.st 100 d)
      | false => none
def evPure (P : Program) (M : FuncId → Mode) (ih : Ev) (g : FuncId) : Sp := match (M g).calm with
  | true => fun xs => evCalm P M ih g (xs.map (soft σ0 100))
  | false => fun xs => evPure0 P M ih g (xs.map (soft σ0 100))
/-- the calls that have no effect -/
def tabE (P : Program) (T : Tab) (H : Hs) (L : FuncId → Bool) (M : FuncId → Mode) (ih : Ev) : Tab := fun g => match T g with
  | some S => some S
  | none => match H g with
    | some _ => none
    | none => match L g with
      | true => none
      | false => match P.funcs[g]? with
        | none => none
        | some fn => match fn.body with
          | none => none
          | some _ => some (evPure P M ih g)
/-- a call, worked out -/
def evC (P : Program) (T : Tab) (H : Hs) (L : FuncId → Bool) (M : FuncId → Mode) (ih : Ev) (g : FuncId) (xs : List DV) (s : EvS) : Option (DV × EvS) :=
  match dcall (tabE P T H L M ih) g xs with
  | some (.slice k (.tok _ _) rows) => some (.slice k (.tok s.n 0) rows, ⟨s.n + 1, s.h, s.tk.put s.n (some 0)⟩)
  | some d => some (d, s)
  | none => match H g with
    | some S => S xs s
    | none => match T g with
      | some _ => none
      | none => evB P M ih g xs s

def evOp (P : Program) (T : Tab) (H : Hs) (L : FuncId → Bool) (M : FuncId → Mode) (ih : Ev) (r : Tr DV) (s : EvS) (o : Op) : Option (DV × EvS) :=
  match o with
  | .call ⟨.value x, args, _⟩ => match dcallee (rg r) x (args.toList.map (eval (rg r))) with
    | some (g, xs) => evC P T H L M ih g xs s
    | none => none
  | op => match dop P (tabE P T H L M ih) s.n (rg r) s.st op with
    | some (d, σ1) => match uses op with
      | true => some (d, ⟨s.n + 1, (nextS s.n s (rg r) op σ1).h, (nextS s.n s (rg r) op σ1).tk⟩)
      | false => some (d, nextS s.n s (rg r) op σ1)
    | none => none
/-- the same from any slots -/
def evOpA (P : Program) (T : Tab) (H : Hs) (L : FuncId → Bool) (M : FuncId → Mode) (ih : Ev) (a : Nat → DV) (s : EvS) (o : Op) : Option (DV × EvS) :=
  match o with
  | .call ⟨.value x, args, _⟩ => match dcallee a x (args.toList.map (eval a)) with
    | some (g, xs) => evC P T H L M ih g xs s
    | none => none
  | op => match dop P (tabE P T H L M ih) s.n a s.st op with
    | some (d, σ1) => match uses op with
      | true => some (d, ⟨s.n + 1, (nextS s.n s a op σ1).h, (nextS s.n s a op σ1).tk⟩)
      | false => some (d, nextS s.n s a op σ1)
    | none => none
/-- operations with an effect: of these each hangs on the one before -/
def effS : Op → Bool
  | .call _ | .store .. | .mapUpdate .. | .insert .. | .makeMap .. | .alloc _ | .range .. | .entry _ => true
  | _ => false
def opZ (P : Program) (T : Tab) (H : Hs) (L : FuncId → Bool) (M : FuncId → Mode) (ih : Ev) (a : Nat → DV) (s : EvS) (o : Op) : Option (DV × EvS) :=
  match effS o with
  | true => evOpA P T H L M ih a s o
  | false => match touch 0 a o with
    | .none => match dop P (tabE P T H L M ih) 0 a s.st o with
      | some (d, _) => some (d, s)
      | none => none
    | _ => none
def dnZ (P : Program) (T : Tab) (H : Hs) (L : FuncId → Bool) (M : FuncId → Mode) (ih : Ev) (ops : Array Oper) (i : Nat) (a : Nat → DV) (s : EvS) : Option (DV × EvS) :=
  match ops[i]? with
  | none => none
  | some o => match dwanted ops a o.guard with
    | some true => opZ P T H L M ih a s o.op
    | some false => some (.lit (.tuple #[]), s)
    | none => none
def lsZ (ops : Array Oper) (j i : Nat) : Bool := match ops[j]?, ops[i]? with
  | some x, some y => x.apart ops y && !(effS x.op && effS y.op)
  | _, _ => false
def evZL (P : Program) (T : Tab) (H : Hs) (L : FuncId → Bool) (M : FuncId → Mode) (ih : Ev) (ops : Array Oper) : List Oper → Tr DV → EvS → Option (Tr DV × EvS)
  | [], r, s => some (r, s)
  | o :: rest, r, s => match dwanted ops (rg r) o.guard with
    | some true => match opZ P T H L M ih (rg r) s o.op with
      | some (d, s') => evZL P T H L M ih ops rest (putR r o.dst d) s'
      | none => none
    | some false => evZL P T H L M ih ops rest (putR r o.dst (.lit (.tuple #[]))) s
    | none => none
def evZ (P : Program) (T : Tab) (H : Hs) (L : FuncId → Bool) (M : FuncId → Mode) (ih : Ev) (ops : Array Oper) (r : Tr DV) (s : EvS) : Option (Tr DV × EvS) :=
  match anyOrderG ops (lsZ ops) with
  | true => evZL P T H L M ih ops ops.toList r s
  | false => none
def Tr.map (f : DV → DV) : Tr DV → Tr DV
  | .leaf => .leaf
  | .node l v r => .node (Tr.map f l) (match v with | some x => some (f x) | none => none) (Tr.map f r)
def frzD (id : Nat) (cs : List DV) (d : DV) : DV := match d with
  | .ptr i off => match Nat.beq i id with
    | true => .row cs off
    | false => d
  | _ => d
def fzOne (t : Nat) (r : Tr DV) (s : EvS) : Tr DV × EvS := match rg r t with
  | .ptr id _ => match s.h.get id with
    | some (.cells _ cs) => (Tr.map (frzD id cs) r, ⟨s.n, s.h.put id none, s.tk⟩)
    | _ => (r, s)
  | _ => (r, s)
def fzL : List Nat → Tr DV → EvS → Tr DV × EvS
  | [], r, s => (r, s)
  | t :: ts, r, s => match fzOne t r s with
    | (r', s') => fzL ts r' s'
def slotsAt (rid : Nat) : List (Nat × List Nat) → List Nat
  | [] => []
  | (i, ts) :: l => match Nat.beq i rid with
    | true => ts
    | false => slotsAt rid l
def fzSlots (m : Mode) : Code → List Nat
  | .region rid _ _ => slotsAt rid m.fz
  | _ => []
/-- a region's operations, worked out in the order of the text -/
def evOps (P : Program) (T : Tab) (H : Hs) (L : FuncId → Bool) (M : FuncId → Mode) (ih : Ev) (m : Mode) (ops : Array Oper) : List Oper → Tr DV → EvS → Option (Tr DV × EvS)
  | [], r, s => some (r, s)
  | o :: rest, r, s => match dwanted ops (rg r) o.guard with
    | some true => match evM P m r s o with
      | some (d, s') => evOps P T H L M ih m ops rest (putR r o.dst d) s'
      | none => match evOp P T H L M ih r s o.op with
        | some (d, s') => evOps P T H L M ih m ops rest (putR r o.dst d) s'
        | none => none
    | some false => evOps P T H L M ih m ops rest (putR r o.dst (.lit (.tuple #[]))) s
    | none => none
/-- a region that draws its order, whose operations touch none, but for calls -/
def evX (P : Program) (T : Tab) (H : Hs) (L : FuncId → Bool) (M : FuncId → Mode) (ih : Ev) (ops : Array Oper) : List Oper → Tr DV → EvS → Option (Tr DV × EvS)
  | [], r, s => some (r, s)
  | o :: rest, r, s => match dwanted ops (rg r) o.guard with
    | some true => match o.op with
      | .call ⟨.value x, args, _⟩ => match dcallee (rg r) x (args.toList.map (eval (rg r))) with
        | some (g, xs) => match evC P T H L M ih g xs s with
          | some (d, s') => evX P T H L M ih ops rest (putR r o.dst d) s'
          | none => none
        | none => none
      | op => match touch 0 (rg r) op with
        | .none => match dop P (tabE P T H L M ih) 0 (rg r) s.st op with
          | some (d, _) => evX P T H L M ih ops rest (putR r o.dst d) s
          | none => none
        | _ => none
    | some false => evX P T H L M ih ops rest (putR r o.dst (.lit (.tuple #[]))) s
    | none => none
/-- a region that draws its order, whose calls have no effect; its operations have names of their own -/
def evT (P : Program) (T : Tab) (H : Hs) (L : FuncId → Bool) (M : FuncId → Mode) (ih : Ev) (ops : Array Oper) (n0 : Nat) : Nat → List Oper → List Touch → Tr DV → EvS → Option (List Touch × Tr DV × EvS)
  | _, [], ts, r, s => some (ts, r, s)
  | i, o :: rest, ts, r, s => match dwanted ops (rg r) o.guard with
    | some true => match dop P (tabE P T H L M ih) (n0 + i) (rg r) s.st o.op with
      | some (d, σ1) => evT P T H L M ih ops n0 (i + 1) rest (touch (n0 + i) (rg r) o.op :: ts) (putR r o.dst d) (nextS (n0 + i) s (rg r) o.op σ1)
      | none => none
    | some false => evT P T H L M ih ops n0 (i + 1) rest (.none :: ts) (putR r o.dst (.lit (.tuple #[]))) s
    | none => none
/-- a region that draws its order, makes a map of known keys and fills it -/
def evKL (P : Program) (T : Tab) (ks : List Value) (σ : St) (ops : Array Oper) : List Oper → Tr DV → Option Sl → Option (Tr DV × Option Sl)
  | [], r, s => some (r, s)
  | o :: rest, r, s => match dwanted ops (rg r) o.guard with
    | some true => match doneK P T ks σ (rg r) s o.op with
      | some (d, s') => evKL P T ks σ ops rest (putR r o.dst d) s'
      | none => none
    | some false => evKL P T ks σ ops rest (putR r o.dst (.lit (.tuple #[]))) s
    | none => none
def evK (P : Program) (T : Tab) (H : Hs) (L : FuncId → Bool) (M : FuncId → Mode) (ih : Ev) (m : Mode) (ops : Array Oper) (r : Tr DV) (s : EvS) : Option (Tr DV × EvS) :=
  match m.keys with
  | [] => none
  | k :: ks => match anyOrderG ops (lsK ops) with
    | false => none
    | true => match evKL P (tabE P T H L M ih) (k :: ks) s.st ops ops.toList r none with
      | some (r', none) => some (r', s)
      | some (r', some sl) => some (r', ⟨s.n + 1, s.h.put s.n (some (.slots sl)), s.tk⟩)
      | none => none
def forceT {α : Type} (l : List Touch) (k : List Touch → α) : List Touch → α := match l with
  | [] => k
  | .none :: ts => fun acc => forceT ts k (.none :: acc)
  | .robj i :: ts => fun acc => forceT ts k (.robj i :: acc)
  | .wobj i :: ts => fun acc => forceT ts k (.wobj i :: acc)
  | .newobj i :: ts => fun acc => forceT ts k (.newobj i :: acc)
  | .tok :: ts => fun acc => forceT ts k (.tok :: acc)

/-- CODE, WORKED OUT -/
def ev (P : Program) (T : Tab) (H : Hs) (L : FuncId → Bool) (M : FuncId → Mode) : Nat → Ev
  | 0, _, _, _, _ => none
  | f + 1, m, c, r, s => match c with
    | .skip => some (.normal, r, s)
    | .exit id => some (.exit id, r, s)
    | .ret => some (.ret, r, s)
    | .seq x y => match ev P T H L M f m x r s with
      | some (.normal, r', s') => match fzL (fzSlots m x) r' s' with
        | (r2, s2) => ev P T H L M f m y r2 s2
      | q => q
    | .cond c x y => match eval (rg r) c with
      | .lit (.bool true) => ev P T H L M f m x r s
      | .lit (.bool false) => ev P T H L M f m y r s
      | _ => none
    | .block id c => match ev P T H L M f m c r s with
      | some (.exit id', r', s') => match Nat.beq id' id with
        | true => some (.normal, r', s')
        | false => some (.exit id', r', s')
      | q => q
    | .loop c => match ev P T H L M f m c r s with
      | some (.normal, r', s') => ev P T H L M f m (.loop c) r' s'
      | q => q
    | .region _ ops false => match evOps P T H L M (ev P T H L M f) m ops ops.toList r s with
      | some (r', s') => some (.normal, r', s')
      | none => none
    | .region _ ops true => match evK P T H L M (ev P T H L M f) m ops r s with
      | some (r', s') => some (.normal, r', s')
      | none => match evZ P T H L M (ev P T H L M f) ops r s with
      | some (r', s') => some (.normal, r', s')
      | none => match anyOrderH ops with
          | true => match evX P T H L M (ev P T H L M f) ops ops.toList r s with
            | some (r', s') => some (.normal, r', s')
            | none => match evT P T H L M (ev P T H L M f) ops s.n 0 ops.toList [] r s with
              | some (ts, r', s') => forceT ts (fun τs => match anyOrder ops (fun i => τs.getD i .none) with
                | true => some (.normal, r', ⟨s'.n + ops.size, s'.h, s'.tk⟩)
                | false => none) []
              | none => none
          | false => match evT P T H L M (ev P T H L M f) ops s.n 0 ops.toList [] r s with
            | some (ts, r', s') => forceT ts (fun τs => match anyOrder ops (fun i => τs.getD i .none) with
              | true => some (.normal, r', ⟨s'.n + ops.size, s'.h, s'.tk⟩)
              | false => none) []
            | none => none
    | _ => none

variable {P : Program} {T : Tab} {H : Hs} {L : FuncId → Bool} {M : FuncId → Mode}
def At (e : Ex) (r : Tr DV) (s : EvS) : Ex → (Nat → DV) → St → Prop := fun e2 a2 σ2 => e2 = e ∧ a2 = rg r ∧ σ2 = s.st
def Unnamed (P : Program) : Prop := ∀ (g : FuncId) (fn : Func), P.funcs[g]? = some fn → fn.body.isSome = true → fn.name ≠ "runtime.NumGoroutine"
def EvOk (P : Program) (T : Tab) (ih : Ev) : Prop := ∀ m c r s e r' s', ih m c r s = some (e, r', s') → ∀ n, codeOk n c = true → ∀ E, Dwp P T E n c (At e r' s') (rg r) s.st

theorem evB_sound {ih : Ev} (hng : Unnamed P) (hih : EvOk P T ih) {g : FuncId} {xs : List DV} {s s' : EvS} {d : DV} (h : evB P M ih g xs s = some (d, s')) :
    HC P g xs s.st (fun d2 σ2 => d2 = d ∧ σ2 = s'.st) := by
  unfold evB at h
  split at h
  · simp at h
  · next fn hfn =>
    split at h
    · simp at h
    · next c hb =>
      split at h
      · simp at h
      · next hk =>
        simp only [Bool.and_eq_true] at hk
        have hk1 : xs.length ≤ fn.ntmps := Nat.le_of_ble_eq_true hk.1
        have fin : ∀ e r s2, (e = .normal ∨ e = .ret) → ih (M g) c (initR 0 xs .leaf) s = some (e, r, s2) → dresults P s2.st (rg r) fn.results.toList = some d → s2 = s' → HC P g xs s.st (fun d2 σ2 => d2 = d ∧ σ2 = s'.st) := by
          intro e r s2 he hev hd hs
          subst hs
          refine HC.of_body (T := T) hfn hb (hng g fn hfn (by simp [hb])) hk1 fun E => ?_
          have := hih _ c _ s e r s2 hev fn.ntmps hk.2 E
          rw [rg_init] at this
          exact this.mono fun e2 a2 σ2 ⟨q1, q2, q3⟩ => by subst q1; subst q2; subst q3; exact ⟨he, d, hd, rfl, rfl⟩
        split at h
        · next r s2 hev =>
          split at h
          · next d2 hd => simp only [Option.some.injEq, Prod.mk.injEq] at h; obtain ⟨rfl, rfl⟩ := h; exact fin _ _ _ (.inl rfl) hev hd rfl
          · simp at h
        · next r s2 hev =>
          split at h
          · next d2 hd => simp only [Option.some.injEq, Prod.mk.injEq] at h; obtain ⟨rfl, rfl⟩ := h; exact fin _ _ _ (.inr rfl) hev hd rfl
          · simp at h
        · simp at h

theorem tabE_sound {ih : Ev} (hT : TabOk P T) (hng : Unnamed P) (hih : EvOk P T ih) : TabOk P (tabE P T H L M ih) := by
  intro g S hS
  unfold tabE at hS
  split at hS
  · next S' h => simp only [Option.some.injEq] at hS; subst hS; exact hT g _ h
  · split at hS
    · simp at hS
    · split at hS
      · simp at hS
      · split at hS
        · simp at hS
        · next fn hfn =>
          split at hS
          · simp at hS
          · next c hb =>
            simp only [Option.some.injEq] at hS; subst hS
            refine ⟨?_, fn, c, hfn, hb, hng g fn hfn (by simp [hb])⟩
            unfold evPure
            split
            · refine CallSound.weak (S := evCalm P M ih g) (CallSound.of_calm fun xs r hr => ?_)
              unfold evCalm at hr
              split at hr
              · simp at hr
              · next hp =>
                split at hr
                · simp at hr
                · next d s' hev =>
                  split at hr
                  · next hpb =>
                    simp only [Option.some.injEq] at hr; subst hr
                    refine ⟨hp, hpb, 100, ?_⟩
                    have := evB_sound hng hih hev
                    exact this.mono fun d2 σ2 ⟨q1, q2⟩ => by subst q1; subst q2; rfl
                  · simp at hr
            · refine CallSound.weak (S := evPure0 P M ih g) (CallSound.of_pure fun xs r hr => ?_)
              unfold evPure0 at hr
              split at hr
              · simp at hr
              · next hp =>
                split at hr
                · simp at hr
                · next d s' hev =>
                  split at hr
                  · next hpb =>
                    simp only [Option.some.injEq] at hr; subst hr
                    refine ⟨hp, hpb, 100, ?_⟩
                    have := evB_sound hng hih hev
                    rw [st0] at this
                    exact this.mono fun d2 σ2 ⟨q1, q2⟩ => by subst q1; subst q2; rfl
                  · simp at hr

theorem evC_sound {ih : Ev} (hT : TabOk P T) (hH : HsOk P H) (hng : Unnamed P) (hih : EvOk P T ih) {g : FuncId} {xs : List DV} {s s' : EvS} {d : DV} (h : evC P T H L M ih g xs s = some (d, s')) :
    HC P g xs s.st (fun d2 σ2 => d2 = d ∧ σ2 = s'.st) := by
  have hT' := tabE_sound (H := H) (L := L) (M := M) hT hng hih
  unfold evC at h
  have hpl : ∀ d0, dcall (tabE P T H L M ih) g xs = some d0 → (∀ k t u rows, d0 ≠ .slice k (.tok t u) rows) → HC P g xs s.st (fun d2 σ2 => d2 = d0 ∧ σ2 = s.st) := by
    intro d0 hd hne
    unfold dcall at hd
    split at hd
    · next S hS =>
      obtain ⟨h1, h2⟩ := hT' g S hS
      refine ⟨h2, fun E C w args hl hs => ?_⟩
      rcases h1 _ _ hd with ⟨hpr, hcalls⟩ | ⟨k, rows, rfl, hpr, hcalls⟩
      · exact (hcalls C w _ hs.pcsize hs.pmsize hl).mono fun e w' ⟨v, he, hb, hv⟩ => ⟨v, he, _, _, ⟨rfl, rfl⟩, Res.of_call hs hb hpr hv⟩
      · exact (hne _ _ _ _ rfl).elim
    · simp at hd
  split at h
  · next k t u rows hr =>
    simp only [Option.some.injEq, Prod.mk.injEq] at h; obtain ⟨rfl, rfl⟩ := h
    unfold dcall at hr
    split at hr
    · next S hS =>
      obtain ⟨h1, h2⟩ := hT' g S hS
      refine HC.of_sound h1 h2 hr ⟨rfl, ?_⟩
      simp only [own, EvS.st, St.mk.injEq, true_and]
      funext j; rw [Tr.get_put]; simp [upd]
    · simp at hr
  · next d' hne hr =>
    simp only [Option.some.injEq, Prod.mk.injEq] at h; obtain ⟨rfl, rfl⟩ := h
    exact hpl _ hr fun k t u rows e => hne k t u rows e
  · split at h
    · next S hS => exact hH g S hS _ _ _ _ h
    · split at h
      · simp at h
      · exact evB_sound hng hih h

theorem Rg.tab {T' : Tab} {E : Entry} {n : Nat} {ops : Array Oper} {K : (Nat → DV) → St → Prop} {l : List Nat} {a : Nat → DV} {σ : St} (h : Rg P E n ops K l a σ) : Rg P E n ops K l a σ := h

theorem evM_sound {m : Mode} {E : Entry} {n i : Nat} {rest : List Nat} {ops : Array Oper} {K : (Nat → DV) → St → Prop} {r : Tr DV} {s s2 : EvS} {o : Oper} {d : DV} (hd : dstsOk n ops = true) (ho : ops[i]? = some o) (hw : dwanted ops (rg r) o.guard = some true)
    (h : evM P m r s o = some (d, s2)) (hk : Rg P E n ops K rest (dput (rg r) o.dst d) s2.st) : Rg P E n ops K (i :: rest) (rg r) s.st := by
  unfold evM at h
  split at h
  · next t x hop =>
    split at h
    · split at h
      · next cs hx =>
        simp only [Option.some.injEq, Prod.mk.injEq] at h; obtain ⟨rfl, rfl⟩ := h
        refine Rg.box hd ho hw hop hx ?_
        have : (⟨s.n + 1, s.h.put s.n (some (.cells t cs)), s.tk⟩ : EvS).st = { s.st with n := s.st.n + 1, objs := upd s.st.objs s.st.n (some (.cells t cs)) } := by
          simp only [EvS.st, St.mk.injEq, true_and, and_true]
          funext j; rw [Tr.get_put]; rfl
        rw [← this]; exact hk
      · simp at h
    · simp at h
  · next y x t t' hop =>
    split at h
    · split at h
      · next htt =>
        have htt := Nat.eq_of_beq_eq_true htt
        subst htt
        split at h
        · next d' σ1 happ =>
          simp only [Option.some.injEq, Prod.mk.injEq] at h; obtain ⟨rfl, rfl⟩ := h
          refine Rg.appendL (d := d') (σ1 := σ1) hd ho hw hop happ ?_
          have : (⟨s.n + 1, (match eval (rg r) y with | .live sid _ _ _ => s.h.put sid none | _ => s.h).put s.n (σ1.objs s.n), s.tk⟩ : EvS).st = { σ1 with n := s.st.n + 1 } := by
            unfold dappendL at happ
            split at happ
            · split at happ
              · split at happ
                · split at happ
                  · split at happ
                    · next hy =>
                      split at happ
                      · simp only [Option.some.injEq, Prod.mk.injEq] at happ; obtain ⟨_, rfl⟩ := happ
                        simp only [EvS.st, St.mk.injEq, true_and, and_true, hy]
                        funext j; rw [Tr.get_put]; simp only [upd]; split <;> simp
                      · simp at happ
                    · next sid k n0 hy =>
                      split at happ
                      · split at happ
                        · next hcc =>
                          simp only [Option.some.injEq, Prod.mk.injEq] at happ; obtain ⟨_, rfl⟩ := happ
                          simp only [EvS.st, St.mk.injEq, true_and, and_true, hy]
                          funext j; rw [Tr.get_put, Tr.get_put]; simp only [upd]; split <;> simp
                        · simp at happ
                      · simp at happ
                    · simp at happ
                  · simp at happ
                · simp at happ
              · simp at happ
            · simp at happ
          rw [← this]; exact hk
        · simp at h
      · simp at h
    · simp at h
  · next t x y hop =>
    split at h
    · split at h
      · next d' σ1 hmk =>
        simp only [Option.some.injEq, Prod.mk.injEq] at h; obtain ⟨rfl, rfl⟩ := h
        refine Rg.makeL (d := d') (σ1 := σ1) hd ho hw hop hmk ?_
        have : (⟨s.n + 1, s.h.put s.n (σ1.objs s.n), s.tk⟩ : EvS).st = { σ1 with n := s.st.n + 1 } := by
          unfold dmakeL at hmk
          split at hmk
          · split at hmk
            · split at hmk
              · split at hmk
                · simp only [Option.some.injEq, Prod.mk.injEq] at hmk; obtain ⟨_, rfl⟩ := hmk
                  simp only [EvS.st, St.mk.injEq, true_and, and_true]
                  funext j; rw [Tr.get_put]; simp only [upd]; split <;> simp
                · simp at hmk
              · simp at hmk
            · simp at hmk
          · simp at hmk
        rw [← this]; exact hk
      · simp at h
    · simp at h
  · simp at h

theorem evOps_sound {ih : Ev} (hT : TabOk P T) (hH : HsOk P H) (hng : Unnamed P) (hih : EvOk P T ih) {m : Mode} {ops : Array Oper} {n : Nat} (hd : dstsOk n ops = true) {E : Entry} {K : (Nat → DV) → St → Prop} :
    ∀ (l : List Oper) (i : Nat) (r : Tr DV) (s : EvS) (r' : Tr DV) (s' : EvS), (∀ j, l[j]? = ops[i + j]?) → evOps P T H L M ih m ops l r s = some (r', s') → K (rg r') s'.st → Rg P E n ops K (List.range' i l.length) (rg r) s.st
  | [], i, r, s, r', s', _, h, hk => by
    simp [evOps] at h; obtain ⟨rfl, rfl⟩ := h
    exact Rg.nil hk
  | o :: rest, i, r, s, r', s', hl, h, hk => by
    have h0 : ops[i]? = some o := by have := hl 0; simpa using this.symm
    have ht : ∀ j, rest[j]? = ops[i + 1 + j]? := fun j => by have := hl (j + 1); rw [show i + 1 + j = i + (j + 1) by omega]; simpa using this
    simp only [List.length_cons, List.range'_succ]
    simp only [evOps] at h
    split at h
    · next hw =>
      split at h
      · next d s2 hm =>
        refine evM_sound hd h0 hw hm ?_
        rw [← rg_putR]
        exact evOps_sound hT hH hng hih hd rest (i + 1) _ _ _ _ ht h hk
      · split at h
        case h_2 => simp at h
        next d s2 hop =>
        unfold evOp at hop
        split at hop
        · next x args tys hopo =>
          split at hop
          · next g xs hc =>
            refine Rg.call hd h0 hopo hw hc (evC_sound hT hH hng hih hop) ?_
            rintro d2 σ2 ⟨rfl, rfl⟩
            rw [← rg_putR]
            exact evOps_sound hT hH hng hih hd rest (i + 1) _ _ _ _ ht h hk
          · simp at hop
        · next hne =>
          split at hop
          · next d' σ1 hdop =>
            have hnx := dop_next hdop
            split at hop
            · next hu =>
              simp only [Option.some.injEq, Prod.mk.injEq] at hop; obtain ⟨rfl, rfl⟩ := hop
              refine Rg.op (tabE_sound (H := H) (L := L) (M := M) hT hng hih) hd h0 hw (d := d') (σ1 := σ1) ?_ ?_
              · unfold dopS
                split
                · next f args tys hopo => exact (hne _ _ _ hopo).elim
                · exact hdop
              · rw [← rg_putR]
                have : ({ σ1 with n := s.st.n + 1 } : St) = (⟨s.n + 1, (nextS s.n s (rg r) o.op σ1).h, (nextS s.n s (rg r) o.op σ1).tk⟩ : EvS).st := by
                  have q1 := congrArg St.objs hnx
                  have q2 := congrArg St.toks hnx
                  simp only [EvS.st, St.mk.injEq, true_and] at q1 q2 ⊢
                  exact ⟨q1.symm, q2.symm⟩
                rw [this]
                exact evOps_sound hT hH hng hih hd rest (i + 1) _ _ _ _ ht h hk
            · next hu =>
              simp only [Option.some.injEq, Prod.mk.injEq] at hop; obtain ⟨rfl, rfl⟩ := hop
              refine Rg.op0 (tabE_sound (H := H) (L := L) (M := M) hT hng hih) hd h0 hw hu hdop (dop_n hdop) ?_
              rw [← rg_putR, ← hnx]
              exact evOps_sound hT hH hng hih hd rest (i + 1) _ _ _ _ ht h hk
          · simp at hop
    · next hw =>
      refine Rg.no hd h0 hw ?_
      rw [← rg_putR]
      exact evOps_sound hT hH hng hih hd rest (i + 1) _ _ _ _ ht h hk
    · simp at h

theorem doneO_op {S : Type} {st : S → St} {hc : Hc S} {a : Nat → DV} {s : S} {o : Op} (hne : ∀ x args tys, o ≠ .call ⟨.value x, args, tys⟩) :
    doneO st P T hc a s o = match touch 0 a o with | .none => (dop P T 0 a (st s) o).map fun p => (p.1, s) | _ => none := by
  unfold doneO
  split
  · next x args tys => exact (hne x args tys rfl).elim
  · rfl
theorem evX_sound {ih : Ev} {ops : Array Oper} : ∀ (l : List Oper) (i : Nat) (r : Tr DV) (s : EvS) (r' : Tr DV) (s' : EvS), (∀ j, l[j]? = ops[i + j]?) → evX P T H L M ih ops l r s = some (r', s') →
    drunX EvS.st P (tabE P T H L M ih) (evC P T H L M ih) ops (List.range' i l.length) (rg r) s = some (rg r', s')
  | [], i, r, s, r', s', _, h => by simp [evX] at h; obtain ⟨rfl, rfl⟩ := h; rfl
  | o :: rest, i, r, s, r', s', hl, h => by
    have h0 : ops[i]? = some o := by have := hl 0; simpa using this.symm
    have ht : ∀ j, rest[j]? = ops[i + 1 + j]? := fun j => by have := hl (j + 1); rw [show i + 1 + j = i + (j + 1) by omega]; simpa using this
    have hdo : dstOf ops i = o.dst := by simp [dstOf, h0]
    simp only [List.length_cons, List.range'_succ, drunX, doneH, h0, hdo]
    simp only [evX] at h
    split at h
    · next hw =>
      rw [hw]
      simp only []
      split at h
      · next x args tys hopo =>
        simp only [doneO, hopo]
        split at h
        · next g xs hc =>
          simp only [hc, Option.bind_some]
          split at h
          · next d s2 hcall =>
            simp only [hcall]
            rw [← rg_putR]
            exact evX_sound rest (i + 1) _ _ _ _ ht h
          · simp at h
        · simp at h
      · next hne =>
        rw [doneO_op (fun x args tys e => hne x args tys e)]
        split at h
        · next htc =>
          split at h
          · next d σ1 hdop =>
            simp only [hdop, Option.map_some]
            rw [← rg_putR]
            exact evX_sound rest (i + 1) _ _ _ _ ht h
          · simp at h
        · simp at h
    · next hw =>
      rw [hw]
      simp only []
      rw [← rg_putR]
      exact evX_sound rest (i + 1) _ _ _ _ ht h
    · simp at h

theorem evT_sound {ih : Ev} {ops : Array Oper} {n0 : Nat} : ∀ (l : List Oper) (i : Nat) (ts : List Touch) (r : Tr DV) (s : EvS) (ts' : List Touch) (r' : Tr DV) (s' : EvS), (∀ j, l[j]? = ops[i + j]?) → evT P T H L M ih ops n0 i l ts r s = some (ts', r', s') →
    ∃ us : List Touch, ts' = us.reverse ++ ts ∧ druns P (tabE P T H L M ih) ops n0 (List.range' i l.length) (rg r) s.st = some (rg r', s'.st) ∧
      ∀ τ : Nat → Touch, (∀ j, j < us.length → τ (i + j) = us.getD j .none) → us.length = l.length → touches P (tabE P T H L M ih) ops n0 τ (List.range' i l.length) (rg r) s.st
  | [], i, ts, r, s, ts', r', s', _, h => by
    simp [evT] at h; obtain ⟨rfl, rfl, rfl⟩ := h
    exact ⟨[], rfl, rfl, fun _ _ _ => trivial⟩
  | o :: rest, i, ts, r, s, ts', r', s', hl, h => by
    have h0 : ops[i]? = some o := by have := hl 0; simpa using this.symm
    have ht : ∀ j, rest[j]? = ops[i + 1 + j]? := fun j => by have := hl (j + 1); rw [show i + 1 + j = i + (j + 1) by omega]; simpa using this
    have hdo : dstOf ops i = o.dst := by simp [dstOf, h0]
    simp only [List.length_cons, List.range'_succ]
    have key : ∀ (u : Touch) (d : DV) (s2 : EvS), done P (tabE P T H L M ih) ops n0 i (rg r) s.st = some (d, s2.st) → dtouch ops n0 i (rg r) = u → evT P T H L M ih ops n0 (i + 1) rest (u :: ts) (putR r o.dst d) s2 = some (ts', r', s') →
        ∃ us : List Touch, ts' = us.reverse ++ ts ∧ druns P (tabE P T H L M ih) ops n0 (i :: List.range' (i + 1) rest.length) (rg r) s.st = some (rg r', s'.st) ∧
          ∀ τ : Nat → Touch, (∀ j, j < us.length → τ (i + j) = us.getD j .none) → us.length = rest.length + 1 → touches P (tabE P T H L M ih) ops n0 τ (i :: List.range' (i + 1) rest.length) (rg r) s.st := by
      intro u d s2 hdn htc hev
      obtain ⟨us, q1, q2, q3⟩ := evT_sound rest (i + 1) _ _ _ _ _ _ ht hev
      rw [rg_putR] at q2 q3
      refine ⟨u :: us, by rw [q1]; simp, ?_, fun τ hτ hlen => ?_⟩
      · rw [druns_cons, hdn]; simp only [hdo]; exact q2
      · simp only [touches, hdn, hdo]
        refine ⟨?_, q3 τ (fun j hj => ?_) (by simpa using hlen)⟩
        · rw [htc]; have := hτ 0 (by simp); simpa using this.symm
        · have := hτ (j + 1) (by simpa using hj)
          rw [show i + 1 + j = i + (j + 1) by omega, this]; simp
    simp only [evT] at h
    split at h
    · next hw =>
      split at h
      · next d σ1 hdop =>
        refine key _ d _ ?_ (by simp [dtouch, h0, hw]) h
        rw [dop_next hdop]
        simp [done, h0, hw, hdop]
      · simp at h
    · next hw => exact key _ _ s (by simp [done, h0, hw]) (by simp [dtouch, h0, hw]) h
    · simp at h
theorem evT_len {ih : Ev} {ops : Array Oper} {n0 : Nat} : ∀ (l : List Oper) (i : Nat) (ts : List Touch) (r : Tr DV) (s : EvS) (ts' : List Touch) (r' : Tr DV) (s' : EvS), evT P T H L M ih ops n0 i l ts r s = some (ts', r', s') → ts'.length = l.length + ts.length
  | [], i, ts, r, s, ts', r', s', h => by simp [evT] at h; obtain ⟨rfl, _⟩ := h; simp
  | o :: rest, i, ts, r, s, ts', r', s', h => by
    simp only [evT] at h
    split at h
    · split at h
      · have := evT_len rest _ _ _ _ _ _ _ h; simp at this ⊢; omega
      · simp at h
    · have := evT_len rest _ _ _ _ _ _ _ h; simp at this ⊢; omega
    · simp at h
theorem evT_n {ih : Ev} {ops : Array Oper} {n0 : Nat} : ∀ (l : List Oper) (i : Nat) (ts : List Touch) (r : Tr DV) (s : EvS) (ts' : List Touch) (r' : Tr DV) (s' : EvS), evT P T H L M ih ops n0 i l ts r s = some (ts', r', s') → s'.n = s.n
  | [], i, ts, r, s, ts', r', s', h => by simp [evT] at h; obtain ⟨_, _, rfl⟩ := h; rfl
  | o :: rest, i, ts, r, s, ts', r', s', h => by
    simp only [evT] at h
    split at h
    · split at h
      · next d σ1 hdop =>
        have := evT_n rest _ _ _ _ _ _ _ h
        rw [this]
        have h1 := dop_next hdop
        have h2 := dop_n hdop
        have h3 := congrArg St.n h1
        exact h3.trans h2
      · simp at h
    · have := evT_n rest _ _ _ _ _ _ _ h; exact this
    · simp at h
theorem forceT_eq {α : Type} (k : List Touch → α) : ∀ (l acc : List Touch), forceT l k acc = k (l.reverse ++ acc)
  | [], acc => rfl
  | t :: l, acc => by cases t <;> simp [forceT, forceT_eq k l]

/-- a region that draws its order, told by a run and its touches -/
theorem Dwp.drawn {T' : Tab} {E : Entry} {n id : Nat} {ops : Array Oper} {Q : Ex → (Nat → DV) → St → Prop} {a a' : Nat → DV} {σ σ' : St} {τ : Nat → Touch} (hm : P.follows .mixedOrders = true) (hT : TabOk P T') (hd : dstsOk n ops = true) (hany : anyOrder ops τ = true)
    (hr : druns P T' ops σ.n (List.range ops.size) a σ = some (a', σ')) (ht : touches P T' ops σ.n τ (List.range ops.size) a σ) (hn1 : σ'.n = σ.n) (hq : Q .normal a' { σ' with n := σ.n + ops.size }) : Dwp P T E n (.region id ops true) Q a σ := by
  refine ⟨fun ca w ds hok => wp_region_any hm ?_⟩
  refine draw_sound (E := E) hT hd hany ops.size (List.range ops.size) _ a σ ca w.drew a' σ' (by simp) List.pairwise_lt_range (fun i => by simp; intro hi; simp [hi]) (by simp) (fun m hm' => ?_) hr ht ?_ fun ca' w' hok' => ?_
  · exfalso
    simp only [Array.getD_eq_getD_getElem?, Array.getElem?_replicate] at hm'
    split at hm' <;> simp at hm'
  · have hok2 := hok.drew
    obtain ⟨hn, C, hf, hs⟩ := hok2
    refine ⟨hn, C, hf, hs.fewer fun i hi => ?_⟩
    rcases hi with ⟨j, _, rfl⟩ | hi <;> omega
  · obtain ⟨hn', C, hf, hs⟩ := hok'
    refine ⟨rfl, .normal, a', _, rfl, hq, hn', C, hf, ?_⟩
    exact ⟨hs.lo, hs.below, hs.bsize, hs.pB, hs.mB, hs.psup, hs.msup, hs.psub, hs.msub, hs.obj, hs.inj, hs.tok, hs.tinj, hs.tobj, fun i hi => hs.fresh i (.inr hi)⟩
theorem chg_congr {n : Nat} {a a' : Nat → DV} {o : Op} (h : ∀ x ∈ o.operands, eval a x = eval a' x) : chgO n a o = chgO n a' o ∧ chgT n a o = chgT n a' o := by
  constructor
  · unfold chgO
    split
    · next t ad x => rw [h ad (by simp [Op.operands])]
    · next t m k x => rw [h m (by simp [Op.operands])]
    · next t m k x => rw [h m (by simp [Op.operands])]
    · rfl
  · unfold chgT
    split
    · next args tys =>
      split
      · next y ys hy => rw [h y (by simp [Op.operands, Call.operands]; have : y ∈ args.toList := by rw [hy]; simp
                                    simpa using this)]
      · rfl
    · rfl
theorem evOpA_congr {ih : Ev} {a a' : Nat → DV} {s : EvS} {o : Op} (h : ∀ x ∈ o.operands, eval a x = eval a' x) : evOpA P T H L M ih a s o = evOpA P T H L M ih a' s o := by
  have h2 := dop_congr (P := P) (T := tabE P T H L M ih) (σ := s.st) (id := s.n) h
  have h3 := chg_congr (n := s.n) h
  have h4 : ∀ σ1, nextS s.n s a o σ1 = nextS s.n s a' o σ1 := fun σ1 => by unfold nextS; rw [h3.1, h3.2]
  unfold evOpA
  split
  · next x args tys =>
    have hx : eval a x = eval a' x := h x (by simp [Op.operands, Call.operands])
    have ha : args.toList.map (eval a) = args.toList.map (eval a') := List.map_congr_left fun y hy => h y (by simp [Op.operands, Call.operands]; right; simpa using hy)
    simp only [dcallee, hx, ha]
  · rw [h2.1]
    simp only [h4]
theorem opZ_congr {ih : Ev} {a a' : Nat → DV} {s : EvS} {o : Op} (h : ∀ x ∈ o.operands, eval a x = eval a' x) : opZ P T H L M ih a s o = opZ P T H L M ih a' s o := by
  have h2 := dop_congr (P := P) (T := tabE P T H L M ih) (σ := s.st) (id := 0) h
  unfold opZ
  rw [evOpA_congr h, h2.1, h2.2]
theorem opZ_still {ih : Ev} {a : Nat → DV} {s : EvS} {o : Op} {d : DV} {s1 : EvS} (hn : effS o = false) (h : opZ P T H L M ih a s o = some (d, s1)) : s1 = s ∧ ∀ s', opZ P T H L M ih a s' o = some (d, s') := by
  unfold opZ at h
  rw [hn] at h
  simp only [] at h
  split at h
  · next ht =>
    split at h
    · next d' σ1 hd =>
      simp only [Option.some.injEq, Prod.mk.injEq] at h; obtain ⟨rfl, rfl⟩ := h
      have := dop_hangs hd
      rw [ht] at this
      exact ⟨rfl, fun s' => by unfold opZ; rw [hn]; have q := this.2 s'.st; simp only [] at q ⊢; simp only [ht, q]⟩
    · simp at h
  · simp at h
theorem dnZ_dput {ih : Ev} {ops : Array Oper} {i : Nat} {a : Nat → DV} {dst : Option Tmp} {d : DV} {o : Oper} (ho : ops[i]? = some o) (h : ∀ t, dst = some t → t ∉ o.looksAt ops) :
    ∀ s, dnZ P T H L M ih ops i (dput a dst d) s = dnZ P T H L M ih ops i a s := by
  have hx : ∀ x ∈ o.op.operands, eval (dput a dst d) x = eval a x := fun x hx => eval_dput fun t ht e => h t ht (by
    unfold Oper.looksAt
    rw [List.mem_append]; left
    rw [List.mem_filterMap]
    exact ⟨x, by simpa using hx, by rw [e]⟩)
  have hw := wanted_dput (a := a) (d := d) h
  intro s
  simp only [dnZ, ho, hw]
  rw [opZ_congr hx]
theorem dnZ_still {ih : Ev} {ops : Array Oper} {i : Nat} {a : Nat → DV} {s s1 : EvS} {o : Oper} {d : DV} (ho : ops[i]? = some o) (hq : effS o.op = false) (h : dnZ P T H L M ih ops i a s = some (d, s1)) : s1 = s ∧ ∀ s', dnZ P T H L M ih ops i a s' = some (d, s') := by
  unfold dnZ at h ⊢
  simp only [ho] at h ⊢
  split at h
  · exact opZ_still hq h
  · simp only [Option.some.injEq, Prod.mk.injEq] at h; obtain ⟨rfl, rfl⟩ := h; exact ⟨rfl, fun _ => rfl⟩
  · simp at h
theorem swapZ {ih : Ev} {ops : Array Oper} : SwapG (dnZ P T H L M ih ops) ops (lsZ ops) := by
  intro j i rest a s r hl h
  unfold lsZ at hl
  split at hl
  · next oj oi hoj hoi =>
    simp only [Bool.and_eq_true, Bool.not_eq_true'] at hl
    obtain ⟨hap, hc1⟩ := hl
    obtain ⟨s1, s2, s3⟩ := Oper.apart_spec hap
    have hdj : dstOf ops j = oj.dst := by simp [dstOf, hoj]
    have hdi : dstOf ops i = oi.dst := by simp [dstOf, hoi]
    simp only [drunG] at h
    cases hj : dnZ P T H L M ih ops j a s with
    | none => rw [hj] at h; simp at h
    | some p =>
      obtain ⟨dj, σ1⟩ := p
      rw [hj] at h
      simp only [] at h
      have e1 := dnZ_dput (P := P) (T := T) (H := H) (L := L) (M := M) (ih := ih) (a := a) (d := dj) (dst := dstOf ops j) hoi (fun t q => s1 t (hdj ▸ q))
      rw [e1] at h
      cases hi : dnZ P T H L M ih ops i a σ1 with
      | none => rw [hi] at h; simp at h
      | some q =>
        obtain ⟨di, σ2⟩ := q
        rw [hi] at h
        simp only [] at h
        have hcomm : dput (dput a (dstOf ops j) dj) (dstOf ops i) di = dput (dput a (dstOf ops i) di) (dstOf ops j) dj :=
          dput_comm fun t q => by rw [hdi]; exact s2 t (hdj ▸ q)
        have e2 := dnZ_dput (P := P) (T := T) (H := H) (L := L) (M := M) (ih := ih) (a := a) (d := di) (dst := dstOf ops i) hoj (fun t q => s3 t (hdi ▸ q))
        have goal : ∀ σ3, dnZ P T H L M ih ops i a s = some (di, σ3) → dnZ P T H L M ih ops j a σ3 = some (dj, σ2) →
            drunG (dnZ P T H L M ih ops) ops (i :: j :: rest) a s = some r := by
          intro σ3 g1 g2
          simp only [drunG]
          rw [g1]
          simp only [e2, g2]
          rw [← hcomm]; exact h
        cases hej : effS oj.op with
        | false =>
          obtain ⟨rfl, hall⟩ := dnZ_still hoj hej hj
          exact goal _ hi (hall _)
        | true =>
          cases hei : effS oi.op with
          | false =>
            obtain ⟨rfl, hall⟩ := dnZ_still hoi hei hi
            exact goal _ (hall _) hj
          | true => rw [hej, hei] at hc1; simp at hc1
  · simp at hl
theorem Rg.evOpA {ih : Ev} (hT : TabOk P T) (hH : HsOk P H) (hng : Unnamed P) (hih : EvOk P T ih) {E : Entry} {n i : Nat} {rest : List Nat} {ops : Array Oper} {K : (Nat → DV) → St → Prop} {a : Nat → DV} {s s' : EvS} {o : Oper} {d : DV} (hd : dstsOk n ops = true) (h0 : ops[i]? = some o) (hw : dwanted ops a o.guard = some true)
    (hop : evOpA P T H L M ih a s o.op = some (d, s')) (hk : Rg P E n ops K rest (dput a o.dst d) s'.st) : Rg P E n ops K (i :: rest) a s.st := by
  unfold Go.FA.evOpA at hop
  split at hop
  · next x args tys hopo =>
    split at hop
    · next g xs hc =>
      refine Rg.call hd h0 hopo hw hc (evC_sound hT hH hng hih hop) ?_
      rintro d2 σ2 ⟨rfl, rfl⟩
      exact hk
    · simp at hop
  · next hne =>
    split at hop
    · next d' σ1 hdop =>
      have hnx := dop_next hdop
      split at hop
      · next hu =>
        simp only [Option.some.injEq, Prod.mk.injEq] at hop; obtain ⟨rfl, rfl⟩ := hop
        refine Rg.op (tabE_sound (H := H) (L := L) (M := M) hT hng hih) hd h0 hw (d := d') (σ1 := σ1) ?_ ?_
        · unfold dopS
          split
          · next f args tys hopo => exact (hne _ _ _ hopo).elim
          · exact hdop
        · have : ({ σ1 with n := s.st.n + 1 } : St) = (⟨s.n + 1, (nextS s.n s a o.op σ1).h, (nextS s.n s a o.op σ1).tk⟩ : EvS).st := by
            have q1 := congrArg St.objs hnx
            have q2 := congrArg St.toks hnx
            simp only [EvS.st, St.mk.injEq, true_and] at q1 q2 ⊢
            exact ⟨q1.symm, q2.symm⟩
          rw [this]
          exact hk
      · next hu =>
        simp only [Option.some.injEq, Prod.mk.injEq] at hop; obtain ⟨rfl, rfl⟩ := hop
        refine Rg.op0 (tabE_sound (H := H) (L := L) (M := M) hT hng hih) hd h0 hw hu hdop (dop_n hdop) ?_
        rw [← hnx]
        exact hk
    · simp at hop
theorem Rg.runZ {ih : Ev} (hT : TabOk P T) (hH : HsOk P H) (hng : Unnamed P) (hih : EvOk P T ih) {E : Entry} {n : Nat} {ops : Array Oper} {K : (Nat → DV) → St → Prop} (hd : dstsOk n ops = true) : ∀ (l : List Nat) (a : Nat → DV) (s : EvS) (r : (Nat → DV) × EvS), drunG (dnZ P T H L M ih ops) ops l a s = some r → K r.1 r.2.st → Rg P E n ops K l a s.st
  | [], a, s, r, h, hk => by simp [drunG] at h; subst h; exact Rg.nil hk
  | i :: l, a, s, r, h, hk => by
    simp only [drunG] at h
    split at h
    · next d s1 hi =>
      have hr := Rg.runZ hT hH hng hih (E := E) (K := K) hd l _ _ r h hk
      unfold dnZ at hi
      split at hi
      · simp at hi
      · next o ho =>
        have hdo : dstOf ops i = o.dst := by simp [dstOf, ho]
        rw [hdo] at hr
        split at hi
        · next hw =>
          unfold opZ at hi
          split at hi
          · exact Rg.evOpA hT hH hng hih hd ho hw hi hr
          · next hne =>
            split at hi
            · next ht =>
              split at hi
              · next d' σ1 hdop =>
                simp only [Option.some.injEq, Prod.mk.injEq] at hi; obtain ⟨rfl, rfl⟩ := hi
                have hu : uses o.op = false := by
                  revert ht
                  cases o.op <;> simp [touch, uses]
                  next c =>
                    obtain ⟨callee, args, tys⟩ := c
                    cases callee with
                    | builtin b => cases b <;> simp [touch, uses]
                    | _ => simp [touch, uses]
                have := dop_hangs hdop
                rw [ht] at this
                obtain ⟨rfl, hall⟩ := this
                exact Rg.op0 (tabE_sound (H := H) (L := L) (M := M) hT hng hih) hd ho hw hu hdop rfl hr
              · simp at hi
            · simp at hi
        · next hw => simp only [Option.some.injEq, Prod.mk.injEq] at hi; obtain ⟨rfl, rfl⟩ := hi; exact Rg.no hd ho hw hr
        · simp at hi
    · simp at h
theorem evZL_sound {ih : Ev} {ops : Array Oper} : ∀ (l : List Oper) (i : Nat) (r : Tr DV) (s : EvS) (r' : Tr DV) (s' : EvS), (∀ j, l[j]? = ops[i + j]?) → evZL P T H L M ih ops l r s = some (r', s') →
    drunG (dnZ P T H L M ih ops) ops (List.range' i l.length) (rg r) s = some (rg r', s')
  | [], i, r, s, r', s', _, h => by simp [evZL] at h; obtain ⟨rfl, rfl⟩ := h; rfl
  | o :: rest, i, r, s, r', s', hl, h => by
    have h0 : ops[i]? = some o := by have := hl 0; simpa using this.symm
    have ht : ∀ j, rest[j]? = ops[i + 1 + j]? := fun j => by have := hl (j + 1); rw [show i + 1 + j = i + (j + 1) by omega]; simpa using this
    have hdo : dstOf ops i = o.dst := by simp [dstOf, h0]
    simp only [List.length_cons, List.range'_succ, drunG, dnZ, h0, hdo]
    simp only [evZL] at h
    split at h
    · next hw =>
      try rw [hw]
      try simp only []
      split at h
      · next d s2 hd =>
        simp only [hd]
        rw [← rg_putR]
        exact evZL_sound rest (i + 1) _ _ _ _ ht h
      · simp at h
    · next hw =>
      try rw [hw]
      try simp only []
      rw [← rg_putR]
      exact evZL_sound rest (i + 1) _ _ _ _ ht h
    · simp at h
theorem evZ_sound (hm : P.follows .mixedOrders = true) {ih : Ev} (hT : TabOk P T) (hH : HsOk P H) (hng : Unnamed P) (hih : EvOk P T ih) {E : Entry} {n id : Nat} {ops : Array Oper} {r r' : Tr DV} {s s' : EvS} (hc : dstsOk n ops = true)
    (h : evZ P T H L M ih ops r s = some (r', s')) : Dwp P T E n (.region id ops true) (At .normal r' s') (rg r) s.st := by
  unfold evZ at h
  split at h
  · next hany =>
    have hl := evZL_sound ops.toList 0 r s r' s' (fun j => by simp) h
    rw [show List.range' 0 ops.toList.length = List.range ops.size by rw [List.range_eq_range']; simp] at hl
    exact ⟨fun ca w ds hok => wp_region_draw fun t => by
      simp only [Region.schedule, hm, Bool.true_or, if_true]
      have hx := orderG (dn := dnZ P T H L M ih ops) (ls := lsZ ops) swapZ hany ops.size t (List.range ops.size) (Array.replicate ops.size false) (rg r) s (by simp) List.pairwise_lt_range (fun i => by simp; intro hi; simp [hi]) (by simp) (fun m hm' => by
        exfalso
        simp only [Array.getD_eq_getD_getElem?, Array.getElem?_replicate] at hm'
        split at hm' <;> simp at hm') hl
      exact Rg.runZ hT hH hng hih (E := E) (K := At .normal r' s' .normal) hc _ _ _ _ hx ⟨rfl, rfl, rfl⟩ ca w.drew ds _ hok.drew fun ca' w' a2 σ2 hk hok' => ⟨rfl, .normal, a2, σ2, rfl, hk, hok'⟩⟩
  · simp at h
theorem Tr.get_map (f : DV → DV) : ∀ (r : Tr DV) (i : Nat), (Tr.map f r).get i = (r.get i).map f
  | .leaf, i => by simp [Tr.map, Tr.get]
  | .node l v r, 0 => by cases v <;> simp [Tr.map, Tr.get]
  | .node l v r, i + 1 => by
    simp only [Tr.map, Tr.get]
    split
    · exact Tr.get_map f l _
    · exact Tr.get_map f r _
theorem fzOne_sound {E : Entry} {n : Nat} {c : Code} {Q : Ex → (Nat → DV) → St → Prop} {t : Nat} {r r' : Tr DV} {s s' : EvS} (h : fzOne t r s = (r', s')) (hq : Dwp P T E n c Q (rg r') s'.st) : Dwp P T E n c Q (rg r) s.st := by
  unfold fzOne at h
  split at h
  · next id off hr =>
    split at h
    · next ty cs ho =>
      simp only [Prod.mk.injEq] at h; obtain ⟨rfl, rfl⟩ := h
      refine Dwp.freeze id (rg (Tr.map (frzD id cs) r)) (o := .cells ty cs) ho (fun t => ?_) ?_
      · simp only [rg, Tr.get_map]
        cases hg : r.get t with
        | none => exact .keep _
        | some d =>
          simp only [Option.map_some]
          unfold frzD
          split
          · next i off' =>
            split
            · next hb =>
              have := Nat.eq_of_beq_eq_true hb
              subst this
              exact .box off' ho
            · exact .keep _
          · exact .keep _
      · have : (⟨s.n, s.h.put id none, s.tk⟩ : EvS).st = { s.st with objs := upd s.st.objs id none } := by
          simp only [EvS.st, St.mk.injEq, true_and, and_true]
          funext j; rw [Tr.get_put]; rfl
        rw [← this]; exact hq
    · simp only [Prod.mk.injEq] at h; obtain ⟨rfl, rfl⟩ := h; exact hq
  · simp only [Prod.mk.injEq] at h; obtain ⟨rfl, rfl⟩ := h; exact hq
theorem fzL_sound {E : Entry} {n : Nat} {c : Code} {Q : Ex → (Nat → DV) → St → Prop} : ∀ (ts : List Nat) {r r' : Tr DV} {s s' : EvS}, fzL ts r s = (r', s') → Dwp P T E n c Q (rg r') s'.st → Dwp P T E n c Q (rg r) s.st
  | [], r, r', s, s', h, hq => by simp only [fzL, Prod.mk.injEq] at h; obtain ⟨rfl, rfl⟩ := h; exact hq
  | t :: ts, r, r', s, s', h, hq => by
    simp only [fzL] at h
    exact fzOne_sound (t := t) (r' := (fzOne t r s).1) (s' := (fzOne t r s).2) rfl (fzL_sound ts h hq)
theorem evKL_sound {T' : Tab} {ks : List Value} {σ : St} {ops : Array Oper} : ∀ (l : List Oper) (i : Nat) (r : Tr DV) (s : Option Sl) (r' : Tr DV) (s' : Option Sl), (∀ j, l[j]? = ops[i + j]?) → evKL P T' ks σ ops l r s = some (r', s') →
    drunG (dnK P T' ks σ ops) ops (List.range' i l.length) (rg r) s = some (rg r', s')
  | [], i, r, s, r', s', _, h => by simp [evKL] at h; obtain ⟨rfl, rfl⟩ := h; rfl
  | o :: rest, i, r, s, r', s', hl, h => by
    have h0 : ops[i]? = some o := by have := hl 0; simpa using this.symm
    have ht : ∀ j, rest[j]? = ops[i + 1 + j]? := fun j => by have := hl (j + 1); rw [show i + 1 + j = i + (j + 1) by omega]; simpa using this
    have hdo : dstOf ops i = o.dst := by simp [dstOf, h0]
    simp only [List.length_cons, List.range'_succ, drunG, dnK, h0, hdo]
    simp only [evKL] at h
    split at h
    · next hw =>
      rw [hw]
      simp only []
      split at h
      · next d s2 hd =>
        simp only [hd]
        rw [← rg_putR]
        exact evKL_sound rest (i + 1) _ _ _ _ ht h
      · simp at h
    · next hw =>
      rw [hw]
      simp only []
      rw [← rg_putR]
      exact evKL_sound rest (i + 1) _ _ _ _ ht h
    · simp at h
theorem evK_sound (hm : P.follows .mixedOrders = true) {ih : Ev} (hT' : TabOk P (tabE P T H L M ih)) {E : Entry} {n id : Nat} {m : Mode} {ops : Array Oper} {r r' : Tr DV} {s s' : EvS} (hc : dstsOk n ops = true)
    (h : evK P T H L M ih m ops r s = some (r', s')) : Dwp P T E n (.region id ops true) (At .normal r' s') (rg r) s.st := by
  unfold evK at h
  split at h
  · simp at h
  · next k ks hk =>
    split at h
    · simp at h
    · next hany =>
      have hl : ∀ {r1 : Tr DV} {s1 : Option Sl}, evKL P (tabE P T H L M ih) (k :: ks) s.st ops ops.toList r none = some (r1, s1) → drunG (dnK P (tabE P T H L M ih) (k :: ks) s.st ops) ops (List.range ops.size) (rg r) none = some (rg r1, s1) := by
        intro r1 s1 h1
        have := evKL_sound ops.toList 0 r none r1 s1 (fun j => by simp) h1
        rwa [show List.range' 0 ops.toList.length = List.range ops.size by rw [List.range_eq_range']; simp] at this
      split at h
      · next r1 h1 =>
        simp only [Option.some.injEq, Prod.mk.injEq] at h; obtain ⟨rfl, rfl⟩ := h
        exact Dwp.drawK hm hT' hc hany (hl h1) ⟨rfl, rfl, rfl⟩
      · next r1 sl h1 =>
        simp only [Option.some.injEq, Prod.mk.injEq] at h; obtain ⟨rfl, rfl⟩ := h
        refine Dwp.drawK hm hT' hc hany (hl h1) ⟨rfl, rfl, ?_⟩
        simp only [kst, EvS.st, St.mk.injEq, true_and, and_true]
        funext j
        rw [Tr.get_put]
        simp [upd]
      · simp at h
theorem ev_sound (hm : P.follows .mixedOrders = true) (hT : TabOk P T) (hH : HsOk P H) (hng : Unnamed P) : ∀ f, EvOk P T (ev P T H L M f) := by
  intro f
  induction f using Nat.strongRecOn with
  | _ f ih =>
    intro m c r s e r' s' h n hc E
    cases f with
    | zero => simp [ev] at h
    | succ f =>
      have ihf : EvOk P T (ev P T H L M f) := ih f (by omega)
      cases c with
      | skip => simp [ev] at h; obtain ⟨rfl, rfl, rfl⟩ := h; exact Dwp.skip ⟨rfl, rfl, rfl⟩
      | exit id => simp [ev] at h; obtain ⟨rfl, rfl, rfl⟩ := h; exact Dwp.exit ⟨rfl, rfl, rfl⟩
      | ret => simp [ev] at h; obtain ⟨rfl, rfl, rfl⟩ := h; exact Dwp.ret ⟨rfl, rfl, rfl⟩
      | seq x y =>
        simp only [codeOk, Bool.and_eq_true] at hc
        simp only [ev] at h
        split at h
        · next r1 s1 h1 =>
          refine Dwp.seq ((ihf _ x _ _ _ _ _ h1 n hc.1 E).mono ?_)
          rintro e2 a2 σ2 ⟨rfl, rfl, rfl⟩
          exact fzL_sound (fzSlots m x) rfl (ihf _ y _ _ _ _ _ h n hc.2 E)
        · next hne =>
          refine Dwp.seq ((ihf _ x _ _ _ _ _ h n hc.1 E).mono ?_)
          rintro e2 a2 σ2 ⟨rfl, rfl, rfl⟩
          cases e2 with
          | normal => exact (hne _ _ h).elim
          | exit id => exact ⟨rfl, rfl, rfl⟩
          | ret => exact ⟨rfl, rfl, rfl⟩
      | cond c x y =>
        simp only [codeOk, Bool.and_eq_true] at hc
        simp only [ev] at h
        split at h
        · next hb => exact Dwp.condT hb (ihf _ x _ _ _ _ _ h n hc.1 E)
        · next hb => exact Dwp.condF hb (ihf _ y _ _ _ _ _ h n hc.2 E)
        · simp at h
      | block id c =>
        simp only [codeOk] at hc
        simp only [ev] at h
        split at h
        · next id' r1 s1 h1 =>
          split at h
          · next hb =>
            simp only [Option.some.injEq, Prod.mk.injEq] at h; obtain ⟨rfl, rfl, rfl⟩ := h
            refine Dwp.block ((ihf _ c _ _ _ _ _ h1 n hc E).mono ?_)
            rintro e2 a2 σ2 ⟨rfl, rfl, rfl⟩
            simp only [Ex.inBlock]; rw [if_pos (Nat.eq_of_beq_eq_true hb)]; exact ⟨rfl, rfl, rfl⟩
          · next hb =>
            simp only [Option.some.injEq, Prod.mk.injEq] at h; obtain ⟨rfl, rfl, rfl⟩ := h
            refine Dwp.block ((ihf _ c _ _ _ _ _ h1 n hc E).mono ?_)
            rintro e2 a2 σ2 ⟨rfl, rfl, rfl⟩
            simp only [Ex.inBlock]; rw [if_neg (Nat.ne_of_beq_eq_false hb)]; exact ⟨rfl, rfl, rfl⟩
        · next hne =>
          refine Dwp.block ((ihf _ c _ _ _ _ _ h n hc E).mono ?_)
          rintro e2 a2 σ2 ⟨rfl, rfl, rfl⟩
          cases e2 with
          | normal => exact ⟨rfl, rfl, rfl⟩
          | exit id => exact (hne _ _ _ h).elim
          | ret => exact ⟨rfl, rfl, rfl⟩
      | loop c =>
        simp only [codeOk] at hc
        refine Dwp.loop (fun k a σ => k ≤ f + 1 ∧ ∃ r s, a = rg r ∧ σ = s.st ∧ ev P T H L M k m (.loop c) r s = some (e, r', s')) (f + 1) ⟨Nat.le_refl _, r, s, rfl, rfl, h⟩ ?_
        rintro k a σ ⟨hk, r1, s1, rfl, rfl, h1⟩
        cases k with
        | zero => simp [ev] at h1
        | succ k =>
          have ihk : EvOk P T (ev P T H L M k) := ih k (by omega)
          simp only [ev] at h1
          split at h1
          · next r2 s2 h2 =>
            refine (ihk _ c _ _ _ _ _ h2 n hc E).mono ?_
            rintro e2 a2 σ2 ⟨rfl, rfl, rfl⟩
            exact ⟨k, by omega, by omega, r2, s2, rfl, rfl, h1⟩
          · next hne =>
            refine (ihk _ c _ _ _ _ _ h1 n hc E).mono ?_
            rintro e2 a2 σ2 ⟨rfl, rfl, rfl⟩
            cases e2 with
            | normal => exact (hne _ _ h1).elim
            | exit id => exact ⟨rfl, rfl, rfl⟩
            | ret => exact ⟨rfl, rfl, rfl⟩
      | region id ops draw =>
        simp only [codeOk] at hc
        cases draw with
        | true =>
          have hT' := tabE_sound (H := H) (L := L) (M := M) hT hng ihf
          have viaT : ∀ ts r1 s1, evT P T H L M (ev P T H L M f) ops s.n 0 ops.toList [] r s = some (ts, r1, s1) →
              forceT ts (fun τs => match anyOrder ops (fun i => τs.getD i .none) with
                | true => some (Ex.normal, r1, (⟨s1.n + ops.size, s1.h, s1.tk⟩ : EvS))
                | false => none) [] = some (e, r', s') → Dwp P T E n (.region id ops true) (At e r' s') (rg r) s.st := by
            intro ts r1 s1 hev hf
            rw [forceT_eq] at hf
            simp only [List.append_nil] at hf
            split at hf
            · next hany =>
              simp only [Option.some.injEq, Prod.mk.injEq] at hf; obtain ⟨rfl, rfl, rfl⟩ := hf
              obtain ⟨us, q1, q2, q3⟩ := evT_sound ops.toList 0 [] r s ts r1 s1 (fun j => by simp) hev
              have hlen := evT_len ops.toList 0 [] r s ts r1 s1 hev
              have hn1 := evT_n ops.toList 0 [] r s ts r1 s1 hev
              simp only [List.append_nil] at q1
              have hus : us = ts.reverse := by rw [q1]; simp
              have hr : List.range' 0 ops.toList.length = List.range ops.size := by rw [List.range_eq_range']; simp
              rw [hr] at q2 q3
              have hany' : anyOrder ops (fun i => us.getD i .none) = true := by rw [hus]; exact hany
              refine Dwp.drawn (τ := fun i => us.getD i .none) hm hT' hc hany' q2 (q3 _ (fun j _ => by simp) (by rw [hus]; simpa using hlen)) ?_ ⟨rfl, rfl, ?_⟩
              · exact hn1
              · show ({ s1.st with n := s.st.n + ops.size } : St) = _
                simp only [EvS.st, hn1]
            · simp at hf
          simp only [ev] at h
          split at h
          · next r1 s1 hK =>
            simp only [Option.some.injEq, Prod.mk.injEq] at h; obtain ⟨rfl, rfl, rfl⟩ := h
            exact evK_sound hm hT' hc hK
          split at h
          · next r1 s1 hZ =>
            simp only [Option.some.injEq, Prod.mk.injEq] at h; obtain ⟨rfl, rfl, rfl⟩ := h
            exact evZ_sound hm hT hH hng ihf hc hZ
          split at h
          · next hany =>
            split at h
            · next r1 s1 h1 =>
              simp only [Option.some.injEq, Prod.mk.injEq] at h; obtain ⟨rfl, rfl, rfl⟩ := h
              have := evX_sound (H := H) (L := L) (M := M) ops.toList 0 r s r1 s1 (fun j => by simp) h1
              rw [show List.range' 0 ops.toList.length = List.range ops.size by rw [List.range_eq_range']; simp] at this
              exact Dwp.drawX hm hT' (fun g xs s d s' hq => evC_sound hT hH hng ihf hq) hc hany this ⟨rfl, rfl, rfl⟩
            · split at h
              · next ts r1 s1 h1 => exact viaT _ _ _ h1 h
              · simp at h
          · split at h
            · next ts r1 s1 h1 => exact viaT _ _ _ h1 h
            · simp at h
        | false =>
          simp only [ev] at h
          split at h
          · next r1 s1 h1 =>
            simp only [Option.some.injEq, Prod.mk.injEq] at h; obtain ⟨rfl, rfl, rfl⟩ := h
            refine Dwp.regH fun K hK => ?_
            have := evOps_sound hT hH hng ihf hc (E := E) (K := K) ops.toList 0 r s r1 s1 (fun j => by simp) h1 (hK _ _ ⟨rfl, rfl, rfl⟩)
            rwa [show List.range' 0 ops.toList.length = List.range ops.size by rw [List.range_eq_range']; simp] at this
          · simp at h
      | _ => simp [codeOk] at hc

/-- A CALL, WORKED OUT -/
theorem HC.of_ev (hm : P.follows .mixedOrders = true) (hT : TabOk P T) (hH : HsOk P H) (hng : Unnamed P) {g : FuncId} {xs : List DV} {s s' : EvS} {d : DV} (f : Nat) (h : evC P T H L M (ev P T H L M f) g xs s = some (d, s')) : HC P g xs s.st (fun d2 σ2 => d2 = d ∧ σ2 = s'.st) :=
  evC_sound hT hH hng (ev_sound hm hT hH hng f) h
end Go.FA
namespace Go.Proofs.Y
open Go Go.FA Go.Proofs Go.RowKit
theorem unnamed : Unnamed Tryz.prog := by
  intro g fn h _
  have : Tryz.prog.funcs.all (fun fn => fn.name != "runtime.NumGoroutine") = true := by kernel_rfl
  have := Array.all_eq_true.1 this
  obtain ⟨h1, h2⟩ := Array.getElem?_eq_some_iff.1 h
  have h3 := this g h1
  rw [h2] at h3
  simpa using h3
theorem mixed : Tryz.prog.follows .mixedOrders = true := by kernel_rfl
def T0 : Tab := fun _ => none
def H0 : Hs := fun _ => none
def abc : ByteArray := ⟨#[97, 98, 99]⟩
end Go.Proofs.Y
open Go Go.FA Go.Proofs
namespace Go.Proofs.Yt
-- of a dump, by gen_ty.py
theorem ty1 : tyOf Tryz.prog 1 = some ⟨.func #[] #[] false, 1, 8, .lit (.nilFunc)⟩ := by kernel_rfl
theorem ty2 : tyOf Tryz.prog 2 = some ⟨.int .i64, 1, 8, .lit (.int .i64 0)⟩ := by kernel_rfl
theorem ty3 : tyOf Tryz.prog 3 = some ⟨.int .i64, 1, 8, .lit (.int .i64 0)⟩ := by kernel_rfl
theorem ty4 : tyOf Tryz.prog 4 = some ⟨.bool, 1, 1, .lit (.bool false)⟩ := by kernel_rfl
theorem ty5 : tyOf Tryz.prog 5 = some ⟨.int .u8, 1, 1, .lit (.int .u8 0)⟩ := by kernel_rfl
theorem ty6 : tyOf Tryz.prog 6 = some ⟨.int .u8, 1, 1, .lit (.int .u8 0)⟩ := by kernel_rfl
theorem ty7 : tyOf Tryz.prog 7 = some ⟨.struct #[{ name := "x", type := 2, offset := 0, embedded := false, tag := "", pkgPath := "runtime", byteOffset := 0 }, { name := "y", type := 3, offset := 1, embedded := false, tag := "", pkgPath := "runtime", byteOffset := 8 }, { name := "signed", type := 4, offset := 2, embedded := false, tag := "", pkgPath := "runtime", byteOffset := 16 }, { name := "code", type := 6, offset := 3, embedded := false, tag := "", pkgPath := "runtime", byteOffset := 17 }], 4, 24, .agg [.lit (.int .i64 0), .lit (.int .i64 0), .lit (.bool false), .lit (.int .u8 0)]⟩ := by kernel_rfl
theorem ty8 : tyOf Tryz.prog 8 = some ⟨.struct #[{ name := "x", type := 2, offset := 0, embedded := false, tag := "", pkgPath := "runtime", byteOffset := 0 }, { name := "y", type := 3, offset := 1, embedded := false, tag := "", pkgPath := "runtime", byteOffset := 8 }, { name := "signed", type := 4, offset := 2, embedded := false, tag := "", pkgPath := "runtime", byteOffset := 16 }, { name := "code", type := 6, offset := 3, embedded := false, tag := "", pkgPath := "runtime", byteOffset := 17 }], 4, 24, .agg [.lit (.int .i64 0), .lit (.int .i64 0), .lit (.bool false), .lit (.int .u8 0)]⟩ := by kernel_rfl
theorem ty9 : tyOf Tryz.prog 9 = some ⟨.string, 1, 16, .lit (.string ⟨#[]⟩)⟩ := by kernel_rfl
theorem ty10 : tyOf Tryz.prog 10 = some ⟨.string, 1, 16, .lit (.string ⟨#[]⟩)⟩ := by kernel_rfl
theorem ty11 : tyOf Tryz.prog 11 = some ⟨.string, 1, 16, .lit (.string ⟨#[]⟩)⟩ := by kernel_rfl
theorem ty12 : tyOf Tryz.prog 12 = some ⟨.int .u64, 1, 8, .lit (.int .u64 0)⟩ := by kernel_rfl
theorem ty13 : tyOf Tryz.prog 13 = some ⟨.struct #[{ name := "msg", type := 9, offset := 0, embedded := false, tag := "", pkgPath := "runtime", byteOffset := 0 }, { name := "addr", type := 12, offset := 1, embedded := false, tag := "", pkgPath := "runtime", byteOffset := 16 }], 2, 24, .agg [.lit (.string ⟨#[]⟩), .lit (.int .u64 0)]⟩ := by kernel_rfl
theorem ty14 : tyOf Tryz.prog 14 = some ⟨.struct #[{ name := "msg", type := 9, offset := 0, embedded := false, tag := "", pkgPath := "runtime", byteOffset := 0 }, { name := "addr", type := 12, offset := 1, embedded := false, tag := "", pkgPath := "runtime", byteOffset := 16 }], 2, 24, .agg [.lit (.string ⟨#[]⟩), .lit (.int .u64 0)]⟩ := by kernel_rfl
theorem ty15 : tyOf Tryz.prog 15 = some ⟨.pointer 288, 1, 8, .lit (.pointer none)⟩ := by kernel_rfl
theorem ty16 : tyOf Tryz.prog 16 = some ⟨.pointer 291, 1, 8, .lit (.pointer none)⟩ := by kernel_rfl
theorem ty17 : tyOf Tryz.prog 17 = some ⟨.pointer 298, 1, 8, .lit (.pointer none)⟩ := by kernel_rfl
theorem ty18 : tyOf Tryz.prog 18 = some ⟨.struct #[{ name := "typ", type := 17, offset := 0, embedded := false, tag := "", pkgPath := "internal/runtime/maps", byteOffset := 0 }], 1, 8, .agg [.lit (.pointer none)]⟩ := by kernel_rfl
theorem ty19 : tyOf Tryz.prog 19 = some ⟨.struct #[{ name := "typ", type := 17, offset := 0, embedded := false, tag := "", pkgPath := "internal/runtime/maps", byteOffset := 0 }], 1, 8, .agg [.lit (.pointer none)]⟩ := by kernel_rfl
theorem ty21 : tyOf Tryz.prog 21 = some ⟨.int .i32, 1, 4, .lit (.int .i32 0)⟩ := by kernel_rfl
theorem ty22 : tyOf Tryz.prog 22 = some ⟨.slice 9, 1, 24, .lit (.slice none 0 0)⟩ := by kernel_rfl
theorem ty23 : tyOf Tryz.prog 23 = some ⟨.slice 143, 1, 24, .lit (.slice none 0 0)⟩ := by kernel_rfl
theorem ty24 : tyOf Tryz.prog 24 = some ⟨.slice 83, 1, 24, .lit (.slice none 0 0)⟩ := by kernel_rfl
theorem ty25 : tyOf Tryz.prog 25 = some ⟨.struct #[{ name := "Sorts", type := 22, offset := 0, embedded := false, tag := "", pkgPath := "", byteOffset := 0 }, { name := "Below", type := 23, offset := 1, embedded := false, tag := "", pkgPath := "", byteOffset := 24 }, { name := "Ops", type := 24, offset := 2, embedded := false, tag := "", pkgPath := "", byteOffset := 48 }, { name := "Funs", type := 24, offset := 3, embedded := false, tag := "", pkgPath := "", byteOffset := 72 }, { name := "Values", type := 22, offset := 4, embedded := false, tag := "", pkgPath := "", byteOffset := 96 }], 5, 120, .agg [.lit (.slice none 0 0), .lit (.slice none 0 0), .lit (.slice none 0 0), .lit (.slice none 0 0), .lit (.slice none 0 0)]⟩ := by kernel_rfl
theorem ty26 : tyOf Tryz.prog 26 = some ⟨.struct #[{ name := "Sorts", type := 22, offset := 0, embedded := false, tag := "", pkgPath := "", byteOffset := 0 }, { name := "Below", type := 23, offset := 1, embedded := false, tag := "", pkgPath := "", byteOffset := 24 }, { name := "Ops", type := 24, offset := 2, embedded := false, tag := "", pkgPath := "", byteOffset := 48 }, { name := "Funs", type := 24, offset := 3, embedded := false, tag := "", pkgPath := "", byteOffset := 72 }, { name := "Values", type := 22, offset := 4, embedded := false, tag := "", pkgPath := "", byteOffset := 96 }], 5, 120, .agg [.lit (.slice none 0 0), .lit (.slice none 0 0), .lit (.slice none 0 0), .lit (.slice none 0 0), .lit (.slice none 0 0)]⟩ := by kernel_rfl
theorem ty27 : tyOf Tryz.prog 27 = some ⟨.int .i64, 1, 8, .lit (.int .i64 0)⟩ := by kernel_rfl
theorem ty28 : tyOf Tryz.prog 28 = some ⟨.slice 30, 1, 24, .lit (.slice none 0 0)⟩ := by kernel_rfl
theorem ty29 : tyOf Tryz.prog 29 = some ⟨.struct #[{ name := "Kind", type := 27, offset := 0, embedded := false, tag := "", pkgPath := "", byteOffset := 0 }, { name := "N", type := 3, offset := 1, embedded := false, tag := "", pkgPath := "", byteOffset := 8 }, { name := "Text", type := 9, offset := 2, embedded := false, tag := "", pkgPath := "", byteOffset := 16 }, { name := "Sort", type := 9, offset := 3, embedded := false, tag := "", pkgPath := "", byteOffset := 32 }, { name := "Kids", type := 28, offset := 4, embedded := false, tag := "", pkgPath := "", byteOffset := 48 }, { name := "Rest", type := 28, offset := 5, embedded := false, tag := "", pkgPath := "", byteOffset := 72 }], 6, 96, .agg [.lit (.int .i64 0), .lit (.int .i64 0), .lit (.string ⟨#[]⟩), .lit (.string ⟨#[]⟩), .lit (.slice none 0 0), .lit (.slice none 0 0)]⟩ := by kernel_rfl
theorem ty30 : tyOf Tryz.prog 30 = some ⟨.struct #[{ name := "Kind", type := 27, offset := 0, embedded := false, tag := "", pkgPath := "", byteOffset := 0 }, { name := "N", type := 3, offset := 1, embedded := false, tag := "", pkgPath := "", byteOffset := 8 }, { name := "Text", type := 9, offset := 2, embedded := false, tag := "", pkgPath := "", byteOffset := 16 }, { name := "Sort", type := 9, offset := 3, embedded := false, tag := "", pkgPath := "", byteOffset := 32 }, { name := "Kids", type := 28, offset := 4, embedded := false, tag := "", pkgPath := "", byteOffset := 48 }, { name := "Rest", type := 28, offset := 5, embedded := false, tag := "", pkgPath := "", byteOffset := 72 }], 6, 96, .agg [.lit (.int .i64 0), .lit (.int .i64 0), .lit (.string ⟨#[]⟩), .lit (.string ⟨#[]⟩), .lit (.slice none 0 0), .lit (.slice none 0 0)]⟩ := by kernel_rfl
theorem ty31 : tyOf Tryz.prog 31 = some ⟨.func #[26] #[4] false, 1, 8, .lit (.nilFunc)⟩ := by kernel_rfl
theorem ty32 : tyOf Tryz.prog 32 = some ⟨.func #[28] #[4] true, 1, 8, .lit (.nilFunc)⟩ := by kernel_rfl
theorem ty33 : tyOf Tryz.prog 33 = some ⟨.func #[] #[4] false, 1, 8, .lit (.nilFunc)⟩ := by kernel_rfl
theorem ty34 : tyOf Tryz.prog 34 = some ⟨.func #[30] #[4] false, 1, 8, .lit (.nilFunc)⟩ := by kernel_rfl
theorem ty35 : tyOf Tryz.prog 35 = some ⟨.func #[26, 30] #[4] false, 1, 8, .lit (.nilFunc)⟩ := by kernel_rfl
theorem ty36 : tyOf Tryz.prog 36 = some ⟨.int .i64, 1, 8, .lit (.int .i64 0)⟩ := by kernel_rfl
theorem ty38 : tyOf Tryz.prog 38 = some ⟨.func #[26, 30] #[9, 36] false, 1, 8, .lit (.nilFunc)⟩ := by kernel_rfl
theorem ty40 : tyOf Tryz.prog 40 = some ⟨.func #[26, 30] #[4, 36] false, 1, 8, .lit (.nilFunc)⟩ := by kernel_rfl
theorem ty42 : tyOf Tryz.prog 42 = some ⟨.func #[30, 30] #[3, 36] false, 1, 8, .lit (.nilFunc)⟩ := by kernel_rfl
theorem ty43 : tyOf Tryz.prog 43 = some ⟨.func #[30, 30] #[4] false, 1, 8, .lit (.nilFunc)⟩ := by kernel_rfl
theorem ty44 : tyOf Tryz.prog 44 = some ⟨.func #[30] #[3, 36] false, 1, 8, .lit (.nilFunc)⟩ := by kernel_rfl
theorem ty46 : tyOf Tryz.prog 46 = some ⟨.func #[30] #[22, 36] false, 1, 8, .lit (.nilFunc)⟩ := by kernel_rfl
theorem ty47 : tyOf Tryz.prog 47 = some ⟨.func #[30] #[9, 36] false, 1, 8, .lit (.nilFunc)⟩ := by kernel_rfl
theorem ty48 : tyOf Tryz.prog 48 = some ⟨.array 2 30, 12, 192, .agg [.lit (.int .i64 0), .lit (.int .i64 0), .lit (.string ⟨#[]⟩), .lit (.string ⟨#[]⟩), .lit (.slice none 0 0), .lit (.slice none 0 0), .lit (.int .i64 0), .lit (.int .i64 0), .lit (.string ⟨#[]⟩), .lit (.string ⟨#[]⟩), .lit (.slice none 0 0), .lit (.slice none 0 0)]⟩ := by kernel_rfl
theorem ty49 : tyOf Tryz.prog 49 = some ⟨.slice 3, 1, 24, .lit (.slice none 0 0)⟩ := by kernel_rfl
theorem ty50 : tyOf Tryz.prog 50 = some ⟨.array 2 9, 2, 32, .agg [.lit (.string ⟨#[]⟩), .lit (.string ⟨#[]⟩)]⟩ := by kernel_rfl
theorem ty51 : tyOf Tryz.prog 51 = some ⟨.func #[28] #[28] false, 1, 8, .lit (.nilFunc)⟩ := by kernel_rfl
theorem ty53 : tyOf Tryz.prog 53 = some ⟨.func #[30, 49] #[30, 36] false, 1, 8, .lit (.nilFunc)⟩ := by kernel_rfl
theorem ty54 : tyOf Tryz.prog 54 = some ⟨.func #[30, 49, 30] #[30, 36] false, 1, 8, .lit (.nilFunc)⟩ := by kernel_rfl
theorem ty55 : tyOf Tryz.prog 55 = some ⟨.func #[30, 9, 9] #[30, 36] false, 1, 8, .lit (.nilFunc)⟩ := by kernel_rfl
theorem ty56 : tyOf Tryz.prog 56 = some ⟨.func #[48, 49, 50] #[4] false, 1, 8, .lit (.nilFunc)⟩ := by kernel_rfl
theorem ty57 : tyOf Tryz.prog 57 = some ⟨.func #[3] #[30] false, 1, 8, .lit (.nilFunc)⟩ := by kernel_rfl
theorem ty58 : tyOf Tryz.prog 58 = some ⟨.func #[5, 5] #[4] false, 1, 8, .lit (.nilFunc)⟩ := by kernel_rfl
theorem ty59 : tyOf Tryz.prog 59 = some ⟨.array 3 30, 18, 288, .agg [.lit (.int .i64 0), .lit (.int .i64 0), .lit (.string ⟨#[]⟩), .lit (.string ⟨#[]⟩), .lit (.slice none 0 0), .lit (.slice none 0 0), .lit (.int .i64 0), .lit (.int .i64 0), .lit (.string ⟨#[]⟩), .lit (.string ⟨#[]⟩), .lit (.slice none 0 0), .lit (.slice none 0 0), .lit (.int .i64 0), .lit (.int .i64 0), .lit (.string ⟨#[]⟩), .lit (.string ⟨#[]⟩), .lit (.slice none 0 0), .lit (.slice none 0 0)]⟩ := by kernel_rfl
theorem ty60 : tyOf Tryz.prog 60 = some ⟨.func #[59] #[4] false, 1, 8, .lit (.nilFunc)⟩ := by kernel_rfl
theorem ty61 : tyOf Tryz.prog 61 = some ⟨.func #[30, 30, 49] #[4] false, 1, 8, .lit (.nilFunc)⟩ := by kernel_rfl
theorem ty62 : tyOf Tryz.prog 62 = some ⟨.func #[30] #[3] false, 1, 8, .lit (.nilFunc)⟩ := by kernel_rfl
theorem ty63 : tyOf Tryz.prog 63 = some ⟨.func #[30, 9, 9] #[4] false, 1, 8, .lit (.nilFunc)⟩ := by kernel_rfl
theorem ty64 : tyOf Tryz.prog 64 = some ⟨.func #[26, 28] #[4] true, 1, 8, .lit (.nilFunc)⟩ := by kernel_rfl
theorem ty65 : tyOf Tryz.prog 65 = some ⟨.func #[26, 9, 28] #[30, 36] false, 1, 8, .lit (.nilFunc)⟩ := by kernel_rfl
theorem ty66 : tyOf Tryz.prog 66 = some ⟨.func #[26, 9, 28] #[4] false, 1, 8, .lit (.nilFunc)⟩ := by kernel_rfl
theorem ty67 : tyOf Tryz.prog 67 = some ⟨.func #[9] #[22, 36] false, 1, 8, .lit (.nilFunc)⟩ := by kernel_rfl
theorem ty68 : tyOf Tryz.prog 68 = some ⟨.func #[9] #[9, 36] false, 1, 8, .lit (.nilFunc)⟩ := by kernel_rfl
theorem ty69 : tyOf Tryz.prog 69 = some ⟨.func #[] #[22] false, 1, 8, .lit (.nilFunc)⟩ := by kernel_rfl
theorem ty70 : tyOf Tryz.prog 70 = some ⟨.func #[9] #[4] false, 1, 8, .lit (.nilFunc)⟩ := by kernel_rfl
theorem ty71 : tyOf Tryz.prog 71 = some ⟨.func #[9, 49] #[30, 36] true, 1, 8, .lit (.nilFunc)⟩ := by kernel_rfl
theorem ty72 : tyOf Tryz.prog 72 = some ⟨.func #[3, 3] #[4] false, 1, 8, .lit (.nilFunc)⟩ := by kernel_rfl
theorem ty74 : tyOf Tryz.prog 74 = some ⟨.func #[26, 9, 28] #[4, 4] true, 1, 8, .lit (.nilFunc)⟩ := by kernel_rfl
theorem ty75 : tyOf Tryz.prog 75 = some ⟨.func #[4] #[30] false, 1, 8, .lit (.nilFunc)⟩ := by kernel_rfl
theorem ty76 : tyOf Tryz.prog 76 = some ⟨.func #[21, 21, 48] #[4] false, 1, 8, .lit (.nilFunc)⟩ := by kernel_rfl
theorem ty77 : tyOf Tryz.prog 77 = some ⟨.func #[30, 30, 30] #[4] false, 1, 8, .lit (.nilFunc)⟩ := by kernel_rfl
theorem ty78 : tyOf Tryz.prog 78 = some ⟨.func #[28, 28, 28] #[4] false, 1, 8, .lit (.nilFunc)⟩ := by kernel_rfl
theorem ty79 : tyOf Tryz.prog 79 = some ⟨.func #[26, 30, 9] #[4] false, 1, 8, .lit (.nilFunc)⟩ := by kernel_rfl
theorem ty80 : tyOf Tryz.prog 80 = some ⟨.slice 235, 1, 24, .lit (.slice none 0 0)⟩ := by kernel_rfl
theorem ty81 : tyOf Tryz.prog 81 = some ⟨.int .i64, 1, 8, .lit (.int .i64 0)⟩ := by kernel_rfl
theorem ty82 : tyOf Tryz.prog 82 = some ⟨.struct #[{ name := "Name", type := 9, offset := 0, embedded := false, tag := "", pkgPath := "", byteOffset := 0 }, { name := "Args", type := 22, offset := 1, embedded := false, tag := "", pkgPath := "", byteOffset := 16 }, { name := "Sort", type := 9, offset := 2, embedded := false, tag := "", pkgPath := "", byteOffset := 40 }, { name := "Pieces", type := 80, offset := 3, embedded := false, tag := "", pkgPath := "", byteOffset := 56 }, { name := "Prec", type := 3, offset := 4, embedded := false, tag := "", pkgPath := "", byteOffset := 80 }, { name := "Assoc", type := 81, offset := 5, embedded := false, tag := "", pkgPath := "", byteOffset := 88 }, { name := "Strict", type := 49, offset := 6, embedded := false, tag := "", pkgPath := "", byteOffset := 96 }], 7, 120, .agg [.lit (.string ⟨#[]⟩), .lit (.slice none 0 0), .lit (.string ⟨#[]⟩), .lit (.slice none 0 0), .lit (.int .i64 0), .lit (.int .i64 0), .lit (.slice none 0 0)]⟩ := by kernel_rfl
theorem ty83 : tyOf Tryz.prog 83 = some ⟨.struct #[{ name := "Name", type := 9, offset := 0, embedded := false, tag := "", pkgPath := "", byteOffset := 0 }, { name := "Args", type := 22, offset := 1, embedded := false, tag := "", pkgPath := "", byteOffset := 16 }, { name := "Sort", type := 9, offset := 2, embedded := false, tag := "", pkgPath := "", byteOffset := 40 }, { name := "Pieces", type := 80, offset := 3, embedded := false, tag := "", pkgPath := "", byteOffset := 56 }, { name := "Prec", type := 3, offset := 4, embedded := false, tag := "", pkgPath := "", byteOffset := 80 }, { name := "Assoc", type := 81, offset := 5, embedded := false, tag := "", pkgPath := "", byteOffset := 88 }, { name := "Strict", type := 49, offset := 6, embedded := false, tag := "", pkgPath := "", byteOffset := 96 }], 7, 120, .agg [.lit (.string ⟨#[]⟩), .lit (.slice none 0 0), .lit (.string ⟨#[]⟩), .lit (.slice none 0 0), .lit (.int .i64 0), .lit (.int .i64 0), .lit (.slice none 0 0)]⟩ := by kernel_rfl
theorem ty84 : tyOf Tryz.prog 84 = some ⟨.func #[3, 28] #[4] true, 1, 8, .lit (.nilFunc)⟩ := by kernel_rfl
theorem ty85 : tyOf Tryz.prog 85 = some ⟨.func #[30, 30] #[30] false, 1, 8, .lit (.nilFunc)⟩ := by kernel_rfl
theorem ty86 : tyOf Tryz.prog 86 = some ⟨.func #[] #[26] false, 1, 8, .lit (.nilFunc)⟩ := by kernel_rfl
theorem ty88 : tyOf Tryz.prog 88 = some ⟨.func #[30] #[3, 3, 36] false, 1, 8, .lit (.nilFunc)⟩ := by kernel_rfl
theorem ty89 : tyOf Tryz.prog 89 = some ⟨.func #[30, 3, 90] #[4] false, 1, 8, .lit (.nilFunc)⟩ := by kernel_rfl
theorem ty90 : tyOf Tryz.prog 90 = some ⟨.pointer 3, 1, 8, .lit (.pointer none)⟩ := by kernel_rfl
theorem ty91 : tyOf Tryz.prog 91 = some ⟨.pointer 157, 1, 8, .lit (.pointer none)⟩ := by kernel_rfl
theorem ty93 : tyOf Tryz.prog 93 = some ⟨.func #[26, 30] #[91, 36] false, 1, 8, .lit (.nilFunc)⟩ := by kernel_rfl
theorem ty95 : tyOf Tryz.prog 95 = some ⟨.func #[30] #[9, 4] false, 1, 8, .lit (.nilFunc)⟩ := by kernel_rfl
theorem ty96 : tyOf Tryz.prog 96 = some ⟨.func #[26, 30] #[9, 4] false, 1, 8, .lit (.nilFunc)⟩ := by kernel_rfl
theorem ty97 : tyOf Tryz.prog 97 = some ⟨.func #[30, 30] #[3] false, 1, 8, .lit (.nilFunc)⟩ := by kernel_rfl
theorem ty98 : tyOf Tryz.prog 98 = some ⟨.func #[28, 28, 43] #[4] false, 1, 8, .lit (.nilFunc)⟩ := by kernel_rfl
theorem ty99 : tyOf Tryz.prog 99 = some ⟨.func #[28, 28] #[4] false, 1, 8, .lit (.nilFunc)⟩ := by kernel_rfl
theorem ty100 : tyOf Tryz.prog 100 = some ⟨.func #[30, 101] #[4] false, 1, 8, .lit (.nilFunc)⟩ := by kernel_rfl
theorem ty101 : tyOf Tryz.prog 101 = some ⟨.func #[30, 3] #[4] false, 1, 8, .lit (.nilFunc)⟩ := by kernel_rfl
theorem ty102 : tyOf Tryz.prog 102 = some ⟨.func #[22] #[] false, 1, 8, .lit (.nilFunc)⟩ := by kernel_rfl
theorem ty103 : tyOf Tryz.prog 103 = some ⟨.func #[22] #[22] false, 1, 8, .lit (.nilFunc)⟩ := by kernel_rfl
theorem ty104 : tyOf Tryz.prog 104 = some ⟨.func #[22, 30] #[22] false, 1, 8, .lit (.nilFunc)⟩ := by kernel_rfl
theorem ty105 : tyOf Tryz.prog 105 = some ⟨.pointer 108, 1, 8, .lit (.pointer none)⟩ := by kernel_rfl
theorem ty106 : tyOf Tryz.prog 106 = some ⟨.slice 5, 1, 24, .lit (.slice none 0 0)⟩ := by kernel_rfl
theorem ty107 : tyOf Tryz.prog 107 = some ⟨.struct #[{ name := "addr", type := 105, offset := 0, embedded := false, tag := "", pkgPath := "strings", byteOffset := 0 }, { name := "buf", type := 106, offset := 1, embedded := false, tag := "", pkgPath := "strings", byteOffset := 8 }], 2, 32, .agg [.lit (.pointer none), .lit (.slice none 0 0)]⟩ := by kernel_rfl
theorem ty108 : tyOf Tryz.prog 108 = some ⟨.struct #[{ name := "addr", type := 105, offset := 0, embedded := false, tag := "", pkgPath := "strings", byteOffset := 0 }, { name := "buf", type := 106, offset := 1, embedded := false, tag := "", pkgPath := "strings", byteOffset := 8 }], 2, 32, .agg [.lit (.pointer none), .lit (.slice none 0 0)]⟩ := by kernel_rfl
theorem ty109 : tyOf Tryz.prog 109 = some ⟨.struct #[{ name := "Builder", type := 108, offset := 0, embedded := true, tag := "", pkgPath := "", byteOffset := 0 }], 2, 32, .agg [.lit (.pointer none), .lit (.slice none 0 0)]⟩ := by kernel_rfl
theorem ty110 : tyOf Tryz.prog 110 = some ⟨.struct #[{ name := "Builder", type := 108, offset := 0, embedded := true, tag := "", pkgPath := "", byteOffset := 0 }], 2, 32, .agg [.lit (.pointer none), .lit (.slice none 0 0)]⟩ := by kernel_rfl
theorem ty111 : tyOf Tryz.prog 111 = some ⟨.func #[30] #[] false, 1, 8, .lit (.nilFunc)⟩ := by kernel_rfl
theorem ty112 : tyOf Tryz.prog 112 = some ⟨.func #[] #[3] false, 1, 8, .lit (.nilFunc)⟩ := by kernel_rfl
theorem ty113 : tyOf Tryz.prog 113 = some ⟨.func #[] #[9] false, 1, 8, .lit (.nilFunc)⟩ := by kernel_rfl
theorem ty114 : tyOf Tryz.prog 114 = some ⟨.func #[30] #[9] false, 1, 8, .lit (.nilFunc)⟩ := by kernel_rfl
theorem ty115 : tyOf Tryz.prog 115 = some ⟨.func #[30] #[30] false, 1, 8, .lit (.nilFunc)⟩ := by kernel_rfl
theorem ty116 : tyOf Tryz.prog 116 = some ⟨.pointer 30, 1, 8, .lit (.pointer none)⟩ := by kernel_rfl
theorem ty117 : tyOf Tryz.prog 117 = some ⟨.func #[116, 49] #[116] false, 1, 8, .lit (.nilFunc)⟩ := by kernel_rfl
theorem ty119 : tyOf Tryz.prog 119 = some ⟨.func #[30, 49] #[30, 4] false, 1, 8, .lit (.nilFunc)⟩ := by kernel_rfl
theorem ty120 : tyOf Tryz.prog 120 = some ⟨.func #[30, 49, 30] #[30] false, 1, 8, .lit (.nilFunc)⟩ := by kernel_rfl
theorem ty121 : tyOf Tryz.prog 121 = some ⟨.struct #[{ name := "a", type := 9, offset := 0, embedded := false, tag := "", pkgPath := "voussoir/term", byteOffset := 0 }, { name := "b", type := 9, offset := 1, embedded := false, tag := "", pkgPath := "voussoir/term", byteOffset := 16 }], 2, 32, .agg [.lit (.string ⟨#[]⟩), .lit (.string ⟨#[]⟩)]⟩ := by kernel_rfl
theorem ty122 : tyOf Tryz.prog 122 = some ⟨.struct #[{ name := "a", type := 9, offset := 0, embedded := false, tag := "", pkgPath := "voussoir/term", byteOffset := 0 }, { name := "b", type := 9, offset := 1, embedded := false, tag := "", pkgPath := "voussoir/term", byteOffset := 16 }], 2, 32, .agg [.lit (.string ⟨#[]⟩), .lit (.string ⟨#[]⟩)]⟩ := by kernel_rfl
theorem ty123 : tyOf Tryz.prog 123 = some ⟨.func #[28, 9, 9] #[28] false, 1, 8, .lit (.nilFunc)⟩ := by kernel_rfl
theorem ty124 : tyOf Tryz.prog 124 = some ⟨.func #[9] #[30] false, 1, 8, .lit (.nilFunc)⟩ := by kernel_rfl
theorem ty125 : tyOf Tryz.prog 125 = some ⟨.func #[26, 28] #[91, 36] false, 1, 8, .lit (.nilFunc)⟩ := by kernel_rfl
theorem ty126 : tyOf Tryz.prog 126 = some ⟨.func #[91, 9, 28] #[36] false, 1, 8, .lit (.nilFunc)⟩ := by kernel_rfl
theorem ty127 : tyOf Tryz.prog 127 = some ⟨.func #[28] #[30, 36] false, 1, 8, .lit (.nilFunc)⟩ := by kernel_rfl
theorem ty128 : tyOf Tryz.prog 128 = some ⟨.func #[28] #[30, 36] false, 1, 8, .lit (.nilFunc)⟩ := by kernel_rfl
theorem ty129 : tyOf Tryz.prog 129 = some ⟨.map 9 128, 1, 8, .lit (.map none)⟩ := by kernel_rfl
theorem ty130 : tyOf Tryz.prog 130 = some ⟨.func #[91] #[129] false, 1, 8, .lit (.nilFunc)⟩ := by kernel_rfl
theorem ty131 : tyOf Tryz.prog 131 = some ⟨.func #[30] #[30, 36] false, 1, 8, .lit (.nilFunc)⟩ := by kernel_rfl
theorem ty133 : tyOf Tryz.prog 133 = some ⟨.func #[9] #[83, 4] false, 1, 8, .lit (.nilFunc)⟩ := by kernel_rfl
theorem ty135 : tyOf Tryz.prog 135 = some ⟨.func #[9] #[22, 9] false, 1, 8, .lit (.nilFunc)⟩ := by kernel_rfl
theorem ty136 : tyOf Tryz.prog 136 = some ⟨.func #[138] #[22] false, 1, 8, .lit (.nilFunc)⟩ := by kernel_rfl
theorem ty137 : tyOf Tryz.prog 137 = some ⟨.func #[70] #[] false, 1, 8, .lit (.nilFunc)⟩ := by kernel_rfl
theorem ty138 : tyOf Tryz.prog 138 = some ⟨.func #[70] #[] false, 1, 8, .lit (.nilFunc)⟩ := by kernel_rfl
theorem ty139 : tyOf Tryz.prog 139 = some ⟨.func #[129] #[138] false, 1, 8, .lit (.nilFunc)⟩ := by kernel_rfl
theorem ty140 : tyOf Tryz.prog 140 = some ⟨.func #[26, 9, 9] #[4] false, 1, 8, .lit (.nilFunc)⟩ := by kernel_rfl
theorem ty141 : tyOf Tryz.prog 141 = some ⟨.func #[28, 3, 3] #[3] false, 1, 8, .lit (.nilFunc)⟩ := by kernel_rfl
theorem ty142 : tyOf Tryz.prog 142 = some ⟨.struct #[{ name := "Low", type := 9, offset := 0, embedded := false, tag := "", pkgPath := "", byteOffset := 0 }, { name := "High", type := 9, offset := 1, embedded := false, tag := "", pkgPath := "", byteOffset := 16 }], 2, 32, .agg [.lit (.string ⟨#[]⟩), .lit (.string ⟨#[]⟩)]⟩ := by kernel_rfl
theorem ty143 : tyOf Tryz.prog 143 = some ⟨.struct #[{ name := "Low", type := 9, offset := 0, embedded := false, tag := "", pkgPath := "", byteOffset := 0 }, { name := "High", type := 9, offset := 1, embedded := false, tag := "", pkgPath := "", byteOffset := 16 }], 2, 32, .agg [.lit (.string ⟨#[]⟩), .lit (.string ⟨#[]⟩)]⟩ := by kernel_rfl
theorem ty144 : tyOf Tryz.prog 144 = some ⟨.func #[26] #[91, 36] false, 1, 8, .lit (.nilFunc)⟩ := by kernel_rfl
theorem ty145 : tyOf Tryz.prog 145 = some ⟨.func #[83, 28, 146] #[4] false, 1, 8, .lit (.nilFunc)⟩ := by kernel_rfl
theorem ty146 : tyOf Tryz.prog 146 = some ⟨.func #[9, 9] #[4] false, 1, 8, .lit (.nilFunc)⟩ := by kernel_rfl
theorem ty147 : tyOf Tryz.prog 147 = some ⟨.func #[26, 9] #[4] false, 1, 8, .lit (.nilFunc)⟩ := by kernel_rfl
theorem ty148 : tyOf Tryz.prog 148 = some ⟨.func #[22] #[4] false, 1, 8, .lit (.nilFunc)⟩ := by kernel_rfl
theorem ty149 : tyOf Tryz.prog 149 = some ⟨.func #[28] #[4] false, 1, 8, .lit (.nilFunc)⟩ := by kernel_rfl
theorem ty150 : tyOf Tryz.prog 150 = some ⟨.func #[22, 9] #[4] false, 1, 8, .lit (.nilFunc)⟩ := by kernel_rfl
theorem ty152 : tyOf Tryz.prog 152 = some ⟨.func #[26, 9] #[22, 9, 4] false, 1, 8, .lit (.nilFunc)⟩ := by kernel_rfl
theorem ty153 : tyOf Tryz.prog 153 = some ⟨.func #[22, 70] #[4] false, 1, 8, .lit (.nilFunc)⟩ := by kernel_rfl
theorem ty154 : tyOf Tryz.prog 154 = some ⟨.map 9 83, 1, 8, .lit (.map none)⟩ := by kernel_rfl
theorem ty155 : tyOf Tryz.prog 155 = some ⟨.map 9 22, 1, 8, .lit (.map none)⟩ := by kernel_rfl
theorem ty156 : tyOf Tryz.prog 156 = some ⟨.struct #[{ name := "sig", type := 26, offset := 0, embedded := false, tag := "", pkgPath := "voussoir/book", byteOffset := 0 }, { name := "ops", type := 154, offset := 5, embedded := false, tag := "", pkgPath := "voussoir/book", byteOffset := 120 }, { name := "funs", type := 154, offset := 6, embedded := false, tag := "", pkgPath := "voussoir/book", byteOffset := 128 }, { name := "above", type := 155, offset := 7, embedded := false, tag := "", pkgPath := "voussoir/book", byteOffset := 136 }], 8, 144, .agg [.lit (.slice none 0 0), .lit (.slice none 0 0), .lit (.slice none 0 0), .lit (.slice none 0 0), .lit (.slice none 0 0), .lit (.map none), .lit (.map none), .lit (.map none)]⟩ := by kernel_rfl
theorem ty157 : tyOf Tryz.prog 157 = some ⟨.struct #[{ name := "sig", type := 26, offset := 0, embedded := false, tag := "", pkgPath := "voussoir/book", byteOffset := 0 }, { name := "ops", type := 154, offset := 5, embedded := false, tag := "", pkgPath := "voussoir/book", byteOffset := 120 }, { name := "funs", type := 154, offset := 6, embedded := false, tag := "", pkgPath := "voussoir/book", byteOffset := 128 }, { name := "above", type := 155, offset := 7, embedded := false, tag := "", pkgPath := "voussoir/book", byteOffset := 136 }], 8, 144, .agg [.lit (.slice none 0 0), .lit (.slice none 0 0), .lit (.slice none 0 0), .lit (.slice none 0 0), .lit (.slice none 0 0), .lit (.map none), .lit (.map none), .lit (.map none)]⟩ := by kernel_rfl
theorem ty158 : tyOf Tryz.prog 158 = some ⟨.func #[49] #[3] true, 1, 8, .lit (.nilFunc)⟩ := by kernel_rfl
theorem ty159 : tyOf Tryz.prog 159 = some ⟨.func #[27, 27] #[3] false, 1, 8, .lit (.nilFunc)⟩ := by kernel_rfl
theorem ty160 : tyOf Tryz.prog 160 = some ⟨.func #[3, 3] #[3] false, 1, 8, .lit (.nilFunc)⟩ := by kernel_rfl
theorem ty161 : tyOf Tryz.prog 161 = some ⟨.func #[9, 9] #[3] false, 1, 8, .lit (.nilFunc)⟩ := by kernel_rfl
theorem ty162 : tyOf Tryz.prog 162 = some ⟨.func #[28, 28, 97] #[3] false, 1, 8, .lit (.nilFunc)⟩ := by kernel_rfl
theorem ty163 : tyOf Tryz.prog 163 = some ⟨.func #[28, 28] #[3] false, 1, 8, .lit (.nilFunc)⟩ := by kernel_rfl
theorem ty164 : tyOf Tryz.prog 164 = some ⟨.func #[30, 3, 101] #[4] false, 1, 8, .lit (.nilFunc)⟩ := by kernel_rfl
theorem ty165 : tyOf Tryz.prog 165 = some ⟨.func #[22, 3, 3, 3] #[] false, 1, 8, .lit (.nilFunc)⟩ := by kernel_rfl
theorem ty166 : tyOf Tryz.prog 166 = some ⟨.func #[167] #[3] false, 1, 8, .lit (.nilFunc)⟩ := by kernel_rfl
theorem ty167 : tyOf Tryz.prog 167 = some ⟨.int .u64, 1, 8, .lit (.int .u64 0)⟩ := by kernel_rfl
theorem ty168 : tyOf Tryz.prog 168 = some ⟨.func #[22, 9] #[22] false, 1, 8, .lit (.nilFunc)⟩ := by kernel_rfl
theorem ty169 : tyOf Tryz.prog 169 = some ⟨.pointer 110, 1, 8, .lit (.pointer none)⟩ := by kernel_rfl
theorem ty173 : tyOf Tryz.prog 173 = some ⟨.func #[9] #[3, 171] false, 1, 8, .lit (.nilFunc)⟩ := by kernel_rfl
theorem ty174 : tyOf Tryz.prog 174 = some ⟨.func #[3] #[9] false, 1, 8, .lit (.nilFunc)⟩ := by kernel_rfl
theorem ty175 : tyOf Tryz.prog 175 = some ⟨.func #[4] #[9] false, 1, 8, .lit (.nilFunc)⟩ := by kernel_rfl
theorem ty176 : tyOf Tryz.prog 176 = some ⟨.func #[28] #[] false, 1, 8, .lit (.nilFunc)⟩ := by kernel_rfl
theorem ty177 : tyOf Tryz.prog 177 = some ⟨.pointer 5, 1, 8, .lit (.pointer none)⟩ := by kernel_rfl
theorem ty178 : tyOf Tryz.prog 178 = some ⟨.func #[28] #[9] false, 1, 8, .lit (.nilFunc)⟩ := by kernel_rfl
theorem ty179 : tyOf Tryz.prog 179 = some ⟨.func #[28, 4] #[9] false, 1, 8, .lit (.nilFunc)⟩ := by kernel_rfl
theorem ty180 : tyOf Tryz.prog 180 = some ⟨.func #[28, 115] #[28] false, 1, 8, .lit (.nilFunc)⟩ := by kernel_rfl
theorem ty181 : tyOf Tryz.prog 181 = some ⟨.func #[5] #[4] false, 1, 8, .lit (.nilFunc)⟩ := by kernel_rfl
theorem ty182 : tyOf Tryz.prog 182 = some ⟨.func #[9, 181] #[4] false, 1, 8, .lit (.nilFunc)⟩ := by kernel_rfl
theorem ty184 : tyOf Tryz.prog 184 = some ⟨.func #[9] #[9, 9] false, 1, 8, .lit (.nilFunc)⟩ := by kernel_rfl
theorem ty185 : tyOf Tryz.prog 185 = some ⟨.func #[9] #[9] false, 1, 8, .lit (.nilFunc)⟩ := by kernel_rfl
theorem ty186 : tyOf Tryz.prog 186 = some ⟨.func #[9, 9, 9] #[9] false, 1, 8, .lit (.nilFunc)⟩ := by kernel_rfl
theorem ty187 : tyOf Tryz.prog 187 = some ⟨.func #[160] #[128] false, 1, 8, .lit (.nilFunc)⟩ := by kernel_rfl
theorem ty188 : tyOf Tryz.prog 188 = some ⟨.func #[189] #[128] false, 1, 8, .lit (.nilFunc)⟩ := by kernel_rfl
theorem ty189 : tyOf Tryz.prog 189 = some ⟨.func #[28] #[30] false, 1, 8, .lit (.nilFunc)⟩ := by kernel_rfl
theorem ty190 : tyOf Tryz.prog 190 = some ⟨.func #[72] #[128] false, 1, 8, .lit (.nilFunc)⟩ := by kernel_rfl
theorem ty191 : tyOf Tryz.prog 191 = some ⟨.func #[149] #[128] false, 1, 8, .lit (.nilFunc)⟩ := by kernel_rfl
theorem ty192 : tyOf Tryz.prog 192 = some ⟨.func #[91] #[128] false, 1, 8, .lit (.nilFunc)⟩ := by kernel_rfl
theorem ty193 : tyOf Tryz.prog 193 = some ⟨.func #[91, 30] #[4] false, 1, 8, .lit (.nilFunc)⟩ := by kernel_rfl
theorem ty194 : tyOf Tryz.prog 194 = some ⟨.func #[9, 22] #[83, 4] true, 1, 8, .lit (.nilFunc)⟩ := by kernel_rfl
theorem ty195 : tyOf Tryz.prog 195 = some ⟨.func #[26, 9] #[22] false, 1, 8, .lit (.nilFunc)⟩ := by kernel_rfl
theorem ty196 : tyOf Tryz.prog 196 = some ⟨.func #[28, 9] #[4] false, 1, 8, .lit (.nilFunc)⟩ := by kernel_rfl
theorem ty197 : tyOf Tryz.prog 197 = some ⟨.func #[30, 4, 4, 4, 4, 4] #[4] false, 1, 8, .lit (.nilFunc)⟩ := by kernel_rfl
theorem ty198 : tyOf Tryz.prog 198 = some ⟨.func #[30, 9] #[4] false, 1, 8, .lit (.nilFunc)⟩ := by kernel_rfl
theorem ty199 : tyOf Tryz.prog 199 = some ⟨.func #[24] #[154] false, 1, 8, .lit (.nilFunc)⟩ := by kernel_rfl
theorem ty200 : tyOf Tryz.prog 200 = some ⟨.func #[9] #[22] false, 1, 8, .lit (.nilFunc)⟩ := by kernel_rfl
theorem ty201 : tyOf Tryz.prog 201 = some ⟨.func #[26, 83] #[4] false, 1, 8, .lit (.nilFunc)⟩ := by kernel_rfl
theorem ty202 : tyOf Tryz.prog 202 = some ⟨.func #[83] #[4] false, 1, 8, .lit (.nilFunc)⟩ := by kernel_rfl
theorem ty203 : tyOf Tryz.prog 203 = some ⟨.func #[24, 9] #[83, 4] false, 1, 8, .lit (.nilFunc)⟩ := by kernel_rfl
theorem ty204 : tyOf Tryz.prog 204 = some ⟨.func #[22, 70] #[3] false, 1, 8, .lit (.nilFunc)⟩ := by kernel_rfl
theorem ty205 : tyOf Tryz.prog 205 = some ⟨.func #[27] #[4] false, 1, 8, .lit (.nilFunc)⟩ := by kernel_rfl
theorem ty206 : tyOf Tryz.prog 206 = some ⟨.func #[3] #[4] false, 1, 8, .lit (.nilFunc)⟩ := by kernel_rfl
theorem ty207 : tyOf Tryz.prog 207 = some ⟨.func #[22, 3, 3] #[] false, 1, 8, .lit (.nilFunc)⟩ := by kernel_rfl
theorem ty208 : tyOf Tryz.prog 208 = some ⟨.int .i64, 1, 8, .lit (.int .i64 0)⟩ := by kernel_rfl
theorem ty210 : tyOf Tryz.prog 210 = some ⟨.func #[22, 3, 3] #[3, 208] false, 1, 8, .lit (.nilFunc)⟩ := by kernel_rfl
theorem ty211 : tyOf Tryz.prog 211 = some ⟨.func #[22, 3, 3] #[4] false, 1, 8, .lit (.nilFunc)⟩ := by kernel_rfl
theorem ty212 : tyOf Tryz.prog 212 = some ⟨.func #[22, 3, 3, 3] #[3] false, 1, 8, .lit (.nilFunc)⟩ := by kernel_rfl
theorem ty214 : tyOf Tryz.prog 214 = some ⟨.func #[22, 3, 3, 3] #[3, 4] false, 1, 8, .lit (.nilFunc)⟩ := by kernel_rfl
theorem ty215 : tyOf Tryz.prog 215 = some ⟨.func #[216] #[3] false, 1, 8, .lit (.nilFunc)⟩ := by kernel_rfl
theorem ty216 : tyOf Tryz.prog 216 = some ⟨.int .u32, 1, 4, .lit (.int .u32 0)⟩ := by kernel_rfl
theorem ty217 : tyOf Tryz.prog 217 = some ⟨.func #[218] #[3] false, 1, 8, .lit (.nilFunc)⟩ := by kernel_rfl
theorem ty218 : tyOf Tryz.prog 218 = some ⟨.int .u64, 1, 8, .lit (.int .u64 0)⟩ := by kernel_rfl
theorem ty219 : tyOf Tryz.prog 219 = some ⟨.func #[9, 5] #[3] false, 1, 8, .lit (.nilFunc)⟩ := by kernel_rfl
theorem ty220 : tyOf Tryz.prog 220 = some ⟨.func #[246] #[28] true, 1, 8, .lit (.nilFunc)⟩ := by kernel_rfl
theorem ty222 : tyOf Tryz.prog 222 = some ⟨.func #[28, 30] #[3, 3] false, 1, 8, .lit (.nilFunc)⟩ := by kernel_rfl
theorem ty223 : tyOf Tryz.prog 223 = some ⟨.func #[28, 3, 3, 28] #[28] true, 1, 8, .lit (.nilFunc)⟩ := by kernel_rfl
theorem ty224 : tyOf Tryz.prog 224 = some ⟨.func #[28, 3, 3] #[28] false, 1, 8, .lit (.nilFunc)⟩ := by kernel_rfl
theorem ty225 : tyOf Tryz.prog 225 = some ⟨.func #[9, 28] #[30, 36] false, 1, 8, .lit (.nilFunc)⟩ := by kernel_rfl
theorem ty226 : tyOf Tryz.prog 226 = some ⟨.func #[9, 3, 3] #[30, 36] false, 1, 8, .lit (.nilFunc)⟩ := by kernel_rfl
theorem ty227 : tyOf Tryz.prog 227 = some ⟨.func #[22, 138] #[22] false, 1, 8, .lit (.nilFunc)⟩ := by kernel_rfl
theorem ty228 : tyOf Tryz.prog 228 = some ⟨.struct #[{ name := "highs", type := 155, offset := 0, embedded := false, tag := "", pkgPath := "voussoir/sorts", byteOffset := 0 }, { name := "ops", type := 154, offset := 1, embedded := false, tag := "", pkgPath := "voussoir/sorts", byteOffset := 8 }, { name := "funs", type := 154, offset := 2, embedded := false, tag := "", pkgPath := "voussoir/sorts", byteOffset := 16 }], 3, 24, .agg [.lit (.map none), .lit (.map none), .lit (.map none)]⟩ := by kernel_rfl
theorem ty229 : tyOf Tryz.prog 229 = some ⟨.struct #[{ name := "highs", type := 155, offset := 0, embedded := false, tag := "", pkgPath := "voussoir/sorts", byteOffset := 0 }, { name := "ops", type := 154, offset := 1, embedded := false, tag := "", pkgPath := "voussoir/sorts", byteOffset := 8 }, { name := "funs", type := 154, offset := 2, embedded := false, tag := "", pkgPath := "voussoir/sorts", byteOffset := 16 }], 3, 24, .agg [.lit (.map none), .lit (.map none), .lit (.map none)]⟩ := by kernel_rfl
theorem ty231 : tyOf Tryz.prog 231 = some ⟨.func #[26, 22] #[229, 36] true, 1, 8, .lit (.nilFunc)⟩ := by kernel_rfl
theorem ty233 : tyOf Tryz.prog 233 = some ⟨.func #[26, 9] #[22, 36] false, 1, 8, .lit (.nilFunc)⟩ := by kernel_rfl
theorem ty234 : tyOf Tryz.prog 234 = some ⟨.struct #[{ name := "Text", type := 9, offset := 0, embedded := false, tag := "", pkgPath := "", byteOffset := 0 }, { name := "Sort", type := 9, offset := 1, embedded := false, tag := "", pkgPath := "", byteOffset := 16 }], 2, 32, .agg [.lit (.string ⟨#[]⟩), .lit (.string ⟨#[]⟩)]⟩ := by kernel_rfl
theorem ty235 : tyOf Tryz.prog 235 = some ⟨.struct #[{ name := "Text", type := 9, offset := 0, embedded := false, tag := "", pkgPath := "", byteOffset := 0 }, { name := "Sort", type := 9, offset := 1, embedded := false, tag := "", pkgPath := "", byteOffset := 16 }], 2, 32, .agg [.lit (.string ⟨#[]⟩), .lit (.string ⟨#[]⟩)]⟩ := by kernel_rfl
theorem ty236 : tyOf Tryz.prog 236 = some ⟨.func #[22, 22] #[4] false, 1, 8, .lit (.nilFunc)⟩ := by kernel_rfl
theorem ty237 : tyOf Tryz.prog 237 = some ⟨.func #[22, 9] #[3] false, 1, 8, .lit (.nilFunc)⟩ := by kernel_rfl
theorem ty238 : tyOf Tryz.prog 238 = some ⟨.int .u64, 1, 8, .lit (.int .u64 0)⟩ := by kernel_rfl
theorem ty239 : tyOf Tryz.prog 239 = some ⟨.func #[3] #[167] false, 1, 8, .lit (.nilFunc)⟩ := by kernel_rfl
theorem ty240 : tyOf Tryz.prog 240 = some ⟨.func #[] #[218] false, 1, 8, .lit (.nilFunc)⟩ := by kernel_rfl
theorem ty241 : tyOf Tryz.prog 241 = some ⟨.func #[22, 3, 90] #[3] false, 1, 8, .lit (.nilFunc)⟩ := by kernel_rfl
theorem ty242 : tyOf Tryz.prog 242 = some ⟨.func #[22, 3, 3, 3, 90] #[3] false, 1, 8, .lit (.nilFunc)⟩ := by kernel_rfl
theorem ty244 : tyOf Tryz.prog 244 = some ⟨.func #[243] #[243] false, 1, 8, .lit (.nilFunc)⟩ := by kernel_rfl
theorem ty245 : tyOf Tryz.prog 245 = some ⟨.func #[2, 3] #[9] false, 1, 8, .lit (.nilFunc)⟩ := by kernel_rfl
theorem ty246 : tyOf Tryz.prog 246 = some ⟨.slice 28, 1, 24, .lit (.slice none 0 0)⟩ := by kernel_rfl
theorem ty247 : tyOf Tryz.prog 247 = some ⟨.func #[28, 3] #[28] false, 1, 8, .lit (.nilFunc)⟩ := by kernel_rfl
theorem ty248 : tyOf Tryz.prog 248 = some ⟨.func #[3, 249] #[3, 4] false, 1, 8, .lit (.nilFunc)⟩ := by kernel_rfl
theorem ty249 : tyOf Tryz.prog 249 = some ⟨.func #[3] #[3] false, 1, 8, .lit (.nilFunc)⟩ := by kernel_rfl
theorem ty250 : tyOf Tryz.prog 250 = some ⟨.func #[28, 3, 28] #[28] true, 1, 8, .lit (.nilFunc)⟩ := by kernel_rfl
theorem ty251 : tyOf Tryz.prog 251 = some ⟨.func #[28, 3] #[] false, 1, 8, .lit (.nilFunc)⟩ := by kernel_rfl
theorem ty252 : tyOf Tryz.prog 252 = some ⟨.func #[28, 30, 30] #[28] false, 1, 8, .lit (.nilFunc)⟩ := by kernel_rfl
theorem ty253 : tyOf Tryz.prog 253 = some ⟨.func #[3] #[30, 36] false, 1, 8, .lit (.nilFunc)⟩ := by kernel_rfl
theorem ty254 : tyOf Tryz.prog 254 = some ⟨.func #[26] #[229] false, 1, 8, .lit (.nilFunc)⟩ := by kernel_rfl
theorem ty255 : tyOf Tryz.prog 255 = some ⟨.func #[22] #[4] true, 1, 8, .lit (.nilFunc)⟩ := by kernel_rfl
theorem ty256 : tyOf Tryz.prog 256 = some ⟨.func #[70] #[22] false, 1, 8, .lit (.nilFunc)⟩ := by kernel_rfl
theorem ty257 : tyOf Tryz.prog 257 = some ⟨.pointer 238, 1, 8, .lit (.pointer none)⟩ := by kernel_rfl
theorem ty258 : tyOf Tryz.prog 258 = some ⟨.func #[22, 3, 3, 90] #[3, 3] false, 1, 8, .lit (.nilFunc)⟩ := by kernel_rfl
theorem ty259 : tyOf Tryz.prog 259 = some ⟨.array 24 5, 24, 24, .agg [.lit (.int .u8 0), .lit (.int .u8 0), .lit (.int .u8 0), .lit (.int .u8 0), .lit (.int .u8 0), .lit (.int .u8 0), .lit (.int .u8 0), .lit (.int .u8 0), .lit (.int .u8 0), .lit (.int .u8 0), .lit (.int .u8 0), .lit (.int .u8 0), .lit (.int .u8 0), .lit (.int .u8 0), .lit (.int .u8 0), .lit (.int .u8 0), .lit (.int .u8 0), .lit (.int .u8 0), .lit (.int .u8 0), .lit (.int .u8 0), .lit (.int .u8 0), .lit (.int .u8 0), .lit (.int .u8 0), .lit (.int .u8 0)]⟩ := by kernel_rfl
theorem ty260 : tyOf Tryz.prog 260 = some ⟨.func #[106, 218] #[] false, 1, 8, .lit (.nilFunc)⟩ := by kernel_rfl
theorem ty262 : tyOf Tryz.prog 262 = some ⟨.func #[106, 218, 3, 4, 4] #[106, 9] false, 1, 8, .lit (.nilFunc)⟩ := by kernel_rfl
theorem ty263 : tyOf Tryz.prog 263 = some ⟨.func #[272] #[22] true, 1, 8, .lit (.nilFunc)⟩ := by kernel_rfl
theorem ty264 : tyOf Tryz.prog 264 = some ⟨.func #[23] #[4] false, 1, 8, .lit (.nilFunc)⟩ := by kernel_rfl
theorem ty265 : tyOf Tryz.prog 265 = some ⟨.func #[26] #[22] false, 1, 8, .lit (.nilFunc)⟩ := by kernel_rfl
theorem ty266 : tyOf Tryz.prog 266 = some ⟨.func #[24, 202] #[4] false, 1, 8, .lit (.nilFunc)⟩ := by kernel_rfl
theorem ty267 : tyOf Tryz.prog 267 = some ⟨.map 9 4, 1, 8, .lit (.map none)⟩ := by kernel_rfl
theorem ty268 : tyOf Tryz.prog 268 = some ⟨.func #[9] #[267] false, 1, 8, .lit (.nilFunc)⟩ := by kernel_rfl
theorem ty269 : tyOf Tryz.prog 269 = some ⟨.func #[4] #[3] false, 1, 8, .lit (.nilFunc)⟩ := by kernel_rfl
theorem ty270 : tyOf Tryz.prog 270 = some ⟨.array 20 218, 20, 160, .agg [.lit (.int .u64 0), .lit (.int .u64 0), .lit (.int .u64 0), .lit (.int .u64 0), .lit (.int .u64 0), .lit (.int .u64 0), .lit (.int .u64 0), .lit (.int .u64 0), .lit (.int .u64 0), .lit (.int .u64 0), .lit (.int .u64 0), .lit (.int .u64 0), .lit (.int .u64 0), .lit (.int .u64 0), .lit (.int .u64 0), .lit (.int .u64 0), .lit (.int .u64 0), .lit (.int .u64 0), .lit (.int .u64 0), .lit (.int .u64 0)]⟩ := by kernel_rfl
theorem ty271 : tyOf Tryz.prog 271 = some ⟨.array 65 5, 65, 65, .agg [.lit (.int .u8 0), .lit (.int .u8 0), .lit (.int .u8 0), .lit (.int .u8 0), .lit (.int .u8 0), .lit (.int .u8 0), .lit (.int .u8 0), .lit (.int .u8 0), .lit (.int .u8 0), .lit (.int .u8 0), .lit (.int .u8 0), .lit (.int .u8 0), .lit (.int .u8 0), .lit (.int .u8 0), .lit (.int .u8 0), .lit (.int .u8 0), .lit (.int .u8 0), .lit (.int .u8 0), .lit (.int .u8 0), .lit (.int .u8 0), .lit (.int .u8 0), .lit (.int .u8 0), .lit (.int .u8 0), .lit (.int .u8 0), .lit (.int .u8 0), .lit (.int .u8 0), .lit (.int .u8 0), .lit (.int .u8 0), .lit (.int .u8 0), .lit (.int .u8 0), .lit (.int .u8 0), .lit (.int .u8 0), .lit (.int .u8 0), .lit (.int .u8 0), .lit (.int .u8 0), .lit (.int .u8 0), .lit (.int .u8 0), .lit (.int .u8 0), .lit (.int .u8 0), .lit (.int .u8 0), .lit (.int .u8 0), .lit (.int .u8 0), .lit (.int .u8 0), .lit (.int .u8 0), .lit (.int .u8 0), .lit (.int .u8 0), .lit (.int .u8 0), .lit (.int .u8 0), .lit (.int .u8 0), .lit (.int .u8 0), .lit (.int .u8 0), .lit (.int .u8 0), .lit (.int .u8 0), .lit (.int .u8 0), .lit (.int .u8 0), .lit (.int .u8 0), .lit (.int .u8 0), .lit (.int .u8 0), .lit (.int .u8 0), .lit (.int .u8 0), .lit (.int .u8 0), .lit (.int .u8 0), .lit (.int .u8 0), .lit (.int .u8 0), .lit (.int .u8 0)]⟩ := by kernel_rfl
theorem ty272 : tyOf Tryz.prog 272 = some ⟨.slice 22, 1, 24, .lit (.slice none 0 0)⟩ := by kernel_rfl
theorem ty273 : tyOf Tryz.prog 273 = some ⟨.func #[22, 3] #[22] false, 1, 8, .lit (.nilFunc)⟩ := by kernel_rfl
theorem ty274 : tyOf Tryz.prog 274 = some ⟨.func #[277] #[24] true, 1, 8, .lit (.nilFunc)⟩ := by kernel_rfl
theorem ty275 : tyOf Tryz.prog 275 = some ⟨.func #[24, 202] #[3] false, 1, 8, .lit (.nilFunc)⟩ := by kernel_rfl
theorem ty276 : tyOf Tryz.prog 276 = some ⟨.map 143 4, 1, 8, .lit (.map none)⟩ := by kernel_rfl
theorem ty277 : tyOf Tryz.prog 277 = some ⟨.slice 24, 1, 24, .lit (.slice none 0 0)⟩ := by kernel_rfl
theorem ty278 : tyOf Tryz.prog 278 = some ⟨.func #[24, 3] #[24] false, 1, 8, .lit (.nilFunc)⟩ := by kernel_rfl
theorem ty280 : tyOf Tryz.prog 280 = some ⟨.func #[9, 9] #[9, 9, 4] false, 1, 8, .lit (.nilFunc)⟩ := by kernel_rfl
theorem ty281 : tyOf Tryz.prog 281 = some ⟨.func #[49] #[4] false, 1, 8, .lit (.nilFunc)⟩ := by kernel_rfl
theorem ty282 : tyOf Tryz.prog 282 = some ⟨.array 32 5, 32, 32, .agg [.lit (.int .u8 0), .lit (.int .u8 0), .lit (.int .u8 0), .lit (.int .u8 0), .lit (.int .u8 0), .lit (.int .u8 0), .lit (.int .u8 0), .lit (.int .u8 0), .lit (.int .u8 0), .lit (.int .u8 0), .lit (.int .u8 0), .lit (.int .u8 0), .lit (.int .u8 0), .lit (.int .u8 0), .lit (.int .u8 0), .lit (.int .u8 0), .lit (.int .u8 0), .lit (.int .u8 0), .lit (.int .u8 0), .lit (.int .u8 0), .lit (.int .u8 0), .lit (.int .u8 0), .lit (.int .u8 0), .lit (.int .u8 0), .lit (.int .u8 0), .lit (.int .u8 0), .lit (.int .u8 0), .lit (.int .u8 0), .lit (.int .u8 0), .lit (.int .u8 0), .lit (.int .u8 0), .lit (.int .u8 0)]⟩ := by kernel_rfl
theorem ty283 : tyOf Tryz.prog 283 = some ⟨.array 64 5, 64, 64, .agg [.lit (.int .u8 0), .lit (.int .u8 0), .lit (.int .u8 0), .lit (.int .u8 0), .lit (.int .u8 0), .lit (.int .u8 0), .lit (.int .u8 0), .lit (.int .u8 0), .lit (.int .u8 0), .lit (.int .u8 0), .lit (.int .u8 0), .lit (.int .u8 0), .lit (.int .u8 0), .lit (.int .u8 0), .lit (.int .u8 0), .lit (.int .u8 0), .lit (.int .u8 0), .lit (.int .u8 0), .lit (.int .u8 0), .lit (.int .u8 0), .lit (.int .u8 0), .lit (.int .u8 0), .lit (.int .u8 0), .lit (.int .u8 0), .lit (.int .u8 0), .lit (.int .u8 0), .lit (.int .u8 0), .lit (.int .u8 0), .lit (.int .u8 0), .lit (.int .u8 0), .lit (.int .u8 0), .lit (.int .u8 0), .lit (.int .u8 0), .lit (.int .u8 0), .lit (.int .u8 0), .lit (.int .u8 0), .lit (.int .u8 0), .lit (.int .u8 0), .lit (.int .u8 0), .lit (.int .u8 0), .lit (.int .u8 0), .lit (.int .u8 0), .lit (.int .u8 0), .lit (.int .u8 0), .lit (.int .u8 0), .lit (.int .u8 0), .lit (.int .u8 0), .lit (.int .u8 0), .lit (.int .u8 0), .lit (.int .u8 0), .lit (.int .u8 0), .lit (.int .u8 0), .lit (.int .u8 0), .lit (.int .u8 0), .lit (.int .u8 0), .lit (.int .u8 0), .lit (.int .u8 0), .lit (.int .u8 0), .lit (.int .u8 0), .lit (.int .u8 0), .lit (.int .u8 0), .lit (.int .u8 0), .lit (.int .u8 0), .lit (.int .u8 0)]⟩ := by kernel_rfl
theorem ty284 : tyOf Tryz.prog 284 = some ⟨.map 3 4, 1, 8, .lit (.map none)⟩ := by kernel_rfl
theorem ty286 : tyOf Tryz.prog 286 = some ⟨.func #[9] #[216, 216] false, 1, 8, .lit (.nilFunc)⟩ := by kernel_rfl
theorem ty287 : tyOf Tryz.prog 287 = some ⟨.struct #[{ name := "_interface", type := 17, offset := 0, embedded := false, tag := "", pkgPath := "runtime", byteOffset := 0 }, { name := "concrete", type := 17, offset := 1, embedded := false, tag := "", pkgPath := "runtime", byteOffset := 8 }, { name := "asserted", type := 17, offset := 2, embedded := false, tag := "", pkgPath := "runtime", byteOffset := 16 }, { name := "missingMethod", type := 9, offset := 3, embedded := false, tag := "", pkgPath := "runtime", byteOffset := 24 }], 4, 40, .agg [.lit (.pointer none), .lit (.pointer none), .lit (.pointer none), .lit (.string ⟨#[]⟩)]⟩ := by kernel_rfl
theorem ty288 : tyOf Tryz.prog 288 = some ⟨.struct #[{ name := "_interface", type := 17, offset := 0, embedded := false, tag := "", pkgPath := "runtime", byteOffset := 0 }, { name := "concrete", type := 17, offset := 1, embedded := false, tag := "", pkgPath := "runtime", byteOffset := 8 }, { name := "asserted", type := 17, offset := 2, embedded := false, tag := "", pkgPath := "runtime", byteOffset := 16 }, { name := "missingMethod", type := 9, offset := 3, embedded := false, tag := "", pkgPath := "runtime", byteOffset := 24 }], 4, 40, .agg [.lit (.pointer none), .lit (.pointer none), .lit (.pointer none), .lit (.string ⟨#[]⟩)]⟩ := by kernel_rfl
theorem ty289 : tyOf Tryz.prog 289 = some ⟨.array 0 16, 0, 0, .agg []⟩ := by kernel_rfl
theorem ty290 : tyOf Tryz.prog 290 = some ⟨.struct #[{ name := "_", type := 289, offset := 0, embedded := false, tag := "", pkgPath := "runtime", byteOffset := 0 }], 0, 0, .agg []⟩ := by kernel_rfl
theorem ty291 : tyOf Tryz.prog 291 = some ⟨.struct #[{ name := "_", type := 289, offset := 0, embedded := false, tag := "", pkgPath := "runtime", byteOffset := 0 }], 0, 0, .agg []⟩ := by kernel_rfl
theorem ty292 : tyOf Tryz.prog 292 = some ⟨.int .u8, 1, 1, .lit (.int .u8 0)⟩ := by kernel_rfl
theorem ty293 : tyOf Tryz.prog 293 = some ⟨.int .u8, 1, 1, .lit (.int .u8 0)⟩ := by kernel_rfl
theorem ty294 : tyOf Tryz.prog 294 = some ⟨.func #[243, 243] #[4] false, 1, 8, .lit (.nilFunc)⟩ := by kernel_rfl
theorem ty295 : tyOf Tryz.prog 295 = some ⟨.int .i32, 1, 4, .lit (.int .i32 0)⟩ := by kernel_rfl
theorem ty296 : tyOf Tryz.prog 296 = some ⟨.int .i32, 1, 4, .lit (.int .i32 0)⟩ := by kernel_rfl
theorem ty297 : tyOf Tryz.prog 297 = some ⟨.struct #[{ name := "Size_", type := 12, offset := 0, embedded := false, tag := "", pkgPath := "", byteOffset := 0 }, { name := "PtrBytes", type := 12, offset := 1, embedded := false, tag := "", pkgPath := "", byteOffset := 8 }, { name := "Hash", type := 216, offset := 2, embedded := false, tag := "", pkgPath := "", byteOffset := 16 }, { name := "TFlag", type := 292, offset := 3, embedded := false, tag := "", pkgPath := "", byteOffset := 20 }, { name := "Align_", type := 5, offset := 4, embedded := false, tag := "", pkgPath := "", byteOffset := 21 }, { name := "FieldAlign_", type := 5, offset := 5, embedded := false, tag := "", pkgPath := "", byteOffset := 22 }, { name := "Kind_", type := 293, offset := 6, embedded := false, tag := "", pkgPath := "", byteOffset := 23 }, { name := "Equal", type := 294, offset := 7, embedded := false, tag := "", pkgPath := "", byteOffset := 24 }, { name := "GCData", type := 177, offset := 8, embedded := false, tag := "", pkgPath := "", byteOffset := 32 }, { name := "Str", type := 295, offset := 9, embedded := false, tag := "", pkgPath := "", byteOffset := 40 }, { name := "PtrToThis", type := 296, offset := 10, embedded := false, tag := "", pkgPath := "", byteOffset := 44 }], 11, 48, .agg [.lit (.int .u64 0), .lit (.int .u64 0), .lit (.int .u32 0), .lit (.int .u8 0), .lit (.int .u8 0), .lit (.int .u8 0), .lit (.int .u8 0), .lit (.nilFunc), .lit (.pointer none), .lit (.int .i32 0), .lit (.int .i32 0)]⟩ := by kernel_rfl
theorem ty298 : tyOf Tryz.prog 298 = some ⟨.struct #[{ name := "Size_", type := 12, offset := 0, embedded := false, tag := "", pkgPath := "", byteOffset := 0 }, { name := "PtrBytes", type := 12, offset := 1, embedded := false, tag := "", pkgPath := "", byteOffset := 8 }, { name := "Hash", type := 216, offset := 2, embedded := false, tag := "", pkgPath := "", byteOffset := 16 }, { name := "TFlag", type := 292, offset := 3, embedded := false, tag := "", pkgPath := "", byteOffset := 20 }, { name := "Align_", type := 5, offset := 4, embedded := false, tag := "", pkgPath := "", byteOffset := 21 }, { name := "FieldAlign_", type := 5, offset := 5, embedded := false, tag := "", pkgPath := "", byteOffset := 22 }, { name := "Kind_", type := 293, offset := 6, embedded := false, tag := "", pkgPath := "", byteOffset := 23 }, { name := "Equal", type := 294, offset := 7, embedded := false, tag := "", pkgPath := "", byteOffset := 24 }, { name := "GCData", type := 177, offset := 8, embedded := false, tag := "", pkgPath := "", byteOffset := 32 }, { name := "Str", type := 295, offset := 9, embedded := false, tag := "", pkgPath := "", byteOffset := 40 }, { name := "PtrToThis", type := 296, offset := 10, embedded := false, tag := "", pkgPath := "", byteOffset := 44 }], 11, 48, .agg [.lit (.int .u64 0), .lit (.int .u64 0), .lit (.int .u32 0), .lit (.int .u8 0), .lit (.int .u8 0), .lit (.int .u8 0), .lit (.int .u8 0), .lit (.nilFunc), .lit (.pointer none), .lit (.int .i32 0), .lit (.int .i32 0)]⟩ := by kernel_rfl
end Go.Proofs.Yt
namespace Go.Proofs.Yt
open Go Go.FA Go.Proofs
set_option linter.unusedVariables false
set_option linter.unusedSimpArgs false
set_option maxRecDepth 100000

def letter (c : Int) : Bool := decide (97 ≤ c) && decide (c ≤ 122) || decide (65 ≤ c) && decide (c ≤ 90)
def s173 : Sp := sp (arg1 (Enc.int .u8)) Enc.bool (fun c => some (letter c))

theorem c173 : CallSound Tryz.prog 173 s173 := by
  refine CallSound.of_sp (T := tabOf []) Tryz.func173 rfl (Nat.le_of_ble_eq_true rfl) fun E c y hy => ?_
  simp at hy; subst hy
  refine Dwp.seq (Dwp.run tab0 rfl ?_)
  simp only [drunL, drunO, dwanted, dopS, own, plainOf, dop, dput, eval, ofVal, Then, Ex.then, Ex.inBlock, upd, dbin, Tag.isNN, nilTest, intCmp, dload, dpart, TyI.agg, dfieldAddr, dfield, dindexAddr, dindex, dlen, lenOk, dlookup, mapOf, assocM, keyFits, dmapUpdate, dcallee, dcall, tabOf, dbuiltin, dstore, DV.cells, setAt, dslice, dboundOk, dappend, appTag, rowsOf, elemOk, growLimit, dbuildCells, dbuildCells.go, structOk, fieldsOk, dbuildRows, goInt, true_and]
  refine Dwp.seq (Dwp.run tab0 rfl ?_)
  by_cases h1 : 97 ≤ c <;> by_cases h2 : c ≤ 122 <;> by_cases h3 : 65 ≤ c <;> by_cases h4 : c ≤ 90 <;>
  simp [drunL, drunO, dwanted, dopS, own, plainOf, dop, dput, eval, ofVal, Then, Ex.then, Ex.inBlock, upd, dbin, Tag.isNN, nilTest, intCmp, dload, dpart, TyI.agg, dfieldAddr, dfield, dindexAddr, dindex, dlen, lenOk, dlookup, mapOf, assocM, keyFits, dmapUpdate, dcallee, dcall, tabOf, dbuiltin, dstore, DV.cells, setAt, dslice, dboundOk, dappend, appTag, rowsOf, elemOk, growLimit, dbuildCells, dbuildCells.go, structOk, fieldsOk, dbuildRows, goInt, init, arg1, arg2, arg3, EncR.one, EncR.and, Enc.bool, Enc.int, Enc.str, Enc.strs, Enc.slice, Enc.agg, Enc.tup, Enc.err, Enc.fn, h1, h2, h3, h4]
  all_goals (refine Dwp.ret ?_; simp [Done, dresults, dres, frz, frz1, frz2, init, arg1, arg2, arg3, EncR.one, EncR.and, Enc.bool, Enc.int, Enc.str, Enc.strs, Enc.slice, Enc.agg, Enc.tup, Enc.err, Enc.fn, Tryz.results173, upd, letter, h1, h2, h3, h4])

theorem assoc_mem (k : ByteArray) : ∀ (l : List ByteArray), assoc (.string k) (l.map .string) (l.map fun _ => .lit (.bool true)) = some (if k ∈ l then some (.lit (.bool true)) else none)
  | [] => rfl
  | x :: l => by
    simp only [List.map_cons, assoc, eqKey, assoc_mem k l]
    by_cases h : k = x
    · simp [h]
    · simp [h]
theorem putKey_new (k : ByteArray) (x : DV) : ∀ (l : List ByteArray) (vs : List DV), k ∉ l → vs.length = l.length → putKey (.string k) x (l.map .string) vs = some (l.map .string ++ [.string k], vs ++ [x])
  | [], [], _, _ => rfl
  | [], _ :: _, _, h => by simp at h
  | _ :: _, [], _, h => by simp at h
  | y :: l, v :: vs, hn, h => by
    have h1 : k ≠ y := fun e => hn (by simp [e])
    have h2 : k ∉ l := fun e => hn (by simp [e])
    simp [putKey, eqKey, h1, putKey_new k x l vs h2 (by simpa using h)]
def s327 : Sp := sp (arg1 Enc.strs) Enc.bool (fun l => if l.length ≤ lim then some (decide l.Nodup) else none)

def inv327 (l : List ByteArray) : Nat → (Nat → DV) → St → Prop := fun k a σ => ∃ i, i ≤ l.length ∧ k = l.length - i ∧ (l.take i).Nodup ∧ a 3 = .map 1 ∧ a 7 = .slice 1 .none (l.map fun s => [DV.lit (.string s)]) ∧
    a 8 = .lit (.int .i64 l.length) ∧ a 9 = .lit (.int .i64 i) ∧ σ.objs 1 = some (.map ((l.take i).map .string) ((l.take i).map fun _ => .lit (.bool true)))

theorem c327 : CallSound Tryz.prog 327 s327 := by
  refine CallSound.of_sp (T := tabOf []) Tryz.func327 rfl (Nat.le_of_ble_eq_true rfl) fun E l y hy => ?_
  by_cases hlim : l.length ≤ lim <;> simp [hlim] at hy
  subst hy
  unfold lim at hlim
  refine Dwp.step tab0 rfl fun K hK => ?_
  simp [drunL, drunO, dwanted, dopS, own, plainOf, dop, dput, eval, ofVal, Then, Ex.then, Ex.inBlock, upd, dbin, Tag.isNN, nilTest, intCmp, dload, dpart, TyI.agg, dfieldAddr, dfield, dindexAddr, dindex, dlen, lenOk, dlookup, mapOf, assocM, keyFits, dmapUpdate, dcallee, dcall, tabOf, dbuiltin, dstore, DV.cells, setAt, dslice, dboundOk, dappend, appTag, rowsOf, elemOk, growLimit, dbuildCells, dbuildCells.go, structOk, fieldsOk, dbuildRows, goInt]
  refine hK _ _ ?_ rfl; clear hK K
  refine Dwp.step tab0 rfl fun K hK => ?_
  simp [drunL, drunO, dwanted, dopS, own, plainOf, dop, dput, eval, ofVal, Then, Ex.then, Ex.inBlock, upd, dbin, Tag.isNN, nilTest, intCmp, dload, dpart, TyI.agg, dfieldAddr, dfield, dindexAddr, dindex, dlen, lenOk, dlookup, mapOf, assocM, keyFits, dmapUpdate, dcallee, dcall, tabOf, dbuiltin, dstore, DV.cells, setAt, dslice, dboundOk, dappend, appTag, rowsOf, elemOk, growLimit, dbuildCells, dbuildCells.go, structOk, fieldsOk, dbuildRows, goInt]
  refine hK _ _ ?_ rfl; clear hK K
  refine Dwp.seq (Dwp.step tab0 rfl fun K hK => ?_)
  simp [drunL, drunO, dwanted, dopS, own, plainOf, dop, dput, eval, ofVal, Then, Ex.then, Ex.inBlock, upd, dbin, Tag.isNN, nilTest, intCmp, dload, dpart, TyI.agg, dfieldAddr, dfield, dindexAddr, dindex, dlen, lenOk, dlookup, mapOf, assocM, keyFits, dmapUpdate, dcallee, dcall, tabOf, dbuiltin, dstore, DV.cells, setAt, dslice, dboundOk, dappend, appTag, rowsOf, elemOk, growLimit, dbuildCells, dbuildCells.go, structOk, fieldsOk, dbuildRows, goInt, init, arg1, arg2, arg3, EncR.one, EncR.and, Enc.bool, Enc.int, Enc.str, Enc.strs, Enc.slice, Enc.agg, Enc.tup, Enc.err, Enc.fn, ty22]
  refine hK _ _ ?_ rfl; clear hK K
  refine Dwp.block (Dwp.loop (inv327 l) l.length ⟨0, by simp, by simp, by simp, by simp [upd, σ0], by simp [upd], by simp [upd], by simp [upd], by simp [upd, σ0]⟩ ?_)
  rintro k a σ ⟨i, hi, rfl, hnd, h3, h7, h8, h9, hobj⟩
  refine Dwp.step tab0 rfl fun K hK => ?_
  simp [drunL, drunO, dwanted, dopS, own, plainOf, dop, dput, eval, ofVal, Then, Ex.then, Ex.inBlock, upd, dbin, Tag.isNN, nilTest, intCmp, dload, dpart, TyI.agg, dfieldAddr, dfield, dindexAddr, dindex, dlen, lenOk, dlookup, mapOf, assocM, keyFits, dmapUpdate, dcallee, dcall, tabOf, dbuiltin, dstore, DV.cells, setAt, dslice, dboundOk, dappend, appTag, rowsOf, elemOk, growLimit, dbuildCells, dbuildCells.go, structOk, fieldsOk, dbuildRows, goInt, h8, h9]
  refine hK _ _ ?_ rfl; clear hK K
  by_cases hlt : i < l.length
  · refine Dwp.seq (Dwp.condT (by simp [eval, upd, hlt]) (Dwp.skip ?_))
    refine Dwp.seq (Dwp.block (Dwp.step tab0 rfl fun K hK => ?_))
    simp [drunL, drunO, dwanted, dopS, own, plainOf, dop, dput, eval, ofVal, Then, Ex.then, Ex.inBlock, upd, dbin, Tag.isNN, nilTest, intCmp, dload, dpart, TyI.agg, dfieldAddr, dfield, dindexAddr, dindex, dlen, lenOk, dlookup, mapOf, assocM, keyFits, dmapUpdate, dcallee, dcall, tabOf, dbuiltin, dstore, DV.cells, setAt, dslice, dboundOk, dappend, appTag, rowsOf, elemOk, growLimit, dbuildCells, dbuildCells.go, structOk, fieldsOk, dbuildRows, goInt, h7, h9, ty22, ty9, hlt]
    refine hK _ _ ?_ rfl; clear hK K
    have hA := assoc_mem l[i] (l.take i)
    simp only [List.map_take] at hA
    refine Dwp.seq (Dwp.step tab0 rfl fun K hK => ?_)
    by_cases hm : l[i] ∈ l.take i
    · simp [drunL, drunO, dwanted, dopS, own, plainOf, dop, dput, eval, ofVal, Then, Ex.then, Ex.inBlock, upd, dbin, Tag.isNN, nilTest, intCmp, dload, dpart, TyI.agg, dfieldAddr, dfield, dindexAddr, dindex, dlen, lenOk, dlookup, mapOf, assocM, keyFits, dmapUpdate, dcallee, dcall, tabOf, dbuiltin, dstore, DV.cells, setAt, dslice, dboundOk, dappend, appTag, rowsOf, elemOk, growLimit, dbuildCells, dbuildCells.go, structOk, fieldsOk, dbuildRows, goInt, h3, hobj, ty267, ty9, ty4, hA, hm]
      refine hK _ _ ?_ rfl; clear hK K
      refine Dwp.condT (by simp [eval, upd]) (Dwp.step tab0 rfl fun K hK => ?_)
      simp [drunL, drunO, dwanted, dopS, own, plainOf, dop, dput, eval, ofVal, Then, Ex.then, Ex.inBlock, upd, dbin, Tag.isNN, nilTest, intCmp, dload, dpart, TyI.agg, dfieldAddr, dfield, dindexAddr, dindex, dlen, lenOk, dlookup, mapOf, assocM, keyFits, dmapUpdate, dcallee, dcall, tabOf, dbuiltin, dstore, DV.cells, setAt, dslice, dboundOk, dappend, appTag, rowsOf, elemOk, growLimit, dbuildCells, dbuildCells.go, structOk, fieldsOk, dbuildRows, goInt]
      refine hK _ _ (Dwp.ret ?_) rfl
      have hno : ¬ l.Nodup := by
        intro hn
        have h1 : l.take (i + 1) = l.take i ++ [l[i]] := by rw [List.take_succ_eq_append_getElem hlt]
        have h2 : (l.take (i + 1)).Nodup := List.Nodup.sublist (List.take_sublist _ _) hn
        rw [h1, List.nodup_append] at h2
        exact h2.2.2 _ hm _ (by simp) rfl
      simp [Done, dresults, dres, frz, frz1, frz2, init, arg1, arg2, arg3, EncR.one, EncR.and, Enc.bool, Enc.int, Enc.str, Enc.strs, Enc.slice, Enc.agg, Enc.tup, Enc.err, Enc.fn, Ex.then, Ex.inBlock, upd, hno]
    · simp [drunL, drunO, dwanted, dopS, own, plainOf, dop, dput, eval, ofVal, Then, Ex.then, Ex.inBlock, upd, dbin, Tag.isNN, nilTest, intCmp, dload, dpart, TyI.agg, dfieldAddr, dfield, dindexAddr, dindex, dlen, lenOk, dlookup, mapOf, assocM, keyFits, dmapUpdate, dcallee, dcall, tabOf, dbuiltin, dstore, DV.cells, setAt, dslice, dboundOk, dappend, appTag, rowsOf, elemOk, growLimit, dbuildCells, dbuildCells.go, structOk, fieldsOk, dbuildRows, goInt, h3, hobj, ty267, ty9, ty4, hA, hm]
      refine hK _ _ ?_ rfl; clear hK K
      refine Dwp.condF (by simp [eval, upd]) (Dwp.skip ?_)
      refine Dwp.reg tab0 rfl fun K hK => ?_
      have hP := putKey_new l[i] (.lit (.bool true)) (l.take i) ((l.take i).map fun _ => .lit (.bool true)) hm (by simp)
      simp only [List.map_take] at hP
      simp [drunL, drunO, dwanted, dopS, own, plainOf, dop, dput, eval, ofVal, Then, Ex.then, Ex.inBlock, upd, dbin, Tag.isNN, nilTest, intCmp, dload, dpart, TyI.agg, dfieldAddr, dfield, dindexAddr, dindex, dlen, lenOk, dlookup, mapOf, assocM, keyFits, dmapUpdate, dcallee, dcall, tabOf, dbuiltin, dstore, DV.cells, setAt, dslice, dboundOk, dappend, appTag, rowsOf, elemOk, growLimit, dbuildCells, dbuildCells.go, structOk, fieldsOk, dbuildRows, goInt, h3, hobj, ty267, ty9, hP]
      refine hK _ _ ?_ rfl; clear hK K
      refine Dwp.reg tab0 rfl fun K hK => ?_
      simp [drunL, drunO, dwanted, dopS, own, plainOf, dop, dput, eval, ofVal, Then, Ex.then, Ex.inBlock, upd, dbin, Tag.isNN, nilTest, intCmp, dload, dpart, TyI.agg, dfieldAddr, dfield, dindexAddr, dindex, dlen, lenOk, dlookup, mapOf, assocM, keyFits, dmapUpdate, dcallee, dcall, tabOf, dbuiltin, dstore, DV.cells, setAt, dslice, dboundOk, dappend, appTag, rowsOf, elemOk, growLimit, dbuildCells, dbuildCells.go, structOk, fieldsOk, dbuildRows, goInt, h9]
      refine hK _ _ ?_ rfl; clear hK K
      refine ⟨l.length - (i + 1), by omega, i + 1, by omega, rfl, ?_, by simp [upd, h3], by simp [upd, h7], by simp [upd, h8], ?_, ?_⟩
      · rw [List.take_succ_eq_append_getElem hlt, List.nodup_append]
        exact ⟨hnd, by simp, fun a ha b hb e => by simp at hb; subst hb; subst e; exact hm ha⟩
      · simp [upd, wrap_small (n := (i : Int) + 1) (by omega) (by omega)]
      · rw [List.take_succ_eq_append_getElem hlt]; simp [upd]; constructor <;> (rw [List.take_succ_eq_append_getElem (by simpa using hlt)]; simp)
  · refine Dwp.seq (Dwp.condF (by simp [eval, upd, hlt]) (Dwp.exit ?_))
    refine Dwp.step tab0 rfl fun K hK => ?_
    simp [drunL, drunO, dwanted, dopS, own, plainOf, dop, dput, eval, ofVal, Then, Ex.then, Ex.inBlock, upd, dbin, Tag.isNN, nilTest, intCmp, dload, dpart, TyI.agg, dfieldAddr, dfield, dindexAddr, dindex, dlen, lenOk, dlookup, mapOf, assocM, keyFits, dmapUpdate, dcallee, dcall, tabOf, dbuiltin, dstore, DV.cells, setAt, dslice, dboundOk, dappend, appTag, rowsOf, elemOk, growLimit, dbuildCells, dbuildCells.go, structOk, fieldsOk, dbuildRows, goInt]
    refine hK _ _ (Dwp.ret ?_) rfl
    have : l.take i = l := List.take_of_length_le (by omega)
    rw [this] at hnd
    simp [Done, dresults, dres, frz, frz1, frz2, init, arg1, arg2, arg3, EncR.one, EncR.and, Enc.bool, Enc.int, Enc.str, Enc.strs, Enc.slice, Enc.agg, Enc.tup, Enc.err, Enc.fn, upd, hnd]
theorem e173 : Go.FA.Good Tryz.prog (173, s173) := ⟨c173, Tryz.f173, _, Tryz.func173, rfl, by decide⟩
theorem e327 : Go.FA.Good Tryz.prog (327, s327) := ⟨c327, Tryz.f327, _, Tryz.func327, rfl, by decide⟩
end Go.Proofs.Yt
namespace Go.Proofs.Yt
open Go Go.FA Go.Proofs
set_option linter.unusedVariables false
set_option linter.unusedSimpArgs false
set_option maxRecDepth 100000

def nameByte (c : Int) : Bool := letter c || (decide (48 ≤ c) && decide (c ≤ 57)) || c == 95
def signByte (c : Int) : Bool := decide (33 ≤ c) && decide (c ≤ 126) && !nameByte c && c != 34 && c != 39 && c != 92
def s175 : Sp := sp (arg1 (Enc.int .u8)) Enc.bool (fun c => some (nameByte c))
def s358 : Sp := sp (arg1 (Enc.int .u8)) Enc.bool (fun c => some (signByte c))

theorem t80 : TabOk Tryz.prog (tabOf [(173, s173)]) := .cons e173 .nil

theorem c175 : CallSound Tryz.prog 175 s175 := by
  refine CallSound.of_sp (T := tabOf [(173, s173)]) Tryz.func175 rfl (Nat.le_of_ble_eq_true rfl) fun E c y hy => ?_
  simp at hy; subst hy
  refine Dwp.step t80 rfl fun K hK => ?_
  simp [drunL, drunO, dwanted, dopS, own, plainOf, dop, dput, eval, ofVal, Then, Ex.then, Ex.inBlock, upd, dbin, Tag.isNN, nilTest, intCmp, dload, dpart, TyI.agg, dfieldAddr, dfield, dindexAddr, dindex, dlen, lenOk, dlookup, mapOf, assocM, keyFits, dmapUpdate, dcallee, dcall, tabOf, dbuiltin, dstore, DV.cells, setAt, dslice, dboundOk, dappend, appTag, rowsOf, elemOk, growLimit, dbuildCells, dbuildCells.go, structOk, fieldsOk, dbuildRows, goInt]
  refine hK _ _ ?_ rfl; clear hK K
  refine Dwp.step t80 rfl fun K hK => ?_
  by_cases h1 : letter c = true <;> by_cases h2 : 48 ≤ c <;> by_cases h3 : c ≤ 57 <;> by_cases h4 : c = 95 <;>
    simp [drunL, drunO, dwanted, dopS, own, plainOf, dop, dput, eval, ofVal, Then, Ex.then, Ex.inBlock, upd, dbin, Tag.isNN, nilTest, intCmp, dload, dpart, TyI.agg, dfieldAddr, dfield, dindexAddr, dindex, dlen, lenOk, dlookup, mapOf, assocM, keyFits, dmapUpdate, dcallee, dcall, tabOf, dbuiltin, dstore, DV.cells, setAt, dslice, dboundOk, dappend, appTag, rowsOf, elemOk, growLimit, dbuildCells, dbuildCells.go, structOk, fieldsOk, dbuildRows, goInt, init, arg1, arg2, arg3, EncR.one, EncR.and, Enc.bool, Enc.int, Enc.str, Enc.strs, Enc.slice, Enc.agg, Enc.tup, Enc.err, Enc.fn, s173, sp, h1, h2, h3, h4] <;> refine hK _ _ (Dwp.ret ?_) rfl <;> simp [Done, dresults, dres, frz, frz1, frz2, init, arg1, arg2, arg3, EncR.one, EncR.and, Enc.bool, Enc.int, Enc.str, Enc.strs, Enc.slice, Enc.agg, Enc.tup, Enc.err, Enc.fn, upd, nameByte, h1, h2, h3, h4]
theorem e175 : Go.FA.Good Tryz.prog (175, s175) := ⟨c175, Tryz.f175, _, Tryz.func175, rfl, by decide⟩
theorem t82 : TabOk Tryz.prog (tabOf [(175, s175)]) := .cons e175 .nil

theorem c358 : CallSound Tryz.prog 358 s358 := by
  refine CallSound.of_sp (T := tabOf [(175, s175)]) Tryz.func358 rfl (Nat.le_of_ble_eq_true rfl) fun E c y hy => ?_
  simp at hy; subst hy
  refine Dwp.step t82 rfl fun K hK => ?_
  simp [drunL, drunO, dwanted, dopS, own, plainOf, dop, dput, eval, ofVal, Then, Ex.then, Ex.inBlock, upd, dbin, Tag.isNN, nilTest, intCmp, dload, dpart, TyI.agg, dfieldAddr, dfield, dindexAddr, dindex, dlen, lenOk, dlookup, mapOf, assocM, keyFits, dmapUpdate, dcallee, dcall, tabOf, dbuiltin, dstore, DV.cells, setAt, dslice, dboundOk, dappend, appTag, rowsOf, elemOk, growLimit, dbuildCells, dbuildCells.go, structOk, fieldsOk, dbuildRows, goInt]
  refine hK _ _ ?_ rfl; clear hK K
  refine Dwp.step t82 rfl fun K hK => ?_
  by_cases h1 : 33 ≤ c
  · by_cases h2 : c ≤ 126
    · cases h3 : nameByte c with
      | true => simp [drunL, drunO, dwanted, dopS, own, plainOf, dop, dput, eval, ofVal, Then, Ex.then, Ex.inBlock, upd, dbin, Tag.isNN, nilTest, intCmp, dload, dpart, TyI.agg, dfieldAddr, dfield, dindexAddr, dindex, dlen, lenOk, dlookup, mapOf, assocM, keyFits, dmapUpdate, dcallee, dcall, tabOf, dbuiltin, dstore, DV.cells, setAt, dslice, dboundOk, dappend, appTag, rowsOf, elemOk, growLimit, dbuildCells, dbuildCells.go, structOk, fieldsOk, dbuildRows, goInt, init, arg1, arg2, arg3, EncR.one, EncR.and, Enc.bool, Enc.int, Enc.str, Enc.strs, Enc.slice, Enc.agg, Enc.tup, Enc.err, Enc.fn, s175, sp, h1, h2, h3] <;> refine hK _ _ (Dwp.ret ?_) rfl <;> simp [Done, dresults, dres, frz, frz1, frz2, init, arg1, arg2, arg3, EncR.one, EncR.and, Enc.bool, Enc.int, Enc.str, Enc.strs, Enc.slice, Enc.agg, Enc.tup, Enc.err, Enc.fn, upd, signByte, h1, h2, h3]
      | false =>
        cases h4 : (c != 34) <;> cases h5 : (c != 39) <;> cases h6 : (c != 92) <;>
          simp [drunL, drunO, dwanted, dopS, own, plainOf, dop, dput, eval, ofVal, Then, Ex.then, Ex.inBlock, upd, dbin, Tag.isNN, nilTest, intCmp, dload, dpart, TyI.agg, dfieldAddr, dfield, dindexAddr, dindex, dlen, lenOk, dlookup, mapOf, assocM, keyFits, dmapUpdate, dcallee, dcall, tabOf, dbuiltin, dstore, DV.cells, setAt, dslice, dboundOk, dappend, appTag, rowsOf, elemOk, growLimit, dbuildCells, dbuildCells.go, structOk, fieldsOk, dbuildRows, goInt, init, arg1, arg2, arg3, EncR.one, EncR.and, Enc.bool, Enc.int, Enc.str, Enc.strs, Enc.slice, Enc.agg, Enc.tup, Enc.err, Enc.fn, s175, sp, h1, h2, h3, h4, h5, h6] <;> refine hK _ _ (Dwp.ret ?_) rfl <;> simp [Done, dresults, dres, frz, frz1, frz2, init, arg1, arg2, arg3, EncR.one, EncR.and, Enc.bool, Enc.int, Enc.str, Enc.strs, Enc.slice, Enc.agg, Enc.tup, Enc.err, Enc.fn, upd, signByte, h1, h2, h3, h4, h5, h6]
    · simp [drunL, drunO, dwanted, dopS, own, plainOf, dop, dput, eval, ofVal, Then, Ex.then, Ex.inBlock, upd, dbin, Tag.isNN, nilTest, intCmp, dload, dpart, TyI.agg, dfieldAddr, dfield, dindexAddr, dindex, dlen, lenOk, dlookup, mapOf, assocM, keyFits, dmapUpdate, dcallee, dcall, tabOf, dbuiltin, dstore, DV.cells, setAt, dslice, dboundOk, dappend, appTag, rowsOf, elemOk, growLimit, dbuildCells, dbuildCells.go, structOk, fieldsOk, dbuildRows, goInt, init, arg1, arg2, arg3, EncR.one, EncR.and, Enc.bool, Enc.int, Enc.str, Enc.strs, Enc.slice, Enc.agg, Enc.tup, Enc.err, Enc.fn, s175, sp, h1, h2] <;> refine hK _ _ (Dwp.ret ?_) rfl <;> simp [Done, dresults, dres, frz, frz1, frz2, init, arg1, arg2, arg3, EncR.one, EncR.and, Enc.bool, Enc.int, Enc.str, Enc.strs, Enc.slice, Enc.agg, Enc.tup, Enc.err, Enc.fn, upd, signByte, h1, h2]
  · simp [drunL, drunO, dwanted, dopS, own, plainOf, dop, dput, eval, ofVal, Then, Ex.then, Ex.inBlock, upd, dbin, Tag.isNN, nilTest, intCmp, dload, dpart, TyI.agg, dfieldAddr, dfield, dindexAddr, dindex, dlen, lenOk, dlookup, mapOf, assocM, keyFits, dmapUpdate, dcallee, dcall, tabOf, dbuiltin, dstore, DV.cells, setAt, dslice, dboundOk, dappend, appTag, rowsOf, elemOk, growLimit, dbuildCells, dbuildCells.go, structOk, fieldsOk, dbuildRows, goInt, init, arg1, arg2, arg3, EncR.one, EncR.and, Enc.bool, Enc.int, Enc.str, Enc.strs, Enc.slice, Enc.agg, Enc.tup, Enc.err, Enc.fn, s175, sp, h1] <;> refine hK _ _ (Dwp.ret ?_) rfl <;> simp [Done, dresults, dres, frz, frz1, frz2, init, arg1, arg2, arg3, EncR.one, EncR.and, Enc.bool, Enc.int, Enc.str, Enc.strs, Enc.slice, Enc.agg, Enc.tup, Enc.err, Enc.fn, upd, signByte, h1]
theorem e358 : Go.FA.Good Tryz.prog (358, s358) := ⟨c358, Tryz.f358, _, Tryz.func358, rfl, by decide⟩

/-- the bytes of a string, all of them so -/
def allB (p : Int → Bool) (s : ByteArray) : Bool := s.data.toList.all fun b => p (b.toNat : Int)
def byteFn (f : FuncId) : Option (Int → Bool) := if f = 175 then some nameByte else if f = 358 then some signByte else none
def s174 : Sp := sp (arg2 Enc.str Enc.fn) Enc.bool (fun x => if x.1.size ≤ lim then (byteFn x.2).map fun p => allB p x.1 else none)
theorem t81 : TabOk Tryz.prog (tabOf [(175, s175), (358, s358)]) := .cons e175 (.cons e358 .nil)

theorem call174 (f : FuncId) (p : Int → Bool) (h : byteFn f = some p) (c : Int) : dcall (tabOf [(175, s175), (358, s358)]) f [.lit (.int .u8 c)] = some (.lit (.bool (p c))) := by
  unfold byteFn at h
  split at h
  · next e => simp at h; subst e; subst h; simp [dcall, tabOf, s175, sp, init, arg1, arg2, arg3, EncR.one, EncR.and, Enc.bool, Enc.int, Enc.str, Enc.strs, Enc.slice, Enc.agg, Enc.tup, Enc.err, Enc.fn]
  · split at h
    · next e => simp at h; subst e; subst h; simp [dcall, tabOf, s358, sp, init, arg1, arg2, arg3, EncR.one, EncR.and, Enc.bool, Enc.int, Enc.str, Enc.strs, Enc.slice, Enc.agg, Enc.tup, Enc.err, Enc.fn]
    · simp at h

def inv174 (s : ByteArray) (f : FuncId) (p : Int → Bool) : Nat → (Nat → DV) → St → Prop := fun k a σ => ∃ i, i ≤ s.size ∧ k = s.size - i ∧ ((s.data.toList.take i).all fun b => p (b.toNat : Int)) = true ∧
  a 0 = .lit (.string s) ∧ a 1 = .lit (.func (.func f) #[] #[]) ∧ a 7 = .lit (.int .i64 s.size) ∧ a 8 = .lit (.int .i64 i)

theorem c174 : CallSound Tryz.prog 174 s174 := by
  refine CallSound.of_sp (T := tabOf [(175, s175), (358, s358)]) Tryz.func174 rfl (Nat.le_of_ble_eq_true rfl) fun E x y hy => ?_
  obtain ⟨s, f⟩ := x
  by_cases hlim : s.size ≤ lim <;> simp [hlim] at hy
  obtain ⟨p, hp, rfl⟩ := hy
  unfold lim at hlim
  refine Dwp.step t81 rfl fun K hK => ?_
  simp [drunL, drunO, dwanted, dopS, own, plainOf, dop, dput, eval, ofVal, Then, Ex.then, Ex.inBlock, upd, dbin, Tag.isNN, nilTest, intCmp, dload, dpart, TyI.agg, dfieldAddr, dfield, dindexAddr, dindex, dlen, lenOk, dlookup, mapOf, assocM, keyFits, dmapUpdate, dcallee, dcall, tabOf, dbuiltin, dstore, DV.cells, setAt, dslice, dboundOk, dappend, appTag, rowsOf, elemOk, growLimit, dbuildCells, dbuildCells.go, structOk, fieldsOk, dbuildRows, goInt]
  refine hK _ _ ?_ rfl; clear hK K
  refine Dwp.seq ?_
  refine Dwp.step t81 rfl fun K hK => ?_
  simp [drunL, drunO, dwanted, dopS, own, plainOf, dop, dput, eval, ofVal, Then, Ex.then, Ex.inBlock, upd, dbin, Tag.isNN, nilTest, intCmp, dload, dpart, TyI.agg, dfieldAddr, dfield, dindexAddr, dindex, dlen, lenOk, dlookup, mapOf, assocM, keyFits, dmapUpdate, dcallee, dcall, tabOf, dbuiltin, dstore, DV.cells, setAt, dslice, dboundOk, dappend, appTag, rowsOf, elemOk, growLimit, dbuildCells, dbuildCells.go, structOk, fieldsOk, dbuildRows, goInt, init, arg1, arg2, arg3, EncR.one, EncR.and, Enc.bool, Enc.int, Enc.str, Enc.strs, Enc.slice, Enc.agg, Enc.tup, Enc.err, Enc.fn, ty9]
  refine hK _ _ ?_ rfl; clear hK K
  refine Dwp.block (Dwp.loop (inv174 s f p) s.size ⟨0, by simp, by simp, by simp, by simp [upd, init, init, arg1, arg2, arg3, EncR.one, EncR.and, Enc.bool, Enc.int, Enc.str, Enc.strs, Enc.slice, Enc.agg, Enc.tup, Enc.err, Enc.fn], by simp [upd, init, init, arg1, arg2, arg3, EncR.one, EncR.and, Enc.bool, Enc.int, Enc.str, Enc.strs, Enc.slice, Enc.agg, Enc.tup, Enc.err, Enc.fn], by simp [upd], by simp [upd]⟩ ?_)
  rintro k a σ ⟨i, hi, rfl, hall, h0, h1, h7, h8⟩
  refine Dwp.step t81 rfl fun K hK => ?_
  simp [drunL, drunO, dwanted, dopS, own, plainOf, dop, dput, eval, ofVal, Then, Ex.then, Ex.inBlock, upd, dbin, Tag.isNN, nilTest, intCmp, dload, dpart, TyI.agg, dfieldAddr, dfield, dindexAddr, dindex, dlen, lenOk, dlookup, mapOf, assocM, keyFits, dmapUpdate, dcallee, dcall, tabOf, dbuiltin, dstore, DV.cells, setAt, dslice, dboundOk, dappend, appTag, rowsOf, elemOk, growLimit, dbuildCells, dbuildCells.go, structOk, fieldsOk, dbuildRows, goInt, h7, h8]
  refine hK _ _ ?_ rfl; clear hK K
  by_cases hlt : i < s.size
  · refine Dwp.seq (Dwp.condT (by simp [eval, upd, hlt]) (Dwp.skip ?_))
    refine Dwp.seq (Dwp.block ?_)
    refine Dwp.step t81 rfl fun K hK => ?_
    simp [drunL, drunO, dwanted, dopS, own, plainOf, dop, dput, eval, ofVal, Then, Ex.then, Ex.inBlock, upd, dbin, Tag.isNN, nilTest, intCmp, dload, dpart, TyI.agg, dfieldAddr, dfield, dindexAddr, dindex, dlen, lenOk, dlookup, mapOf, assocM, keyFits, dmapUpdate, dcallee, dcall, tabOf, dbuiltin, dstore, DV.cells, setAt, dslice, dboundOk, dappend, appTag, rowsOf, elemOk, growLimit, dbuildCells, dbuildCells.go, structOk, fieldsOk, dbuildRows, goInt, h8]
    refine hK _ _ ?_ rfl; clear hK K
    refine Dwp.step t81 rfl fun K hK => ?_
    have hcall := call174 f p hp (s[i].toNat : Int)
    simp [drunL, dwanted, dopS, own, plainOf, dop, dput, eval, Then, upd, h0, h1, ty9, dindex, hlt, dcallee, hcall]
    refine hK _ _ ?_ rfl; clear hK K
    have hbyte : s[i] = s.data.toList[i]'(by simpa using hlt) := rfl
    have htk : s.data.toList.take (i + 1) = s.data.toList.take i ++ [s[i]] := by rw [List.take_succ_eq_append_getElem (by simpa using hlt)]; rfl
    cases hpc : p (s[i].toNat : Int) with
    | true =>
      refine Dwp.condF (by simp [eval, upd, hpc]) (Dwp.skip ?_)
      refine Dwp.reg t81 rfl fun K hK => ?_
      simp [drunL, drunO, dwanted, dopS, own, plainOf, dop, dput, eval, ofVal, Then, Ex.then, Ex.inBlock, upd, dbin, Tag.isNN, nilTest, intCmp, dload, dpart, TyI.agg, dfieldAddr, dfield, dindexAddr, dindex, dlen, lenOk, dlookup, mapOf, assocM, keyFits, dmapUpdate, dcallee, dcall, tabOf, dbuiltin, dstore, DV.cells, setAt, dslice, dboundOk, dappend, appTag, rowsOf, elemOk, growLimit, dbuildCells, dbuildCells.go, structOk, fieldsOk, dbuildRows, goInt, h8]
      refine hK _ _ ?_ rfl; clear hK K
      refine ⟨s.size - (i + 1), by omega, i + 1, by omega, rfl, ?_, by simp [upd, h0], by simp [upd, h1], by simp [upd, h7], by simp [upd, wrap_small (n := (i : Int) + 1) (by omega) (by omega)]⟩
      rw [htk, List.all_append, hall]; simp [hpc]
    | false =>
      refine Dwp.condT (by simp [eval, upd, hpc]) ?_
      refine Dwp.step t81 rfl fun K hK => ?_
      simp [drunL, drunO, dwanted, dopS, own, plainOf, dop, dput, eval, ofVal, Then, Ex.then, Ex.inBlock, upd, dbin, Tag.isNN, nilTest, intCmp, dload, dpart, TyI.agg, dfieldAddr, dfield, dindexAddr, dindex, dlen, lenOk, dlookup, mapOf, assocM, keyFits, dmapUpdate, dcallee, dcall, tabOf, dbuiltin, dstore, DV.cells, setAt, dslice, dboundOk, dappend, appTag, rowsOf, elemOk, growLimit, dbuildCells, dbuildCells.go, structOk, fieldsOk, dbuildRows, goInt]
      refine hK _ _ (Dwp.ret ?_) rfl
      have hno : allB p s = false := by
        unfold allB
        rw [List.all_eq_false]
        exact ⟨s[i], by rw [hbyte]; exact List.getElem_mem _, by simp [hpc]⟩
      simp [Done, dresults, dres, frz, frz1, frz2, init, arg1, arg2, arg3, EncR.one, EncR.and, Enc.bool, Enc.int, Enc.str, Enc.strs, Enc.slice, Enc.agg, Enc.tup, Enc.err, Enc.fn, Ex.then, Ex.inBlock, upd, hno]
  · refine Dwp.seq (Dwp.condF (by simp [eval, upd, hlt]) (Dwp.exit ?_))
    refine Dwp.step t81 rfl fun K hK => ?_
    simp [drunL, drunO, dwanted, dopS, own, plainOf, dop, dput, eval, ofVal, Then, Ex.then, Ex.inBlock, upd, dbin, Tag.isNN, nilTest, intCmp, dload, dpart, TyI.agg, dfieldAddr, dfield, dindexAddr, dindex, dlen, lenOk, dlookup, mapOf, assocM, keyFits, dmapUpdate, dcallee, dcall, tabOf, dbuiltin, dstore, DV.cells, setAt, dslice, dboundOk, dappend, appTag, rowsOf, elemOk, growLimit, dbuildCells, dbuildCells.go, structOk, fieldsOk, dbuildRows, goInt]
    refine hK _ _ (Dwp.ret ?_) rfl
    have hyes : allB p s = true := by
      unfold allB
      rwa [List.take_of_length_le (by simpa using (Nat.le_of_not_lt hlt))] at hall
    simp [Done, dresults, dres, frz, frz1, frz2, init, arg1, arg2, arg3, EncR.one, EncR.and, Enc.bool, Enc.int, Enc.str, Enc.strs, Enc.slice, Enc.agg, Enc.tup, Enc.err, Enc.fn, upd, hyes]
theorem e174 : Go.FA.Good Tryz.prog (174, s174) := ⟨c174, Tryz.f174, _, Tryz.func174, rfl, by decide⟩
end Go.Proofs.Yt
namespace Go.FA
open Go.RowKit
set_option linter.unusedVariables false
set_option linter.unusedSimpArgs false
variable {C : Ctx} {w : World} {α β γ : Type}

/-- the entries of a map with strings as keys, in the order in which they came -/
def decMap (A : Enc α) : List Value → List DV → Option (List (ByteArray × α))
  | [], [] => some []
  | .string k :: ks, v :: vs => match A.dec v, decMap A ks vs with
    | some x, some r => some ((k, x) :: r)
    | _, _ => none
  | _, _ => none
theorem decMap_enc (A : Enc α) : ∀ l : List (ByteArray × α), decMap A (l.map fun p => .string p.1) (l.map fun p => A.enc p.2) = some l
  | [] => rfl
  | p :: l => by simp [decMap, A.de, decMap_enc A l]
theorem decMap_le (A : Enc α) : ∀ (ks : List Value) (vs : List DV) (l : List (ByteArray × α)), decMap A ks vs = some l → ks = l.map (fun p => .string p.1) ∧ LLe vs (l.map fun p => A.enc p.2)
  | [], [], l, h => by simp [decMap] at h; subst h; exact ⟨rfl, .nil⟩
  | [], _ :: _, l, h => by simp [decMap] at h
  | k :: ks, [], l, h => by cases k <;> simp [decMap] at h
  | k :: ks, v :: vs, l, h => by
    cases k <;> simp only [decMap] at h <;> (try simp at h)
    split at h
    · next x r h1 h2 =>
      simp at h; subst h
      obtain ⟨q1, q2⟩ := decMap_le A ks vs r h2
      exact ⟨by simp [q1], .cons (A.le _ _ h1) q2⟩
    · simp at h
theorem pureL_map (A : Enc α) : ∀ l : List (ByteArray × α), pureL (l.map fun p => A.enc p.2) = true
  | [] => rfl
  | p :: l => by simp [pureL, A.pure, pureL_map A l]
def Enc.map (A : Enc α) : Enc (List (ByteArray × α)) where
  enc l := .fmap (l.map fun p => .string p.1) (l.map fun p => A.enc p.2)
  dec d := match d with | .fmap ks vs => decMap A ks vs | _ => none
  le d x h := by
    split at h
    · obtain ⟨h1, h2⟩ := decMap_le A _ _ _ h
      intro C w v hv
      simp only [VRel] at hv ⊢
      obtain ⟨b, es, clock, q1, q2, q3, q4, q5, q6⟩ := hv
      exact ⟨b, es, clock, q1, q2, q3, by rw [q4, h1], LRel_le h2 q5, q6⟩
    · simp at h
  pure x := by simp [pureB, pureL_map]
  de x := decMap_enc A x
/-- what a map holds for a key -/
def mget (k : ByteArray) : List (ByteArray × α) → Option α
  | [] => none
  | p :: l => if k = p.1 then some p.2 else mget k l
theorem assoc_enc (A : Enc α) (k : ByteArray) : ∀ l : List (ByteArray × α), assoc (.string k) (l.map fun p => .string p.1) (l.map fun p => A.enc p.2) = some ((mget k l).map A.enc)
  | [] => rfl
  | p :: l => by
    simp only [List.map_cons, assoc, eqKey, mget, assoc_enc A k l]
    by_cases h : k = p.1
    · simp [h]
    · simp [h]
end Go.FA
namespace Go.Proofs.Yt
open Go Go.FA Go.Proofs
set_option linter.unusedVariables false
set_option linter.unusedSimpArgs false
set_option maxRecDepth 100000

structure Bel where
  low : ByteArray
  high : ByteArray
  deriving DecidableEq
structure Pie where
  text : ByteArray
  sort : ByteArray
  deriving DecidableEq
structure OpD where
  name : ByteArray
  args : List ByteArray
  sort : ByteArray
  pieces : List Pie
  prec : Int
  assoc : Int
  strict : List Int
structure SigD where
  sorts : List ByteArray
  below : List Bel
  ops : List OpD
  funs : List OpD
  values : List ByteArray
structure Book where
  highs : List (ByteArray × List ByteArray)
  ops : List (ByteArray × OpD)
  funs : List (ByteArray × OpD)

def EncR.bel : EncR Bel where
  k := 2
  enc b := [.lit (.string b.low), .lit (.string b.high)]
  dec r := match r with | [.lit (.string a), .lit (.string b)] => some ⟨a, b⟩ | _ => none
  len _ := rfl
  le r x h := by split at h <;> simp_all [LLe.refl]; subst h; exact LLe.refl _
  pure _ := rfl
  de _ := rfl
def EncR.pie : EncR Pie where
  k := 2
  enc b := [.lit (.string b.text), .lit (.string b.sort)]
  dec r := match r with | [.lit (.string a), .lit (.string b)] => some ⟨a, b⟩ | _ => none
  len _ := rfl
  le r x h := by split at h <;> simp_all [LLe.refl]; subst h; exact LLe.refl _
  pure _ := rfl
  de _ := rfl
def Enc.bels : Enc (List Bel) := Enc.slice EncR.bel
def Enc.pies : Enc (List Pie) := Enc.slice EncR.pie
def Enc.i64 : Enc Int := Enc.int .i64
def Enc.ints : Enc (List Int) := Enc.slice (EncR.one Enc.i64)
def EncR.opd : EncR OpD where
  k := 7
  enc o := [.lit (.string o.name), Enc.strs.enc o.args, .lit (.string o.sort), Enc.pies.enc o.pieces, .lit (.int .i64 o.prec), .lit (.int .i64 o.assoc), Enc.ints.enc o.strict]
  dec r := match r with
    | [d1, d2, d3, d4, d5, d6, d7] => match Enc.str.dec d1, Enc.strs.dec d2, Enc.str.dec d3, Enc.pies.dec d4, Enc.i64.dec d5, Enc.i64.dec d6, Enc.ints.dec d7 with
      | some x1, some x2, some x3, some x4, some x5, some x6, some x7 => some ⟨x1, x2, x3, x4, x5, x6, x7⟩
      | _, _, _, _, _, _, _ => none
    | _ => none
  len _ := rfl
  le r x h := by
    split at h
    · split at h
      · next h1 h2 h3 h4 h5 h6 h7 =>
        simp at h; subst h
        exact .cons (Enc.str.le _ _ h1) (.cons (Enc.strs.le _ _ h2) (.cons (Enc.str.le _ _ h3) (.cons (Enc.pies.le _ _ h4) (.cons (Enc.i64.le _ _ h5) (.cons (Enc.i64.le _ _ h6) (.cons (Enc.ints.le _ _ h7) .nil))))))
      · simp at h
    · simp at h
  pure x := by simp [pureL, Enc.strs.pure, Enc.pies.pure, Enc.ints.pure, pureB]
  de x := by
    have h1 := Enc.strs.de x.args
    have h2 := Enc.pies.de x.pieces
    have h3 := Enc.ints.de x.strict
    simp [h1, h2, h3, Enc.str, Enc.i64, Enc.int]
def Enc.opd : Enc OpD := Enc.agg EncR.opd
def Enc.ops : Enc (List OpD) := Enc.slice EncR.opd
def EncR.sigd : EncR SigD where
  k := 5
  enc s := [Enc.strs.enc s.sorts, Enc.bels.enc s.below, Enc.ops.enc s.ops, Enc.ops.enc s.funs, Enc.strs.enc s.values]
  dec r := match r with
    | [d1, d2, d3, d4, d5] => match Enc.strs.dec d1, Enc.bels.dec d2, Enc.ops.dec d3, Enc.ops.dec d4, Enc.strs.dec d5 with
      | some x1, some x2, some x3, some x4, some x5 => some ⟨x1, x2, x3, x4, x5⟩
      | _, _, _, _, _ => none
    | _ => none
  len _ := rfl
  le r x h := by
    split at h
    · split at h
      · next h1 h2 h3 h4 h5 =>
        simp at h; subst h
        exact .cons (Enc.strs.le _ _ h1) (.cons (Enc.bels.le _ _ h2) (.cons (Enc.ops.le _ _ h3) (.cons (Enc.ops.le _ _ h4) (.cons (Enc.strs.le _ _ h5) .nil))))
      · simp at h
    · simp at h
  pure x := by simp [pureL, Enc.strs.pure, Enc.bels.pure, Enc.ops.pure]
  de x := by
    have h1 := Enc.strs.de x.sorts
    have h2 := Enc.bels.de x.below
    have h3 := Enc.ops.de x.ops
    have h4 := Enc.ops.de x.funs
    have h5 := Enc.strs.de x.values
    simp [h1, h2, h3, h4, h5]
def Enc.sigd : Enc SigD := Enc.agg EncR.sigd
def EncR.book : EncR Book where
  k := 3
  enc b := [(Enc.map Enc.strs).enc b.highs, (Enc.map Enc.opd).enc b.ops, (Enc.map Enc.opd).enc b.funs]
  dec r := match r with
    | [d1, d2, d3] => match (Enc.map Enc.strs).dec d1, (Enc.map Enc.opd).dec d2, (Enc.map Enc.opd).dec d3 with
      | some x1, some x2, some x3 => some ⟨x1, x2, x3⟩
      | _, _, _ => none
    | _ => none
  len _ := rfl
  le r x h := by
    split at h
    · split at h
      · next h1 h2 h3 =>
        simp at h; subst h
        exact .cons ((Enc.map Enc.strs).le _ _ h1) (.cons ((Enc.map Enc.opd).le _ _ h2) (.cons ((Enc.map Enc.opd).le _ _ h3) .nil))
      · simp at h
    · simp at h
  pure x := by simp [pureL, (Enc.map Enc.strs).pure, (Enc.map Enc.opd).pure]
  de x := by
    have h1 := (Enc.map Enc.strs).de x.highs
    have h2 := (Enc.map Enc.opd).de x.ops
    have h3 := (Enc.map Enc.opd).de x.funs
    simp [h1, h2, h3]
def Enc.book : Enc Book := Enc.agg EncR.book

/-- slices.Index of a string -/
def idx (s : ByteArray) : List ByteArray → Nat → Int
  | [], _ => -1
  | x :: l, i => if s = x then i else idx s l (i + 1)
theorem idx_drop (s : ByteArray) (l : List ByteArray) (i : Nat) (h : i < l.length) : idx s (l.drop i) i = if s = l[i] then (i : Int) else idx s (l.drop (i + 1)) (i + 1) := by
  rw [List.drop_eq_getElem_cons h]; rfl
theorem idx_mem (s : ByteArray) : ∀ (l : List ByteArray) (i : Nat), (0 ≤ idx s l i) = (s ∈ l)
  | [], i => by simp [idx]
  | x :: l, i => by
    simp only [idx, List.mem_cons]
    by_cases h : s = x
    · simp [h]
    · simp [h, idx_mem s l (i + 1)]
def s288 : Sp := sp (arg2 Enc.strs Enc.str) Enc.i64 (fun x => if x.1.length ≤ lim then some (idx x.2 x.1 0) else none)
def inv288 (l : List ByteArray) (s : ByteArray) : Nat → (Nat → DV) → St → Prop := fun k a σ => ∃ i, i ≤ l.length ∧ k = l.length - i ∧ idx s l 0 = idx s (l.drop i) i ∧
  a 0 = .slice 1 .none (l.map fun s => [DV.lit (.string s)]) ∧ a 1 = .lit (.string s) ∧ a 7 = .lit (.int .i64 l.length) ∧ a 8 = .lit (.int .i64 i)
theorem c288 : CallSound Tryz.prog 288 s288 := by
  refine CallSound.of_sp (T := tabOf []) Tryz.func288 rfl (Nat.le_of_ble_eq_true rfl) fun E x y hy => ?_
  obtain ⟨l, s⟩ := x
  by_cases hlim : l.length ≤ lim <;> simp [hlim] at hy
  subst hy
  unfold lim at hlim
  refine Dwp.step tab0 rfl fun K hK => ?_
  simp [drunL, drunO, dwanted, dopS, own, plainOf, dop, dput, eval, ofVal, Then, Ex.then, Ex.inBlock, upd, dbin, Tag.isNN, nilTest, intCmp, dload, dpart, TyI.agg, dfieldAddr, dfield, dindexAddr, dindex, dlen, lenOk, dlookup, mapOf, assocM, keyFits, dmapUpdate, dcallee, dcall, tabOf, dbuiltin, dstore, DV.cells, setAt, dslice, dboundOk, dappend, appTag, rowsOf, elemOk, growLimit, dbuildCells, dbuildCells.go, structOk, fieldsOk, dbuildRows, goInt]
  refine hK _ _ ?_ rfl; clear hK K
  refine Dwp.seq ?_
  refine Dwp.step tab0 rfl fun K hK => ?_
  simp [drunL, drunO, dwanted, dopS, own, plainOf, dop, dput, eval, ofVal, Then, Ex.then, Ex.inBlock, upd, dbin, Tag.isNN, nilTest, intCmp, dload, dpart, TyI.agg, dfieldAddr, dfield, dindexAddr, dindex, dlen, lenOk, dlookup, mapOf, assocM, keyFits, dmapUpdate, dcallee, dcall, tabOf, dbuiltin, dstore, DV.cells, setAt, dslice, dboundOk, dappend, appTag, rowsOf, elemOk, growLimit, dbuildCells, dbuildCells.go, structOk, fieldsOk, dbuildRows, goInt, init, arg1, arg2, arg3, EncR.one, EncR.and, Enc.bool, Enc.int, Enc.str, Enc.strs, Enc.slice, Enc.agg, Enc.tup, Enc.err, Enc.fn, ty22]
  refine hK _ _ ?_ rfl; clear hK K
  refine Dwp.block (Dwp.loop (inv288 l s) l.length ⟨0, by simp, by simp, by simp, by simp [upd, init, init, arg1, arg2, arg3, EncR.one, EncR.and, Enc.bool, Enc.int, Enc.str, Enc.strs, Enc.slice, Enc.agg, Enc.tup, Enc.err, Enc.fn], by simp [upd, init, init, arg1, arg2, arg3, EncR.one, EncR.and, Enc.bool, Enc.int, Enc.str, Enc.strs, Enc.slice, Enc.agg, Enc.tup, Enc.err, Enc.fn], by simp [upd], by simp [upd]⟩ ?_)
  rintro k a σ ⟨i, hi, rfl, hidx, h0, h1, h7, h8⟩
  refine Dwp.step tab0 rfl fun K hK => ?_
  simp [drunL, drunO, dwanted, dopS, own, plainOf, dop, dput, eval, ofVal, Then, Ex.then, Ex.inBlock, upd, dbin, Tag.isNN, nilTest, intCmp, dload, dpart, TyI.agg, dfieldAddr, dfield, dindexAddr, dindex, dlen, lenOk, dlookup, mapOf, assocM, keyFits, dmapUpdate, dcallee, dcall, tabOf, dbuiltin, dstore, DV.cells, setAt, dslice, dboundOk, dappend, appTag, rowsOf, elemOk, growLimit, dbuildCells, dbuildCells.go, structOk, fieldsOk, dbuildRows, goInt, h7, h8]
  refine hK _ _ ?_ rfl; clear hK K
  by_cases hlt : i < l.length
  · refine Dwp.seq (Dwp.condT (by simp [eval, upd, hlt]) (Dwp.skip ?_))
    refine Dwp.seq (Dwp.block ?_)
    refine Dwp.step tab0 rfl fun K hK => ?_
    simp [drunL, drunO, dwanted, dopS, own, plainOf, dop, dput, eval, ofVal, Then, Ex.then, Ex.inBlock, upd, dbin, Tag.isNN, nilTest, intCmp, dload, dpart, TyI.agg, dfieldAddr, dfield, dindexAddr, dindex, dlen, lenOk, dlookup, mapOf, assocM, keyFits, dmapUpdate, dcallee, dcall, tabOf, dbuiltin, dstore, DV.cells, setAt, dslice, dboundOk, dappend, appTag, rowsOf, elemOk, growLimit, dbuildCells, dbuildCells.go, structOk, fieldsOk, dbuildRows, goInt, h8]
    refine hK _ _ ?_ rfl; clear hK K
    refine Dwp.step tab0 rfl fun K hK => ?_
    simp [drunL, drunO, dwanted, dopS, own, plainOf, dop, dput, eval, ofVal, Then, Ex.then, Ex.inBlock, upd, dbin, Tag.isNN, nilTest, intCmp, dload, dpart, TyI.agg, dfieldAddr, dfield, dindexAddr, dindex, dlen, lenOk, dlookup, mapOf, assocM, keyFits, dmapUpdate, dcallee, dcall, tabOf, dbuiltin, dstore, DV.cells, setAt, dslice, dboundOk, dappend, appTag, rowsOf, elemOk, growLimit, dbuildCells, dbuildCells.go, structOk, fieldsOk, dbuildRows, goInt, h0, h1, ty22, ty9, hlt]
    refine hK _ _ ?_ rfl; clear hK K
    by_cases he : s = l[i]
    · refine Dwp.condT (by simp [eval, upd, he]) ?_
      refine Dwp.step tab0 rfl fun K hK => ?_
      simp [drunL, drunO, dwanted, dopS, own, plainOf, dop, dput, eval, ofVal, Then, Ex.then, Ex.inBlock, upd, dbin, Tag.isNN, nilTest, intCmp, dload, dpart, TyI.agg, dfieldAddr, dfield, dindexAddr, dindex, dlen, lenOk, dlookup, mapOf, assocM, keyFits, dmapUpdate, dcallee, dcall, tabOf, dbuiltin, dstore, DV.cells, setAt, dslice, dboundOk, dappend, appTag, rowsOf, elemOk, growLimit, dbuildCells, dbuildCells.go, structOk, fieldsOk, dbuildRows, goInt]
      refine hK _ _ (Dwp.ret ?_) rfl
      have : idx s l 0 = i := by rw [hidx, idx_drop s l i hlt, if_pos he]
      simp [Done, dresults, dres, frz, frz1, frz2, init, arg1, arg2, arg3, EncR.one, EncR.and, Enc.bool, Enc.int, Enc.str, Enc.strs, Enc.slice, Enc.agg, Enc.tup, Enc.err, Enc.fn, Enc.i64, Ex.then, Ex.inBlock, upd, this]
    · refine Dwp.condF (by simp [eval, upd, he]) (Dwp.skip ?_)
      refine Dwp.reg tab0 rfl fun K hK => ?_
      simp [drunL, drunO, dwanted, dopS, own, plainOf, dop, dput, eval, ofVal, Then, Ex.then, Ex.inBlock, upd, dbin, Tag.isNN, nilTest, intCmp, dload, dpart, TyI.agg, dfieldAddr, dfield, dindexAddr, dindex, dlen, lenOk, dlookup, mapOf, assocM, keyFits, dmapUpdate, dcallee, dcall, tabOf, dbuiltin, dstore, DV.cells, setAt, dslice, dboundOk, dappend, appTag, rowsOf, elemOk, growLimit, dbuildCells, dbuildCells.go, structOk, fieldsOk, dbuildRows, goInt, h8]
      refine hK _ _ ?_ rfl; clear hK K
      refine ⟨l.length - (i + 1), by omega, i + 1, by omega, rfl, ?_, by simp [upd, h0], by simp [upd, h1], by simp [upd, h7], by simp [upd, wrap_small (n := (i : Int) + 1) (by omega) (by omega)]⟩
      rw [hidx, idx_drop s l i hlt, if_neg he]
  · refine Dwp.seq (Dwp.condF (by simp [eval, upd, hlt]) (Dwp.exit ?_))
    refine Dwp.step tab0 rfl fun K hK => ?_
    simp [drunL, drunO, dwanted, dopS, own, plainOf, dop, dput, eval, ofVal, Then, Ex.then, Ex.inBlock, upd, dbin, Tag.isNN, nilTest, intCmp, dload, dpart, TyI.agg, dfieldAddr, dfield, dindexAddr, dindex, dlen, lenOk, dlookup, mapOf, assocM, keyFits, dmapUpdate, dcallee, dcall, tabOf, dbuiltin, dstore, DV.cells, setAt, dslice, dboundOk, dappend, appTag, rowsOf, elemOk, growLimit, dbuildCells, dbuildCells.go, structOk, fieldsOk, dbuildRows, goInt]
    refine hK _ _ (Dwp.ret ?_) rfl
    have : idx s l 0 = -1 := by rw [hidx, List.drop_eq_nil_of_le (by omega)]; rfl
    simp [Done, dresults, dres, frz, frz1, frz2, init, arg1, arg2, arg3, EncR.one, EncR.and, Enc.bool, Enc.int, Enc.str, Enc.strs, Enc.slice, Enc.agg, Enc.tup, Enc.err, Enc.fn, Enc.i64, upd, this]
theorem e288 : Go.FA.Good Tryz.prog (288, s288) := ⟨c288, Tryz.f288, _, Tryz.func288, rfl, by decide⟩
theorem t148 : TabOk Tryz.prog (tabOf [(288, s288)]) := .cons e288 .nil

def s244 : Sp := sp (arg2 Enc.strs Enc.str) Enc.bool (fun x => if x.1.length ≤ lim then some (decide (x.2 ∈ x.1)) else none)
theorem c244 : CallSound Tryz.prog 244 s244 := by
  refine CallSound.of_sp (T := tabOf [(288, s288)]) Tryz.func244 rfl (Nat.le_of_ble_eq_true rfl) fun E x y hy => ?_
  obtain ⟨l, s⟩ := x
  by_cases hlim : l.length ≤ lim <;> simp [hlim] at hy
  subst hy
  refine Dwp.step t148 rfl fun K hK => ?_
  simp [drunL, drunO, dwanted, dopS, own, plainOf, dop, dput, eval, ofVal, Then, Ex.then, Ex.inBlock, upd, dbin, Tag.isNN, nilTest, intCmp, dload, dpart, TyI.agg, dfieldAddr, dfield, dindexAddr, dindex, dlen, lenOk, dlookup, mapOf, assocM, keyFits, dmapUpdate, dcallee, dcall, tabOf, dbuiltin, dstore, DV.cells, setAt, dslice, dboundOk, dappend, appTag, rowsOf, elemOk, growLimit, dbuildCells, dbuildCells.go, structOk, fieldsOk, dbuildRows, goInt]
  refine hK _ _ ?_ rfl; clear hK K
  refine Dwp.step t148 rfl fun K hK => ?_
  have hd := decRows_enc (EncR.one Enc.str) l
  simp only [EncR.one, Enc.str] at hd
  simp [drunL, drunO, dwanted, dopS, own, plainOf, dop, dput, eval, ofVal, Then, Ex.then, Ex.inBlock, upd, dbin, Tag.isNN, nilTest, intCmp, dload, dpart, TyI.agg, dfieldAddr, dfield, dindexAddr, dindex, dlen, lenOk, dlookup, mapOf, assocM, keyFits, dmapUpdate, dcallee, dcall, tabOf, dbuiltin, dstore, DV.cells, setAt, dslice, dboundOk, dappend, appTag, rowsOf, elemOk, growLimit, dbuildCells, dbuildCells.go, structOk, fieldsOk, dbuildRows, goInt, init, arg1, arg2, arg3, EncR.one, EncR.and, Enc.bool, Enc.int, Enc.str, Enc.strs, Enc.slice, Enc.agg, Enc.tup, Enc.err, Enc.fn, s288, sp, hd, hlim, Enc.i64]
  refine hK _ _ (Dwp.ret ?_) rfl
  simp [Done, dresults, dres, frz, frz1, frz2, init, arg1, arg2, arg3, EncR.one, EncR.and, Enc.bool, Enc.int, Enc.str, Enc.strs, Enc.slice, Enc.agg, Enc.tup, Enc.err, Enc.fn, upd, idx_mem]
theorem e244 : Go.FA.Good Tryz.prog (244, s244) := ⟨c244, Tryz.f244, _, Tryz.func244, rfl, by decide⟩
end Go.Proofs.Yt
namespace Go.Proofs.Yt
open Go Go.FA Go.Proofs
set_option linter.unusedVariables false
set_option linter.unusedSimpArgs false
set_option maxRecDepth 100000

def bs (l : List UInt8) : ByteArray := ⟨l.toArray⟩
def given : List ByteArray := [⟨#[65, 110, 121]⟩, ⟨#[73, 110, 116]⟩, ⟨#[66, 111, 111, 108]⟩, ⟨#[84, 101, 120, 116]⟩, ⟨#[73, 100]⟩, ⟨#[76, 105, 115, 116]⟩, ⟨#[77, 97, 112]⟩]
def EncR.unit : EncR Unit where
  k := 0
  enc _ := []
  dec r := match r with | [] => some () | _ => none
  len _ := rfl
  le r x h := by split at h <;> simp_all; exact .nil
  pure _ := rfl
  de _ := rfl
def s324 : Sp := sp EncR.unit Enc.strs (fun _ => some given)
theorem c324 : CallSound Tryz.prog 324 s324 := by
  refine CallSound.of_sp (T := tabOf []) Tryz.func324 rfl (Nat.le_of_ble_eq_true rfl) fun E x y hy => ?_
  simp at hy; subst hy
  refine Dwp.step tab0 rfl fun K hK => ?_
  simp [drunL, drunO, dwanted, dopS, own, plainOf, dop, dput, eval, ofVal, Then, Ex.then, Ex.inBlock, upd, dbin, Tag.isNN, nilTest, intCmp, dload, dpart, TyI.agg, dfieldAddr, dfield, dindexAddr, dindex, dlen, lenOk, dlookup, mapOf, assocM, keyFits, dmapUpdate, dcallee, dcall, tabOf, dbuiltin, dstore, DV.cells, setAt, dslice, dboundOk, dappend, appTag, rowsOf, elemOk, growLimit, dbuildCells, dbuildCells.go, structOk, fieldsOk, dbuildRows, goInt]
  refine hK _ _ ?_ rfl; clear hK K
  refine Dwp.step tab0 rfl fun K hK => ?_
  simp [drunL, drunO, dwanted, dopS, own, plainOf, dop, dput, eval, ofVal, Then, Ex.then, Ex.inBlock, upd, dbin, Tag.isNN, nilTest, intCmp, dload, dpart, TyI.agg, dfieldAddr, dfield, dindexAddr, dindex, dlen, lenOk, dlookup, mapOf, assocM, keyFits, dmapUpdate, dcallee, dcall, tabOf, dbuiltin, dstore, DV.cells, setAt, dslice, dboundOk, dappend, appTag, rowsOf, elemOk, growLimit, dbuildCells, dbuildCells.go, structOk, fieldsOk, dbuildRows, goInt, ty22, ty9]
  refine hK _ _ (Dwp.ret ?_) rfl
  simp [Done, dresults, dres, frz, frz1, frz2, init, arg1, arg2, arg3, EncR.one, EncR.and, Enc.bool, Enc.int, Enc.str, Enc.strs, Enc.slice, Enc.agg, Enc.tup, Enc.err, Enc.fn, upd, decRows, given]
theorem e324 : Go.FA.Good Tryz.prog (324, s324) := ⟨c324, Tryz.f324, _, Tryz.func324, rfl, by decide⟩

/-- does a sort exist -/
def Book.has (b : Book) (s : ByteArray) : Bool := (mget s b.highs).isSome
def s311 : Sp := sp (arg2 Enc.book Enc.strs) Enc.bool (fun x => if x.2.length ≤ lim then some (x.2.all x.1.has) else none)
def inv311 (b : Book) (l : List ByteArray) : Nat → (Nat → DV) → St → Prop := fun k a σ => ∃ i, i ≤ l.length ∧ k = l.length - i ∧ (l.take i).all b.has = true ∧
  a 2 = .row (EncR.book.enc b) 0 ∧ a 9 = .slice 1 .none (l.map fun s => [DV.lit (.string s)]) ∧ a 10 = .lit (.int .i64 l.length) ∧ a 11 = .lit (.int .i64 i)
theorem c311 : CallSound Tryz.prog 311 s311 := by
  refine CallSound.of_sp (T := tabOf []) Tryz.func311 rfl (Nat.le_of_ble_eq_true rfl) fun E x y hy => ?_
  obtain ⟨b, l⟩ := x
  by_cases hlim : l.length ≤ lim <;> simp [hlim] at hy
  subst hy
  unfold lim at hlim
  refine Dwp.step tab0 rfl fun K hK => ?_
  simp [drunL, drunO, dwanted, dopS, own, plainOf, dop, dput, eval, ofVal, Then, Ex.then, Ex.inBlock, upd, dbin, Tag.isNN, nilTest, intCmp, dload, dpart, TyI.agg, dfieldAddr, dfield, dindexAddr, dindex, dlen, lenOk, dlookup, mapOf, assocM, keyFits, dmapUpdate, dcallee, dcall, tabOf, dbuiltin, dstore, DV.cells, setAt, dslice, dboundOk, dappend, appTag, rowsOf, elemOk, growLimit, dbuildCells, dbuildCells.go, structOk, fieldsOk, dbuildRows, goInt, init, arg1, arg2, arg3, EncR.one, EncR.and, Enc.bool, Enc.int, Enc.str, Enc.strs, Enc.slice, Enc.agg, Enc.tup, Enc.err, Enc.fn, Enc.book]
  refine hK _ _ ?_ rfl; clear hK K
  refine Dwp.seq ?_
  refine Dwp.step tab0 rfl fun K hK => ?_
  simp [drunL, drunO, dwanted, dopS, own, plainOf, dop, dput, eval, ofVal, Then, Ex.then, Ex.inBlock, upd, dbin, Tag.isNN, nilTest, intCmp, dload, dpart, TyI.agg, dfieldAddr, dfield, dindexAddr, dindex, dlen, lenOk, dlookup, mapOf, assocM, keyFits, dmapUpdate, dcallee, dcall, tabOf, dbuiltin, dstore, DV.cells, setAt, dslice, dboundOk, dappend, appTag, rowsOf, elemOk, growLimit, dbuildCells, dbuildCells.go, structOk, fieldsOk, dbuildRows, goInt, init, arg1, arg2, arg3, EncR.one, EncR.and, Enc.bool, Enc.int, Enc.str, Enc.strs, Enc.slice, Enc.agg, Enc.tup, Enc.err, Enc.fn, ty22]
  refine hK _ _ ?_ rfl; clear hK K
  refine Dwp.block (Dwp.loop (inv311 b l) l.length ⟨0, by simp, by simp, by simp, by simp [upd], by simp [upd], by simp [upd], by simp [upd]⟩ ?_)
  rintro k a σ ⟨i, hi, rfl, hall, h2, h9, h10, h11⟩
  refine Dwp.step tab0 rfl fun K hK => ?_
  simp [drunL, drunO, dwanted, dopS, own, plainOf, dop, dput, eval, ofVal, Then, Ex.then, Ex.inBlock, upd, dbin, Tag.isNN, nilTest, intCmp, dload, dpart, TyI.agg, dfieldAddr, dfield, dindexAddr, dindex, dlen, lenOk, dlookup, mapOf, assocM, keyFits, dmapUpdate, dcallee, dcall, tabOf, dbuiltin, dstore, DV.cells, setAt, dslice, dboundOk, dappend, appTag, rowsOf, elemOk, growLimit, dbuildCells, dbuildCells.go, structOk, fieldsOk, dbuildRows, goInt, h10, h11]
  refine hK _ _ ?_ rfl; clear hK K
  by_cases hlt : i < l.length
  · refine Dwp.seq (Dwp.condT (by simp [eval, upd, hlt]) (Dwp.skip ?_))
    refine Dwp.seq (Dwp.block ?_)
    refine Dwp.step tab0 rfl fun K hK => ?_
    simp [drunL, drunO, dwanted, dopS, own, plainOf, dop, dput, eval, ofVal, Then, Ex.then, Ex.inBlock, upd, dbin, Tag.isNN, nilTest, intCmp, dload, dpart, TyI.agg, dfieldAddr, dfield, dindexAddr, dindex, dlen, lenOk, dlookup, mapOf, assocM, keyFits, dmapUpdate, dcallee, dcall, tabOf, dbuiltin, dstore, DV.cells, setAt, dslice, dboundOk, dappend, appTag, rowsOf, elemOk, growLimit, dbuildCells, dbuildCells.go, structOk, fieldsOk, dbuildRows, goInt, h9, h11, ty22, ty9, hlt]
    refine hK _ _ ?_ rfl; clear hK K
    refine Dwp.step tab0 rfl fun K hK => ?_
    have ha := assoc_enc Enc.strs l[i] b.highs
    have htk : l.take (i + 1) = l.take i ++ [l[i]] := List.take_succ_eq_append_getElem hlt
    cases hl : mget l[i] b.highs with
    | none =>
      rw [hl] at ha
      simp [drunL, drunO, dwanted, dopS, own, plainOf, dop, dput, eval, ofVal, Then, Ex.then, Ex.inBlock, upd, dbin, Tag.isNN, nilTest, intCmp, dload, dpart, TyI.agg, dfieldAddr, dfield, dindexAddr, dindex, dlen, lenOk, dlookup, mapOf, assocM, keyFits, dmapUpdate, dcallee, dcall, tabOf, dbuiltin, dstore, DV.cells, setAt, dslice, dboundOk, dappend, appTag, rowsOf, elemOk, growLimit, dbuildCells, dbuildCells.go, structOk, fieldsOk, dbuildRows, goInt, h2, EncR.book, Enc.map, ty229, ty155, ty9, ty22, ha]
      refine hK _ _ ?_ rfl; clear hK K
      refine Dwp.step tab0 rfl fun K hK => ?_
      simp [drunL, drunO, dwanted, dopS, own, plainOf, dop, dput, eval, ofVal, Then, Ex.then, Ex.inBlock, upd, dbin, Tag.isNN, nilTest, intCmp, dload, dpart, TyI.agg, dfieldAddr, dfield, dindexAddr, dindex, dlen, lenOk, dlookup, mapOf, assocM, keyFits, dmapUpdate, dcallee, dcall, tabOf, dbuiltin, dstore, DV.cells, setAt, dslice, dboundOk, dappend, appTag, rowsOf, elemOk, growLimit, dbuildCells, dbuildCells.go, structOk, fieldsOk, dbuildRows, goInt]
      refine hK _ _ ?_ rfl; clear hK K
      refine Dwp.condT (by simp [eval, upd]) ?_
      refine Dwp.step tab0 rfl fun K hK => ?_
      simp [drunL, drunO, dwanted, dopS, own, plainOf, dop, dput, eval, ofVal, Then, Ex.then, Ex.inBlock, upd, dbin, Tag.isNN, nilTest, intCmp, dload, dpart, TyI.agg, dfieldAddr, dfield, dindexAddr, dindex, dlen, lenOk, dlookup, mapOf, assocM, keyFits, dmapUpdate, dcallee, dcall, tabOf, dbuiltin, dstore, DV.cells, setAt, dslice, dboundOk, dappend, appTag, rowsOf, elemOk, growLimit, dbuildCells, dbuildCells.go, structOk, fieldsOk, dbuildRows, goInt]
      refine hK _ _ (Dwp.ret ?_) rfl
      have hno : l.all b.has = false := by
        rw [List.all_eq_false]
        exact ⟨l[i], List.getElem_mem _, by simp [Book.has, hl]⟩
      simp [Done, dresults, dres, frz, frz1, frz2, init, arg1, arg2, arg3, EncR.one, EncR.and, Enc.bool, Enc.int, Enc.str, Enc.strs, Enc.slice, Enc.agg, Enc.tup, Enc.err, Enc.fn, Ex.then, Ex.inBlock, upd, hno]
    | some v =>
      rw [hl] at ha
      simp [drunL, drunO, dwanted, dopS, own, plainOf, dop, dput, eval, ofVal, Then, Ex.then, Ex.inBlock, upd, dbin, Tag.isNN, nilTest, intCmp, dload, dpart, TyI.agg, dfieldAddr, dfield, dindexAddr, dindex, dlen, lenOk, dlookup, mapOf, assocM, keyFits, dmapUpdate, dcallee, dcall, tabOf, dbuiltin, dstore, DV.cells, setAt, dslice, dboundOk, dappend, appTag, rowsOf, elemOk, growLimit, dbuildCells, dbuildCells.go, structOk, fieldsOk, dbuildRows, goInt, h2, EncR.book, Enc.map, ty229, ty155, ty9, ty22, ha]
      refine hK _ _ ?_ rfl; clear hK K
      refine Dwp.step tab0 rfl fun K hK => ?_
      simp [drunL, drunO, dwanted, dopS, own, plainOf, dop, dput, eval, ofVal, Then, Ex.then, Ex.inBlock, upd, dbin, Tag.isNN, nilTest, intCmp, dload, dpart, TyI.agg, dfieldAddr, dfield, dindexAddr, dindex, dlen, lenOk, dlookup, mapOf, assocM, keyFits, dmapUpdate, dcallee, dcall, tabOf, dbuiltin, dstore, DV.cells, setAt, dslice, dboundOk, dappend, appTag, rowsOf, elemOk, growLimit, dbuildCells, dbuildCells.go, structOk, fieldsOk, dbuildRows, goInt]
      refine hK _ _ ?_ rfl; clear hK K
      refine Dwp.condF (by simp [eval, upd]) (Dwp.skip ?_)
      refine Dwp.reg tab0 rfl fun K hK => ?_
      simp [drunL, drunO, dwanted, dopS, own, plainOf, dop, dput, eval, ofVal, Then, Ex.then, Ex.inBlock, upd, dbin, Tag.isNN, nilTest, intCmp, dload, dpart, TyI.agg, dfieldAddr, dfield, dindexAddr, dindex, dlen, lenOk, dlookup, mapOf, assocM, keyFits, dmapUpdate, dcallee, dcall, tabOf, dbuiltin, dstore, DV.cells, setAt, dslice, dboundOk, dappend, appTag, rowsOf, elemOk, growLimit, dbuildCells, dbuildCells.go, structOk, fieldsOk, dbuildRows, goInt, h11]
      refine hK _ _ ?_ rfl; clear hK K
      refine ⟨l.length - (i + 1), by omega, i + 1, by omega, rfl, ?_, by simp [upd, h2, EncR.book, Enc.map], by simp [upd, h9], by simp [upd, h10], by simp [upd, wrap_small (n := (i : Int) + 1) (by omega) (by omega)]⟩
      rw [htk, List.all_append, hall]; simp [Book.has, hl]
  · refine Dwp.seq (Dwp.condF (by simp [eval, upd, hlt]) (Dwp.exit ?_))
    refine Dwp.step tab0 rfl fun K hK => ?_
    simp [drunL, drunO, dwanted, dopS, own, plainOf, dop, dput, eval, ofVal, Then, Ex.then, Ex.inBlock, upd, dbin, Tag.isNN, nilTest, intCmp, dload, dpart, TyI.agg, dfieldAddr, dfield, dindexAddr, dindex, dlen, lenOk, dlookup, mapOf, assocM, keyFits, dmapUpdate, dcallee, dcall, tabOf, dbuiltin, dstore, DV.cells, setAt, dslice, dboundOk, dappend, appTag, rowsOf, elemOk, growLimit, dbuildCells, dbuildCells.go, structOk, fieldsOk, dbuildRows, goInt]
    refine hK _ _ (Dwp.ret ?_) rfl
    rw [List.take_of_length_le (by omega)] at hall
    simp [Done, dresults, dres, frz, frz1, frz2, init, arg1, arg2, arg3, EncR.one, EncR.and, Enc.bool, Enc.int, Enc.str, Enc.strs, Enc.slice, Enc.agg, Enc.tup, Enc.err, Enc.fn, upd, hall]
theorem e311 : Go.FA.Good Tryz.prog (311, s311) := ⟨c311, Tryz.f311, _, Tryz.func311, rfl, by decide⟩

theorem book_dec (b : Book) : EncR.book.dec (EncR.book.enc b) = some b := EncR.book.de b
theorem strs_dec (l : List ByteArray) : decRows (EncR.one Enc.str) (l.map fun s => [DV.lit (.string s)]) = some l := decRows_enc (EncR.one Enc.str) l

/-- is a sort declared -/
def Book.decl (b : Book) (s : ByteArray) : Bool := b.has s && !decide (s ∈ given)
def s339 : Sp := sp (arg2 Enc.book Enc.str) Enc.bool (fun x => some (x.1.decl x.2))
theorem t99 : TabOk Tryz.prog (tabOf [(311, s311), (324, s324), (244, s244)]) := .cons e311 (.cons e324 (.cons e244 .nil))
theorem call311 (T : Tab) (hT : T 311 = some s311) (b : Book) (d : DV) (l : List ByteArray) (hd : Enc.strs.dec d = some l) (hl : l.length ≤ lim) : dcall T 311 [.agg (EncR.book.enc b), d] = some (.lit (.bool (l.all b.has))) := by
  simp [dcall, hT, s311, sp, arg2, EncR.and, EncR.one, Enc.book, Enc.agg, EncR.book.de, hd, hl, Enc.bool]
theorem call324 (T : Tab) (hT : T 324 = some s324) : dcall T 324 [] = some (Enc.strs.enc given) := by
  simp [dcall, hT, s324, sp, EncR.unit]
theorem call244 (T : Tab) (hT : T 244 = some s244) (d : DV) (l : List ByteArray) (s : ByteArray) (hd : Enc.strs.dec d = some l) (hl : l.length ≤ lim) : dcall T 244 [d, .lit (.string s)] = some (.lit (.bool (decide (s ∈ l)))) := by
  simp [dcall, hT, s244, sp, arg2, EncR.and, EncR.one, hd, hl, Enc.bool, Enc.str]
theorem c339 : CallSound Tryz.prog 339 s339 := by
  refine CallSound.of_sp (T := tabOf [(311, s311), (324, s324), (244, s244)]) Tryz.func339 rfl (Nat.le_of_ble_eq_true rfl) fun E x y hy => ?_
  obtain ⟨b, s⟩ := x
  simp at hy; subst hy
  refine Dwp.step t99 rfl fun K hK => ?_
  simp [drunL, dwanted, dopS, own, plainOf, dop, dput, eval, ofVal, Then, init, arg1, arg2, arg3, EncR.one, EncR.and, Enc.bool, Enc.int, Enc.str, Enc.strs, Enc.slice, Enc.agg, Enc.tup, Enc.err, Enc.fn, Enc.book, DV.cells]
  refine hK _ _ ?_ rfl; clear hK K
  refine Dwp.step t99 rfl fun K hK => ?_
  have hk : (EncR.book.enc b).length = 3 := EncR.book.len b
  have ht3 : (EncR.book.enc b).take 3 = EncR.book.enc b := List.take_of_length_le (by rw [hk]; exact Nat.le_refl _)
  have h54 := fun d l h1 h2 => call311 (tabOf [(311, s311), (324, s324), (244, s244)]) rfl b d l h1 h2
  have h1 := h54 (.slice 1 .full [[.lit (.string s)]]) [s] (by simp [init, arg1, arg2, arg3, EncR.one, EncR.and, Enc.bool, Enc.int, Enc.str, Enc.strs, Enc.slice, Enc.agg, Enc.tup, Enc.err, Enc.fn, decRows]) (by simp [lim])
  have h2 := call324 (tabOf [(311, s311), (324, s324), (244, s244)]) rfl
  have h3 := call244 (tabOf [(311, s311), (324, s324), (244, s244)]) rfl (Enc.strs.enc given) given s (Enc.strs.de given) (by simp [given, lim])
  cases hb : b.has s with
  | false =>
    simp [hb] at h1
    simp [drunL, dwanted, dopS, own, plainOf, dop, dput, eval, ofVal, Then, upd, init, dload, dpart, TyI.agg, ty229, ty22, ty9, hk, ht3, dbuildRows, DV.cells, growLimit, dcallee, h1]
    refine hK _ _ (Dwp.ret ?_) rfl
    simp [Done, dresults, dres, frz, frz1, frz2, init, arg1, arg2, arg3, EncR.one, EncR.and, Enc.bool, Enc.int, Enc.str, Enc.strs, Enc.slice, Enc.agg, Enc.tup, Enc.err, Enc.fn, upd, Book.decl, hb]
  | true =>
    simp [hb] at h1
    simp [drunL, dwanted, dopS, own, plainOf, dop, dput, eval, ofVal, Then, upd, init, dload, dpart, TyI.agg, ty229, ty22, ty9, hk, ht3, dbuildRows, DV.cells, growLimit, dcallee, h1, h2, h3]
    refine hK _ _ (Dwp.ret ?_) rfl
    simp [Done, dresults, dres, frz, frz1, frz2, init, arg1, arg2, arg3, EncR.one, EncR.and, Enc.bool, Enc.int, Enc.str, Enc.strs, Enc.slice, Enc.agg, Enc.tup, Enc.err, Enc.fn, upd, Book.decl, hb, given]
theorem e339 : Go.FA.Good Tryz.prog (339, s339) := ⟨c339, Tryz.f339, _, Tryz.func339, rfl, by decide⟩
end Go.Proofs.Yt
namespace Go.Proofs.Yt
open Go Go.FA Go.Proofs
set_option linter.unusedVariables false
set_option linter.unusedSimpArgs false
set_option maxRecDepth 100000

/-- is a string a name -/
def isName (s : ByteArray) : Bool := decide (s.size ≤ 40) && (match s.data.toList with | c :: _ => letter (c.toNat : Int) | [] => false) && allB nameByte s
def s105 : Sp := sp (arg1 Enc.str) Enc.bool (fun s => some (isName s))
theorem t38 : TabOk Tryz.prog (tabOf [(173, s173), (174, s174)]) := .cons e173 (.cons e174 .nil)
theorem call173 (T : Tab) (hT : T 173 = some s173) (c : Int) : dcall T 173 [.lit (.int .u8 c)] = some (.lit (.bool (letter c))) := by
  simp [dcall, hT, s173, sp, init, arg1, arg2, arg3, EncR.one, EncR.and, Enc.bool, Enc.int, Enc.str, Enc.strs, Enc.slice, Enc.agg, Enc.tup, Enc.err, Enc.fn]
theorem call174' (T : Tab) (hT : T 174 = some s174) (s : ByteArray) (f : FuncId) (p : Int → Bool) (hp : byteFn f = some p) (hs : s.size ≤ lim) : dcall T 174 [.lit (.string s), .lit (.func (.func f) #[] #[])] = some (.lit (.bool (allB p s))) := by
  simp [dcall, hT, s174, sp, init, arg1, arg2, arg3, EncR.one, EncR.and, Enc.bool, Enc.int, Enc.str, Enc.strs, Enc.slice, Enc.agg, Enc.tup, Enc.err, Enc.fn, hp, hs]
theorem size_ne {s : ByteArray} : s ≠ ⟨#[]⟩ ↔ 0 < s.size := by
  constructor
  · intro h
    rcases Nat.eq_zero_or_pos s.size with q | q
    · exact absurd (ByteArray.ext (Array.eq_empty_of_size_eq_zero q)) h
    · exact q
  · rintro h rfl; simp [ByteArray.size] at h
theorem first_byte {s : ByteArray} (h : 0 < s.size) : ∃ r, s.data.toList = s[0] :: r := by
  have h' : 0 < s.data.toList.length := by simpa using h
  match hm : s.data.toList, h' with
  | c :: r, _ =>
    refine ⟨r, ?_⟩
    have : s[0] = s.data.toList[0] := rfl
    rw [this]; simp [hm]
theorem c105 : CallSound Tryz.prog 105 s105 := by
  refine CallSound.of_sp (T := tabOf [(173, s173), (174, s174)]) Tryz.func105 rfl (Nat.le_of_ble_eq_true rfl) fun E s y hy => ?_
  simp at hy; subst hy
  refine Dwp.step t38 rfl fun K hK => ?_
  simp [drunL, drunO, dwanted, dopS, own, plainOf, dop, dput, eval, ofVal, Then, Ex.then, Ex.inBlock, upd, dbin, Tag.isNN, nilTest, intCmp, dload, dpart, TyI.agg, dfieldAddr, dfield, dindexAddr, dindex, dlen, lenOk, dlookup, mapOf, assocM, keyFits, dmapUpdate, dcallee, dcall, tabOf, dbuiltin, dstore, DV.cells, setAt, dslice, dboundOk, dappend, appTag, rowsOf, elemOk, growLimit, dbuildCells, dbuildCells.go, structOk, fieldsOk, dbuildRows, goInt]
  refine hK _ _ ?_ rfl; clear hK K
  refine Dwp.step t38 rfl fun K hK => ?_
  have g80 := call173 (tabOf [(173, s173), (174, s174)]) rfl
  by_cases h0 : s = ⟨#[]⟩
  · subst h0
    simp [drunL, dwanted, dopS, own, plainOf, dop, dput, eval, ofVal, Then, upd, init, dbin, init, arg1, arg2, arg3, EncR.one, EncR.and, Enc.bool, Enc.int, Enc.str, Enc.strs, Enc.slice, Enc.agg, Enc.tup, Enc.err, Enc.fn]
    refine hK _ _ (Dwp.ret ?_) rfl
    simp [Done, dresults, dres, frz, frz1, frz2, init, arg1, arg2, arg3, EncR.one, EncR.and, Enc.bool, Enc.int, Enc.str, Enc.strs, Enc.slice, Enc.agg, Enc.tup, Enc.err, Enc.fn, upd, isName]
  · have hpos := size_ne.1 h0
    obtain ⟨r, hr⟩ := first_byte hpos
    by_cases h1 : (s.size : Int) ≤ 40
    · have h1' : s.size ≤ 40 := by omega
      cases h2 : letter (s[0].toNat : Int) with
      | false =>
        simp [drunL, dwanted, dopS, own, plainOf, dop, dput, eval, ofVal, Then, upd, init, dbin, intCmp, init, arg1, arg2, arg3, EncR.one, EncR.and, Enc.bool, Enc.int, Enc.str, Enc.strs, Enc.slice, Enc.agg, Enc.tup, Enc.err, Enc.fn, h0, h1, dbuiltin, ty9, lenOk, dlen, goInt, dindex, hpos, dcallee, g80, h2]
        refine hK _ _ (Dwp.ret ?_) rfl
        simp [Done, dresults, dres, frz, frz1, frz2, init, arg1, arg2, arg3, EncR.one, EncR.and, Enc.bool, Enc.int, Enc.str, Enc.strs, Enc.slice, Enc.agg, Enc.tup, Enc.err, Enc.fn, upd, isName, hr, h2]
      | true =>
        have g81 := call174' (tabOf [(173, s173), (174, s174)]) rfl s 175 nameByte (by simp [byteFn]) (by unfold lim; omega)
        simp [drunL, dwanted, dopS, own, plainOf, dop, dput, eval, ofVal, Then, upd, init, dbin, intCmp, init, arg1, arg2, arg3, EncR.one, EncR.and, Enc.bool, Enc.int, Enc.str, Enc.strs, Enc.slice, Enc.agg, Enc.tup, Enc.err, Enc.fn, h0, h1, dbuiltin, ty9, lenOk, dlen, goInt, dindex, hpos, dcallee, g80, h2, g81]
        refine hK _ _ (Dwp.ret ?_) rfl
        simp [Done, dresults, dres, frz, frz1, frz2, init, arg1, arg2, arg3, EncR.one, EncR.and, Enc.bool, Enc.int, Enc.str, Enc.strs, Enc.slice, Enc.agg, Enc.tup, Enc.err, Enc.fn, upd, isName, hr, h2, h1']
    · have h1' : ¬ s.size ≤ 40 := by omega
      simp [drunL, dwanted, dopS, own, plainOf, dop, dput, eval, ofVal, Then, upd, init, dbin, intCmp, init, arg1, arg2, arg3, EncR.one, EncR.and, Enc.bool, Enc.int, Enc.str, Enc.strs, Enc.slice, Enc.agg, Enc.tup, Enc.err, Enc.fn, h0, h1, dbuiltin, ty9, lenOk, dlen, goInt]
      refine hK _ _ (Dwp.ret ?_) rfl
      simp [Done, dresults, dres, frz, frz1, frz2, init, arg1, arg2, arg3, EncR.one, EncR.and, Enc.bool, Enc.int, Enc.str, Enc.strs, Enc.slice, Enc.agg, Enc.tup, Enc.err, Enc.fn, upd, isName, h1']
theorem e105 : Go.FA.Good Tryz.prog (105, s105) := ⟨c105, Tryz.f105, _, Tryz.func105, rfl, by decide⟩
theorem call105 (T : Tab) (hT : T 105 = some s105) (s : ByteArray) : dcall T 105 [.lit (.string s)] = some (.lit (.bool (isName s))) := by
  simp [dcall, hT, s105, sp, init, arg1, arg2, arg3, EncR.one, EncR.and, Enc.bool, Enc.int, Enc.str, Enc.strs, Enc.slice, Enc.agg, Enc.tup, Enc.err, Enc.fn]

def isPiece (s : ByteArray) : Bool := decide (0 < s.size) && decide (s.size ≤ 20) && (isName s || allB signByte s)
def s354 : Sp := sp (arg1 Enc.str) Enc.bool (fun s => some (isPiece s))
theorem t151 : TabOk Tryz.prog (tabOf [(105, s105), (174, s174)]) := .cons e105 (.cons e174 .nil)
theorem c354 : CallSound Tryz.prog 354 s354 := by
  refine CallSound.of_sp (T := tabOf [(105, s105), (174, s174)]) Tryz.func354 rfl (Nat.le_of_ble_eq_true rfl) fun E s y hy => ?_
  simp at hy; subst hy
  refine Dwp.step t151 rfl fun K hK => ?_
  simp [drunL, drunO, dwanted, dopS, own, plainOf, dop, dput, eval, ofVal, Then, Ex.then, Ex.inBlock, upd, dbin, Tag.isNN, nilTest, intCmp, dload, dpart, TyI.agg, dfieldAddr, dfield, dindexAddr, dindex, dlen, lenOk, dlookup, mapOf, assocM, keyFits, dmapUpdate, dcallee, dcall, tabOf, dbuiltin, dstore, DV.cells, setAt, dslice, dboundOk, dappend, appTag, rowsOf, elemOk, growLimit, dbuildCells, dbuildCells.go, structOk, fieldsOk, dbuildRows, goInt]
  refine hK _ _ ?_ rfl; clear hK K
  refine Dwp.seq ?_
  refine Dwp.step t151 rfl fun K hK => ?_
  have g38 := call105 (tabOf [(105, s105), (174, s174)]) rfl s
  by_cases h0 : s = ⟨#[]⟩
  · subst h0
    simp [drunL, dwanted, dopS, own, plainOf, dop, dput, eval, ofVal, Then, upd, init, dbin, init, arg1, arg2, arg3, EncR.one, EncR.and, Enc.bool, Enc.int, Enc.str, Enc.strs, Enc.slice, Enc.agg, Enc.tup, Enc.err, Enc.fn]
    refine hK _ _ ?_ rfl; clear hK K
    refine Dwp.condT (by simp [eval, upd]) ?_
    refine Dwp.step t151 rfl fun K hK => ?_
    simp [drunL, drunO, dwanted, dopS, own, plainOf, dop, dput, eval, ofVal, Then, Ex.then, Ex.inBlock, upd, dbin, Tag.isNN, nilTest, intCmp, dload, dpart, TyI.agg, dfieldAddr, dfield, dindexAddr, dindex, dlen, lenOk, dlookup, mapOf, assocM, keyFits, dmapUpdate, dcallee, dcall, tabOf, dbuiltin, dstore, DV.cells, setAt, dslice, dboundOk, dappend, appTag, rowsOf, elemOk, growLimit, dbuildCells, dbuildCells.go, structOk, fieldsOk, dbuildRows, goInt]
    refine hK _ _ (Dwp.ret ?_) rfl
    simp [Done, dresults, dres, frz, frz1, frz2, init, arg1, arg2, arg3, EncR.one, EncR.and, Enc.bool, Enc.int, Enc.str, Enc.strs, Enc.slice, Enc.agg, Enc.tup, Enc.err, Enc.fn, Ex.then, upd, isPiece, ByteArray.size]
  · have hpos := size_ne.1 h0
    by_cases h1 : (20 : Int) < s.size
    · have h1' : ¬ s.size ≤ 20 := by omega
      simp [drunL, dwanted, dopS, own, plainOf, dop, dput, eval, ofVal, Then, upd, init, dbin, intCmp, init, arg1, arg2, arg3, EncR.one, EncR.and, Enc.bool, Enc.int, Enc.str, Enc.strs, Enc.slice, Enc.agg, Enc.tup, Enc.err, Enc.fn, h0, h1, dbuiltin, ty9, lenOk, dlen, goInt]
      refine hK _ _ ?_ rfl; clear hK K
      refine Dwp.condT (by simp [eval, upd]) ?_
      refine Dwp.step t151 rfl fun K hK => ?_
      simp [drunL, drunO, dwanted, dopS, own, plainOf, dop, dput, eval, ofVal, Then, Ex.then, Ex.inBlock, upd, dbin, Tag.isNN, nilTest, intCmp, dload, dpart, TyI.agg, dfieldAddr, dfield, dindexAddr, dindex, dlen, lenOk, dlookup, mapOf, assocM, keyFits, dmapUpdate, dcallee, dcall, tabOf, dbuiltin, dstore, DV.cells, setAt, dslice, dboundOk, dappend, appTag, rowsOf, elemOk, growLimit, dbuildCells, dbuildCells.go, structOk, fieldsOk, dbuildRows, goInt]
      refine hK _ _ (Dwp.ret ?_) rfl
      simp [Done, dresults, dres, frz, frz1, frz2, init, arg1, arg2, arg3, EncR.one, EncR.and, Enc.bool, Enc.int, Enc.str, Enc.strs, Enc.slice, Enc.agg, Enc.tup, Enc.err, Enc.fn, Ex.then, upd, isPiece, h1']
    · have h1' : s.size ≤ 20 := by omega
      simp [drunL, dwanted, dopS, own, plainOf, dop, dput, eval, ofVal, Then, upd, init, dbin, intCmp, init, arg1, arg2, arg3, EncR.one, EncR.and, Enc.bool, Enc.int, Enc.str, Enc.strs, Enc.slice, Enc.agg, Enc.tup, Enc.err, Enc.fn, h0, h1, dbuiltin, ty9, lenOk, dlen, goInt]
      refine hK _ _ ?_ rfl; clear hK K
      refine Dwp.condF (by simp [eval, upd]) (Dwp.skip ?_)
      refine Dwp.step t151 rfl fun K hK => ?_
      have g81 := call174' (tabOf [(105, s105), (174, s174)]) rfl s 358 signByte (by simp [byteFn]) (by unfold lim; omega)
      cases h2 : isName s with
      | true =>
        rw [h2] at g38
        simp [drunL, dwanted, dopS, own, plainOf, dop, dput, eval, ofVal, Then, upd, init, init, arg1, arg2, arg3, EncR.one, EncR.and, Enc.bool, Enc.int, Enc.str, Enc.strs, Enc.slice, Enc.agg, Enc.tup, Enc.err, Enc.fn, dcallee, g38]
        refine hK _ _ (Dwp.ret ?_) rfl
        simp [Done, dresults, dres, frz, frz1, frz2, init, arg1, arg2, arg3, EncR.one, EncR.and, Enc.bool, Enc.int, Enc.str, Enc.strs, Enc.slice, Enc.agg, Enc.tup, Enc.err, Enc.fn, upd, isPiece, h2, hpos, h1']
      | false =>
        rw [h2] at g38
        simp [drunL, dwanted, dopS, own, plainOf, dop, dput, eval, ofVal, Then, upd, init, init, arg1, arg2, arg3, EncR.one, EncR.and, Enc.bool, Enc.int, Enc.str, Enc.strs, Enc.slice, Enc.agg, Enc.tup, Enc.err, Enc.fn, dcallee, g38, g81]
        refine hK _ _ (Dwp.ret ?_) rfl
        simp [Done, dresults, dres, frz, frz1, frz2, init, arg1, arg2, arg3, EncR.one, EncR.and, Enc.bool, Enc.int, Enc.str, Enc.strs, Enc.slice, Enc.agg, Enc.tup, Enc.err, Enc.fn, upd, isPiece, h2, hpos, h1']
theorem e354 : Go.FA.Good Tryz.prog (354, s354) := ⟨c354, Tryz.f354, _, Tryz.func354, rfl, by decide⟩
end Go.Proofs.Yt
namespace Go.Proofs.Yt
open Go Go.FA Go.Proofs
set_option linter.unusedVariables false
set_option linter.unusedSimpArgs false
set_option maxRecDepth 100000

theorem mixed : Tryz.prog.follows .mixedOrders = true := by kernel_rfl

theorem assoc_keys {α : Type} [DecidableEq α] (k : α → Value) (hk : ∀ x y, eqKey (k x) (k y) = some (decide (x = y))) (x : α) : ∀ (l : List α),
    assoc (k x) (l.map k) (l.map fun _ => .lit (.bool true)) = some (if x ∈ l then some (.lit (.bool true)) else none)
  | [] => rfl
  | y :: l => by
    simp only [List.map_cons, assoc, hk, assoc_keys k hk x l]
    by_cases h : x = y
    · simp [h]
    · simp [h]
theorem putKey_keys {α : Type} [DecidableEq α] (k : α → Value) (hk : ∀ x y, eqKey (k x) (k y) = some (decide (x = y))) (x : α) (d : DV) : ∀ (l : List α) (vs : List DV), x ∉ l → vs.length = l.length →
    putKey (k x) d (l.map k) vs = some (l.map k ++ [k x], vs ++ [d])
  | [], [], _, _ => rfl
  | [], _ :: _, _, h => by simp at h
  | _ :: _, [], _, h => by simp at h
  | y :: l, v :: vs, hn, h => by
    have h1 : x ≠ y := fun e => hn (by simp [e])
    have h2 : x ∉ l := fun e => hn (by simp [e])
    simp [putKey, hk, h1, putKey_keys k hk x d l vs h2 (by simpa using h)]
theorem not_nodup {α : Type} {l : List α} {i : Nat} (hlt : i < l.length) (hm : l[i] ∈ l.take i) : ¬ l.Nodup := by
  intro hn
  have h1 : l.take (i + 1) = l.take i ++ [l[i]] := by rw [List.take_succ_eq_append_getElem hlt]
  have h2 : (l.take (i + 1)).Nodup := List.Nodup.sublist (List.take_sublist _ _) hn
  rw [h1, List.nodup_append] at h2
  exact h2.2.2 _ hm _ (by simp) rfl
theorem nodup_succ {α : Type} {l : List α} {i : Nat} (hlt : i < l.length) (hn : (l.take i).Nodup) (hm : l[i] ∉ l.take i) : (l.take (i + 1)).Nodup := by
  rw [List.take_succ_eq_append_getElem hlt, List.nodup_append]
  exact ⟨hn, by simp, fun a ha b hb e => by simp at hb; subst hb; subst e; exact hm ha⟩

def s356 : Sp := sp (arg1 Enc.ints) Enc.bool (fun l => if l.length ≤ lim then some (decide l.Nodup) else none)
def inv356 (l : List Int) : Nat → (Nat → DV) → St → Prop := fun k a σ => ∃ i, i ≤ l.length ∧ k = l.length - i ∧ (l.take i).Nodup ∧ a 3 = .map 1 ∧ a 7 = .slice 1 .none (l.map fun s => [DV.lit (.int .i64 s)]) ∧
    a 8 = .lit (.int .i64 l.length) ∧ a 9 = .lit (.int .i64 i) ∧ σ.objs 1 = some (.map ((l.take i).map (.int .i64)) ((l.take i).map fun _ => .lit (.bool true)))
theorem keyInt (x y : Int) : eqKey (.int .i64 x) (.int .i64 y) = some (decide (x = y)) := by simp [eqKey]; rfl
theorem c356 : CallSound Tryz.prog 356 s356 := by
  refine CallSound.of_sp (T := tabOf []) Tryz.func356 rfl (Nat.le_of_ble_eq_true rfl) fun E l y hy => ?_
  by_cases hlim : l.length ≤ lim <;> simp [hlim] at hy
  subst hy
  unfold lim at hlim
  refine Dwp.step tab0 rfl fun K hK => ?_
  simp [drunL, drunO, dwanted, dopS, own, plainOf, dop, dput, eval, ofVal, Then, Ex.then, Ex.inBlock, upd, dbin, Tag.isNN, nilTest, intCmp, dload, dpart, TyI.agg, dfieldAddr, dfield, dindexAddr, dindex, dlen, lenOk, dlookup, mapOf, assocM, keyFits, dmapUpdate, dcallee, dcall, tabOf, dbuiltin, dstore, DV.cells, setAt, dslice, dboundOk, dappend, appTag, rowsOf, elemOk, growLimit, dbuildCells, dbuildCells.go, structOk, fieldsOk, dbuildRows, goInt]
  refine hK _ _ ?_ rfl; clear hK K
  refine Dwp.step tab0 rfl fun K hK => ?_
  simp [drunL, drunO, dwanted, dopS, own, plainOf, dop, dput, eval, ofVal, Then, Ex.then, Ex.inBlock, upd, dbin, Tag.isNN, nilTest, intCmp, dload, dpart, TyI.agg, dfieldAddr, dfield, dindexAddr, dindex, dlen, lenOk, dlookup, mapOf, assocM, keyFits, dmapUpdate, dcallee, dcall, tabOf, dbuiltin, dstore, DV.cells, setAt, dslice, dboundOk, dappend, appTag, rowsOf, elemOk, growLimit, dbuildCells, dbuildCells.go, structOk, fieldsOk, dbuildRows, goInt]
  refine hK _ _ ?_ rfl; clear hK K
  refine Dwp.seq ?_
  refine Dwp.step tab0 rfl fun K hK => ?_
  simp [drunL, drunO, dwanted, dopS, own, plainOf, dop, dput, eval, ofVal, Then, Ex.then, Ex.inBlock, upd, dbin, Tag.isNN, nilTest, intCmp, dload, dpart, TyI.agg, dfieldAddr, dfield, dindexAddr, dindex, dlen, lenOk, dlookup, mapOf, assocM, keyFits, dmapUpdate, dcallee, dcall, tabOf, dbuiltin, dstore, DV.cells, setAt, dslice, dboundOk, dappend, appTag, rowsOf, elemOk, growLimit, dbuildCells, dbuildCells.go, structOk, fieldsOk, dbuildRows, goInt, init, arg1, arg2, arg3, EncR.one, EncR.and, Enc.bool, Enc.int, Enc.str, Enc.strs, Enc.slice, Enc.agg, Enc.tup, Enc.err, Enc.fn, Enc.ints, Enc.i64, ty49]
  refine hK _ _ ?_ rfl; clear hK K
  refine Dwp.block (Dwp.loop (inv356 l) l.length ⟨0, by simp, by simp, by simp, by simp [upd, σ0], by simp [upd], by simp [upd], by simp [upd], by simp [upd, σ0]⟩ ?_)
  rintro k a σ ⟨i, hi, rfl, hnd, h3, h7, h8, h9, hobj⟩
  refine Dwp.step tab0 rfl fun K hK => ?_
  simp [drunL, drunO, dwanted, dopS, own, plainOf, dop, dput, eval, ofVal, Then, Ex.then, Ex.inBlock, upd, dbin, Tag.isNN, nilTest, intCmp, dload, dpart, TyI.agg, dfieldAddr, dfield, dindexAddr, dindex, dlen, lenOk, dlookup, mapOf, assocM, keyFits, dmapUpdate, dcallee, dcall, tabOf, dbuiltin, dstore, DV.cells, setAt, dslice, dboundOk, dappend, appTag, rowsOf, elemOk, growLimit, dbuildCells, dbuildCells.go, structOk, fieldsOk, dbuildRows, goInt, h8, h9]
  refine hK _ _ ?_ rfl; clear hK K
  by_cases hlt : i < l.length
  · refine Dwp.seq (Dwp.condT (by simp [eval, upd, hlt]) (Dwp.skip ?_))
    refine Dwp.seq (Dwp.block ?_)
    refine Dwp.step tab0 rfl fun K hK => ?_
    simp [drunL, drunO, dwanted, dopS, own, plainOf, dop, dput, eval, ofVal, Then, Ex.then, Ex.inBlock, upd, dbin, Tag.isNN, nilTest, intCmp, dload, dpart, TyI.agg, dfieldAddr, dfield, dindexAddr, dindex, dlen, lenOk, dlookup, mapOf, assocM, keyFits, dmapUpdate, dcallee, dcall, tabOf, dbuiltin, dstore, DV.cells, setAt, dslice, dboundOk, dappend, appTag, rowsOf, elemOk, growLimit, dbuildCells, dbuildCells.go, structOk, fieldsOk, dbuildRows, goInt, h7, h9, ty49, ty3, hlt]
    refine hK _ _ ?_ rfl; clear hK K
    have hA := assoc_keys _ keyInt l[i] (l.take i)
    simp only [List.map_take] at hA
    refine Dwp.seq ?_
    refine Dwp.step tab0 rfl fun K hK => ?_
    by_cases hm : l[i] ∈ l.take i
    · simp [drunL, drunO, dwanted, dopS, own, plainOf, dop, dput, eval, ofVal, Then, Ex.then, Ex.inBlock, upd, dbin, Tag.isNN, nilTest, intCmp, dload, dpart, TyI.agg, dfieldAddr, dfield, dindexAddr, dindex, dlen, lenOk, dlookup, mapOf, assocM, keyFits, dmapUpdate, dcallee, dcall, tabOf, dbuiltin, dstore, DV.cells, setAt, dslice, dboundOk, dappend, appTag, rowsOf, elemOk, growLimit, dbuildCells, dbuildCells.go, structOk, fieldsOk, dbuildRows, goInt, h3, hobj, ty284, ty3, ty4, hA, hm]
      refine hK _ _ ?_ rfl; clear hK K
      refine Dwp.condT (by simp [eval, upd]) ?_
      refine Dwp.step tab0 rfl fun K hK => ?_
      simp [drunL, drunO, dwanted, dopS, own, plainOf, dop, dput, eval, ofVal, Then, Ex.then, Ex.inBlock, upd, dbin, Tag.isNN, nilTest, intCmp, dload, dpart, TyI.agg, dfieldAddr, dfield, dindexAddr, dindex, dlen, lenOk, dlookup, mapOf, assocM, keyFits, dmapUpdate, dcallee, dcall, tabOf, dbuiltin, dstore, DV.cells, setAt, dslice, dboundOk, dappend, appTag, rowsOf, elemOk, growLimit, dbuildCells, dbuildCells.go, structOk, fieldsOk, dbuildRows, goInt]
      refine hK _ _ (Dwp.ret ?_) rfl
      simp [Done, dresults, dres, frz, frz1, frz2, init, arg1, arg2, arg3, EncR.one, EncR.and, Enc.bool, Enc.int, Enc.str, Enc.strs, Enc.slice, Enc.agg, Enc.tup, Enc.err, Enc.fn, Ex.then, Ex.inBlock, upd, not_nodup hlt hm]
    · simp [drunL, drunO, dwanted, dopS, own, plainOf, dop, dput, eval, ofVal, Then, Ex.then, Ex.inBlock, upd, dbin, Tag.isNN, nilTest, intCmp, dload, dpart, TyI.agg, dfieldAddr, dfield, dindexAddr, dindex, dlen, lenOk, dlookup, mapOf, assocM, keyFits, dmapUpdate, dcallee, dcall, tabOf, dbuiltin, dstore, DV.cells, setAt, dslice, dboundOk, dappend, appTag, rowsOf, elemOk, growLimit, dbuildCells, dbuildCells.go, structOk, fieldsOk, dbuildRows, goInt, h3, hobj, ty284, ty3, ty4, hA, hm]
      refine hK _ _ ?_ rfl; clear hK K
      refine Dwp.condF (by simp [eval, upd]) (Dwp.skip ?_)
      refine Dwp.reg tab0 rfl fun K hK => ?_
      have hP := putKey_keys _ keyInt l[i] (.lit (.bool true)) (l.take i) ((l.take i).map fun _ => .lit (.bool true)) hm (by simp)
      simp only [List.map_take] at hP
      simp [drunL, drunO, dwanted, dopS, own, plainOf, dop, dput, eval, ofVal, Then, Ex.then, Ex.inBlock, upd, dbin, Tag.isNN, nilTest, intCmp, dload, dpart, TyI.agg, dfieldAddr, dfield, dindexAddr, dindex, dlen, lenOk, dlookup, mapOf, assocM, keyFits, dmapUpdate, dcallee, dcall, tabOf, dbuiltin, dstore, DV.cells, setAt, dslice, dboundOk, dappend, appTag, rowsOf, elemOk, growLimit, dbuildCells, dbuildCells.go, structOk, fieldsOk, dbuildRows, goInt, h3, hobj, ty284, ty3, hP]
      refine hK _ _ ?_ rfl; clear hK K
      refine Dwp.reg tab0 rfl fun K hK => ?_
      simp [drunL, drunO, dwanted, dopS, own, plainOf, dop, dput, eval, ofVal, Then, Ex.then, Ex.inBlock, upd, dbin, Tag.isNN, nilTest, intCmp, dload, dpart, TyI.agg, dfieldAddr, dfield, dindexAddr, dindex, dlen, lenOk, dlookup, mapOf, assocM, keyFits, dmapUpdate, dcallee, dcall, tabOf, dbuiltin, dstore, DV.cells, setAt, dslice, dboundOk, dappend, appTag, rowsOf, elemOk, growLimit, dbuildCells, dbuildCells.go, structOk, fieldsOk, dbuildRows, goInt, h9]
      refine hK _ _ ?_ rfl; clear hK K
      refine ⟨l.length - (i + 1), by omega, i + 1, by omega, rfl, nodup_succ hlt hnd hm, by simp [upd, h3], by simp [upd, h7], by simp [upd, h8], ?_, ?_⟩
      · simp [upd, wrap_small (n := (i : Int) + 1) (by omega) (by omega)]
      · simp [upd]; constructor <;> (rw [List.take_succ_eq_append_getElem (by simpa using hlt)]; simp)
  · refine Dwp.seq (Dwp.condF (by simp [eval, upd, hlt]) (Dwp.exit ?_))
    refine Dwp.step tab0 rfl fun K hK => ?_
    simp [drunL, drunO, dwanted, dopS, own, plainOf, dop, dput, eval, ofVal, Then, Ex.then, Ex.inBlock, upd, dbin, Tag.isNN, nilTest, intCmp, dload, dpart, TyI.agg, dfieldAddr, dfield, dindexAddr, dindex, dlen, lenOk, dlookup, mapOf, assocM, keyFits, dmapUpdate, dcallee, dcall, tabOf, dbuiltin, dstore, DV.cells, setAt, dslice, dboundOk, dappend, appTag, rowsOf, elemOk, growLimit, dbuildCells, dbuildCells.go, structOk, fieldsOk, dbuildRows, goInt]
    refine hK _ _ (Dwp.ret ?_) rfl
    rw [List.take_of_length_le (by omega)] at hnd
    simp [Done, dresults, dres, frz, frz1, frz2, init, arg1, arg2, arg3, EncR.one, EncR.and, Enc.bool, Enc.int, Enc.str, Enc.strs, Enc.slice, Enc.agg, Enc.tup, Enc.err, Enc.fn, upd, hnd]
theorem e356 : Go.FA.Good Tryz.prog (356, s356) := ⟨c356, Tryz.f356, _, Tryz.func356, rfl, by decide⟩

/-- slices.Equal of strings -/
def s355 : Sp := sp (arg2 Enc.strs Enc.strs) Enc.bool (fun x => if x.1.length ≤ lim ∧ x.2.length ≤ lim then some (decide (x.1 = x.2)) else none)
def inv355 (l m : List ByteArray) : Nat → (Nat → DV) → St → Prop := fun k a σ => ∃ i, i ≤ l.length ∧ k = l.length - i ∧ l.take i = m.take i ∧ a 0 = .slice 1 .none (l.map fun s => [DV.lit (.string s)]) ∧
  a 1 = .slice 1 .none (m.map fun s => [DV.lit (.string s)]) ∧ a 12 = .lit (.int .i64 l.length) ∧ a 13 = .lit (.int .i64 i)
theorem c355 : CallSound Tryz.prog 355 s355 := by
  refine CallSound.of_sp (T := tabOf []) Tryz.func355 rfl (Nat.le_of_ble_eq_true rfl) fun E x y hy => ?_
  obtain ⟨l, m⟩ := x
  by_cases hlim : l.length ≤ lim ∧ m.length ≤ lim <;> simp [hlim] at hy
  subst hy
  unfold lim at hlim
  refine Dwp.step tab0 rfl fun K hK => ?_
  simp [drunL, drunO, dwanted, dopS, own, plainOf, dop, dput, eval, ofVal, Then, Ex.then, Ex.inBlock, upd, dbin, Tag.isNN, nilTest, intCmp, dload, dpart, TyI.agg, dfieldAddr, dfield, dindexAddr, dindex, dlen, lenOk, dlookup, mapOf, assocM, keyFits, dmapUpdate, dcallee, dcall, tabOf, dbuiltin, dstore, DV.cells, setAt, dslice, dboundOk, dappend, appTag, rowsOf, elemOk, growLimit, dbuildCells, dbuildCells.go, structOk, fieldsOk, dbuildRows, goInt]
  refine hK _ _ ?_ rfl; clear hK K
  refine Dwp.seq ?_
  refine Dwp.step tab0 rfl fun K hK => ?_
  simp [drunL, drunO, dwanted, dopS, own, plainOf, dop, dput, eval, ofVal, Then, Ex.then, Ex.inBlock, upd, dbin, Tag.isNN, nilTest, intCmp, dload, dpart, TyI.agg, dfieldAddr, dfield, dindexAddr, dindex, dlen, lenOk, dlookup, mapOf, assocM, keyFits, dmapUpdate, dcallee, dcall, tabOf, dbuiltin, dstore, DV.cells, setAt, dslice, dboundOk, dappend, appTag, rowsOf, elemOk, growLimit, dbuildCells, dbuildCells.go, structOk, fieldsOk, dbuildRows, goInt, init, arg1, arg2, arg3, EncR.one, EncR.and, Enc.bool, Enc.int, Enc.str, Enc.strs, Enc.slice, Enc.agg, Enc.tup, Enc.err, Enc.fn, ty22]
  refine hK _ _ ?_ rfl; clear hK K
  by_cases hlm : l.length = m.length
  · refine Dwp.condF (by simp [eval, upd, hlm]) (Dwp.skip ?_)
    refine Dwp.seq ?_
    refine Dwp.step tab0 rfl fun K hK => ?_
    simp [drunL, drunO, dwanted, dopS, own, plainOf, dop, dput, eval, ofVal, Then, Ex.then, Ex.inBlock, upd, dbin, Tag.isNN, nilTest, intCmp, dload, dpart, TyI.agg, dfieldAddr, dfield, dindexAddr, dindex, dlen, lenOk, dlookup, mapOf, assocM, keyFits, dmapUpdate, dcallee, dcall, tabOf, dbuiltin, dstore, DV.cells, setAt, dslice, dboundOk, dappend, appTag, rowsOf, elemOk, growLimit, dbuildCells, dbuildCells.go, structOk, fieldsOk, dbuildRows, goInt, init, arg1, arg2, arg3, EncR.one, EncR.and, Enc.bool, Enc.int, Enc.str, Enc.strs, Enc.slice, Enc.agg, Enc.tup, Enc.err, Enc.fn, ty22]
    refine hK _ _ ?_ rfl; clear hK K
    refine Dwp.block (Dwp.loop (inv355 l m) l.length ⟨0, by simp, by simp, by simp, by simp [upd, init, init, arg1, arg2, arg3, EncR.one, EncR.and, Enc.bool, Enc.int, Enc.str, Enc.strs, Enc.slice, Enc.agg, Enc.tup, Enc.err, Enc.fn], by simp [upd, init, init, arg1, arg2, arg3, EncR.one, EncR.and, Enc.bool, Enc.int, Enc.str, Enc.strs, Enc.slice, Enc.agg, Enc.tup, Enc.err, Enc.fn], by simp [upd], by simp [upd]⟩ ?_)
    rintro k a σ ⟨i, hi, rfl, htk, h0, h1, h12, h13⟩
    refine Dwp.step tab0 rfl fun K hK => ?_
    simp [drunL, drunO, dwanted, dopS, own, plainOf, dop, dput, eval, ofVal, Then, Ex.then, Ex.inBlock, upd, dbin, Tag.isNN, nilTest, intCmp, dload, dpart, TyI.agg, dfieldAddr, dfield, dindexAddr, dindex, dlen, lenOk, dlookup, mapOf, assocM, keyFits, dmapUpdate, dcallee, dcall, tabOf, dbuiltin, dstore, DV.cells, setAt, dslice, dboundOk, dappend, appTag, rowsOf, elemOk, growLimit, dbuildCells, dbuildCells.go, structOk, fieldsOk, dbuildRows, goInt, h12, h13]
    refine hK _ _ ?_ rfl; clear hK K
    by_cases hlt : i < l.length
    · have hlt' : i < m.length := by omega
      refine Dwp.seq (Dwp.condT (by simp [eval, upd, hlt]) (Dwp.skip ?_))
      refine Dwp.seq (Dwp.block ?_)
      refine Dwp.step tab0 rfl fun K hK => ?_
      simp [drunL, drunO, dwanted, dopS, own, plainOf, dop, dput, eval, ofVal, Then, Ex.then, Ex.inBlock, upd, dbin, Tag.isNN, nilTest, intCmp, dload, dpart, TyI.agg, dfieldAddr, dfield, dindexAddr, dindex, dlen, lenOk, dlookup, mapOf, assocM, keyFits, dmapUpdate, dcallee, dcall, tabOf, dbuiltin, dstore, DV.cells, setAt, dslice, dboundOk, dappend, appTag, rowsOf, elemOk, growLimit, dbuildCells, dbuildCells.go, structOk, fieldsOk, dbuildRows, goInt, h13]
      refine hK _ _ ?_ rfl; clear hK K
      refine Dwp.drawStep [] mixed tab0 rfl (by decide) fun K hK => ?_
      by_cases he : l[i] = m[i]
      · simp [drunT, touch, touchP, drunL, drunO, dwanted, dopS, own, plainOf, dop, dput, eval, ofVal, Then, Ex.then, Ex.inBlock, upd, dbin, Tag.isNN, nilTest, intCmp, dload, dpart, TyI.agg, dfieldAddr, dfield, dindexAddr, dindex, dlen, lenOk, dlookup, mapOf, assocM, keyFits, dmapUpdate, dcallee, dcall, tabOf, dbuiltin, dstore, DV.cells, setAt, dslice, dboundOk, dappend, appTag, rowsOf, elemOk, growLimit, dbuildCells, dbuildCells.go, structOk, fieldsOk, dbuildRows, goInt, h0, h1, ty22, ty9, hlt, hlt', he]
        refine hK _ _ ?_ rfl; clear hK K
        refine Dwp.condF (by simp [eval, upd]) (Dwp.skip ?_)
        refine Dwp.reg tab0 rfl fun K hK => ?_
        simp [drunL, drunO, dwanted, dopS, own, plainOf, dop, dput, eval, ofVal, Then, Ex.then, Ex.inBlock, upd, dbin, Tag.isNN, nilTest, intCmp, dload, dpart, TyI.agg, dfieldAddr, dfield, dindexAddr, dindex, dlen, lenOk, dlookup, mapOf, assocM, keyFits, dmapUpdate, dcallee, dcall, tabOf, dbuiltin, dstore, DV.cells, setAt, dslice, dboundOk, dappend, appTag, rowsOf, elemOk, growLimit, dbuildCells, dbuildCells.go, structOk, fieldsOk, dbuildRows, goInt, h13]
        refine hK _ _ ?_ rfl; clear hK K
        refine ⟨l.length - (i + 1), by omega, i + 1, by omega, rfl, ?_, by simp [upd, h0], by simp [upd, h1], by simp [upd, h12], by simp [upd, wrap_small (n := (i : Int) + 1) (by omega) (by omega)]⟩
        rw [List.take_succ_eq_append_getElem hlt, List.take_succ_eq_append_getElem hlt', htk, he]
      · simp [drunT, touch, touchP, drunL, drunO, dwanted, dopS, own, plainOf, dop, dput, eval, ofVal, Then, Ex.then, Ex.inBlock, upd, dbin, Tag.isNN, nilTest, intCmp, dload, dpart, TyI.agg, dfieldAddr, dfield, dindexAddr, dindex, dlen, lenOk, dlookup, mapOf, assocM, keyFits, dmapUpdate, dcallee, dcall, tabOf, dbuiltin, dstore, DV.cells, setAt, dslice, dboundOk, dappend, appTag, rowsOf, elemOk, growLimit, dbuildCells, dbuildCells.go, structOk, fieldsOk, dbuildRows, goInt, h0, h1, ty22, ty9, hlt, hlt', he]
        refine hK _ _ ?_ rfl; clear hK K
        refine Dwp.condT (by simp [eval, upd]) ?_
        refine Dwp.step tab0 rfl fun K hK => ?_
        simp [drunL, drunO, dwanted, dopS, own, plainOf, dop, dput, eval, ofVal, Then, Ex.then, Ex.inBlock, upd, dbin, Tag.isNN, nilTest, intCmp, dload, dpart, TyI.agg, dfieldAddr, dfield, dindexAddr, dindex, dlen, lenOk, dlookup, mapOf, assocM, keyFits, dmapUpdate, dcallee, dcall, tabOf, dbuiltin, dstore, DV.cells, setAt, dslice, dboundOk, dappend, appTag, rowsOf, elemOk, growLimit, dbuildCells, dbuildCells.go, structOk, fieldsOk, dbuildRows, goInt]
        refine hK _ _ (Dwp.ret ?_) rfl
        have : l ≠ m := fun e => he (by subst e; rfl)
        simp [Done, dresults, dres, frz, frz1, frz2, init, arg1, arg2, arg3, EncR.one, EncR.and, Enc.bool, Enc.int, Enc.str, Enc.strs, Enc.slice, Enc.agg, Enc.tup, Enc.err, Enc.fn, Ex.then, Ex.inBlock, upd, this]
    · refine Dwp.seq (Dwp.condF (by simp [eval, upd, hlt]) (Dwp.exit ?_))
      refine Dwp.step tab0 rfl fun K hK => ?_
      simp [drunL, drunO, dwanted, dopS, own, plainOf, dop, dput, eval, ofVal, Then, Ex.then, Ex.inBlock, upd, dbin, Tag.isNN, nilTest, intCmp, dload, dpart, TyI.agg, dfieldAddr, dfield, dindexAddr, dindex, dlen, lenOk, dlookup, mapOf, assocM, keyFits, dmapUpdate, dcallee, dcall, tabOf, dbuiltin, dstore, DV.cells, setAt, dslice, dboundOk, dappend, appTag, rowsOf, elemOk, growLimit, dbuildCells, dbuildCells.go, structOk, fieldsOk, dbuildRows, goInt]
      refine hK _ _ (Dwp.ret ?_) rfl
      rw [List.take_of_length_le (by omega), List.take_of_length_le (by omega)] at htk
      simp [Done, dresults, dres, frz, frz1, frz2, init, arg1, arg2, arg3, EncR.one, EncR.and, Enc.bool, Enc.int, Enc.str, Enc.strs, Enc.slice, Enc.agg, Enc.tup, Enc.err, Enc.fn, upd, htk]
  · have hne : (l.length : Int) ≠ m.length := by omega
    refine Dwp.condT (by simp [eval, upd, hne]) ?_
    refine Dwp.step tab0 rfl fun K hK => ?_
    simp [drunL, drunO, dwanted, dopS, own, plainOf, dop, dput, eval, ofVal, Then, Ex.then, Ex.inBlock, upd, dbin, Tag.isNN, nilTest, intCmp, dload, dpart, TyI.agg, dfieldAddr, dfield, dindexAddr, dindex, dlen, lenOk, dlookup, mapOf, assocM, keyFits, dmapUpdate, dcallee, dcall, tabOf, dbuiltin, dstore, DV.cells, setAt, dslice, dboundOk, dappend, appTag, rowsOf, elemOk, growLimit, dbuildCells, dbuildCells.go, structOk, fieldsOk, dbuildRows, goInt]
    refine hK _ _ (Dwp.ret ?_) rfl
    have : l ≠ m := fun e => hlm (by rw [e])
    simp [Done, dresults, dres, frz, frz1, frz2, init, arg1, arg2, arg3, EncR.one, EncR.and, Enc.bool, Enc.int, Enc.str, Enc.strs, Enc.slice, Enc.agg, Enc.tup, Enc.err, Enc.fn, Ex.then, upd, this]
theorem e355 : Go.FA.Good Tryz.prog (355, s355) := ⟨c355, Tryz.f355, _, Tryz.func355, rfl, by decide⟩
end Go.Proofs.Yt
namespace Go.Proofs.Yt
open Go Go.FA Go.Proofs
set_option linter.unusedVariables false
set_option linter.unusedSimpArgs false
set_option maxRecDepth 100000

theorem init1 (d : DV) : init [d] 0 = d := rfl
theorem DLe.slice_none (k : Nat) (t : Tag) (rows : List (List DV)) : DLe (.slice k t rows) (.slice k .none rows) := by
  intro C w v h
  simp only [VRel] at h ⊢
  rcases h with ⟨b, o, cap, h1, h2, h3, _⟩ | ⟨ad, h1, h2, _⟩
  · exact .inl ⟨b, o, cap, h1, h2, h3, trivial⟩
  · exact .inr ⟨ad, h1, h2, trivial⟩

def s349 : Sp := sp (arg1 Enc.strs) Enc.strs (fun l => if l.length ≤ 1048576 then some l else none)
theorem c349 : CallSound Tryz.prog 349 s349 := by
  refine CallSound.of_sp (T := tabOf []) Tryz.func349 rfl (Nat.le_of_ble_eq_true rfl) fun E l y hy => ?_
  by_cases hlim : l.length ≤ 1048576 <;> simp [hlim] at hy
  subst hy
  have hd := strs_dec l
  simp only [EncR.one, Enc.str] at hd
  have go : ∀ (a : Nat → DV) (tag : Tag), tag = .none ∧ l ≠ [] ∨ tag = .nn → a 0 = .slice 1 tag (l.map fun s => [DV.lit (.string s)]) → ∀ c, Tryz.f349.body = some c → Dwp Tryz.prog (tabOf []) E Tryz.f349.ntmps c (Done Tryz.prog Tryz.f349.results Enc.strs l) a σ0 := by
    intro a tag htag h0 c hc
    cases hc
    refine Dwp.step tab0 rfl fun K hK => ?_
    simp [drunL, drunO, dwanted, dopS, own, plainOf, dop, dput, eval, ofVal, Then, Ex.then, Ex.inBlock, upd, dbin, Tag.isNN, nilTest, intCmp, dload, dpart, TyI.agg, dfieldAddr, dfield, dindexAddr, dindex, dlen, lenOk, dlookup, mapOf, assocM, keyFits, dmapUpdate, dcallee, dcall, tabOf, dbuiltin, dstore, DV.cells, setAt, dslice, dboundOk, dappend, appTag, rowsOf, elemOk, growLimit, dbuildCells, dbuildCells.go, structOk, fieldsOk, dbuildRows, goInt]
    refine hK _ _ ?_ rfl; clear hK K
    refine Dwp.seq ?_
    refine Dwp.step tab0 rfl fun K hK => ?_
    have hnn : tag.isNN = true ∨ ¬l = [] := by
      rcases htag with ⟨rfl, hne⟩ | rfl
      · exact .inr hne
      · exact .inl rfl
    simp [drunL, drunO, dwanted, dopS, own, plainOf, dop, dput, eval, ofVal, Then, Ex.then, Ex.inBlock, upd, dbin, Tag.isNN, nilTest, intCmp, dload, dpart, TyI.agg, dfieldAddr, dfield, dindexAddr, dindex, dlen, lenOk, dlookup, mapOf, assocM, keyFits, dmapUpdate, dcallee, dcall, tabOf, dbuiltin, dstore, DV.cells, setAt, dslice, dboundOk, dappend, appTag, rowsOf, elemOk, growLimit, dbuildCells, dbuildCells.go, structOk, fieldsOk, dbuildRows, goInt, h0, ty22]
    simp only [Tag.isNN] at hnn
    rw [if_pos hnn]
    simp [drunL, drunO, dwanted, dopS, own, plainOf, dop, dput, eval, ofVal, Then, Ex.then, Ex.inBlock, upd, dbin, Tag.isNN, nilTest, intCmp, dload, dpart, TyI.agg, dfieldAddr, dfield, dindexAddr, dindex, dlen, lenOk, dlookup, mapOf, assocM, keyFits, dmapUpdate, dcallee, dcall, tabOf, dbuiltin, dstore, DV.cells, setAt, dslice, dboundOk, dappend, appTag, rowsOf, elemOk, growLimit, dbuildCells, dbuildCells.go, structOk, fieldsOk, dbuildRows, goInt]
    refine hK _ _ ?_ rfl; clear hK K
    refine Dwp.condF (by simp [eval, upd]) (Dwp.skip ?_)
    refine Dwp.step tab0 rfl fun K hK => ?_
    have hle : l.length ≤ 16777216 := by omega
    simp [drunL, drunO, dwanted, dopS, own, plainOf, dop, dput, eval, ofVal, Then, Ex.then, Ex.inBlock, upd, dbin, Tag.isNN, nilTest, intCmp, dload, dpart, TyI.agg, dfieldAddr, dfield, dindexAddr, dindex, dlen, lenOk, dlookup, mapOf, assocM, keyFits, dmapUpdate, dcallee, dcall, tabOf, dbuiltin, dstore, DV.cells, setAt, dslice, dboundOk, dappend, appTag, rowsOf, elemOk, growLimit, dbuildCells, dbuildCells.go, structOk, fieldsOk, dbuildRows, goInt, h0, ty22, ty9, hle]
    refine hK _ _ (Dwp.ret ?_) rfl
    simp [Done, dresults, dres, frz, frz1, frz2, init, arg1, arg2, arg3, EncR.one, EncR.and, Enc.bool, Enc.int, Enc.str, Enc.strs, Enc.slice, Enc.agg, Enc.tup, Enc.err, Enc.fn, upd, hd]
  cases l with
  | nil =>
    refine Dwp.nilCase 0 1 (by simp [init, arg1, arg2, arg3, EncR.one, EncR.and, Enc.bool, Enc.int, Enc.str, Enc.strs, Enc.slice, Enc.agg, Enc.tup, Enc.err, Enc.fn]) ?_ (go _ .nn (.inr rfl) (by simp [upd]) _ rfl)
    refine Dwp.step tab0 rfl fun K hK => ?_
    simp [drunL, drunO, dwanted, dopS, own, plainOf, dop, dput, eval, ofVal, Then, Ex.then, Ex.inBlock, upd, dbin, Tag.isNN, nilTest, intCmp, dload, dpart, TyI.agg, dfieldAddr, dfield, dindexAddr, dindex, dlen, lenOk, dlookup, mapOf, assocM, keyFits, dmapUpdate, dcallee, dcall, tabOf, dbuiltin, dstore, DV.cells, setAt, dslice, dboundOk, dappend, appTag, rowsOf, elemOk, growLimit, dbuildCells, dbuildCells.go, structOk, fieldsOk, dbuildRows, goInt]
    refine hK _ _ ?_ rfl; clear hK K
    refine Dwp.seq ?_
    refine Dwp.step tab0 rfl fun K hK => ?_
    simp [drunL, drunO, dwanted, dopS, own, plainOf, dop, dput, eval, ofVal, Then, Ex.then, Ex.inBlock, upd, dbin, Tag.isNN, nilTest, intCmp, dload, dpart, TyI.agg, dfieldAddr, dfield, dindexAddr, dindex, dlen, lenOk, dlookup, mapOf, assocM, keyFits, dmapUpdate, dcallee, dcall, tabOf, dbuiltin, dstore, DV.cells, setAt, dslice, dboundOk, dappend, appTag, rowsOf, elemOk, growLimit, dbuildCells, dbuildCells.go, structOk, fieldsOk, dbuildRows, goInt, ty22]
    refine hK _ _ ?_ rfl; clear hK K
    refine Dwp.condT (by simp [eval, upd]) ?_
    refine Dwp.step tab0 rfl fun K hK => ?_
    simp [drunL, drunO, dwanted, dopS, own, plainOf, dop, dput, eval, ofVal, Then, Ex.then, Ex.inBlock, upd, dbin, Tag.isNN, nilTest, intCmp, dload, dpart, TyI.agg, dfieldAddr, dfield, dindexAddr, dindex, dlen, lenOk, dlookup, mapOf, assocM, keyFits, dmapUpdate, dcallee, dcall, tabOf, dbuiltin, dstore, DV.cells, setAt, dslice, dboundOk, dappend, appTag, rowsOf, elemOk, growLimit, dbuildCells, dbuildCells.go, structOk, fieldsOk, dbuildRows, goInt]
    refine hK _ _ (Dwp.ret ?_) rfl
    simp [Done, dresults, dres, frz, frz1, frz2, init, arg1, arg2, arg3, EncR.one, EncR.and, Enc.bool, Enc.int, Enc.str, Enc.strs, Enc.slice, Enc.agg, Enc.tup, Enc.err, Enc.fn, Ex.then, upd]
  | cons x r => exact go _ .none (.inl ⟨rfl, by simp⟩) (by simp [init, arg1, arg2, arg3, EncR.one, EncR.and, Enc.bool, Enc.int, Enc.str, Enc.strs, Enc.slice, Enc.agg, Enc.tup, Enc.err, Enc.fn]) _ rfl
theorem e349 : Go.FA.Good Tryz.prog (349, s349) := ⟨c349, Tryz.f349, _, Tryz.func349, rfl, by decide⟩

def s345 : Sp := sp (arg2 Enc.book Enc.opd) Enc.bool (fun x => some (decide (x.2.args.length ≤ 8) && x.2.args.all x.1.has))
theorem t133 : TabOk Tryz.prog (tabOf [(311, s311)]) := .cons e311 .nil
theorem c345 : CallSound Tryz.prog 345 s345 := by
  refine CallSound.of_sp (T := tabOf [(311, s311)]) Tryz.func345 rfl (Nat.le_of_ble_eq_true rfl) fun E x y hy => ?_
  obtain ⟨b, o⟩ := x
  simp at hy; subst hy
  have hk : (EncR.book.enc b).length = 3 := EncR.book.len b
  have ht3 : (EncR.book.enc b).take 3 = EncR.book.enc b := List.take_of_length_le (by rw [hk]; exact Nat.le_refl _)
  refine Dwp.step t133 rfl fun K hK => ?_
  simp [drunL, drunO, dwanted, dopS, own, plainOf, dop, dput, eval, ofVal, Then, Ex.then, Ex.inBlock, upd, dbin, Tag.isNN, nilTest, intCmp, dload, dpart, TyI.agg, dfieldAddr, dfield, dindexAddr, dindex, dlen, lenOk, dlookup, mapOf, assocM, keyFits, dmapUpdate, dcallee, dcall, tabOf, dbuiltin, dstore, DV.cells, setAt, dslice, dboundOk, dappend, appTag, rowsOf, elemOk, growLimit, dbuildCells, dbuildCells.go, structOk, fieldsOk, dbuildRows, goInt, init, arg1, arg2, arg3, EncR.one, EncR.and, Enc.bool, Enc.int, Enc.str, Enc.strs, Enc.slice, Enc.agg, Enc.tup, Enc.err, Enc.fn, Enc.book, Enc.opd]
  refine hK _ _ ?_ rfl; clear hK K
  refine Dwp.step t133 rfl fun K hK => ?_
  by_cases h : o.args.length ≤ 8
  · have h' : (o.args.length : Int) ≤ 8 := by omega
    have g := call311 (tabOf [(311, s311)]) rfl b (Enc.strs.enc o.args) o.args (Enc.strs.de _) (by unfold lim; omega)
    simp only [init, arg1, arg2, arg3, EncR.one, EncR.and, Enc.bool, Enc.int, Enc.str, Enc.strs, Enc.slice, Enc.agg, Enc.tup, Enc.err, Enc.fn] at g
    simp [drunL, dwanted, dopS, own, plainOf, dop, dput, eval, ofVal, Then, upd, dfieldAddr, dload, dpart, TyI.agg, ty83, ty229, ty22, ty9, ty80, ty3, ty81, ty49, EncR.opd, init, arg1, arg2, arg3, EncR.one, EncR.and, Enc.bool, Enc.int, Enc.str, Enc.strs, Enc.slice, Enc.agg, Enc.tup, Enc.err, Enc.fn, dbuiltin, lenOk, dlen, goInt, dbin, intCmp, dcallee, hk, ht3, h', g]
    refine hK _ _ (Dwp.ret ?_) rfl
    simp [Done, dresults, dres, frz, frz1, frz2, init, arg1, arg2, arg3, EncR.one, EncR.and, Enc.bool, Enc.int, Enc.str, Enc.strs, Enc.slice, Enc.agg, Enc.tup, Enc.err, Enc.fn, upd, h]
  · have h' : ¬ (o.args.length : Int) ≤ 8 := by omega
    simp [drunL, dwanted, dopS, own, plainOf, dop, dput, eval, ofVal, Then, upd, dfieldAddr, dload, dpart, TyI.agg, ty83, ty229, ty22, ty9, ty80, ty3, ty81, ty49, EncR.opd, init, arg1, arg2, arg3, EncR.one, EncR.and, Enc.bool, Enc.int, Enc.str, Enc.strs, Enc.slice, Enc.agg, Enc.tup, Enc.err, Enc.fn, dbuiltin, lenOk, dlen, goInt, dbin, intCmp, h']
    refine hK _ _ (Dwp.ret ?_) rfl
    simp [Done, dresults, dres, frz, frz1, frz2, init, arg1, arg2, arg3, EncR.one, EncR.and, Enc.bool, Enc.int, Enc.str, Enc.strs, Enc.slice, Enc.agg, Enc.tup, Enc.err, Enc.fn, upd, h]
theorem e345 : Go.FA.Good Tryz.prog (345, s345) := ⟨c345, Tryz.f345, _, Tryz.func345, rfl, by decide⟩

def okBinding (o : OpD) : Bool :=
  if o.prec = 0 then decide (o.assoc = 0) else decide (0 < o.prec) && decide (o.prec ≤ 20) && decide (0 < o.pieces.length) && decide (0 ≤ o.assoc) && decide (o.assoc ≤ 2)
def s347 : Sp := sp (arg1 Enc.opd) Enc.bool (fun o => some (okBinding o))
theorem c347 : CallSound Tryz.prog 347 s347 := by
  refine CallSound.of_sp (T := tabOf []) Tryz.func347 rfl (Nat.le_of_ble_eq_true rfl) fun E o y hy => ?_
  simp at hy; subst hy
  refine Dwp.step tab0 rfl fun K hK => ?_
  simp [drunL, drunO, dwanted, dopS, own, plainOf, dop, dput, eval, ofVal, Then, Ex.then, Ex.inBlock, upd, dbin, Tag.isNN, nilTest, intCmp, dload, dpart, TyI.agg, dfieldAddr, dfield, dindexAddr, dindex, dlen, lenOk, dlookup, mapOf, assocM, keyFits, dmapUpdate, dcallee, dcall, tabOf, dbuiltin, dstore, DV.cells, setAt, dslice, dboundOk, dappend, appTag, rowsOf, elemOk, growLimit, dbuildCells, dbuildCells.go, structOk, fieldsOk, dbuildRows, goInt, init, arg1, arg2, arg3, EncR.one, EncR.and, Enc.bool, Enc.int, Enc.str, Enc.strs, Enc.slice, Enc.agg, Enc.tup, Enc.err, Enc.fn, Enc.opd]
  refine hK _ _ ?_ rfl; clear hK K
  refine Dwp.seq ?_
  refine Dwp.step tab0 rfl fun K hK => ?_
  simp [drunL, drunO, dwanted, dopS, own, plainOf, dop, dput, eval, ofVal, Then, Ex.then, Ex.inBlock, upd, dbin, Tag.isNN, nilTest, intCmp, dload, dpart, TyI.agg, dfieldAddr, dfield, dindexAddr, dindex, dlen, lenOk, dlookup, mapOf, assocM, keyFits, dmapUpdate, dcallee, dcall, tabOf, dbuiltin, dstore, DV.cells, setAt, dslice, dboundOk, dappend, appTag, rowsOf, elemOk, growLimit, dbuildCells, dbuildCells.go, structOk, fieldsOk, dbuildRows, goInt, ty83, ty3, EncR.opd]
  refine hK _ _ ?_ rfl; clear hK K
  by_cases h0 : o.prec = 0
  · refine Dwp.condT (by simp [eval, upd, h0]) ?_
    refine Dwp.step tab0 rfl fun K hK => ?_
    simp [drunL, drunO, dwanted, dopS, own, plainOf, dop, dput, eval, ofVal, Then, Ex.then, Ex.inBlock, upd, dbin, Tag.isNN, nilTest, intCmp, dload, dpart, TyI.agg, dfieldAddr, dfield, dindexAddr, dindex, dlen, lenOk, dlookup, mapOf, assocM, keyFits, dmapUpdate, dcallee, dcall, tabOf, dbuiltin, dstore, DV.cells, setAt, dslice, dboundOk, dappend, appTag, rowsOf, elemOk, growLimit, dbuildCells, dbuildCells.go, structOk, fieldsOk, dbuildRows, goInt, ty83, ty3, ty81]
    refine hK _ _ (Dwp.ret ?_) rfl
    simp [Done, dresults, dres, frz, frz1, frz2, init, arg1, arg2, arg3, EncR.one, EncR.and, Enc.bool, Enc.int, Enc.str, Enc.strs, Enc.slice, Enc.agg, Enc.tup, Enc.err, Enc.fn, Ex.then, upd, okBinding, h0]
    rfl
  · refine Dwp.condF (by simp [eval, upd, h0]) (Dwp.skip ?_)
    refine Dwp.step tab0 rfl fun K hK => ?_
    by_cases h1 : 0 < o.prec <;> by_cases h2 : o.prec ≤ 20 <;> by_cases h3 : 0 < o.pieces.length <;> by_cases h4 : 0 ≤ o.assoc <;> by_cases h5 : o.assoc ≤ 2 <;> (
      simp [drunL, dwanted, dopS, own, plainOf, dop, dput, eval, ofVal, Then, upd, dfieldAddr, dload, dpart, TyI.agg, ty83, ty3, ty81, ty80, dbuiltin, lenOk, dlen, goInt, dbin, intCmp, Enc.pies, Enc.slice, h0, h1, h2, h3, h4, h5]
      refine hK _ _ (Dwp.ret ?_) rfl
      simp [Done, dresults, dres, frz, frz1, frz2, init, arg1, arg2, arg3, EncR.one, EncR.and, Enc.bool, Enc.int, Enc.str, Enc.strs, Enc.slice, Enc.agg, Enc.tup, Enc.err, Enc.fn, upd, okBinding, h0, h1, h2, h3, h4, h5])
theorem e347 : Go.FA.Good Tryz.prog (347, s347) := ⟨c347, Tryz.f347, _, Tryz.func347, rfl, by decide⟩
end Go.Proofs.Yt
namespace Go.Proofs.Yt
open Go Go.FA Go.Proofs
set_option linter.unusedVariables false
set_option linter.unusedSimpArgs false
set_option maxRecDepth 100000

@[simp] theorem pie_k : EncR.pie.k = 2 := rfl
@[simp] theorem opd_k : EncR.opd.k = 7 := rfl
@[simp] theorem bel_k : EncR.bel.k = 2 := rfl
@[simp] theorem book_k : EncR.book.k = 3 := rfl
@[simp] theorem sigd_k : EncR.sigd.k = 5 := rfl
theorem pies_dec (l : List Pie) : decRows EncR.pie (l.map EncR.pie.enc) = some l := decRows_enc EncR.pie l
theorem ints_dec (l : List Int) : decRows (EncR.one Enc.i64) (l.map fun x => [DV.lit (.int .i64 x)]) = some l := decRows_enc (EncR.one Enc.i64) l
def s122 : Sp := sp (arg1 Enc.ints) Enc.ints (fun l => if l.length ≤ 1048576 then some l else none)
def s121 : Sp := sp (arg1 Enc.pies) Enc.pies (fun l => if l.length ≤ 1048576 then some l else none)
end Go.Proofs.Yt
namespace Go.Proofs.Yt
open Go Go.FA Go.Proofs
set_option linter.unusedVariables false
set_option linter.unusedSimpArgs false
set_option maxRecDepth 100000

/-- a slice under way: nil, or owned at its end -/
def Acc (σ : St) (k : Nat) (rows : List (List DV)) (d : DV) : Prop := rows = [] ∧ d = .lit (.slice none 0 0) ∨ ∃ tk g, d = .slice k (.tok tk g) rows ∧ σ.toks tk = some g
theorem Acc.dec {α : Type} {σ : St} {A : EncR α} {rows : List (List DV)} {d : DV} {l : List α} (h : Acc σ A.k rows d) (hl : decRows A rows = some l) : (Enc.slice A).dec d = some l := by
  rcases h with ⟨rfl, rfl⟩ | ⟨tk, g, rfl, _⟩
  · simp [decRows] at hl; subst hl; rfl
  · simp [Enc.slice, hl]
theorem Acc.toks {σ τ : St} {k : Nat} {rows : List (List DV)} {d : DV} (h : Acc σ k rows d) (e : τ.toks = σ.toks) : Acc τ k rows d := by
  unfold Acc; rw [e]; exact h
theorem acc_append {P : Program} {σ : St} {k : Nat} {rows xs : List (List DV)} {d : DV} {tag : Tag} {t e : TypeId} {i : TyI} {b c : Nat} {z : DV} (id : Nat) (h : Acc σ k rows d)
    (ht : tyOf P t = some ⟨.slice e, b, c, z⟩) (he : tyOf P e = some i) (hk : i.size = k) (ho : elemOk i = true) (hl : rows.length + xs.length ≤ growLimit) :
    ∃ d' tk g, dappend P id σ t d (.slice k tag xs) = some (d', { σ with toks := upd σ.toks tk (some g) }) ∧ Acc { σ with toks := upd σ.toks tk (some g) } k (rows ++ xs) d' := by
  subst hk
  rcases h with ⟨rfl, rfl⟩ | ⟨tk, g, rfl, hg⟩
  · refine ⟨.slice i.size (.tok id 0) xs, id, 0, ?_, .inr ⟨id, 0, by simp, by simp [upd]⟩⟩
    simp at hl
    simp [dappend, ht, he, rowsOf, appTag, ho, hl]
  · refine ⟨.slice i.size (.tok tk (g + 1)) (rows ++ xs), tk, g + 1, ?_, .inr ⟨tk, g + 1, rfl, by simp [upd]⟩⟩
    simp [dappend, ht, he, rowsOf, appTag, ho, hl, hg]

/-- validStrict -/
def s348 : Sp := sp (arg1 Enc.opd) Enc.bool (fun o => if o.args.length ≤ lim ∧ o.strict.length ≤ lim then some (o.strict.all (fun n => decide (1 ≤ n) && decide (n ≤ o.args.length)) && decide o.strict.Nodup) else none)
def inv348 (o : OpD) : Nat → (Nat → DV) → St → Prop := fun k a σ => ∃ i, i ≤ o.strict.length ∧ k = o.strict.length - i ∧ ((o.strict.take i).all fun n => decide (1 ≤ n) && decide (n ≤ o.args.length)) = true ∧
  a 1 = .row (EncR.opd.enc o) 0 ∧ a 6 = .slice 1 .none (o.strict.map fun n => [DV.lit (.int .i64 n)]) ∧ a 7 = .lit (.int .i64 o.strict.length) ∧ a 8 = .lit (.int .i64 i)
theorem t136 : TabOk Tryz.prog (tabOf [(356, s356)]) := .cons e356 .nil
theorem all_take {α : Type} {p : α → Bool} {l : List α} {i : Nat} (h : i < l.length) (hp : (l.take i).all p = true) (hx : p l[i] = true) : (l.take (i + 1)).all p = true := by
  rw [List.take_succ_eq_append_getElem h]; simp only [List.all_append, hp, List.all_cons, hx, List.all_nil]; rfl
theorem all_false {α : Type} {p : α → Bool} {l : List α} {i : Nat} (h : i < l.length) (hx : p l[i] = false) : l.all p = false := by
  rw [List.all_eq_false]; exact ⟨l[i], List.getElem_mem h, by simp [hx]⟩
theorem call356 (T : Tab) (hT : T 356 = some s356) (l : List Int) (hl : l.length ≤ lim) : dcall T 356 [.slice 1 .none (l.map fun n => [DV.lit (.int .i64 n)])] = some (.lit (.bool (decide l.Nodup))) := by
  have hd := ints_dec l
  simp [dcall, hT, s356, sp, arg1, EncR.one, Enc.ints, Enc.slice, Enc.i64, Enc.int, Enc.bool] at hd ⊢
  simp [hd, hl]
theorem c348 : CallSound Tryz.prog 348 s348 := by
  refine CallSound.of_sp (T := tabOf [(356, s356)]) Tryz.func348 rfl (Nat.le_of_ble_eq_true rfl) fun E o y hy => ?_
  by_cases hlim : o.args.length ≤ lim ∧ o.strict.length ≤ lim <;> simp [hlim] at hy
  subst hy
  have hl1 := hlim.1
  have hl2 := hlim.2
  unfold lim at hl1 hl2
  refine Dwp.step t136 rfl fun K hK => ?_
  simp [drunL, drunO, dwanted, dopS, own, plainOf, dop, dput, eval, ofVal, Then, Ex.then, Ex.inBlock, upd, dbin, Tag.isNN, nilTest, intCmp, dload, dpart, TyI.agg, dfieldAddr, dfield, dindexAddr, dindex, dlen, lenOk, dlookup, mapOf, assocM, keyFits, dmapUpdate, dcallee, dcall, tabOf, dbuiltin, dstore, DV.cells, setAt, dslice, dboundOk, dappend, appTag, rowsOf, elemOk, growLimit, dbuildCells, dbuildCells.go, structOk, fieldsOk, dbuildRows, goInt, init, arg1, arg2, arg3, EncR.one, EncR.and, Enc.bool, Enc.int, Enc.str, Enc.strs, Enc.slice, Enc.agg, Enc.tup, Enc.err, Enc.fn, Enc.opd]
  refine hK _ _ ?_ rfl; clear hK K
  refine Dwp.seq ?_
  refine Dwp.step t136 rfl fun K hK => ?_
  simp [drunL, drunO, dwanted, dopS, own, plainOf, dop, dput, eval, ofVal, Then, Ex.then, Ex.inBlock, upd, dbin, Tag.isNN, nilTest, intCmp, dload, dpart, TyI.agg, dfieldAddr, dfield, dindexAddr, dindex, dlen, lenOk, dlookup, mapOf, assocM, keyFits, dmapUpdate, dcallee, dcall, tabOf, dbuiltin, dstore, DV.cells, setAt, dslice, dboundOk, dappend, appTag, rowsOf, elemOk, growLimit, dbuildCells, dbuildCells.go, structOk, fieldsOk, dbuildRows, goInt, ty83, ty49, EncR.opd, Enc.ints, Enc.slice, EncR.one, Enc.i64, Enc.int]
  refine hK _ _ ?_ rfl; clear hK K
  refine Dwp.block (Dwp.loop (inv348 o) o.strict.length ⟨0, by simp, by simp, by simp, by simp [upd, EncR.opd, Enc.ints, Enc.slice, EncR.one, Enc.i64, Enc.int], by simp [upd], by simp [upd], by simp [upd]⟩ ?_)
  rintro k a σ ⟨i, hi, rfl, hall, h1, h6, h7, h8⟩
  refine Dwp.step t136 rfl fun K hK => ?_
  simp [drunL, drunO, dwanted, dopS, own, plainOf, dop, dput, eval, ofVal, Then, Ex.then, Ex.inBlock, upd, dbin, Tag.isNN, nilTest, intCmp, dload, dpart, TyI.agg, dfieldAddr, dfield, dindexAddr, dindex, dlen, lenOk, dlookup, mapOf, assocM, keyFits, dmapUpdate, dcallee, dcall, tabOf, dbuiltin, dstore, DV.cells, setAt, dslice, dboundOk, dappend, appTag, rowsOf, elemOk, growLimit, dbuildCells, dbuildCells.go, structOk, fieldsOk, dbuildRows, goInt, h7, h8]
  refine hK _ _ ?_ rfl; clear hK K
  by_cases hlt : i < o.strict.length
  · refine Dwp.seq (Dwp.condT (by simp [eval, upd, hlt]) (Dwp.skip ?_))
    refine Dwp.seq (Dwp.block ?_)
    refine Dwp.step t136 rfl fun K hK => ?_
    simp [drunL, drunO, dwanted, dopS, own, plainOf, dop, dput, eval, ofVal, Then, Ex.then, Ex.inBlock, upd, dbin, Tag.isNN, nilTest, intCmp, dload, dpart, TyI.agg, dfieldAddr, dfield, dindexAddr, dindex, dlen, lenOk, dlookup, mapOf, assocM, keyFits, dmapUpdate, dcallee, dcall, tabOf, dbuiltin, dstore, DV.cells, setAt, dslice, dboundOk, dappend, appTag, rowsOf, elemOk, growLimit, dbuildCells, dbuildCells.go, structOk, fieldsOk, dbuildRows, goInt, h6, h8, ty49, ty3, hlt]
    refine hK _ _ ?_ rfl; clear hK K
    refine Dwp.step t136 rfl fun K hK => ?_
    by_cases hx : o.strict[i] < 1
    · simp [drunL, drunO, dwanted, dopS, own, plainOf, dop, dput, eval, ofVal, Then, Ex.then, Ex.inBlock, upd, dbin, Tag.isNN, nilTest, intCmp, dload, dpart, TyI.agg, dfieldAddr, dfield, dindexAddr, dindex, dlen, lenOk, dlookup, mapOf, assocM, keyFits, dmapUpdate, dcallee, dcall, tabOf, dbuiltin, dstore, DV.cells, setAt, dslice, dboundOk, dappend, appTag, rowsOf, elemOk, growLimit, dbuildCells, dbuildCells.go, structOk, fieldsOk, dbuildRows, goInt, h1, hx]
      refine hK _ _ ?_ rfl; clear hK K
      refine Dwp.condT (by simp [eval, upd]) ?_
      refine Dwp.step t136 rfl fun K hK => ?_
      simp [drunL, drunO, dwanted, dopS, own, plainOf, dop, dput, eval, ofVal, Then, Ex.then, Ex.inBlock, upd, dbin, Tag.isNN, nilTest, intCmp, dload, dpart, TyI.agg, dfieldAddr, dfield, dindexAddr, dindex, dlen, lenOk, dlookup, mapOf, assocM, keyFits, dmapUpdate, dcallee, dcall, tabOf, dbuiltin, dstore, DV.cells, setAt, dslice, dboundOk, dappend, appTag, rowsOf, elemOk, growLimit, dbuildCells, dbuildCells.go, structOk, fieldsOk, dbuildRows, goInt]
      refine hK _ _ (Dwp.ret ?_) rfl
      have := all_false (p := fun n => decide (1 ≤ n) && decide (n ≤ (o.args.length : Int))) hlt (by simp; omega)
      simp [Done, dresults, dres, frz, frz1, frz2, init, arg1, arg2, arg3, EncR.one, EncR.and, Enc.bool, Enc.int, Enc.str, Enc.strs, Enc.slice, Enc.agg, Enc.tup, Enc.err, Enc.fn, Ex.then, Ex.inBlock, upd, this]
    · by_cases hy : (o.args.length : Int) < o.strict[i]
      · simp [drunL, drunO, dwanted, dopS, own, plainOf, dop, dput, eval, ofVal, Then, Ex.then, Ex.inBlock, upd, dbin, Tag.isNN, nilTest, intCmp, dload, dpart, TyI.agg, dfieldAddr, dfield, dindexAddr, dindex, dlen, lenOk, dlookup, mapOf, assocM, keyFits, dmapUpdate, dcallee, dcall, tabOf, dbuiltin, dstore, DV.cells, setAt, dslice, dboundOk, dappend, appTag, rowsOf, elemOk, growLimit, dbuildCells, dbuildCells.go, structOk, fieldsOk, dbuildRows, goInt, h1, hx, hy, ty83, ty22, EncR.opd, Enc.strs, Enc.slice]
        refine hK _ _ ?_ rfl; clear hK K
        refine Dwp.condT (by simp [eval, upd]) ?_
        refine Dwp.step t136 rfl fun K hK => ?_
        simp [drunL, drunO, dwanted, dopS, own, plainOf, dop, dput, eval, ofVal, Then, Ex.then, Ex.inBlock, upd, dbin, Tag.isNN, nilTest, intCmp, dload, dpart, TyI.agg, dfieldAddr, dfield, dindexAddr, dindex, dlen, lenOk, dlookup, mapOf, assocM, keyFits, dmapUpdate, dcallee, dcall, tabOf, dbuiltin, dstore, DV.cells, setAt, dslice, dboundOk, dappend, appTag, rowsOf, elemOk, growLimit, dbuildCells, dbuildCells.go, structOk, fieldsOk, dbuildRows, goInt]
        refine hK _ _ (Dwp.ret ?_) rfl
        have := all_false (p := fun n => decide (1 ≤ n) && decide (n ≤ (o.args.length : Int))) hlt (by simp; omega)
        simp [Done, dresults, dres, frz, frz1, frz2, init, arg1, arg2, arg3, EncR.one, EncR.and, Enc.bool, Enc.int, Enc.str, Enc.strs, Enc.slice, Enc.agg, Enc.tup, Enc.err, Enc.fn, Ex.then, Ex.inBlock, upd, this]
      · simp [drunL, drunO, dwanted, dopS, own, plainOf, dop, dput, eval, ofVal, Then, Ex.then, Ex.inBlock, upd, dbin, Tag.isNN, nilTest, intCmp, dload, dpart, TyI.agg, dfieldAddr, dfield, dindexAddr, dindex, dlen, lenOk, dlookup, mapOf, assocM, keyFits, dmapUpdate, dcallee, dcall, tabOf, dbuiltin, dstore, DV.cells, setAt, dslice, dboundOk, dappend, appTag, rowsOf, elemOk, growLimit, dbuildCells, dbuildCells.go, structOk, fieldsOk, dbuildRows, goInt, h1, hx, hy, ty83, ty22, EncR.opd, Enc.strs, Enc.slice]
        refine hK _ _ ?_ rfl; clear hK K
        refine Dwp.condF (by simp [eval, upd]) (Dwp.skip ?_)
        refine Dwp.reg t136 rfl fun K hK => ?_
        simp [drunL, drunO, dwanted, dopS, own, plainOf, dop, dput, eval, ofVal, Then, Ex.then, Ex.inBlock, upd, dbin, Tag.isNN, nilTest, intCmp, dload, dpart, TyI.agg, dfieldAddr, dfield, dindexAddr, dindex, dlen, lenOk, dlookup, mapOf, assocM, keyFits, dmapUpdate, dcallee, dcall, tabOf, dbuiltin, dstore, DV.cells, setAt, dslice, dboundOk, dappend, appTag, rowsOf, elemOk, growLimit, dbuildCells, dbuildCells.go, structOk, fieldsOk, dbuildRows, goInt, h8]
        refine hK _ _ ?_ rfl; clear hK K
        refine ⟨o.strict.length - (i + 1), by omega, i + 1, by omega, rfl, all_take hlt hall (by simp; omega), by simp [upd, h1], by simp [upd, h6], by simp [upd, h7], by simp [upd, wrap_small (n := (i : Int) + 1) (by omega) (by omega)]⟩
  · refine Dwp.seq (Dwp.condF (by simp [eval, upd, hlt]) (Dwp.exit ?_))
    refine Dwp.step t136 rfl fun K hK => ?_
    rw [List.take_of_length_le (by omega)] at hall
    have g := call356 (tabOf [(356, s356)]) rfl o.strict hlim.2
    simp [dcall, tabOf] at g
    simp [drunL, drunO, dwanted, dopS, own, plainOf, dop, dput, eval, ofVal, Then, Ex.then, Ex.inBlock, upd, dbin, Tag.isNN, nilTest, intCmp, dload, dpart, TyI.agg, dfieldAddr, dfield, dindexAddr, dindex, dlen, lenOk, dlookup, mapOf, assocM, keyFits, dmapUpdate, dcallee, dcall, tabOf, dbuiltin, dstore, DV.cells, setAt, dslice, dboundOk, dappend, appTag, rowsOf, elemOk, growLimit, dbuildCells, dbuildCells.go, structOk, fieldsOk, dbuildRows, goInt, h1, ty83, ty49, EncR.opd, Enc.ints, Enc.slice, EncR.one, Enc.i64, Enc.int, g]
    refine hK _ _ (Dwp.ret ?_) rfl
    simp only [hall, Bool.true_and]
    simp [Done, dresults, dres, frz, frz1, frz2, init, arg1, arg2, arg3, EncR.one, EncR.and, Enc.bool, Enc.int, Enc.str, Enc.strs, Enc.slice, Enc.agg, Enc.tup, Enc.err, Enc.fn, upd]
theorem e348 : Go.FA.Good Tryz.prog (348, s348) := ⟨c348, Tryz.f348, _, Tryz.func348, rfl, by decide⟩
end Go.Proofs.Yt
