/- Contracts of functions of the program, by a machine over abstract values; part 5. No condition beyond those of each theorem. -/
import Derived.Test.YtfpejlbfdpeofaaGreatDoorSm3
import Derived.Calls
import Derived.Below
import Derived.Laws.Sem
import Derived.Laws.Cells
import Derived.Laws.World
import Derived.Laws.AppendOwn
import Derived.Laws.Strings
import Derived.Laws.StructEq
import Derived.Laws.Shifts
import Derived.Laws.CopyRow
import Derived.Laws.Append
set_option linter.unusedVariables false
set_option linter.unusedSimpArgs false
namespace Go.FA
def tabsL : List (Nat × List Value) := [(0, [.int .u64 1, .int .u64 10, .int .u64 100, .int .u64 1000, .int .u64 10000, .int .u64 100000, .int .u64 1000000, .int .u64 10000000, .int .u64 100000000, .int .u64 1000000000, .int .u64 10000000000, .int .u64 100000000000, .int .u64 1000000000000, .int .u64 10000000000000, .int .u64 100000000000000, .int .u64 1000000000000000, .int .u64 10000000000000000, .int .u64 100000000000000000, .int .u64 1000000000000000000, .int .u64 10000000000000000000])]
end Go.FA
namespace Go.FA
open Go.RowKit
inductive Tag where
  | none
  | nn
  | full
  | tok (t g : Nat)
inductive DV where
  | junk
  | lit (v : Value)
  /-- a string that is none of these -/
  | strNot (l : List ByteArray)
  | ptr (id off : Nat)
  /-- a slice of k cells an element, whose memory is an object -/
  | live (id k off n : Nat)
  | row (cells : List DV) (off : Nat)
  | slice (k : Nat) (tag : Tag) (rows : List (List DV))
  | map (id : Nat)
  | fmap (ks : List Value) (vs : List DV)
  | func (fn : Fn) (first captured : List DV)
  | iface (t : TypeId) (v : DV)
  | agg (cells : List DV)
  | tuple (vs : List DV)
structure Qdy where
  gen : Nat
  blk : Nat
  fr : Nat
  ce : Nat
def Stamped (es : Array MapEntry) (clock : Nat) : Prop := (∀ e ∈ es.toList, e.born < clock) ∧ (es.toList.map (·.born)).Nodup
structure Ctx where
  obj : Nat → Option Nat
  tk : Nat → Option Qdy
  pc : Nat → Nat → Prop
  pm : Nat → Prop
  /-- blocks from here on are the call's own -/
  lo : Nat
def ownB (C : Ctx) (w : World) (b : Nat) : Prop := C.lo ≤ b ∧ ∃ c e, w.heap[b]? = some (.cells c e)
def Qjv (C : Ctx) (w : World) (k n : Nat) (b o cap : Nat) : Tag → Prop
  | .none => True
  | .nn => True
  | .full => cap = n ∧ ownB C w b
  | .tok t g => (∃ x, C.tk t = some x ∧ g ≤ x.gen ∧ (g = x.gen → cap = n ∨ (x.blk = b ∧ x.fr = o + n * k ∧ x.ce = o + cap * k))) ∧ ownB C w b
def Qjf (C : Ctx) (some : Bool) : Tag → Prop
  | .tok t g => ∃ x, C.tk t = .some x ∧ g ≤ x.gen
  | .nn => some = true
  | _ => True
def Flat (ys : List Value) : Prop := ∀ y ∈ ys, y.oneCell' = true
mutual
def Qy (C : Ctx) (w : World) : DV → Value → Prop
  | .junk, _ => True
  | .strNot l, x => ∃ s, x = .string s ∧ s ∉ l
  | .lit v, x => x = v
  | .ptr id off, x => ∃ b, C.obj id = some b ∧ x = .pointer (some ⟨b, off, none⟩)
  | .live id k off n, x => ∃ b cap c e, C.obj id = some b ∧ x = .slice (some ⟨b, off, none⟩) n cap ∧ n ≤ cap ∧ C.lo ≤ b ∧ w.heap[b]? = some (.cells c e) ∧ off + cap * k ≤ c.size
  | .row cells off, x => ∃ b o, x = .pointer (some ⟨b, o + off, none⟩) ∧ Qa6 C w b o cells
  | .slice k tag rows, x =>
    (∃ b o cap, x = .slice (some ⟨b, o, none⟩) rows.length cap ∧ rows.length ≤ cap ∧ QaP C w k b o rows ∧ Qjv C w k rows.length b o cap tag) ∨
    (∃ ad : Option Addr, x = .slice ad 0 0 ∧ rows = [] ∧ Qjf C ad.isSome tag)
  | .map id, x => ∃ b, C.obj id = some b ∧ x = .map (some b)
  | .fmap ks vs, x => ∃ b es clock, x = .map (some b) ∧ C.pm b ∧ w.heap[b]? = some (.map es clock) ∧ es.toList.map (·.key) = ks ∧ QP C w vs (es.toList.map (·.val)) ∧ Stamped es clock
  | .func fn f c, x => ∃ f' c' : List Value, x = .func fn f'.toArray c'.toArray ∧ QP C w f f' ∧ QP C w c c'
  | .iface t d, x => ∃ y, x = .iface t y ∧ Qy C w d y
  | .agg cs, x => ∃ ys : List Value, x = .agg ys.toArray ∧ QP C w cs ys ∧ Flat ys
  | .tuple cs, x => ∃ ys : List Value, x = .tuple ys.toArray ∧ QP C w cs ys
def QP (C : Ctx) (w : World) : List DV → List Value → Prop
  | [], [] => True
  | d :: ds, v :: vs => Qy C w d v ∧ QP C w ds vs
  | _, _ => False
def Qa6 (C : Ctx) (w : World) (b : Nat) : Nat → List DV → Prop
  | _, [] => True
  | o, d :: ds => (C.pc b o ∧ ∃ v, w.cell? ⟨b, o, none⟩ = some v ∧ v.oneCell' = true ∧ Qy C w d v) ∧ Qa6 C w b (o + 1) ds
def QaP (C : Ctx) (w : World) (k b : Nat) : Nat → List (List DV) → Prop
  | _, [] => True
  | o, r :: rs => r.length = k ∧ Qa6 C w b o r ∧ QaP C w k b (o + k) rs
end
structure Ctx.Le (C C' : Ctx) : Prop where
  obj : ∀ i b, C.obj i = some b → C'.obj i = some b
  tk : ∀ t x, C.tk t = some x → ∃ x', C'.tk t = some x' ∧ x.gen ≤ x'.gen ∧ (x.gen = x'.gen → x' = x)
  pc : ∀ b o, C.pc b o → C'.pc b o
  pm : ∀ b, C.pm b → C'.pm b
  lo : C'.lo = C.lo
theorem Ctx.Le.refl (C : Ctx) : C.Le C := ⟨fun _ _ h => h, fun _ x h => ⟨x, h, Nat.le_refl _, fun _ => rfl⟩, fun _ _ h => h, fun _ h => h, rfl⟩
def Qkm (C : Ctx) (w : World) : Prop := ∀ p ∈ tabsL, C.pm p.1 ∧ ∃ e f, w.heap[p.1]? = some (.cells p.2.toArray e f)
structure Step (C : Ctx) (w w' : World) : Prop where
  cell : ∀ b o, C.pc b o → w'.cell? ⟨b, o, none⟩ = w.cell? ⟨b, o, none⟩
  map : ∀ b, C.pm b → w'.heap[b]? = w.heap[b]?
  own : ∀ b c e, C.lo ≤ b → w.heap[b]? = some (.cells c e) → ∃ c' e', w'.heap[b]? = some (.cells c' e') ∧ c'.size = c.size
theorem Step.refl (C : Ctx) (w : World) : Step C w w := ⟨fun _ _ _ => rfl, fun _ _ => rfl, fun _ c e _ h => ⟨c, e, h, rfl⟩⟩
theorem Qkm.mono {C C' : Ctx} {w w' : World} (h : Qkm C w) (hc : C.Le C') (hs : Step C w w') : Qkm C' w' := fun p hp =>
  have ⟨h1, e, f, h2⟩ := h p hp
  ⟨hc.pm _ h1, e, f, (hs.map _ h1).trans h2⟩
theorem Qfu {C C' : Ctx} {w w' : World} (h : C.Le C') (hs : Step C w w') {b : Nat} (ho : ownB C w b) : ownB C' w' b := by
  obtain ⟨h1, c, e, h2⟩ := ho
  obtain ⟨c', e', h3, _⟩ := hs.own b c e h1 h2
  exact ⟨by rw [h.lo]; exact h1, c', e', h3⟩
theorem tagOk_le {C C' : Ctx} {w w' : World} (h : C.Le C') (hs : Step C w w') {k n b o cap : Nat} {tag : Tag} (ht : Qjv C w k n b o cap tag) : Qjv C' w' k n b o cap tag := by
  cases tag with
  | none => trivial
  | nn => trivial
  | full => exact ⟨ht.1, Qfu h hs ht.2⟩
  | tok t g =>
    obtain ⟨⟨x, hx, hg, hm⟩, ho⟩ := ht
    obtain ⟨x', hx', hle, heq⟩ := h.tk t x hx
    refine ⟨⟨x', hx', Nat.le_trans hg hle, fun e => ?_⟩, Qfu h hs ho⟩
    have : x.gen = x'.gen := by omega
    rw [heq this]; exact hm (by omega)
theorem tagNil_le {C C' : Ctx} (h : C.Le C') {s : Bool} {tag : Tag} (ht : Qjf C s tag) : Qjf C' s tag := by
  cases tag with
  | none => exact ht
  | nn => exact ht
  | full => exact ht
  | tok t g =>
    obtain ⟨x, hx, hg⟩ := ht
    obtain ⟨x', hx', hle, heq⟩ := h.tk t x hx
    exact ⟨x', hx', Nat.le_trans hg hle⟩
section mono
variable {C C' : Ctx} {w w' : World}
mutual
theorem QaH (hc : C.Le C') (hs : Step C w w') : ∀ (d : DV) (v : Value), Qy C w d v → Qy C' w' d v
  | .junk, _, _ => by simp [Qy]
  | .lit _, _, h => by simpa [Qy] using h
  | .strNot _, _, h => by simpa [Qy] using h
  | .ptr id off, _, h => by
    simp only [Qy] at h ⊢
    obtain ⟨b, hb, rfl⟩ := h; exact ⟨b, hc.obj _ _ hb, rfl⟩
  | .live id k off n, _, h => by
    simp only [Qy] at h ⊢
    obtain ⟨b, cap, c, e, h1, rfl, h2, h3, h4, h5⟩ := h
    obtain ⟨c', e', h6, h7⟩ := hs.own b c e h3 h4
    exact ⟨b, cap, c', e', hc.obj _ _ h1, rfl, h2, by rw [hc.lo]; exact h3, h6, by omega⟩
  | .row cells off, _, h => by
    simp only [Qy] at h ⊢
    obtain ⟨b, o, rfl, hr⟩ := h; exact ⟨b, o, rfl, QdV hc hs b cells o hr⟩
  | .slice k tag rows, _, h => by
    simp only [Qy] at h ⊢
    rcases h with ⟨b, o, cap, rfl, hl, hr, ht⟩ | ⟨ad, rfl, hr, ht⟩
    · exact .inl ⟨b, o, cap, rfl, hl, QdR hc hs k b rows o hr, tagOk_le hc hs ht⟩
    · exact .inr ⟨ad, rfl, hr, tagNil_le hc ht⟩
  | .map id, _, h => by
    simp only [Qy] at h ⊢
    obtain ⟨b, hb, rfl⟩ := h; exact ⟨b, hc.obj _ _ hb, rfl⟩
  | .fmap ks vs, _, h => by
    simp only [Qy] at h ⊢
    obtain ⟨b, es, clock, rfl, hp, hh, hk, hl, hst⟩ := h
    exact ⟨b, es, clock, rfl, hc.pm _ hp, by rw [hs.map _ hp]; exact hh, hk, QS hc hs vs _ hl, hst⟩
  | .func fn f c, _, h => by
    simp only [Qy] at h ⊢
    obtain ⟨f', c', rfl, h1, h2⟩ := h
    exact ⟨f', c', rfl, QS hc hs f _ h1, QS hc hs c _ h2⟩
  | .iface t d, _, h => by
    simp only [Qy] at h ⊢
    obtain ⟨y, rfl, h1⟩ := h; exact ⟨y, rfl, QaH hc hs d y h1⟩
  | .agg cs, _, h => by
    simp only [Qy] at h ⊢
    obtain ⟨ys, rfl, h1, h2⟩ := h; exact ⟨ys, rfl, QS hc hs cs ys h1, h2⟩
  | .tuple cs, _, h => by
    simp only [Qy] at h ⊢
    obtain ⟨ys, rfl, h1⟩ := h; exact ⟨ys, rfl, QS hc hs cs ys h1⟩
theorem QS (hc : C.Le C') (hs : Step C w w') : ∀ (ds : List DV) (vs : List Value), QP C w ds vs → QP C' w' ds vs
  | [], [], _ => by simp [QP]
  | d :: ds, v :: vs, h => by
    simp only [QP] at h ⊢
    exact ⟨QaH hc hs d v h.1, QS hc hs ds vs h.2⟩
  | [], _ :: _, h => by simp [QP] at h
  | _ :: _, [], h => by simp [QP] at h
theorem QdV (hc : C.Le C') (hs : Step C w w') (b : Nat) : ∀ (ds : List DV) (o : Nat), Qa6 C w b o ds → Qa6 C' w' b o ds
  | [], _, _ => by simp [Qa6]
  | d :: ds, o, h => by
    simp only [Qa6] at h ⊢
    obtain ⟨⟨hp, v, hv, h1, hr⟩, ht⟩ := h
    exact ⟨⟨hc.pc _ _ hp, v, by rw [hs.cell _ _ hp]; exact hv, h1, QaH hc hs d v hr⟩, QdV hc hs b ds (o + 1) ht⟩
theorem QdR (hc : C.Le C') (hs : Step C w w') (k b : Nat) : ∀ (rs : List (List DV)) (o : Nat), QaP C w k b o rs → QaP C' w' k b o rs
  | [], _, _ => by simp [QaP]
  | r :: rs, o, h => by
    simp only [QaP] at h ⊢
    exact ⟨h.1, QdV hc hs b r o h.2.1, QdR hc hs k b rs (o + k) h.2.2⟩
end
end mono
def Tag.pure : Tag → Bool
  | .tok _ _ => false
  | .full => false
  | _ => true
def Tag.owns : Tag → Bool
  | .tok _ _ => true
  | .full => true
  | _ => false
mutual
def QaV : DV → Bool
  | .junk => false
  | .lit _ => true
  | .strNot _ => true
  | .ptr _ _ => false
  | .live _ _ _ _ => false
  | .row cells _ => QaX cells
  | .slice _ tag rows => tag.pure && Qeh rows
  | .map _ => false
  | .fmap _ vs => QaX vs
  | .func _ f c => QaX f && QaX c
  | .iface _ v => QaV v
  | .agg cs => QaX cs
  | .tuple cs => QaX cs
def QaX : List DV → Bool
  | [] => true
  | d :: ds => QaV d && QaX ds
def Qeh : List (List DV) → Bool
  | [] => true
  | r :: rs => QaX r && Qeh rs
end
section pureS
variable {C C' : Ctx} {w : World}
mutual
theorem Qcl (hpc : ∀ b o, C.pc b o → C'.pc b o) (hpm : ∀ b, C.pm b → C'.pm b) : ∀ (d : DV) (v : Value), QaV d = true → Qy C w d v → Qy C' w d v
  | .junk, _, p, _ => by simp [QaV] at p
  | .lit _, _, _, h => by simpa [Qy] using h
  | .strNot _, _, _, h => by simpa [Qy] using h
  | .ptr id off, _, p, _ => by simp [QaV] at p
  | .live id k off n, _, p, _ => by simp [QaV] at p
  | .row cells off, _, p, h => by
    simp only [Qy, QaV] at h p ⊢
    obtain ⟨b, o, rfl, hr⟩ := h; exact ⟨b, o, rfl, Qfs hpc hpm b cells o p hr⟩
  | .slice k tag rows, _, p, h => by
    simp only [Qy, QaV, Bool.and_eq_true] at h p ⊢
    rcases h with ⟨b, o, cap, rfl, hl, hr, ht⟩ | ⟨ad, rfl, hr, ht⟩
    · refine .inl ⟨b, o, cap, rfl, hl, QdJ hpc hpm k b rows o p.2 hr, ?_⟩
      cases tag with
      | none => trivial
      | nn => trivial
      | full => simp [Tag.pure] at p
      | tok t g => simp [Tag.pure] at p
    · cases tag with
      | none => exact .inr ⟨ad, rfl, hr, trivial⟩
      | nn => exact .inr ⟨ad, rfl, hr, ht⟩
      | full => exact .inr ⟨ad, rfl, hr, trivial⟩
      | tok t g => simp [Tag.pure] at p
  | .map id, _, p, _ => by simp [QaV] at p
  | .fmap ks vs, _, p, h => by
    simp only [Qy, QaV] at h p ⊢
    obtain ⟨b, es, clock, rfl, hp, hh, hk, hl, hst⟩ := h
    exact ⟨b, es, clock, rfl, hpm _ hp, hh, hk, Qbb hpc hpm vs _ p hl, hst⟩
  | .func fn f c, _, p, h => by
    simp only [Qy, QaV, Bool.and_eq_true] at h p ⊢
    obtain ⟨f', c', rfl, h1, h2⟩ := h
    exact ⟨f', c', rfl, Qbb hpc hpm f _ p.1 h1, Qbb hpc hpm c _ p.2 h2⟩
  | .iface t d, _, p, h => by
    simp only [Qy, QaV] at h p ⊢
    obtain ⟨y, rfl, h1⟩ := h; exact ⟨y, rfl, Qcl hpc hpm d y p h1⟩
  | .agg cs, _, p, h => by
    simp only [Qy, QaV] at h p ⊢
    obtain ⟨ys, rfl, h1, h2⟩ := h; exact ⟨ys, rfl, Qbb hpc hpm cs ys p h1, h2⟩
  | .tuple cs, _, p, h => by
    simp only [Qy, QaV] at h p ⊢
    obtain ⟨ys, rfl, h1⟩ := h; exact ⟨ys, rfl, Qbb hpc hpm cs ys p h1⟩
theorem Qbb (hpc : ∀ b o, C.pc b o → C'.pc b o) (hpm : ∀ b, C.pm b → C'.pm b) : ∀ (ds : List DV) (vs : List Value), QaX ds = true → QP C w ds vs → QP C' w ds vs
  | [], [], _, _ => by simp [QP]
  | d :: ds, v :: vs, p, h => by
    simp only [QP, QaX, Bool.and_eq_true] at h p ⊢
    exact ⟨Qcl hpc hpm d v p.1 h.1, Qbb hpc hpm ds vs p.2 h.2⟩
  | [], _ :: _, _, h => by simp [QP] at h
  | _ :: _, [], _, h => by simp [QP] at h
theorem Qfs (hpc : ∀ b o, C.pc b o → C'.pc b o) (hpm : ∀ b, C.pm b → C'.pm b) (b : Nat) : ∀ (ds : List DV) (o : Nat), QaX ds = true → Qa6 C w b o ds → Qa6 C' w b o ds
  | [], _, _, _ => by simp [Qa6]
  | d :: ds, o, p, h => by
    simp only [Qa6, QaX, Bool.and_eq_true] at h p ⊢
    obtain ⟨⟨hp, v, hv, h1, hr⟩, ht⟩ := h
    exact ⟨⟨hpc _ _ hp, v, hv, h1, Qcl hpc hpm d v p.1 hr⟩, Qfs hpc hpm b ds (o + 1) p.2 ht⟩
theorem QdJ (hpc : ∀ b o, C.pc b o → C'.pc b o) (hpm : ∀ b, C.pm b → C'.pm b) (k b : Nat) : ∀ (rs : List (List DV)) (o : Nat), Qeh rs = true → QaP C w k b o rs → QaP C' w k b o rs
  | [], _, _, _ => by simp [QaP]
  | r :: rs, o, p, h => by
    simp only [QaP, Qeh, Bool.and_eq_true] at h p ⊢
    exact ⟨h.1, Qfs hpc hpm b r o p.1 h.2.1, QdJ hpc hpm k b rs (o + k) p.2 h.2.2⟩
end
end pureS
end Go.FA
namespace Go.FA
open Go.RowKit
variable {C C' : Ctx} {w w' : World}
theorem QY : ∀ {ds : List DV} {vs : List Value}, QP C w ds vs → ds.length = vs.length
  | [], [], _ => rfl
  | _ :: ds, _ :: vs, h => by simp only [QP] at h; simp [QY h.2]
  | [], _ :: _, h => by simp [QP] at h
  | _ :: _, [], h => by simp [QP] at h
theorem Qc1 : ∀ {ds : List DV} {vs : List Value}, QP C w ds vs → ∀ {i : Nat} {d : DV}, ds[i]? = some d → ∃ v, vs[i]? = some v ∧ Qy C w d v
  | [], _, _, i, d, hd => by simp at hd
  | d0 :: ds, [], h, _, _, _ => by simp [QP] at h
  | d0 :: ds, v0 :: vs, h, i, d, hd => by
    simp only [QP] at h
    cases i with
    | zero => simp at hd; subst hd; exact ⟨v0, rfl, h.1⟩
    | succ i => simp at hd; obtain ⟨v, hv, hr⟩ := Qc1 h.2 hd; exact ⟨v, by simpa using hv, hr⟩
theorem QhJ : ∀ {ds : List DV} {vs : List Value}, QP C w ds vs → ∀ {i : Nat} {v : Value}, vs[i]? = some v → ∃ d, ds[i]? = some d ∧ Qy C w d v
  | [], [], _, i, d, hd => by simp at hd
  | [], _ :: _, h, _, _, _ => by simp [QP] at h
  | d0 :: ds, [], h, _, _, _ => by simp [QP] at h
  | d0 :: ds, v0 :: vs, h, i, d, hd => by
    simp only [QP] at h
    cases i with
    | zero => simp at hd; subst hd; exact ⟨d0, rfl, h.1⟩
    | succ i => simp at hd; obtain ⟨v, hv, hr⟩ := QhJ h.2 hd; exact ⟨v, by simpa using hv, hr⟩
theorem Qaw : ∀ {ds : List DV} {vs : List Value} {ds' : List DV} {vs' : List Value}, QP C w ds vs → QP C w ds' vs' → QP C w (ds ++ ds') (vs ++ vs')
  | [], [], _, _, _, h' => h'
  | d :: ds, v :: vs, _, _, h, h' => by
    simp only [QP, List.cons_append] at h ⊢
    exact ⟨h.1, Qaw h.2 h'⟩
  | [], _ :: _, _, _, h, _ => by simp [QP] at h
  | _ :: _, [], _, _, h, _ => by simp [QP] at h
theorem QdO : ∀ {ds : List DV} {vs : List Value} (n : Nat), QP C w ds vs → QP C w (ds.take n) (vs.take n)
  | [], [], n, _ => by simp [QP]
  | d :: ds, v :: vs, n, h => by
    cases n with
    | zero => simp [QP]
    | succ n => simp only [QP, List.take_succ_cons] at h ⊢; exact ⟨h.1, QdO n h.2⟩
  | [], _ :: _, _, h => by simp [QP] at h
  | _ :: _, [], _, h => by simp [QP] at h
theorem QdT : ∀ {ds : List DV} {vs : List Value} (n : Nat), QP C w ds vs → QP C w (ds.drop n) (vs.drop n)
  | [], [], n, _ => by simp [QP]
  | d :: ds, v :: vs, n, h => by
    cases n with
    | zero => simpa using h
    | succ n => simp only [QP, List.drop_succ_cons] at h ⊢; exact QdT n h.2
  | [], _ :: _, _, h => by simp [QP] at h
  | _ :: _, [], _, h => by simp [QP] at h
theorem QiR : ∀ {ds : List DV} {vs : List Value} (n : Nat) {d : DV} {v : Value}, QP C w ds vs → Qy C w d v → QP C w (ds.set n d) (vs.set n v)
  | [], [], n, _, _, _, _ => by simp [QP]
  | d :: ds, v :: vs, n, _, _, h, hd => by
    cases n with
    | zero => simp only [QP, List.set_cons_zero] at h ⊢; exact ⟨hd, h.2⟩
    | succ n => simp only [QP, List.set_cons_succ] at h ⊢; exact ⟨h.1, QiR n h.2 hd⟩
  | [], _ :: _, _, _, _, h, _ => by simp [QP] at h
  | _ :: _, [], _, _, _, h, _ => by simp [QP] at h
theorem Qbn {α : Type} (f : α → DV) (g : α → Value) (l : List α) (h : ∀ x ∈ l, Qy C w (f x) (g x)) : QP C w (l.map f) (l.map g) := by
  induction l with
  | nil => simp [QP]
  | cons x l ih =>
    simp only [List.map_cons, QP]
    exact ⟨h x (by simp), ih fun y hy => h y (by simp [hy])⟩
theorem CRel_get {b : Nat} : ∀ {cs : List DV} {o : Nat}, Qa6 C w b o cs → ∀ {i : Nat} {d : DV}, cs[i]? = some d → C.pc b (o + i) ∧ ∃ v, w.cell? ⟨b, o + i, none⟩ = some v ∧ v.oneCell' = true ∧ Qy C w d v
  | [], _, _, i, d, hd => by simp at hd
  | d0 :: ds, o, h, i, d, hd => by
    simp only [Qa6] at h
    cases i with
    | zero => simp at hd; subst hd; exact h.1
    | succ i =>
      simp at hd
      have := CRel_get h.2 hd
      rwa [show o + 1 + i = o + (i + 1) by omega] at this
theorem QhR {b : Nat} : ∀ {cs : List DV} {o : Nat} (n : Nat), n ≤ cs.length → Qa6 C w b o cs → Qa6 C w b (o + n) (cs.drop n)
  | [], o, n, hn, _ => by simp at hn; subst hn; simp [Qa6]
  | d :: ds, o, n, hn, h => by
    cases n with
    | zero => simpa using h
    | succ n =>
      simp only [Qa6] at h
      have := QhR n (by simpa using hn) h.2
      rwa [show o + 1 + n = o + (n + 1) by omega] at this
theorem Qhq {b : Nat} : ∀ {cs : List DV} {o : Nat} (n : Nat), Qa6 C w b o cs → Qa6 C w b o (cs.take n)
  | [], o, n, _ => by simp [Qa6]
  | d :: ds, o, n, h => by
    cases n with
    | zero => simp [Qa6]
    | succ n => simp only [Qa6, List.take_succ_cons] at h ⊢; exact ⟨h.1, Qhq n h.2⟩
theorem Qdw {b : Nat} : ∀ {cs cs' : List DV} {o : Nat}, Qa6 C w b o cs → Qa6 C w b (o + cs.length) cs' → Qa6 C w b o (cs ++ cs')
  | [], _, _, _, h' => by simpa using h'
  | d :: ds, _, o, h, h' => by
    simp only [Qa6, List.cons_append] at h ⊢
    exact ⟨h.1, Qdw h.2 (by rwa [show o + 1 + ds.length = o + (d :: ds).length by simp; omega])⟩
theorem Qfe {b : Nat} : ∀ {cs : List DV} {o : Nat}, Qa6 C w b o cs → ∃ vs : List Value, QP C w cs vs ∧ Flat vs ∧ (∀ i v, vs[i]? = some v → w.cell? ⟨b, o + i, none⟩ = some v)
  | [], o, _ => ⟨[], by simp [QP], by simp [Flat], by simp⟩
  | d :: ds, o, h => by
    simp only [Qa6] at h
    obtain ⟨⟨_, v, hv, h1, hr⟩, ht⟩ := h
    obtain ⟨vs, hl, hf, hc⟩ := Qfe ht
    refine ⟨v :: vs, by simp only [QP]; exact ⟨hr, hl⟩, by intro y hy; rcases List.mem_cons.1 hy with rfl | hy; exact h1; exact hf y hy, ?_⟩
    intro i u hu
    cases i with
    | zero => simp at hu; subst hu; exact hv
    | succ i =>
      simp at hu
      have := hc i u hu
      rwa [show o + 1 + i = o + (i + 1) by omega] at this
theorem Qdv {b : Nat} : ∀ {cs : List DV} {o : Nat} {vs : List Value}, QP C w cs vs → Flat vs → (∀ i v, vs[i]? = some v → C.pc b (o + i) ∧ w.cell? ⟨b, o + i, none⟩ = some v) → Qa6 C w b o cs
  | [], o, _, _, _, _ => by simp [Qa6]
  | d :: ds, o, [], h, _, _ => by simp [QP] at h
  | d :: ds, o, v :: vs, h, hf, hc => by
    simp only [Qa6, QP] at h ⊢
    refine ⟨⟨(hc 0 v rfl).1, v, (hc 0 v rfl).2, hf v (by simp), h.1⟩, Qdv h.2 (fun y hy => hf y (by simp [hy])) fun i u hu => ?_⟩
    have := hc (i + 1) u (by simpa using hu)
    rwa [show o + (i + 1) = o + 1 + i by omega] at this
theorem QiI {k b : Nat} : ∀ {rs : List (List DV)} {o : Nat}, QaP C w k b o rs → ∀ {i : Nat} {r : List DV}, rs[i]? = some r → r.length = k ∧ Qa6 C w b (o + i * k) r
  | [], _, _, i, d, hd => by simp at hd
  | r0 :: rs, o, h, i, r, hr => by
    simp only [QaP] at h
    cases i with
    | zero => simp at hr; subst hr; simpa using ⟨h.1, h.2.1⟩
    | succ i =>
      simp at hr
      have := QiI h.2.2 hr
      rwa [show o + k + i * k = o + (i + 1) * k by rw [Nat.add_mul]; omega] at this
theorem Qeb {k b : Nat} : ∀ {rs : List (List DV)} {o : Nat}, QaP C w k b o rs → Qa6 C w b o rs.flatten ∧ rs.flatten.length = rs.length * k
  | [], _, _ => by simp [Qa6]
  | r :: rs, o, h => by
    simp only [QaP] at h
    have := Qeb h.2.2
    constructor
    · simp only [List.flatten_cons]; exact Qdw h.2.1 (by rw [h.1]; exact this.1)
    · simp only [List.flatten_cons, List.length_append, List.length_cons, this.2, h.1, Nat.add_mul]; omega
theorem Qbx {k b : Nat} : ∀ {rs : List (List DV)} {o : Nat}, (∀ r ∈ rs, r.length = k) → Qa6 C w b o rs.flatten → QaP C w k b o rs
  | [], _, _, _ => by simp [QaP]
  | r :: rs, o, hk, h => by
    simp only [QaP, List.flatten_cons] at h ⊢
    have hr : r.length = k := hk r (by simp)
    have h1 : Qa6 C w b o r := by have := Qhq r.length h; simpa using this
    have h2 := QhR r.length (by simp) h
    simp only [List.drop_left] at h2
    rw [hr] at h2
    exact ⟨hr, h1, Qbx (fun r hr => hk r (by simp [hr])) h2⟩
theorem QeP {k b : Nat} : ∀ {rs : List (List DV)} {o : Nat}, QaP C w k b o rs → ∀ r ∈ rs, r.length = k
  | [], _, _, r, hr => by simp at hr
  | r0 :: rs, o, h, r, hr => by
    simp only [QaP] at h
    rcases List.mem_cons.1 hr with rfl | hr
    · exact h.1
    · exact QeP h.2.2 r hr
theorem Qfa {k b : Nat} : ∀ {rs : List (List DV)} {o : Nat} (n : Nat), n ≤ rs.length → QaP C w k b o rs → QaP C w k b (o + n * k) (rs.drop n)
  | [], o, n, hn, _ => by simp at hn; subst hn; simp [QaP]
  | r :: rs, o, n, hn, h => by
    cases n with
    | zero => simpa using h
    | succ n =>
      simp only [QaP] at h
      have := Qfa n (by simpa using hn) h.2.2
      simp only [List.drop_succ_cons]
      rwa [show o + k + n * k = o + (n + 1) * k by rw [Nat.add_mul]; omega] at this
theorem Qfz {k b : Nat} : ∀ {rs : List (List DV)} {o : Nat} (n : Nat), QaP C w k b o rs → QaP C w k b o (rs.take n)
  | [], o, n, _ => by simp [QaP]
  | r :: rs, o, n, h => by
    cases n with
    | zero => simp [QaP]
    | succ n => simp only [QaP, List.take_succ_cons] at h ⊢; exact ⟨h.1, h.2.1, Qfz n h.2.2⟩
theorem Flat.take {ys : List Value} (h : Flat ys) (n : Nat) : Flat (ys.take n) := fun y hy => h y (List.mem_of_mem_take hy)
theorem Flat.drop {ys : List Value} (h : Flat ys) (n : Nat) : Flat (ys.drop n) := fun y hy => h y (List.mem_of_mem_drop hy)
theorem Flat.append {ys zs : List Value} (h : Flat ys) (h' : Flat zs) : Flat (ys ++ zs) := fun y hy => by
  rcases List.mem_append.1 hy with q | q
  · exact h y q
  · exact h' y q
end Go.FA
namespace Go.FA
open Go.RowKit
inductive Qjt where
  | cells (t : TypeId) (cs : List DV)
  /-- cells, and more behind them of which nothing is told -/
  | buf (t : TypeId) (cs : List DV)
  | map (ks : List Value) (vs : List DV)
  /-- a map whose keys are known before, its entries in any order -/
  | slots (sl : List (Value × Option DV))
  | strIter (s : ByteArray) (pos : Nat)
  | mapIter (ks : List Value) (vs : List DV) (seen : List Nat)
structure St where
  n : Nat
  objs : Nat → Option Qjt
  toks : Nat → Option Nat
def Qr : Value → DV
  | .agg cs => if cs.toList.all Value.oneCell' then .agg (cs.toList.map .lit) else .junk
  | v => .lit v
structure TyI where
  desc : TypeDesc
  size : Nat
  bytes : Nat
  zero : DV
def Qag (P : Program) (t : TypeId) : Option TyI :=
  match P.underlying t, P.info? t with
  | some d, some i => match i.zero with
    | some z => some ⟨d, i.size, i.bytes, Qr z⟩
    | none => none
  | _, _ => none
def TyI.agg (i : TyI) : Bool := match i.desc with | .struct _ => true | .array _ _ => true | _ => false
def upd {α : Type} (f : Nat → α) (i : Nat) (x : α) : Nat → α := fun j => if j = i then x else f j
def eval (a : Nat → DV) : Operand → DV
  | .tmp t => a t
  | .const v => Qr v
  | .global g => .lit (.pointer (some ⟨g, 0, none⟩))
  | .func f => .lit (.func (.func f) #[] #[])
def DV.cells : DV → Option (List DV)
  | .junk => none
  | .agg cs => some cs
  | .tuple _ => none
  | .lit (.agg _) => none
  | .lit (.tuple _) => none
  | d => some [d]
def Qx (i : TyI) (cells : List DV) (off : Nat) : Option DV :=
  if i.agg then
    if off + i.size ≤ cells.length then some (.agg ((cells.drop off).take i.size)) else none
  else cells[off]?
def Qv (P : Program) (σ : St) (t : TypeId) : DV → Option DV
  | .row cells off => (Qag P t).bind fun i => Qx i cells off
  | .ptr id off => match σ.objs id with
    | some (.cells _ cs) => (Qag P t).bind fun i => Qx i cs off
    | some (.buf _ cs) => (Qag P t).bind fun i => Qx i cs off
    | _ => none
  | _ => none
def setAt {α : Type} : List α → Nat → List α → List α
  | cs, _, [] => cs
  | cs, o, v :: vs => setAt (cs.set o v) (o + 1) vs
def QI (P : Program) (σ : St) (t : TypeId) (ad x : DV) : Option St :=
  match ad, Qag P t, x.cells with
  | .ptr id off, some i, some xs =>
    match σ.objs id with
    | some (.cells e cs) =>
      if xs.length = i.size && decide (off + i.size ≤ cs.length) then
        some { σ with objs := upd σ.objs id (some (.cells e (setAt cs off xs))) } else none
    | some (.buf e cs) =>
      if xs.length = i.size && decide (off + i.size ≤ cs.length) then
        some { σ with objs := upd σ.objs id (some (.buf e (setAt cs off xs))) } else none
    | _ => none
  | _, _, _ => none
def Qa (P : Program) (s : TypeId) (x : DV) (f : Nat) : Option DV :=
  match Qag P s with
  | some ⟨.struct fs, _, _, _⟩ =>
    match fs[f]? with
    | some fl => match Qag P fl.type with
      | some i => if i.size = 0 then none else
        match x with
        | .ptr id off => some (.ptr id (off + fl.offset))
        | .row cells off => some (.row cells (off + fl.offset))
        | _ => none
      | none => none
    | none => none
  | _ => none
def Qu (P : Program) (s : TypeId) (x : DV) (f : Nat) : Option DV :=
  match Qag P s, x with
  | some ⟨.struct fs, _, _, _⟩, .agg cs =>
    match fs[f]? with
    | some fl => (Qag P fl.type).bind fun i => Qx i cs fl.offset
    | none => none
  | _, _ => none
def Qg (P : Program) (t : TypeId) (x ix : DV) : Option DV :=
  match Qag P t, x, ix with
  | some ⟨.slice e, _, _, _⟩, .slice k _ rows, .lit (.int _ n) =>
    match Qag P e with
    | some i => if i.size = k then
        if 0 ≤ n then (rows[n.toNat]?).map fun r => .row r 0 else none
      else none
    | none => none
  | some ⟨.slice e, _, _, _⟩, .live id k off len, .lit (.int _ n) =>
    match Qag P e with
    | some i => if i.size = k ∧ 0 ≤ n ∧ n < len then some (.ptr id (off + n.toNat * k)) else none
    | none => none
  | some ⟨.array len e, _, _, _⟩, .row cells off, .lit (.int _ n) =>
    match Qag P e with
    | some i => if 0 ≤ n ∧ n < len then some (.row cells (off + n.toNat * i.size)) else none
    | none => none
  | _, _, _ => none
def Qs (P : Program) (t : TypeId) (x ix : DV) : Option DV :=
  match Qag P t, x, ix with
  | some ⟨.string, _, _, _⟩, .lit (.string s), .lit (.int _ n) =>
    if 0 ≤ n then (s[n.toNat]?).map fun c => .lit (.int .u8 c.toNat) else none
  | some ⟨.array len e, _, _, _⟩, .agg cs, .lit (.int _ n) =>
    match Qag P e with
    | some i => if 0 ≤ n ∧ n < len then Qx i cs (n.toNat * i.size) else none
    | none => none
  | _, _, _ => none
def Qbp : List Value → List Value → Option Bool
  | [], [] => some true
  | .int k a :: xs, .int k' b :: ys => if k = k' then (Qbp xs ys).map fun r => (a == b) && r else none
  | .string a :: xs, .string b :: ys => (Qbp xs ys).map fun r => decide (a = b) && r
  | .bool a :: xs, .bool b :: ys => (Qbp xs ys).map fun r => (a == b) && r
  | _, _ => none
def Qax : Value → Value → Option Bool
  | .int k a, .int k' b => if k = k' then some (a == b) else none
  | .string a, .string b => some (decide (a = b))
  | .bool a, .bool b => some (a == b)
  | .agg xs, .agg ys => Qbp xs.toList ys.toList
  | _, _ => none
def QC : TypeDesc → Value → Bool
  | .int _, .int _ _ => true
  | .string, .string _ => true
  | .bool, .bool _ => true
  | _, _ => false
def QcF : List DV → Option (List Value)
  | [] => some []
  | .lit v :: ds => (QcF ds).map (v :: ·)
  | _ :: _ => none
def Qbh (P : Program) : List Field → List Value → Nat → Bool
  | [], [], _ => true
  | f :: fs, v :: vs, o => (f.name != "_") && (f.offset == o) && (match Qag P f.type with | some i => !i.agg && QC i.desc v | none => false) && Qbh P fs vs (o + 1)
  | _, _, _ => false
def Qbf (P : Program) (t : TypeId) (vs : List Value) : Bool :=
  match P.underlying t with
  | some (.struct fs) => !P.stoodInHeld t && Qbh P fs.toList vs 0
  | _ => false
def Qcw (P : Program) (t : TypeId) (i : TyI) (v : Value) : Bool :=
  match v with
  | .agg cs => Qbf P t cs.toList
  | v => QC i.desc v
@[simp] theorem keyFit_string {P : Program} {t : TypeId} {i : TyI} {s : ByteArray} : Qcw P t i (.string s) = QC i.desc (.string s) := rfl
@[simp] theorem keyFit_int {P : Program} {t : TypeId} {i : TyI} {k : IntKind} {n : Int} : Qcw P t i (.int k n) = QC i.desc (.int k n) := rfl
@[simp] theorem keyFit_bool {P : Program} {t : TypeId} {i : TyI} {b : Bool} : Qcw P t i (.bool b) = QC i.desc (.bool b) := rfl
@[simp] theorem keyFit_agg {P : Program} {t : TypeId} {i : TyI} {cs : Array Value} : Qcw P t i (.agg cs) = Qbf P t cs.toList := rfl
def Qjo : DV → Option Value
  | .lit v => some v
  | .agg cs => (QcF cs).map fun vs => .agg vs.toArray
  | _ => none
@[simp] theorem keyDV_lit {v : Value} : Qjo (.lit v) = some v := rfl
@[simp] theorem keyDV_agg {cs : List DV} : Qjo (.agg cs) = (QcF cs).map fun vs => .agg vs.toArray := rfl
@[simp] theorem litsOf_nil : QcF [] = some [] := rfl
@[simp] theorem litsOf_cons {v : Value} {ds : List DV} : QcF (.lit v :: ds) = (QcF ds).map (v :: ·) := rfl
def QeM (P : Program) (t : TypeId) (xs ys : List DV) : Option Bool :=
  match QcF xs, QcF ys with
  | some vs, some us => if Qbf P t vs && !P.eqGuardType P.depth t then Qbp vs us else none
  | _, _ => none
def intCmp : BinOp → Int → Int → Option Bool
  | .eql, a, b => some (a == b)
  | .neq, a, b => some (a != b)
  | .lss, a, b => some (decide (a < b))
  | .leq, a, b => some (decide (a ≤ b))
  | .gtr, a, b => some (decide (a > b))
  | .geq, a, b => some (decide (a ≥ b))
  | _, _, _ => none
def Tag.isNN : Tag → Bool
  | .nn => true
  | _ => false
def Qp (P : Program) (op : BinOp) (t : TypeId) (b : Bool) : Option DV :=
  match Qag P t, op with
  | some ⟨.slice _, _, _, _⟩, .eql => some (.lit (.bool b))
  | some ⟨.slice _, _, _, _⟩, .neq => some (.lit (.bool (!b)))
  | _, _ => none
def QeZ (P : Program) (op : BinOp) (t : TypeId) (b : Bool) : Option DV :=
  match Qag P t, op with
  | some ⟨.pointer _, _, _, _⟩, .eql => some (.lit (.bool b))
  | some ⟨.pointer _, _, _, _⟩, .neq => some (.lit (.bool (!b)))
  | _, _ => none
def Qdx (op : BinOp) (k : IntKind) (a b : Int) : Option DV :=
  if b = 0 then none else match op with
  | .quo => some (.lit (.int k (k.wrap (a.tdiv b))))
  | .rem => some (.lit (.int k (a.tmod b)))
  | _ => none
def Qle (k : IntKind) (a b : Int) : Option DV := if 0 ≤ b then some (.lit (.int k (a / 2 ^ min b.toNat k.bits))) else none
def Qkf (c : ByteArray) : List ByteArray → Bool
  | [] => false
  | x :: l => match decide (c = x) with
    | true => true
    | false => Qkf c l
def QV (P : Program) (op : BinOp) (t : TypeId) (x y : DV) : Option DV :=
  match x, y with
  | .lit (.slice none 0 0), .lit (.slice none 0 0) => Qp P op t true
  | .slice _ tag rows, .lit (.slice none 0 0) => if tag.isNN || !rows.isEmpty then Qp P op t false else none
  | .ptr _ _, .lit (.pointer none) => QeZ P op t false
  | .live _ _ _ _, .lit (.slice none 0 0) => Qp P op t false
  | .row _ _, .lit (.pointer none) => QeZ P op t false
  | .lit (.pointer none), .lit (.pointer none) => QeZ P op t true
  | .lit (.int k a), .lit (.int k' b) =>
    match op with
    | .shr => Qle k a b
    | _ => if k = k' then
        match op with
        | .add => some (.lit (.int k (k.wrap (a + b))))
        | .sub => some (.lit (.int k (k.wrap (a - b))))
        | .mul => some (.lit (.int k (k.wrap (a * b))))
        | .quo => Qdx .quo k a b
        | .rem => Qdx .rem k a b
        | _ => (intCmp op a b).map fun r => .lit (.bool r)
      else none
  | .strNot l, .lit (.string c) =>
    match Qkf c l, op with
    | true, .eql => some (.lit (.bool false))
    | true, .neq => some (.lit (.bool true))
    | _, _ => none
  | .lit (.string c), .strNot l =>
    match Qkf c l, op with
    | true, .eql => some (.lit (.bool false))
    | true, .neq => some (.lit (.bool true))
    | _, _ => none
  | .lit (.string a), .lit (.string b) =>
    match op with
    | .eql => some (.lit (.bool (decide (a = b))))
    | .neq => some (.lit (.bool (!decide (a = b))))
    | .add => if a.size + b.size < 4611686018427387904 then some (.lit (.string (a ++ b))) else none
    | .lss => some (.lit (.bool (Op.bytesLess a.toList b.toList)))
    | .gtr => some (.lit (.bool (!(Op.bytesLess a.toList b.toList || decide (a = b)))))
    | .leq => some (.lit (.bool (Op.bytesLess a.toList b.toList || decide (a = b))))
    | .geq => some (.lit (.bool (!Op.bytesLess a.toList b.toList)))
    | _ => none
  | .agg xs, .agg ys =>
    match op with
    | .eql => (QeM P t xs ys).map fun b => .lit (.bool b)
    | .neq => (QeM P t xs ys).map fun b => .lit (.bool (!b))
    | _ => none
  | .lit (.bool a), .lit (.bool b) =>
    match Qag P t, op with
    | some ⟨.bool, _, _, _⟩, .eql => some (.lit (.bool (a == b)))
    | some ⟨.bool, _, _, _⟩, .neq => some (.lit (.bool (a != b)))
    | _, _ => none
  | _, _ => none
def QX (x : DV) : Option DV :=
  match x with
  | .lit (.string s) => some (.lit (goInt s.size))
  | .lit (.slice none 0 0) => some (.lit (goInt 0))
  | .slice _ _ rows => some (.lit (goInt rows.length))
  | .live _ _ _ n => some (.lit (goInt n))
  | _ => none
def QA (d : TypeDesc) (x : DV) : Bool :=
  match d, x with
  | .string, .lit (.string _) => true
  | .slice _, .lit (.slice _ _ _) => true
  | .slice _, .slice _ _ _ => true
  | .slice _, .live _ _ _ _ => true
  | _, _ => false
def assoc (key : Value) : List Value → List DV → Option (Option DV)
  | [], _ => some none
  | k :: ks, v :: vs => match Qax key k with
    | some true => some (some v)
    | some false => assoc key ks vs
    | none => none
  | _ :: _, [] => none
def fil : List (Value × Option DV) → List (Value × DV)
  | [] => []
  | (k, some x) :: r => (k, x) :: fil r
  | (_, none) :: r => fil r
def QcL (key : Value) : List Value → Bool
  | [] => true
  | k :: ks => match Qax key k with
    | some false => QcL key ks
    | _ => false
def uniq (key : Value) : List Value → Bool
  | [] => true
  | k :: ks => match Qax key k with
    | some true => QcL key ks
    | some false => uniq key ks
    | none => false
def QQ : Bool → Value → List Value → List DV → Option (Option DV)
  | false, key, ks, vs => assoc key ks vs
  | true, key, ks, vs => match uniq key ks with
    | true => assoc key ks vs
    | false => none
def setSlot (key : ByteArray) (x : DV) : List (Value × Option DV) → Option (List (Value × Option DV))
  | [] => none
  | (k, o) :: r => match Qax (.string key) k with
    | some true => match o with
      | none => match QcL (.string key) (r.map (·.1)) with
        | true => some ((k, some x) :: r)
        | false => none
      | some _ => none
    | some false => match setSlot key x r with
      | some r' => some ((k, o) :: r')
      | none => none
    | none => none
def mapOf (σ : St) : DV → Option (Bool × List Value × List DV)
  | .lit (.map none) => some (false, [], [])
  | .fmap ks vs => some (false, ks, vs)
  | .map id => match σ.objs id with
    | some (.map ks vs) => some (false, ks, vs)
    | some (.slots sl) => some (true, (fil sl).map (·.1), (fil sl).map (·.2))
    | _ => none
  | _ => none
def QD (P : Program) (σ : St) (t : TypeId) (m key : DV) (ok : Bool) : Option DV :=
  match Qag P t, mapOf σ m, Qjo key with
  | some ⟨.map kt et, _, _, _⟩, some (u, ks, vs), some kv =>
    match Qag P kt, Qag P et with
    | some ki, some ei =>
      if Qcw P kt ki kv then
        match QQ u kv ks vs with
        | some (some v) => some (if ok then .tuple [v, .lit (.bool true)] else v)
        | some none => some (if ok then .tuple [ei.zero, .lit (.bool false)] else ei.zero)
        | none => none
      else none
    | _, _ => none
  | _, _, _ => none
def putKey (key : Value) (x : DV) : List Value → List DV → Option (List Value × List DV)
  | [], [] => some ([key], [x])
  | k :: ks, v :: vs => match Qax key k with
    | some true => some (key :: ks, x :: vs)
    | some false => (putKey key x ks vs).map fun r => (k :: r.1, v :: r.2)
    | none => none
  | _, _ => none
def Qq (P : Program) (σ : St) (t : TypeId) (m key x : DV) : Option St :=
  match Qag P t, m, Qjo key with
  | some ⟨.map kt _, _, _, _⟩, .map id, some kv =>
    match Qag P kt, σ.objs id with
    | some ki, some (.map ks vs) =>
      if Qcw P kt ki kv then
        (putKey kv x ks vs).map fun r => { σ with objs := upd σ.objs id (some (.map r.1 r.2)) }
      else none
    | _, _ => none
  | _, _, _ => none
abbrev Sp := List DV → Option DV
abbrev Tab := FuncId → Option Sp
def dcall (T : Tab) (f : FuncId) (args : List DV) : Option DV :=
  match T f with
  | some s => s args
  | none => none
def Qi (a : Nat → DV) (x : Operand) (args : List DV) : Option (FuncId × List DV) :=
  match eval a x with
  | .lit (.func (.func f) first captured) => if first.toList.isEmpty && captured.toList.isEmpty then some (f, args) else none
  | .func (.func f) first captured => some (f, first ++ args ++ captured)
  | _ => none
def Qk (b : Option DV) (top dflt : Nat) : Option Nat :=
  match b with
  | none => some dflt
  | some (.lit (.int _ n)) => if 0 ≤ n ∧ n ≤ top then some n.toNat else none
  | _ => none
def Qt (P : Program) (t : TypeId) (x : DV) (lo hi mx : Option DV) : Option DV :=
  match Qag P t, x, mx with
  | some ⟨.string, _, _, _⟩, .lit (.string s), none =>
    match Qk hi s.size s.size with
    | some h => match Qk lo h 0 with
      | some l => some (.lit (.string (s.extract l h)))
      | none => none
    | none => none
  | some ⟨.slice e, _, _, _⟩, .slice k tag rows, none =>
    match Qag P e, Qk hi rows.length rows.length with
    | some i, some h =>
      if i.size = k then
        match Qk lo h 0 with
        | some l => some (.slice k (match hi with | none => tag | some _ => .none) ((rows.take h).drop l))
        | none => none
      else none
    | _, _ => none
  | some ⟨.slice e, _, _, _⟩, .slice k tag rows, some (.lit (.int _ m)) =>
    match Qag P e, hi with
    | some i, some (.lit (.int _ h)) =>
      if i.size = k ∧ 0 ≤ m ∧ m ≤ rows.length ∧ h = m then
        match Qk lo m.toNat 0 with
        | some l => some (.slice k (if tag.owns || m == 0 then .full else .none) ((rows.take m.toNat).drop l))
        | none => none
      else none
    | _, _ => none
  | _, _, _ => none
def rowsOf (k : Nat) : DV → Option (List (List DV))
  | .lit (.slice none 0 0) => some []
  | .slice k' _ rows => if k' = k then some rows else none
  | _ => none
def Qd : Nat := 16777216
def QK (σ : St) (id : Nat) : DV → Option (Nat × Nat × St)
  | .slice _ (.tok tk g) _ => if σ.toks tk == some g then some (tk, g + 1, { σ with toks := upd σ.toks tk (some (g + 1)) }) else none
  | .slice _ .full _ => some (id, 0, { σ with toks := upd σ.toks id (some 0) })
  | .lit (.slice none 0 0) => some (id, 0, { σ with toks := upd σ.toks id (some 0) })
  | _ => none
def QL (i : TyI) : Bool := decide (0 < i.size) && decide (0 < i.bytes) && decide (i.bytes ≤ 65536) && (match i.zero.cells with | some zs => zs.length == i.size | none => false)
def QE (P : Program) (id : Nat) (σ : St) (t : TypeId) (s x : DV) : Option (DV × St) :=
  match Qag P t with
  | some ⟨.slice e, _, _, _⟩ =>
    match Qag P e with
    | some i =>
      match rowsOf i.size s, rowsOf i.size x, QK σ id s with
      | some rs, some xs, some (tk, g', σ') =>
        if QL i = true ∧ rs.length + xs.length ≤ Qd then some (.slice i.size (.tok tk g') (rs ++ xs), σ') else none
      | _, _, _ => none
    | none => none
  | _ => none
def QB (P : Program) (fs : List Field) : Bool := fs.all fun f => (Qag P f.type).isSome
def Qz (P : Program) (t : TypeId) : Bool := match Qag P t with | some ⟨.struct fs, _, _, _⟩ => QB P fs.toList | _ => false
def Qe (P : Program) (t : TypeId) (parts : List (Nat × DV)) : Option (List DV) :=
  match Qag P t with
  | some ⟨.struct fs, _, _, z⟩ =>
    match z with
    | .agg zs => go fs.toList zs parts
    | _ => none
  | _ => none
where
  go (fs : List Field) (cs : List DV) : List (Nat × DV) → Option (List DV)
    | [] => some cs
    | (i, d) :: rest =>
      match fs[i]?, d.cells with
      | some f, some xs => match Qag P f.type with
        | some ti => if xs.length = ti.size && decide (f.offset + xs.length ≤ cs.length) then go fs (setAt cs f.offset xs) rest else none
        | none => none
      | _, _ => none
def Qc (k : Nat) : Nat → List (Nat × DV) → Option (List (List DV))
  | _, [] => some []
  | j, (i, d) :: rest =>
    match d.cells, Qc k (j + 1) rest with
    | some xs, some rs => if i = j && xs.length = k then some (xs :: rs) else none
    | _, _ => none
def Qj (P : Program) (id : Nat) (σ : St) : Builtin → List TypeId → List DV → Option (DV × St)
  | .len, [t], [x] => match Qag P t with
    | some i => if QA i.desc x then (QX x).map fun d => (d, σ) else none
    | none => none
  | .append, [t, t'], [s, x] => if t = t' then QE P id σ t s x else none
  | .max, _, [.lit (.int k a), .lit (.int _ b)] => some (.lit (.int k (if b > a then b else a)), σ)
  | .min, _, [.lit (.int k a), .lit (.int _ b)] => some (.lit (.int k (if b < a then b else a)), σ)
  | _, _, _ => none
def Qez (σ : St) (i : Nat) : Option DV :=
  match σ.objs i with
  | some (.mapIter ks vs seen) => match seen.getLast? with
    | some j => match ks[j]?, vs[j]? with
      | some k, some v => some (.tuple [.lit k, v])
      | _, _ => none
    | none => none
  | _ => none
def Qm : DV → Option DV
  | .slice _ (.tok _ _) _ => none
  | d => some d
def own (id : Nat) (σ : St) : DV → DV × St
  | .slice k (.tok _ _) rows => (.slice k (.tok id 0) rows, { σ with toks := upd σ.toks id (some 0) })
  | d => (d, σ)
def Qab : DV → Option DV
  | .ptr id off => some (.ptr id off)
  | .row cells off => some (.row cells off)
  | _ => none
def dconv (P : Program) (s t : TypeId) (x : DV) : Option DV :=
  match Qag P s, Qag P t, x with
  | some _, some ⟨.int k, _, _, _⟩, .lit (.int _ n) => some (.lit (.int k (k.wrap n)))
  | some _, some ⟨.string, _, _, _⟩, .lit (.string b) => some (.lit (.string b))
  | _, _, _ => none
def dop (P : Program) (T : Tab) (id : Nat) (a : Nat → DV) (σ : St) (o : Op) : Option (DV × St) :=
  match o with
  | .move x | .assign x => some (eval a x, σ)
  | .pick c x y => match eval a c with
    | .lit (.bool b) => some (if b then eval a x else eval a y, σ)
    | _ => none
  | .extract x i => match eval a x with
    | .tuple vs => (vs[i]?).map fun d => (d, σ)
    | _ => none
  | .load t x => (Qv P σ t (eval a x)).map fun d => (d, σ)
  | .store t ad x => (QI P σ t (eval a ad) (eval a x)).map fun σ' => (.lit (.tuple #[]), σ')
  | .fieldAddr s x f => (Qa P s (eval a x) f).map fun d => (d, σ)
  | .field s x f => (Qu P s (eval a x) f).map fun d => (d, σ)
  | .indexAddr t x i => (Qg P t (eval a x) (eval a i)).map fun d => (d, σ)
  | .index t x i => (Qs P t (eval a x) (eval a i)).map fun d => (d, σ)
  | .binOp op t x y _ => (QV P op t (eval a x) (eval a y)).map fun d => (d, σ)
  | .unOp op _ x => match op, eval a x with
    | .not, .lit (.bool b) => some (.lit (.bool (!b)), σ)
    | .neg, .lit (.int k n) => some (.lit (.int k (k.wrap (0 - n))), σ)
    | _, _ => none
  | .lookup t m k ok => (QD P σ t (eval a m) (eval a k) ok).map fun d => (d, σ)
  | .mapUpdate t m k x => (Qq P σ t (eval a m) (eval a k) (eval a x)).map fun σ' => (.lit (.tuple #[]), σ')
  | .insert t m k x => (Qq P σ t (eval a m) (eval a k) (eval a x)).map fun σ' => (.lit (.tuple #[]), σ')
  | .nilCheck x => (Qab (eval a x)).map fun d => (d, σ)
  | .convert s t x => (dconv P s t (eval a x)).map fun d => (d, σ)
  | .makeMap _ none => some (.map id, { σ with objs := upd σ.objs id (some (.map [] [])) })
  | .alloc t => (Qag P t).bind fun i => i.zero.cells.bind fun cs =>
      some (.ptr id 0, { σ with objs := upd σ.objs id (some (.cells t cs)) })
  | .box _ x => (eval a x).cells.map fun cs => (.row cs 0, σ)
  | .build t parts =>
    if Qz P t = true then
    (Qe P t (parts.toList.map fun p => (p.1, eval a p.2))).map fun cs => (.agg cs, σ)
    else none
  | .buildSlice t len parts =>
    match Qag P t with
    | some ⟨.slice e, _, _, _⟩ => match Qag P e with
      | some i =>
        if len = parts.size ∧ 0 < i.size ∧ len * i.size ≤ Qd then
          (Qc i.size 0 (parts.toList.map fun p => (p.1, eval a p.2))).map fun rs => (.slice i.size .full rs, σ)
        else none
      | none => none
    | _ => none
  | .makeFunc fn first captured => some (.func fn (first.toList.map (eval a)) (captured.toList.map (eval a)), σ)
  | .slice t x lo hi mx => (Qt P t (eval a x) (lo.map (eval a)) (hi.map (eval a)) (mx.map (eval a))).map fun d => (d, σ)
  | .range t x => match Qag P t, eval a x with
    | some ⟨.map _ _, _, _, _⟩, .fmap ks vs => some (.ptr id 0, { σ with objs := upd σ.objs id (some (.mapIter ks vs [])) })
    | _, _ => none
  | .entry x => match eval a x with
    | .ptr i 0 => (Qez σ i).map fun d => (d, σ)
    | _ => none
  | .call ⟨.builtin b, args, tys⟩ => Qj P id σ b tys.toList (args.toList.map (eval a))
  | .call ⟨.value f, args, _⟩ =>
    (Qi a f (args.toList.map (eval a))).bind fun (g, xs) => ((dcall T g xs).bind Qm).map fun d => (d, σ)
  | _ => none
def Q2 (σ : St) : DV → DV
  | .map id => match σ.objs id with
    | some (.map ks vs) => .fmap ks vs
    | _ => .map id
  | d => d
def Q0 (σ : St) : DV → DV
  | .agg cs => .agg (cs.map (Q2 σ))
  | d => Q2 σ d
def QJ (P : Program) (T : Tab) (id : Nat) (a : Nat → DV) (σ : St) (o : Op) : Option (DV × St) :=
  match o with
  | .call ⟨.value f, args, _⟩ => (Qi a f (args.toList.map (eval a))).bind fun (g, xs) => match dcall T g xs with
    | some r => some (own id σ r)
    | none => match dcall T g (xs.map (Q0 σ)) with
      | some (.lit v) => some (.lit v, σ)
      | _ => none
  | o => dop P T id a σ o
end Go.FA
namespace Go.FA
open Go.RowKit
structure Entry where
  B : Nat
  w0 : World
  P0 : Nat → Nat → Prop
  M0 : Nat → Prop
  /-- where the objects of the callers lie, and the world that they were left in -/
  gc : Ctx
  gw : World
  gl : ∀ p ∈ tabsL, M0 p.1 ∧ ∃ e f, w0.heap[p.1]? = some (.cells p.2.toArray e f)
structure Entry.Lone (E : Entry) : Prop where
  obj : ∀ i, E.gc.obj i = none
  tk : ∀ i, E.gc.tk i = none
  pc : ∀ b o, E.gc.pc b o → E.P0 b o
  pm : ∀ b, E.gc.pm b → E.M0 b
  lo : E.gc.lo = E.B
  w : E.gw = E.w0
  size : E.gw.heap.size = E.B
abbrev Qkl := { E : Entry // E.Lone }
def QcP (C : Ctx) (w : World) : List (Value × DV) → List MapEntry → Prop
  | [], [] => True
  | (k, x) :: r, e :: es => e.key = k ∧ Qy C w x e.val ∧ QcP C w r es
  | _, _ => False
theorem QcP.mono {C C' : Ctx} {w w' : World} (hc : C.Le C') (hs : Step C w w') : ∀ (l : List (Value × DV)) (es : List MapEntry), QcP C w l es → QcP C' w' l es
  | [], [], _ => trivial
  | (k, x) :: r, e :: es, h => ⟨h.1, QaH hc hs _ _ h.2.1, QcP.mono hc hs r es h.2.2⟩
  | [], _ :: _, h => h.elim
  | _ :: _, [], h => by simp [QcP] at h
def Qjz (C : Ctx) (w : World) (b : Nat) : Qjt → Prop
  | .cells t cs => ∃ vs : List Value, w.heap[b]? = some (.cells vs.toArray t) ∧ QP C w cs vs ∧ Flat vs
  | .buf t cs => ∃ vs tl : List Value, w.heap[b]? = some (.cells (vs ++ tl).toArray t) ∧ QP C w cs vs ∧ Flat (vs ++ tl)
  | .map ks vs => ∃ es clock, w.heap[b]? = some (.map es clock) ∧ es.toList.map (·.key) = ks ∧ QP C w vs (es.toList.map (·.val)) ∧ Stamped es clock
  | .slots sl => ∃ es clock es', w.heap[b]? = some (.map es clock) ∧ es'.Perm es.toList ∧ QcP C w (fil sl) es' ∧ Stamped es clock
  | .strIter s pos => w.heap[b]? = some (.stringIter s pos)
  | .mapIter ks vs seen => ∃ m es clock, w.heap[b]? = some (.mapIter (some m) clock ((seen.map fun j => ((es[j]?).map (·.born)).getD 0).toArray) clock) ∧ C.pm m ∧ w.heap[m]? = some (.map es clock) ∧
      es.toList.map (·.key) = ks ∧ QP C w vs (es.toList.map (·.val)) ∧ Stamped es clock ∧ ∀ j ∈ seen, j < es.size
structure Qav (E : Entry) (F : Nat → Prop) (C : Ctx) (w : World) (σ : St) : Prop where
  lo : C.lo = E.B
  below : Below E.B E.w0 w
  bsize : E.B ≤ w.heap.size
  pB : ∀ b o, E.P0 b o → b < E.B
  mB : ∀ b, E.M0 b → b < E.B
  psup : ∀ b o, E.P0 b o → C.pc b o
  msup : ∀ b, E.M0 b → C.pm b
  psub : ∀ b o, C.pc b o → E.P0 b o ∨ (E.B ≤ b ∧ b < w.heap.size)
  msub : ∀ b, C.pm b → E.M0 b ∨ (E.B ≤ b ∧ b < w.heap.size)
  obj : ∀ i o, σ.objs i = some o → ∃ b, C.obj i = some b ∧ E.B ≤ b ∧ b < w.heap.size ∧ (∀ j, ¬ C.pc b j) ∧ ¬ C.pm b ∧ Qjz C w b o
  inj : ∀ i j oi oj b, σ.objs i = some oi → σ.objs j = some oj → C.obj i = some b → C.obj j = some b → i = j
  tok : ∀ t g, σ.toks t = some g → ∃ x, C.tk t = some x ∧ x.gen = g ∧
    (x.fr < x.ce → E.B ≤ x.blk ∧ (∃ c e, w.heap[x.blk]? = some (.cells c e) ∧ x.ce ≤ c.size) ∧ (∀ o, x.fr ≤ o → ¬ C.pc x.blk o) ∧ ¬ C.pm x.blk)
  tinj : ∀ t t' g g' x x', σ.toks t = some g → σ.toks t' = some g' → C.tk t = some x → C.tk t' = some x' → x.fr < x.ce → x'.fr < x'.ce → x.blk = x'.blk → t = t'
  tobj : ∀ t g x i o, σ.toks t = some g → C.tk t = some x → x.fr < x.ce → σ.objs i = some o → C.obj i ≠ some x.blk
  fresh : ∀ i, F i → C.obj i = none ∧ C.tk i = none
theorem Qav.glob {E : Entry} {F : Nat → Prop} {C : Ctx} {w : World} {σ : St} (h : Qav E F C w σ) : Qkm C w := fun p hp =>
  have ⟨h1, e, f, h2⟩ := E.gl p hp
  ⟨h.msup _ h1, e, f, (h.below.block _ (h.mB _ h1)).trans h2⟩
def QfC (C : Ctx) (w : World) (a : Nat → DV) (ca : Array Value) : Prop := ∀ t, Qy C w (a t) (ca.getD t undef)
theorem QfC.mono {C C' : Ctx} {w w' : World} {a : Nat → DV} {ca : Array Value} (h : QfC C w a ca) (hc : C.Le C') (hs : Step C w w') : QfC C' w' a ca :=
  fun t => QaH hc hs _ _ (h t)
structure QjX (E : Entry) (C : Ctx) (w : World) (a : Nat → DV) (ca : Array Value) : Prop where
  rel : QfC C w a ca
  le : E.gc.Le C
  st : Step E.gc E.gw w
theorem Qjz.mono {C C' : Ctx} {w w' : World} {b : Nat} {o : Qjt} (h : Qjz C w b o) (hc : C.Le C') (hs : Step C w w') (hb : w'.heap[b]? = w.heap[b]?) : Qjz C' w' b o := by
  cases o with
  | cells t cs => obtain ⟨vs, h1, h2, h3⟩ := h; exact ⟨vs, hb ▸ h1, QS hc hs _ _ h2, h3⟩
  | buf t cs => obtain ⟨vs, tl, h1, h2, h3⟩ := h; exact ⟨vs, tl, hb ▸ h1, QS hc hs _ _ h2, h3⟩
  | map ks vs => obtain ⟨es, clock, h1, h2, h3, h4⟩ := h; exact ⟨es, clock, hb ▸ h1, h2, QS hc hs _ _ h3, h4⟩
  | slots sl => obtain ⟨es, clock, es', h1, h2, h3, h4⟩ := h; exact ⟨es, clock, es', hb ▸ h1, h2, h3.mono hc hs, h4⟩
  | strIter s pos => show w'.heap[b]? = _; rw [hb]; exact h
  | mapIter ks vs seen =>
    obtain ⟨m, es, clock, h1, h2, h3, h4, h5, h6, h7⟩ := h
    exact ⟨m, es, clock, by rw [hb]; exact h1, hc.pm _ h2, by rw [hs.map _ h2]; exact h3, h4, QS hc hs _ _ h5, h6, h7⟩
theorem Ctx.Le.trans {C C' C'' : Ctx} (h : C.Le C') (h' : C'.Le C'') : C.Le C'' :=
  ⟨fun i b e => h'.obj _ _ (h.obj _ _ e),
   fun t x e => by
    obtain ⟨x', e1, l1, q1⟩ := h.tk t x e
    obtain ⟨x'', e2, l2, q2⟩ := h'.tk t x' e1
    refine ⟨x'', e2, Nat.le_trans l1 l2, fun eg => ?_⟩
    have : x.gen = x'.gen := by omega
    have h1 := q1 this
    subst h1
    exact q2 eg,
   fun b o e => h'.pc _ _ (h.pc _ _ e), fun b e => h'.pm _ (h.pm _ e), h'.lo.trans h.lo⟩
theorem Step.trans {C C' : Ctx} {w w' w'' : World} (h : Step C w w') (hc : C.Le C') (h' : Step C' w' w'') : Step C w w'' :=
  ⟨fun b o p => (h'.cell _ _ (hc.pc _ _ p)).trans (h.cell _ _ p), fun b p => (h'.map _ (hc.pm _ p)).trans (h.map _ p), fun b c e p q => by
    obtain ⟨c1, e1, h1, h2⟩ := h.own b c e p q
    obtain ⟨c2, e2, h3, h4⟩ := h'.own b c1 e1 (by rw [hc.lo]; exact p) h1
    exact ⟨c2, e2, h3, by omega⟩⟩
theorem Step.of_below {C : Ctx} {w w' : World} (h : Below w.heap.size w w') (hp : ∀ b o, C.pc b o → b < w.heap.size) (hm : ∀ b, C.pm b → b < w.heap.size) : Step C w w' :=
  ⟨fun b o p => World.cell?_of_block (w := w) (h.block b (hp b o p)), fun b p => h.block b (hm b p), fun b c e p q => by
    have hlt : b < w.heap.size := by
      rcases Nat.lt_or_ge b w.heap.size with r | r
      · exact r
      · simp [Array.getElem?_eq_none r] at q
    exact ⟨c, e, by rw [h.block b hlt]; exact q, rfl⟩⟩
theorem QjX.mono {E : Entry} {C C' : Ctx} {w w' : World} {a : Nat → DV} {ca : Array Value} (h : QjX E C w a ca) (hc : C.Le C') (hs : Step C w w') : QjX E C' w' a ca :=
  ⟨h.rel.mono hc hs, h.le.trans hc, h.st.trans h.le hs⟩
theorem QjX.of {E : Entry} {C : Ctx} {w : World} {a a' : Nat → DV} {ca ca' : Array Value} (h : QjX E C w a ca) (hr : QfC C w a' ca') : QjX E C w a' ca' := ⟨hr, h.le, h.st⟩
variable {E : Entry} {F : Nat → Prop} {C : Ctx} {w : World} {σ : St}
theorem Qav.pcsize (h : Qav E F C w σ) : ∀ b o, C.pc b o → b < w.heap.size := fun b o p => by
  rcases h.psub b o p with q | q
  · exact Nat.lt_of_lt_of_le (h.pB _ _ q) h.bsize
  · exact q.2
theorem Qav.pmsize (h : Qav E F C w σ) : ∀ b, C.pm b → b < w.heap.size := fun b p => by
  rcases h.msub b p with q | q
  · exact Nat.lt_of_lt_of_le (h.mB _ q) h.bsize
  · exact q.2
theorem Qa3 {w : World} {x : Qdy} (h : ∃ c e, w.heap[x.blk]? = some (Obj.cells c e) ∧ x.ce ≤ c.size) : x.blk < w.heap.size := by
  obtain ⟨c, e, h, _⟩ := h
  rcases Nat.lt_or_ge x.blk w.heap.size with q | q
  · exact q
  · simp [Array.getElem?_eq_none q] at h
theorem Qav.grow {w' : World} {pc' : Nat → Nat → Prop} {pm' : Nat → Prop} (h : Qav E F C w σ) (hb : Below w.heap.size w w')
    (hpc : ∀ b o, C.pc b o → pc' b o) (hpm : ∀ b, C.pm b → pm' b)
    (npc : ∀ b o, pc' b o → C.pc b o ∨ (w.heap.size ≤ b ∧ b < w'.heap.size)) (npm : ∀ b, pm' b → C.pm b ∨ (w.heap.size ≤ b ∧ b < w'.heap.size)) :
    C.Le { C with pc := pc', pm := pm' } ∧ Step C w w' ∧ Qav E F { C with pc := pc', pm := pm' } w' σ := by
  have hle : C.Le { C with pc := pc', pm := pm' } := ⟨fun _ _ e => e, fun _ x e => ⟨x, e, Nat.le_refl _, fun _ => rfl⟩, hpc, hpm, rfl⟩
  have hst : Step C w w' := .of_below hb h.pcsize h.pmsize
  refine ⟨hle, hst, ?_⟩
  constructor
  · exact h.lo
  · exact h.below.trans (hb.mono h.bsize)
  · exact Nat.le_trans h.bsize hb.size
  · exact h.pB
  · exact h.mB
  · exact fun b o p => hpc _ _ (h.psup _ _ p)
  · exact fun b p => hpm _ (h.msup _ p)
  · intro b o p
    rcases npc b o p with q | q
    · rcases h.psub b o q with r | r
      · exact .inl r
      · exact .inr ⟨r.1, Nat.lt_of_lt_of_le r.2 hb.size⟩
    · exact .inr ⟨Nat.le_trans h.bsize q.1, q.2⟩
  · intro b p
    rcases npm b p with q | q
    · rcases h.msub b q with r | r
      · exact .inl r
      · exact .inr ⟨r.1, Nat.lt_of_lt_of_le r.2 hb.size⟩
    · exact .inr ⟨Nat.le_trans h.bsize q.1, q.2⟩
  · intro i o hi
    obtain ⟨b, h1, h2, h3, h4, h5, h6⟩ := h.obj i o hi
    refine ⟨b, h1, h2, Nat.lt_of_lt_of_le h3 hb.size, ?_, ?_, h6.mono hle hst (hb.block b h3)⟩
    · intro j p
      rcases npc b j p with q | q
      · exact h4 j q
      · omega
    · intro p
      rcases npm b p with q | q
      · exact h5 q
      · omega
  · exact h.inj
  · intro t g ht
    obtain ⟨x, h1, h2, h3⟩ := h.tok t g ht
    refine ⟨x, h1, h2, fun hx => ?_⟩
    obtain ⟨h4, h5, h6, h7⟩ := h3 hx
    have hlt := Qa3 h5
    refine ⟨h4, by rw [hb.block _ hlt]; exact h5, ?_, ?_⟩
    · intro o ho p
      rcases npc _ _ p with q | q
      · exact h6 o ho q
      · omega
    · intro p
      rcases npm _ p with q | q
      · exact h7 q
      · omega
  · exact h.tinj
  · exact h.tobj
  · exact h.fresh
theorem Qav.fewer {F' : Nat → Prop} (h : Qav E F C w σ) (hf : ∀ i, F' i → F i) : Qav E F' C w σ :=
  { h with fresh := fun i q => h.fresh i (hf i q) }
def Upon (P : Program) (m : Sem Next) (w : World) (K : Value → World → Prop) : Prop :=
  match m.run P w with
  | .ok (.value v) w' => K v w'
  | .ok .skip w' => K undef w'
  | .ok (.enter f args) w' => Calls P f args w' fun e w'' => ∃ v, e = .returned v ∧ K v w''
  | _ => False
theorem Upon.mono {P : Program} {m : Sem Next} {w : World} {K K' : Value → World → Prop} (h : Upon P m w K) (hk : ∀ v w', K v w' → K' v w') : Upon P m w K' := by
  unfold Upon at h ⊢
  split
  · next heq => rw [heq] at h; exact hk _ _ h
  · next heq => rw [heq] at h; exact hk _ _ h
  · next heq => rw [heq] at h; exact h.mono fun e w'' ⟨v, he, hv⟩ => ⟨v, he, hk _ _ hv⟩
  · next q1 q2 q3 =>
    split at h
    · next heq => exact q1 _ _ heq
    · next heq => exact q2 _ heq
    · next heq => exact q3 _ _ _ heq
    · exact h
def Res (E : Entry) (F : Nat → Prop) (C : Ctx) (w : World) (σ' : St) (d : DV) (v : Value) (w' : World) : Prop :=
  ∃ C', C.Le C' ∧ Step C w w' ∧ Qy C' w' d v ∧ Qav E F C' w' σ'
theorem Res.here {d : DV} {v : Value} (h : Qav E F C w σ) (hv : Qy C w d v) : Res E F C w σ d v w := ⟨C, .refl C, .refl C w, hv, h⟩
def QhB (C : Ctx) (w w' : World) (x : Qdy) (b o : Nat) : Prop := C.pc b o ∨ (w.heap.size ≤ b ∧ b < w'.heap.size ∧ ¬ (x.fr < x.ce ∧ b = x.blk ∧ x.fr ≤ o))
def Qhj (C : Ctx) (w w' : World) (x : Qdy) (b : Nat) : Prop := C.pm b ∨ (w.heap.size ≤ b ∧ b < w'.heap.size ∧ ¬ (x.fr < x.ce ∧ b = x.blk))
def Qkp (C : Ctx) (w w' : World) (k : Nat) (rows : List (List DV)) (v : Value) : Prop :=
  ∃ x : Qdy, x.gen = 0 ∧ (x.fr < x.ce → w.heap.size ≤ x.blk ∧ ∃ c e, w'.heap[x.blk]? = some (.cells c e) ∧ x.ce ≤ c.size) ∧
    Qy { C with tk := fun _ => some x, pc := QhB C w w' x, pm := Qhj C w w' x, lo := w.heap.size } w' (.slice k (.tok 0 0) rows) v
theorem Res.own {k id : Nat} {rows : List (List DV)} {v : Value} {w' : World} (hs : Qav E F C w σ) (hF : F id) (hb : Below w.heap.size w w') (hp : Qeh rows = true) (ho : Qkp C w w' k rows v) :
    Res E (fun i => F i ∧ i ≠ id) C w { σ with toks := upd σ.toks id (some 0) } (.slice k (.tok id 0) rows) v w' := by
  obtain ⟨x, hgen, hsp, hv⟩ := ho
  obtain ⟨hle, hst, h1⟩ := hs.grow (pc' := QhB C w w' x) (pm' := Qhj C w w' x) hb (fun _ _ p => .inl p) (fun _ p => .inl p)
    (fun _ _ p => p.imp (fun q => q) fun q => ⟨q.1, q.2.1⟩) (fun _ p => p.imp (fun q => q) fun q => ⟨q.1, q.2.1⟩)
  have hfr := hs.fresh id hF
  have hle2 : Ctx.Le { C with pc := QhB C w w' x, pm := Qhj C w w' x } { C with tk := upd C.tk id (some x), pc := QhB C w w' x, pm := Qhj C w w' x } := by
    refine ⟨fun _ _ e => e, fun t y e => ?_, fun _ _ p => p, fun _ p => p, rfl⟩
    by_cases q : t = id
    · subst q; have e' : C.tk t = some y := e; rw [hfr.2] at e'; cases e'
    · exact ⟨y, by simpa [upd, q] using e, Nat.le_refl _, fun _ => rfl⟩
  refine ⟨{ C with tk := upd C.tk id (some x), pc := QhB C w w' x, pm := Qhj C w w' x }, hle.trans hle2, hst, ?_, ?_⟩
  · simp only [Qy] at hv ⊢
    rcases hv with ⟨b, o, cap, e1, e2, e3, ⟨y, e4, e5, e6⟩, e7⟩ | ⟨ad, e1, e2, y, e4, e5⟩
    · exact .inl ⟨b, o, cap, e1, e2, QdJ (C := { C with tk := fun _ => some x, pc := QhB C w w' x, pm := Qhj C w w' x, lo := w.heap.size }) (C' := { C with tk := upd C.tk id (some x), pc := QhB C w w' x, pm := Qhj C w w' x }) (fun _ _ p => p) (fun _ p => p) k b rows o hp e3, ⟨y, by simpa [upd] using e4, e5, e6⟩, Nat.le_trans (hs.lo ▸ hs.bsize) e7.1, e7.2⟩
    · exact .inr ⟨ad, e1, e2, y, by simpa [upd] using e4, e5⟩
  · refine ⟨h1.lo, h1.below, h1.bsize, h1.pB, h1.mB, h1.psup, h1.msup, h1.psub, h1.msub, ?_, h1.inj, ?_, ?_, ?_, ?_⟩
    · intro i o hi
      obtain ⟨b, q1, q2, q3, q4, q5, q6⟩ := h1.obj i o hi
      exact ⟨b, q1, q2, q3, q4, q5, q6.mono hle2 (.refl _ _) rfl⟩
    · intro t g ht
      by_cases q : t = id
      · subst q
        simp [upd] at ht; subst ht
        refine ⟨x, by simp [upd], hgen, fun hx => ?_⟩
        obtain ⟨r1, r2⟩ := hsp hx
        refine ⟨Nat.le_trans hs.bsize r1, r2, fun o ho p => ?_, fun p => ?_⟩
        · rcases p with p | ⟨_, _, p⟩
          · have := hs.pcsize _ _ p; omega
          · exact p ⟨hx, rfl, ho⟩
        · rcases p with p | ⟨_, _, p⟩
          · have := hs.pmsize _ p; omega
          · exact p ⟨hx, rfl⟩
      · simp [upd, q] at ht
        obtain ⟨y, r1, r2, r3⟩ := h1.tok t g ht
        exact ⟨y, by simpa [upd, q] using r1, r2, r3⟩
    · intro t t' g g' y y' ht ht' hy hy' hs1 hs2 hbl
      have old : ∀ (u : Nat) (gu : Nat) (z : Qdy), u ≠ id → σ.toks u = some gu → C.tk u = some z → z.fr < z.ce → z.blk < w.heap.size := by
        intro u gu z hu h2 h3 h4
        obtain ⟨z', r1, _, r3⟩ := hs.tok u gu h2
        rw [h3] at r1; cases r1
        exact Qa3 (r3 h4).2.1
      by_cases q : t = id
      · by_cases q' : t' = id
        · rw [q, q']
        · subst q
          simp [upd] at hy; subst hy
          simp [upd, q'] at ht' hy'
          have := old t' g' y' q' ht' hy' hs2
          have := (hsp hs1).1
          omega
      · simp [upd, q] at ht hy
        by_cases q' : t' = id
        · subst q'
          simp [upd] at hy'; subst hy'
          have := old t g y q ht hy hs1
          have := (hsp hs2).1
          omega
        · simp [upd, q'] at ht' hy'
          exact h1.tinj t t' g g' y y' ht ht' hy hy' hs1 hs2 hbl
    · intro t g y i o ht hy hs1 hi
      by_cases q : t = id
      · subst q
        simp [upd] at hy; subst hy
        obtain ⟨b, r1, r2, r3, _⟩ := hs.obj i o hi
        intro e
        have e' : C.obj i = some x.blk := e
        rw [r1] at e'; cases e'
        have := (hsp hs1).1
        omega
      · simp [upd, q] at ht hy
        exact h1.tobj t g y i o ht hy hs1 hi
    · intro i ⟨hf, hne⟩
      have := hs.fresh i hf
      exact ⟨this.1, by simpa [upd, hne] using this.2⟩
theorem Q7 {P : Program} {s : Sem Value} {v : Value} {w' : World} {K : Value → World → Prop} (h : s.run P w = .ok v w') (hk : K v w') :
    Upon P (do pure (.value (← s))) w K := by
  simp [Upon, h, hk]
theorem upon_skip {P : Program} {s : Sem Unit} {w' : World} {K : Value → World → Prop} (h : s.run P w = .ok () w') (hk : K undef w') :
    Upon P (do s; pure .skip) w K := by
  simp [Upon, h, hk]
def QhS : DV → Bool
  | .slice _ (.tok _ _) _ => false
  | _ => true
theorem QeR {r : DV} (h : QaV r = true) : QhS r = true := by
  unfold QhS
  split
  · simp [QaV, Tag.pure] at h
  · rfl
def Qb (P : Program) (f : FuncId) (s : Sp) : Prop :=
  ∀ args r, s args = some r → (QhS r = true ∧
    ∀ (C : Ctx) (w : World) (cargs : List Value), Qkm C w → (∀ b o, C.pc b o → b < w.heap.size) → (∀ b, C.pm b → b < w.heap.size) → QP C w args cargs →
      Calls P f cargs.toArray w fun e w' => ∃ v, e = .returned v ∧ Below w.heap.size w w' ∧
        Qy { C with pc := fun b o => C.pc b o ∨ (w.heap.size ≤ b ∧ b < w'.heap.size), pm := fun b => C.pm b ∨ (w.heap.size ≤ b ∧ b < w'.heap.size) } w' r v) ∨
    (∃ k rows, r = .slice k (.tok 0 0) rows ∧ Qeh rows = true ∧
    ∀ (C : Ctx) (w : World) (cargs : List Value), Qkm C w → (∀ b o, C.pc b o → b < w.heap.size) → (∀ b, C.pm b → b < w.heap.size) → QP C w args cargs →
      Calls P f cargs.toArray w fun e w' => ∃ v, e = .returned v ∧ Below w.heap.size w w' ∧ Qkp C w w' k rows v)
def QH (P : Program) (T : Tab) : Prop := ∀ f s, T f = some s → Qb P f s ∧ ∃ fn c, P.funcs[f]? = some fn ∧ fn.body = some c ∧ fn.name ≠ "runtime.NumGoroutine"
end Go.FA
namespace Go.FA
open Go.RowKit
variable {P : Program} {E : Entry} {F : Nat → Prop} {C : Ctx} {w : World} {σ : St}
theorem Qau {t : TypeId} {i : TyI} (h : Qag P t = some i) : ∃ info z, P.underlying t = some i.desc ∧ P.info? t = some info ∧ info.size = i.size ∧ info.bytes = i.bytes ∧ info.zero = some z ∧ i.zero = Qr z := by
  unfold Qag at h
  split at h
  · next d inf hd hi =>
    split at h
    · next z hz => simp at h; subst h; exact ⟨inf, z, hd, hi, rfl, rfl, hz, rfl⟩
    · simp at h
  · simp at h
theorem run_underlying {t : TypeId} {i : TyI} (h : Qag P t = some i) (w : World) : (underlying t).run P w = .ok i.desc w := by
  obtain ⟨info, z, h1, _⟩ := Qau h
  simp [underlying, h1]
theorem run_sizeOf {t : TypeId} {i : TyI} (h : Qag P t = some i) (w : World) : (sizeOf t).run P w = .ok i.size w := by
  obtain ⟨info, z, h1, h2, h3, _⟩ := Qau h
  simp [sizeOf, typeInfo, h2, h3]
theorem Qfp {t : TypeId} {i : TyI} (h : Qag P t = some i) (w : World) : (isAgg t).run P w = .ok i.agg w := by
  simp only [isAgg, Sem.run_bind, run_underlying h, Result.andThen_ok]
  unfold TyI.agg
  split <;> simp_all
theorem QbD {t : TypeId} {i : TyI} (h : Qag P t = some i) (w : World) : ∃ z, (zeroValue t).run P w = .ok z w ∧ i.zero = Qr z := by
  obtain ⟨info, z, h1, h2, h3, h4, h5, h6⟩ := Qau h
  exact ⟨z, by simp [zeroValue, typeInfo, h2, h5], h6⟩
theorem QaK (v : Value) : Qy C w (Qr v) v := by
  unfold Qr
  split
  · next cs =>
    split
    · next hf =>
      simp only [Qy]
      refine ⟨cs.toList, by simp, ?_, fun y hy => List.all_eq_true.1 hf y hy⟩
      have := Qbn (C := C) (w := w) DV.lit id cs.toList (fun x _ => by simp [Qy])
      simpa using this
    · simp [Qy]
  · simp [Qy]
theorem Qae {a : Nat → DV} {ca : Array Value} {ds : List Deferred} (h : QfC C w a ca) (x : Operand) : Qy C w (eval a x) (Act.eval ⟨ca, ds⟩ x) := by
  cases x with
  | tmp t => exact h t
  | const v => exact QaK v
  | global g => simp [eval, Act.eval, Qy]
  | func f => simp [eval, Act.eval, Qy]
theorem addr_add (b o n : Nat) : (⟨b, o, none⟩ : Addr).add n = ⟨b, o + n, none⟩ := by
  unfold Addr.add
  split
  · next e => subst e; rfl
  · rfl
def Mem (C : Ctx) (w : World) (b o : Nat) (cs : List DV) : Prop := ∃ vs : List Value, QP C w cs vs ∧ Flat vs ∧ ∀ i v, vs[i]? = some v → w.cell? ⟨b, o + i, none⟩ = some v
theorem Qdt {t : TypeId} {i : TyI} {b o off : Nat} {cs : List DV} {r : DV} (ht : Qag P t = some i) (hm : Mem C w b o cs) (hr : Qx i cs off = some r) :
    ∃ u, (loadVar t ⟨b, o + off, none⟩).run P w = .ok u w ∧ Qy C w r u := by
  obtain ⟨vs, hl, hf, hc⟩ := hm
  unfold Qx at hr
  simp only [loadVar, Sem.run_bind, Qfp ht, Result.andThen_ok]
  split at hr
  · next ha =>
    split at hr
    · next hle =>
      simp at hr; subst hr
      have hlen := QY hl
      have h2 := run_loadCells_list (P := P) (w := w) ⟨b, o + off, none⟩ ((vs.drop off).take i.size) (fun j v hj => by
        rw [addr_add]
        have hj' : vs[off + j]? = some v := by
          by_cases hjs : j < i.size
          · simp [List.getElem?_take, hjs, List.getElem?_drop] at hj; exact hj
          · simp [List.getElem?_take, hjs] at hj
        have := hc (off + j) v hj'
        rwa [show o + (off + j) = o + off + j by omega] at this)
      have hlen2 : ((vs.drop off).take i.size).length = i.size := by simp; omega
      rw [hlen2] at h2
      refine ⟨.agg ((vs.drop off).take i.size).toArray, by simp [ha, run_sizeOf ht, h2], ?_⟩
      simp only [Qy]
      exact ⟨_, rfl, QdO _ (QdT _ hl), (hf.drop _).take _⟩
    · simp at hr
  · next ha =>
    obtain ⟨v, hv, hrel⟩ := Qc1 hl hr
    have := hc off v hv
    exact ⟨v, by simp [ha, this], hrel⟩
theorem Mem.of_CRel {b o : Nat} {cs : List DV} (h : Qa6 C w b o cs) : Mem C w b o cs := Qfe h
theorem cell?_of_cells {b : Nat} {c : Array Value} {t : TypeId} (h : w.heap[b]? = some (.cells c t)) (o : Nat) : w.cell? ⟨b, o, none⟩ = c[o]? := by
  simp [World.cell?, h]
theorem Mem.of_obj {b : Nat} {t : TypeId} {cs : List DV} (h : Qjz C w b (.cells t cs)) : Mem C w b 0 cs := by
  obtain ⟨vs, h1, h2, h3⟩ := h
  exact ⟨vs, h2, h3, fun i v hv => by rw [Nat.zero_add, cell?_of_cells h1]; simpa using hv⟩
theorem Mem.of_buf {b : Nat} {t : TypeId} {cs : List DV} (h : Qjz C w b (.buf t cs)) : Mem C w b 0 cs := by
  obtain ⟨vs, tl, h1, h2, h3⟩ := h
  refine ⟨vs, h2, fun y hy => h3 y (by simp [hy]), fun i v hv => ?_⟩
  have hi : i < vs.length := by
    rcases Nat.lt_or_ge i vs.length with q | q
    · exact q
    · simp [List.getElem?_eq_none q] at hv
  rw [Nat.zero_add, cell?_of_cells h1]
  simp [List.getElem?_append_left hi, hv]
theorem Qet {t : TypeId} {d r : DV} {v : Value} (h : Qv P σ t d = some r) (hv : Qy C w d v) (hs : Qav E F C w σ) :
    ∃ u, (Instr.loadAt t v).run P w = .ok u w ∧ Qy C w r u := by
  unfold Qv at h
  split at h
  · next cells off =>
    simp only [Qy] at hv
    obtain ⟨b, o, rfl, hc⟩ := hv
    cases ht : Qag P t with
    | none => simp [ht] at h
    | some i =>
      simp [ht] at h
      obtain ⟨u, h1, h2⟩ := Qdt ht (Mem.of_CRel hc) h
      exact ⟨u, by simp [Instr.loadAt, Instr.sureAddr, h1], h2⟩
  · next id off =>
    simp only [Qy] at hv
    obtain ⟨b, hb, rfl⟩ := hv
    split at h
    · next e cs ho =>
      cases ht : Qag P t with
      | none => simp [ht] at h
      | some i =>
        simp [ht] at h
        obtain ⟨b', hb', _, _, _, _, hO⟩ := hs.obj _ _ ho
        obtain rfl : b = b' := by rw [hb] at hb'; exact Option.some.inj hb'
        obtain ⟨u, h1, h2⟩ := Qdt ht (Mem.of_obj hO) h
        rw [Nat.zero_add] at h1
        exact ⟨u, by simp [Instr.loadAt, Instr.sureAddr, h1], h2⟩
    · next e cs ho =>
      cases ht : Qag P t with
      | none => simp [ht] at h
      | some i =>
        simp [ht] at h
        obtain ⟨b', hb', _, _, _, _, hO⟩ := hs.obj _ _ ho
        obtain rfl : b = b' := by rw [hb] at hb'; exact Option.some.inj hb'
        obtain ⟨u, h1, h2⟩ := Qdt ht (Mem.of_buf hO) h
        rw [Nat.zero_add] at h1
        exact ⟨u, by simp [Instr.loadAt, Instr.sureAddr, h1], h2⟩
    · simp at h
  · simp at h
theorem Qgr {t : TypeId} {i : TyI} {off : Nat} {cs : List DV} {vs : List Value} {r : DV} (ht : Qag P t = some i) (hl : QP C w cs vs) (hf : Flat vs) (hr : Qx i cs off = some r) :
    ∃ u, (part t vs.toArray off).run P w = .ok u w ∧ Qy C w r u := by
  unfold Qx at hr
  simp only [part, Sem.run_bind, Qfp ht, Result.andThen_ok]
  split at hr
  · next ha =>
    split at hr
    · next hle =>
      simp at hr; subst hr
      refine ⟨.agg (vs.toArray.extract off (off + i.size)), by simp [ha, run_sizeOf ht], ?_⟩
      simp only [Qy]
      refine ⟨(vs.drop off).take i.size, ?_, QdO _ (QdT _ hl), (hf.drop _).take _⟩
      simp [List.extract_eq_take_drop]
    · simp at hr
  · next ha =>
    obtain ⟨v, hv, hrel⟩ := Qc1 hl hr
    exact ⟨v, by simp [ha, hv], hrel⟩
theorem Qfi {s : TypeId} {f : Nat} {d r : DV} {v : Value} (h : Qu P s d f = some r) (hv : Qy C w d v) :
    ∃ u, (Instr.field s v f).run P w = .ok u w ∧ Qy C w r u := by
  unfold Qu at h
  split at h
  · next fs sz by' z cs ht =>
    simp only [Qy] at hv
    obtain ⟨ys, rfl, hl, hfl⟩ := hv
    split at h
    · next fl hf =>
      cases hti : Qag P fl.type with
      | none => simp [hti] at h
      | some i =>
        simp [hti] at h
        obtain ⟨u, h1, h2⟩ := Qgr hti hl hfl h
        exact ⟨u, by simp [Instr.field, run_underlying ht, hf, asAgg, h1], h2⟩
    · simp at h
  · simp at h
theorem QcI {s : TypeId} {f : Nat} {d r : DV} {v : Value} (h : Qa P s d f = some r) (hv : Qy C w d v) :
    ∃ u, (Instr.fieldAt s v f).run P w = .ok u w ∧ Qy C w r u := by
  unfold Qa at h
  split at h
  · next fs sz by' z ht =>
    split at h
    · next fl hf =>
      split at h
      · next i hti =>
        split at h
        · simp at h
        · next hsz =>
          split at h
          · next id off =>
            simp at h; subst h
            simp only [Qy] at hv ⊢
            obtain ⟨b, hb, rfl⟩ := hv
            exact ⟨_, by simp [Instr.fieldAt, run_underlying ht, hf, Instr.sureAddr, fieldPlace, run_sizeOf hti, hsz, addr_add], b, hb, rfl⟩
          · next cells off =>
            simp at h; subst h
            simp only [Qy] at hv ⊢
            obtain ⟨b, o, rfl, hc⟩ := hv
            exact ⟨_, by simp [Instr.fieldAt, run_underlying ht, hf, Instr.sureAddr, fieldPlace, run_sizeOf hti, hsz, addr_add]; rfl, b, o, by simp [Nat.add_assoc], hc⟩
          · simp at h
      · simp at h
    · simp at h
  · simp at h
theorem QcB {t : TypeId} {x ix r : DV} {v vi : Value} (h : Qg P t x ix = some r) (hv : Qy C w x v) (hi : Qy C w ix vi) :
    ∃ u, (Instr.indexAt t v vi).run P w = .ok u w ∧ Qy C w r u := by
  unfold Qg at h
  split at h
  · next e _ _ _ k tag rows kd n ht =>
    simp only [Qy] at hi; subst hi
    split at h
    · next i hti =>
      split at h
      · next hk =>
        split at h
        · next h0 =>
          simp at h
          obtain ⟨row, hrow, rfl⟩ := h
          simp only [Qy] at hv
          have hlt : n.toNat < rows.length := by
            rcases Nat.lt_or_ge n.toNat rows.length with q | q
            · exact q
            · simp [List.getElem?_eq_none q] at hrow
          rcases hv with ⟨b, o, cap, rfl, hle, hr, _⟩ | ⟨ad, rfl, hnil, _⟩
          · have hg := QiI hr hrow
            have h1 : 0 ≤ n ∧ n < (rows.length : Int) := ⟨h0, by omega⟩
            refine ⟨.pointer (some ⟨b, o + n.toNat * k, none⟩), ?_, ?_⟩
            · simp [Instr.indexAt, asIntOf, run_underlying ht, h1, run_sizeOf hti, addr_add, hk]
            · simp only [Qy]
              exact ⟨b, o + n.toNat * k, rfl, hg.2⟩
          · subst hnil; simp at hlt
        · simp at h
      · simp at h
    · simp at h
  · next e _ _ _ id k off len kd n ht =>
    simp only [Qy] at hi; subst hi
    split at h
    · next i hti =>
      split at h
      · next h0 =>
        simp at h; subst h
        simp only [Qy] at hv ⊢
        obtain ⟨b, cap, c, e', hb, rfl, hle, _⟩ := hv
        obtain ⟨hk, h1, h2⟩ := h0
        have h3 : 0 ≤ n ∧ n < (len : Int) := ⟨h1, h2⟩
        exact ⟨_, by simp [Instr.indexAt, asIntOf, run_underlying ht, h3, run_sizeOf hti, addr_add, hk], b, hb, rfl⟩
      · simp at h
    · simp at h
  · next len e _ _ _ cells off kd n ht =>
    simp only [Qy] at hi; subst hi
    split at h
    · next i hti =>
      split at h
      · next h0 =>
        simp at h; subst h
        simp only [Qy] at hv ⊢
        obtain ⟨b, o, rfl, hc⟩ := hv
        exact ⟨_, by simp [Instr.indexAt, asIntOf, run_underlying ht, h0, run_sizeOf hti, addr_add, Instr.sureAddr]; rfl, b, o, by simp [Nat.add_assoc], hc⟩
      · simp at h
    · simp at h
  · simp at h
theorem QfQ {t : TypeId} {x ix r : DV} {v vi : Value} (h : Qs P t x ix = some r) (hv : Qy C w x v) (hi : Qy C w ix vi) :
    ∃ u, (Instr.index t v vi).run P w = .ok u w ∧ Qy C w r u := by
  unfold Qs at h
  split at h
  · next _ _ _ s kd n ht =>
    simp only [Qy] at hi hv; subst hi; subst hv
    split at h
    · next h0 =>
      simp at h
      obtain ⟨c, hc, rfl⟩ := h
      exact ⟨.int .u8 c.toNat, by simp [Instr.index, asIntOf, run_underlying ht, h0, hc], by simp [Qy]⟩
    · simp at h
  · next len e _ _ _ cs kd n ht =>
    simp only [Qy] at hi hv; subst hi
    obtain ⟨ys, rfl, hl, hfl⟩ := hv
    split at h
    · next i hti =>
      split at h
      · next h0 =>
        obtain ⟨u, h1, h2⟩ := Qgr hti hl hfl h
        exact ⟨u, by simp [Instr.index, asIntOf, run_underlying ht, h0, run_sizeOf hti, h1], h2⟩
      · simp at h
    · simp at h
  · simp at h
theorem eqGuard_int {op : BinOp} {t : TypeId} {x y : Operand} {k k' : IntKind} {a b : Int} : (eqGuard op t x y (.int k a) (.int k' b)).run P w = .ok () w := by
  unfold eqGuard; split <;> rfl
theorem Qb3 {op : BinOp} {t : TypeId} {x y : Operand} {a b : ByteArray} : (eqGuard op t x y (.string a) (.string b)).run P w = .ok () w := by
  unfold eqGuard; split <;> rfl
theorem eqGuard_bool {op : BinOp} {t : TypeId} {x y : Operand} {a b : Bool} : (eqGuard op t x y (.bool a) (.bool b)).run P w = .ok () w := by
  unfold eqGuard; split <;> rfl
theorem bytes_beq (a b : ByteArray) : (a.toList == b.toList) = decide (a = b) := by
  rw [ByteArray.toList_eq, ByteArray.toList_eq, Bool.eq_iff_iff]
  simp [ByteArray.ext_iff, Array.toList_inj]
theorem Qf9 {t : TypeId} {i : TyI} {a b : Bool} (ht : Qag P t = some i) (hd : i.desc = .bool) : (Op.equal t (.bool a) (.bool b)).run P w = .ok (a == b) w := by
  unfold Op.equal Op.maxDepth
  rw [show (10000 : Nat) = 9999 + 1 from rfl, Op.equalIn]
  simp only [Sem.run_bind, run_underlying ht, Result.andThen_ok, hd, Sem.run_pure]
theorem eqGuard_slice {op : BinOp} {t : TypeId} {x y : Operand} {a b : Option Addr} {n c n' c' : Nat} : (eqGuard op t x y (.slice a n c) (.slice b n' c')).run P w = .ok () w := by
  unfold eqGuard; split <;> rfl
theorem Qfc {t e : TypeId} {s1 s2 : Nat} {s3 : DV} {a : Option Addr} {n c : Nat} (ht : Qag P t = some ⟨.slice e, s1, s2, s3⟩) : (Op.equal t (.slice a n c) (.slice none 0 0)).run P w = .ok a.isNone w := by
  unfold Op.equal Op.maxDepth
  rw [show (10000 : Nat) = 9999 + 1 from rfl, Op.equalIn]
  simp only [Sem.run_bind, run_underlying ht, Result.andThen_ok]
  cases a <;> rfl
theorem eqGuard_ptr {op : BinOp} {t : TypeId} {x y : Operand} {a b : Option Addr} : (eqGuard op t x y (.pointer a) (.pointer b)).run P w = .ok () w := by
  unfold eqGuard; split <;> rfl
theorem Qhc {t e : TypeId} {s1 s2 : Nat} {s3 : DV} {a : Option Addr} (ht : Qag P t = some ⟨.pointer e, s1, s2, s3⟩) : (Op.equal t (.pointer a) (.pointer none)).run P w = .ok a.isNone w := by
  unfold Op.equal Op.maxDepth
  rw [show (10000 : Nat) = 9999 + 1 from rfl, Op.equalIn]
  simp only [Sem.run_bind, run_underlying ht, Result.andThen_ok]
  cases a <;> rfl
theorem Qcn {op : BinOp} {t : TypeId} {xo yo : Operand} {a : Option Addr} {r : DV} (h : QeZ P op t a.isNone = some r) :
    ∃ z, (do eqGuard op t xo yo (.pointer a) (.pointer none); binOp op t (.pointer a) (.pointer none)).run P w = .ok z w ∧ Qy C w r z := by
  unfold QeZ at h
  simp only [Sem.run_bind, eqGuard_ptr, Result.andThen_ok]
  split at h
  · next ht =>
    simp at h; subst h
    refine ⟨.bool a.isNone, ?_, by simp only [Qy]⟩
    show (do pure (Value.bool (← Op.equal t (.pointer a) (.pointer none))) : Sem Value).run P w = _
    rw [Sem.run_bind, Qhc ht]; rfl
  · next ht =>
    simp at h; subst h
    refine ⟨.bool (!a.isNone), ?_, by cases a <;> simp [Qy]⟩
    show (do pure (Value.bool (!(← Op.equal t (.pointer a) (.pointer none)))) : Sem Value).run P w = _
    rw [Sem.run_bind, Qhc ht]; rfl
  · simp at h
theorem Qd7 {op : BinOp} {t : TypeId} {k : IntKind} {a b : Int} {r : DV} (h : Qdx op k a b = some r) :
    ∃ z, (binOp op t (.int k a) (.int k b)).run P w = .ok z w ∧ Qy C w r z := by
  unfold Qdx at h
  split at h
  · simp at h
  · next hb =>
    cases op <;> simp at h <;> subst h
    · exact ⟨_, by simp [binOp, Op.intDiv, hb]; rfl, by simp [Qy]⟩
    · exact ⟨_, by simp [binOp, Op.intDiv, hb]; rfl, by simp [Qy]⟩
theorem QgA {s t : TypeId} {x r : DV} {v : Value} (h : dconv P s t x = some r) (hv : Qy C w x v) : ∃ z, (convert s t v).run P w = .ok z w ∧ Qy C w r z := by
  unfold dconv at h
  split at h
  · next i k _ _ _ _ n hs ht =>
    simp at h; subst h
    simp only [Qy] at hv; subst hv
    refine ⟨.int k (k.wrap n), ?_, by simp only [Qy]⟩
    unfold convert
    simp only [Sem.run_bind, run_underlying hs, run_underlying ht, Result.andThen_ok]
    cases i.desc <;> rfl
  · next i _ _ _ b hs ht =>
    simp at h; subst h
    simp only [Qy] at hv; subst hv
    refine ⟨.string b, ?_, by simp only [Qy]⟩
    unfold convert
    simp only [Sem.run_bind, run_underlying hs, run_underlying ht, Result.andThen_ok]
    cases i.desc <;> rfl
  · simp at h
theorem QbE {op : BinOp} {t : TypeId} {xo yo : Operand} {a : Option Addr} {n c : Nat} {r : DV} (h : Qp P op t a.isNone = some r) :
    ∃ z, (do eqGuard op t xo yo (.slice a n c) (.slice none 0 0); binOp op t (.slice a n c) (.slice none 0 0)).run P w = .ok z w ∧ Qy C w r z := by
  unfold Qp at h
  simp only [Sem.run_bind, eqGuard_slice, Result.andThen_ok]
  split at h
  · next ht =>
    simp at h; subst h
    refine ⟨.bool a.isNone, ?_, by simp only [Qy]⟩
    show (do pure (Value.bool (← Op.equal t (.slice a n c) (.slice none 0 0))) : Sem Value).run P w = _
    rw [Sem.run_bind, Qfc ht]; rfl
  · next ht =>
    simp at h; subst h
    refine ⟨.bool (!a.isNone), ?_, by cases a <;> simp [Qy]⟩
    show (do pure (Value.bool (!(← Op.equal t (.slice a n c) (.slice none 0 0)))) : Sem Value).run P w = _
    rw [Sem.run_bind, Qfc ht]; rfl
  · simp at h
theorem Qc5 : ∀ {ds : List DV} {vs : List Value} {us : List Value}, QcF ds = some us → QP C w ds vs → vs = us
  | [], vs, us, h, hl => by
    simp [QcF] at h; subst h
    cases vs <;> simp_all [QP]
  | d :: ds, [], us, h, hl => by simp [QP] at hl
  | d :: ds, v :: vs, us, h, hl => by
    simp only [QP] at hl
    cases d <;> simp [QcF] at h
    next x =>
    obtain ⟨us', h1, rfl⟩ := h
    have h2 := hl.1
    simp only [Qy] at h2
    rw [h2, Qc5 h1 hl.2]
theorem Qhh {k : DV} {kv v : Value} (h : Qjo k = some kv) (hv : Qy C w k v) : v = kv := by
  unfold Qjo at h
  split at h
  · simp only [Qy] at hv; simp at h; rw [hv, h]
  · next cs =>
    simp only [Qy] at hv
    obtain ⟨ys, rfl, hl, _⟩ := hv
    obtain ⟨us, h1, rfl⟩ := Option.map_eq_some_iff.1 h
    rw [Qc5 h1 hl]
  · simp at h
theorem run_part_plain {t : TypeId} {i : TyI} {cs : Array Value} {o : Nat} {v : Value} (ht : Qag P t = some i) (ha : i.agg = false) (hv : cs[o]? = some v) : (part t cs o).run P w = .ok v w := by
  simp [part, Qfp ht, ha, hv]
theorem run_equal_plain {d : Nat} {t : TypeId} {i : TyI} {a b : Value} {xs ys : List Value} {r : Bool} (ht : Qag P t = some i) (hf : QC i.desc a = true) (h : Qbp (a :: xs) (b :: ys) = some r) :
    ∃ r0 r1, (Op.equalIn (d + 1) t a b).run P w = .ok r0 w ∧ Qbp xs ys = some r1 ∧ r = (r0 && r1) := by
  have hund := run_underlying ht w
  unfold Qbp at h
  split at h
  · simp_all
  · next k a' xs' k' b' ys' e1 e2 =>
    cases e1; cases e2
    split at h
    · next hk =>
      subst hk
      obtain ⟨r1, h1, rfl⟩ := Option.map_eq_some_iff.1 h
      cases hd : i.desc <;> simp [hd, QC] at hf
      refine ⟨a' == b', r1, ?_, h1, rfl⟩
      rw [Op.equalIn]; simp [hund, hd]
    · simp at h
  · next a' xs' b' ys' e1 e2 =>
    cases e1; cases e2
    obtain ⟨r1, h1, rfl⟩ := Option.map_eq_some_iff.1 h
    cases hd : i.desc <;> simp [hd, QC] at hf
    refine ⟨decide (a' = b'), r1, ?_, h1, rfl⟩
    rw [Op.equalIn]; simp [hund, hd, beq_toListBytes, bytes_beq]
  · next a' xs' b' ys' e1 e2 =>
    cases e1; cases e2
    obtain ⟨r1, h1, rfl⟩ := Option.map_eq_some_iff.1 h
    cases hd : i.desc <;> simp [hd, QC] at hf
    refine ⟨a' == b', r1, ?_, h1, rfl⟩
    rw [Op.equalIn]; simp [hund, hd]
  · simp at h
theorem Qew {d : Nat} : ∀ (fs : List Field) (vs us pre pre' : List Value) (o : Nat) (r : Bool), Qbh P fs vs o = true → Qbp vs us = some r → pre.length = o → pre'.length = o →
    (Op.eqFields (d + 1) (pre ++ vs).toArray (pre' ++ us).toArray fs).run P w = .ok r w
  | [], vs, us, pre, pre', o, r, hf, he, _, _ => by
    cases vs <;> simp [Qbh] at hf
    cases us <;> simp [Qbp] at he
    subst he
    simp [Op.eqFields]
  | f :: fs, [], us, pre, pre', o, r, hf, he, _, _ => by simp [Qbh] at hf
  | f :: fs, v :: vs, [], pre, pre', o, r, hf, he, _, _ => by simp [Qbp] at he
  | f :: fs, v :: vs, u :: us, pre, pre', o, r, hf, he, h1, h2 => by
    simp only [Qbh, Bool.and_eq_true] at hf
    obtain ⟨⟨⟨hn, ho⟩, hk⟩, hr⟩ := hf
    split at hk
    · next i hi =>
      simp only [Bool.and_eq_true, Bool.not_eq_true'] at hk
      obtain ⟨r0, r1, e1, e2, rfl⟩ := run_equal_plain (w := w) (d := d) hi hk.2 he
      have hn' : f.name ≠ "_" := by simpa using hn
      have ho' : f.offset = o := by simpa using ho
      have ih := Qew (d := d) fs vs us (pre ++ [v]) (pre' ++ [u]) (o + 1) r1 hr e2 (by simp [h1]) (by simp [h2])
      simp only [List.append_assoc, List.singleton_append] at ih
      have p1 : (part f.type (pre ++ v :: vs).toArray f.offset).run P w = .ok v w := run_part_plain hi hk.1 (by simp [ho', ← h1])
      have p2 : (part f.type (pre' ++ u :: us).toArray f.offset).run P w = .ok u w := run_part_plain hi hk.1 (by simp [ho', ← h2])
      simp only [Op.eqFields, hn', if_true, Sem.run_bind, p1, p2, e1, Result.andThen_ok, Sem.run_ite, ih, ne_eq, not_false_eq_true]
      cases r0 <;> simp
    · simp at hk
theorem QeH {t : TypeId} {vs us : List Value} {r : Bool} (hk : Qbf P t vs = true) (he : Qbp vs us = some r) : (Op.equal t (.agg vs.toArray) (.agg us.toArray)).run P w = .ok r w := by
  unfold Qbf at hk
  split at hk
  · next fs hu =>
    simp only [Bool.and_eq_true, Bool.not_eq_true'] at hk
    have hfs : P.fieldsOf t = fs := by simp [Program.fieldsOf, hu]
    unfold Op.equal Op.maxDepth
    rw [show (10000 : Nat) = 9999 + 1 from rfl, run_equalIn_struct w 9999 t vs.toArray us.toArray (by rw [hfs]; exact hu) hk.1, hfs]
    exact Qew (d := 9998) fs.toList vs us [] [] 0 r hk.2 he rfl rfl
  · simp at hk
theorem Qdl {op : BinOp} {t : TypeId} {xo yo : Operand} {xs ys : List DV} {vs us : List Value} {r : Bool} (h : QeM P t xs ys = some r) (hv : QP C w xs vs) (hu : QP C w ys us) :
    (eqGuard op t xo yo (.agg vs.toArray) (.agg us.toArray)).run P w = .ok () w ∧ (Op.equal t (.agg vs.toArray) (.agg us.toArray)).run P w = .ok r w := by
  unfold QeM at h
  split at h
  · next vs' us' h1 h2 =>
    obtain rfl := Qc5 h1 hv
    obtain rfl := Qc5 h2 hu
    split at h
    · next hc =>
      simp only [Bool.and_eq_true, Bool.not_eq_true'] at hc
      exact ⟨run_eqGuard_agg w op t xo yo _ _ hc.2, QeH hc.1 h⟩
    · simp at h
  · simp at h
theorem QhV {op : BinOp} {t : TypeId} {xo yo : Operand} {x y r : DV} {v u : Value} (h : QV P op t x y = some r) (hv : Qy C w x v) (hu : Qy C w y u) :
    ∃ z, (do eqGuard op t xo yo v u; binOp op t v u).run P w = .ok z w ∧ Qy C w r z := by
  unfold QV at h
  split at h
  · simp only [Qy] at hv hu; subst hv; subst hu
    exact QbE h
  · next k tag rows =>
    split at h
    · next hc =>
      simp only [Qy] at hv hu; subst hu
      rcases hv with ⟨b, o, cap, rfl, _⟩ | ⟨ad, rfl, rfl, ht⟩
      · exact QbE h
      · cases tag <;> simp [Tag.isNN] at hc
        have : ad.isNone = false := by simp only [Qjf] at ht; cases ad <;> simp_all
        exact QbE (by rw [this]; exact h)
    · simp at h
  · simp only [Qy] at hv hu; subst hu
    obtain ⟨b, _, rfl⟩ := hv
    exact Qcn h
  · simp only [Qy] at hv hu; subst hu
    obtain ⟨b, cap, c, e, _, rfl, _⟩ := hv
    exact QbE h
  · simp only [Qy] at hv hu; subst hu
    obtain ⟨b, o, rfl, _⟩ := hv
    exact Qcn h
  · simp only [Qy] at hv hu; subst hv; subst hu
    exact Qcn h
  · next k a k' b =>
    simp only [Qy] at hv hu; subst hv; subst hu
    simp only [Sem.run_bind, eqGuard_int, Result.andThen_ok]
    split at h
    · unfold Qle at h
      split at h
      · next hb =>
        simp only [Option.some.injEq] at h; subst h
        exact ⟨_, by simp only [binOp]; rw [shift_shr_any _ _ _ _ hb]; rfl, by simp only [Qy]⟩
      · simp at h
    next hshr =>
    split at h
    · next hk =>
      subst hk
      cases op
      case shr => exact absurd rfl hshr
      case quo => exact Qd7 h
      case rem => exact Qd7 h
      all_goals
        simp [intCmp] at h
        try subst h
        try exact ⟨_, by simp [binOp, Op.intArith, Op.intCmp]; rfl, by simp [Qy]⟩
    · simp at h
  · next l c =>
    simp only [Qy] at hv hu; subst hu
    obtain ⟨s, rfl, hs⟩ := hv
    simp only [Sem.run_bind, Qb3, Result.andThen_ok]
    have hne : Qkf c l = true → s ≠ c := by
      intro hm e; subst e
      have : ∀ l : List ByteArray, Qkf s l = true → s ∈ l := by
        intro l
        induction l with
        | nil => simp [Qkf]
        | cons x l ih =>
          intro h
          simp only [Qkf] at h
          split at h
          · next hx => rw [of_decide_eq_true hx]; simp
          · exact List.mem_cons_of_mem _ (ih h)
      exact hs (this l hm)
    split at h
    · next hm =>
      simp at h; subst h
      exact ⟨_, by simp only [binOp, Op.stringOp]; rfl, by simp [Qy, bytes_beq, hne hm]⟩
    · next hm =>
      simp at h; subst h
      exact ⟨_, by simp only [binOp, Op.stringOp]; rfl, by simp [Qy, bytes_beq, hne hm]⟩
    · simp at h
  · next c l =>
    simp only [Qy] at hv hu; subst hv
    obtain ⟨s, rfl, hs⟩ := hu
    simp only [Sem.run_bind, Qb3, Result.andThen_ok]
    have hne : Qkf c l = true → s ≠ c := by
      intro hm e; subst e
      have : ∀ l : List ByteArray, Qkf s l = true → s ∈ l := by
        intro l
        induction l with
        | nil => simp [Qkf]
        | cons x l ih =>
          intro h
          simp only [Qkf] at h
          split at h
          · next hx => rw [of_decide_eq_true hx]; simp
          · exact List.mem_cons_of_mem _ (ih h)
      exact hs (this l hm)
    split at h
    · next hm =>
      simp at h; subst h
      exact ⟨_, by simp only [binOp, Op.stringOp]; rfl, by simp [Qy, bytes_beq, (hne hm).symm]⟩
    · next hm =>
      simp at h; subst h
      exact ⟨_, by simp only [binOp, Op.stringOp]; rfl, by simp [Qy, bytes_beq, (hne hm).symm]⟩
    · simp at h
  · next a b =>
    simp only [Qy] at hv hu; subst hv; subst hu
    simp only [Sem.run_bind, Qb3, Result.andThen_ok]
    cases op <;> simp at h
    case add =>
      obtain ⟨hsz, rfl⟩ := h
      refine ⟨.string (a ++ b), ?_, by simp only [Qy]⟩
      have : ¬ (((a.size + b.size : Nat) : Int) > IntKind.i64.max) := by
        have : IntKind.i64.max = 9223372036854775807 := by decide
        omega
      simp only [binOp, Op.stringOp]
      rw [if_neg this]
      rfl
    all_goals
      subst h
      exact ⟨_, by simp only [binOp, Op.stringOp]; rfl, by simp [Qy, bytes_beq]⟩
  · next xs ys =>
    simp only [Qy] at hv hu
    obtain ⟨vs, rfl, hv, _⟩ := hv
    obtain ⟨us, rfl, hu, _⟩ := hu
    split at h
    · obtain ⟨b, hb, rfl⟩ := Option.map_eq_some_iff.1 h
      obtain ⟨h1, h2⟩ := Qdl (op := .eql) (xo := xo) (yo := yo) hb hv hu
      refine ⟨.bool b, ?_, by simp only [Qy]⟩
      simp only [Sem.run_bind, h1, Result.andThen_ok]
      show (do pure (Value.bool (← Op.equal t (.agg vs.toArray) (.agg us.toArray))) : Sem Value).run P w = _
      rw [Sem.run_bind, h2]; rfl
    · obtain ⟨b, hb, rfl⟩ := Option.map_eq_some_iff.1 h
      obtain ⟨h1, h2⟩ := Qdl (op := .neq) (xo := xo) (yo := yo) hb hv hu
      refine ⟨.bool (!b), ?_, by simp only [Qy]⟩
      simp only [Sem.run_bind, h1, Result.andThen_ok]
      show (do pure (Value.bool (!(← Op.equal t (.agg vs.toArray) (.agg us.toArray)))) : Sem Value).run P w = _
      rw [Sem.run_bind, h2]; rfl
    · simp at h
  · next a b =>
    simp only [Qy] at hv hu; subst hv; subst hu
    simp only [Sem.run_bind, eqGuard_bool, Result.andThen_ok]
    split at h
    · next ht =>
      simp at h; subst h
      refine ⟨.bool (a == b), ?_, by simp only [Qy]⟩
      show (do pure (Value.bool (← Op.equal t (.bool a) (.bool b))) : Sem Value).run P w = _
      rw [Sem.run_bind, Qf9 ht rfl]; rfl
    · next ht =>
      simp at h; subst h
      refine ⟨.bool (!(a == b)), ?_, by simp only [Qy]; cases a <;> cases b <;> rfl⟩
      show (do pure (Value.bool (!(← Op.equal t (.bool a) (.bool b)))) : Sem Value).run P w = _
      rw [Sem.run_bind, Qf9 ht rfl]; rfl
    · simp at h
  · simp at h
theorem QdC {vs : List DV} {i : Nat} {d : DV} {v : Value} (h : vs[i]? = some d) (hv : Qy C w (.tuple vs) v) :
    ∃ u, (Instr.extract v i).run P w = .ok u w ∧ Qy C w d u := by
  simp only [Qy] at hv
  obtain ⟨ys, rfl, hl⟩ := hv
  obtain ⟨u, hu, hr⟩ := Qc1 hl h
  exact ⟨u, by simp [Instr.extract, hu], hr⟩
theorem Qhr {t : TypeId} {ty : TypeId} {x r : DV} {v : Value} {i : TyI} (ht : Qag P t = some i)
    (hd : QA i.desc x = true)
    (h : QX x = some r) (hv : Qy C w x v) :
    ∃ u, (Builtin.len_ #[t] ty #[v]).run P w = .ok u w ∧ Qy C w r u := by
  unfold QX at h
  split at h
  · next s =>
    simp at h; subst h
    simp only [Qy] at hv; subst hv
    cases hdd : i.desc <;> simp [hdd, QA] at hd
    exact ⟨_, by simp [Builtin.len_, run_underlying ht, hdd]; rfl, by simp [Qy]⟩
  · simp at h; subst h
    simp only [Qy] at hv; subst hv
    cases hdd : i.desc <;> simp [hdd, QA] at hd
    exact ⟨_, by simp [Builtin.len_, run_underlying ht, hdd]; rfl, by simp [Qy]⟩
  · next k tag rows =>
    simp at h; subst h
    simp only [Qy] at hv
    cases hdd : i.desc <;> simp [hdd, QA] at hd
    rcases hv with ⟨b, o, cap, rfl, _⟩ | ⟨ad, rfl, rfl, _⟩
    · exact ⟨_, by simp [Builtin.len_, run_underlying ht, hdd]; rfl, by simp [Qy]⟩
    · exact ⟨_, by simp [Builtin.len_, run_underlying ht, hdd]; rfl, by simp [Qy]⟩
  · simp at h; subst h
    simp only [Qy] at hv
    cases hdd : i.desc <;> simp [hdd, QA] at hd
    obtain ⟨b, cap, c, e, _, rfl, _⟩ := hv
    exact ⟨_, by simp [Builtin.len_, run_underlying ht, hdd]; rfl, by simp [Qy]⟩
  · simp at h
end Go.FA
namespace Go.FA
open Go.RowKit
variable {P : Program} {E : Entry} {F : Nat → Prop} {C : Ctx} {w : World} {σ : St}
theorem Qay {d : DV} {v : Value} {xs : List DV} (h : d.cells = some xs) (hv : Qy C w d v) : ∃ vs : List Value, v.cells = vs.toArray ∧ QP C w xs vs ∧ Flat vs := by
  have one : ∀ u : Value, u.oneCell' = true → ∀ d', Qy C w d' u → ∃ vs : List Value, u.cells = vs.toArray ∧ QP C w [d'] vs ∧ Flat vs := by
    intro u hu d' hr
    refine ⟨[u], ?_, ?_, ?_⟩
    · cases u <;> simp_all [Value.cells, Value.oneCell']
    · simpa [QP] using hr
    · intro y hy; simp at hy; subst hy; exact hu
  cases d with
  | junk => simp [DV.cells] at h
  | strNot l => simp [DV.cells] at h; subst h; have hv' := hv; simp only [Qy] at hv'; obtain ⟨s, rfl, _⟩ := hv'; exact one _ rfl _ hv
  | lit l =>
    simp only [Qy] at hv; subst hv
    cases v <;> simp [DV.cells] at h <;> subst h <;> exact one _ rfl _ (by simp [Qy])
  | ptr id off => simp [DV.cells] at h; subst h; have hv' := hv; simp only [Qy] at hv'; obtain ⟨b, _, rfl⟩ := hv'; exact one _ rfl _ hv
  | live id k off n => simp [DV.cells] at h; subst h; have hv' := hv; simp only [Qy] at hv'; obtain ⟨b, cap, c, e, _, rfl, _⟩ := hv'; exact one _ rfl _ hv
  | row cells off => simp [DV.cells] at h; subst h; have hv' := hv; simp only [Qy] at hv'; obtain ⟨b, _, rfl, _⟩ := hv'; exact one _ rfl _ hv
  | slice k tag rows =>
    simp [DV.cells] at h; subst h; have hv' := hv; simp only [Qy] at hv'
    rcases hv' with ⟨b, o, cap, rfl, _⟩ | ⟨ad, rfl, _⟩ <;> exact one _ rfl _ hv
  | map id => simp [DV.cells] at h; subst h; have hv' := hv; simp only [Qy] at hv'; obtain ⟨b, _, rfl⟩ := hv'; exact one _ rfl _ hv
  | fmap ks vs => simp [DV.cells] at h; subst h; have hv' := hv; simp only [Qy] at hv'; obtain ⟨b, _, _, rfl, _⟩ := hv'; exact one _ rfl _ hv
  | func fn f c => simp [DV.cells] at h; subst h; have hv' := hv; simp only [Qy] at hv'; obtain ⟨_, _, rfl, _⟩ := hv'; exact one _ rfl _ hv
  | iface t x => simp [DV.cells] at h; subst h; have hv' := hv; simp only [Qy] at hv'; obtain ⟨_, rfl, _⟩ := hv'; exact one _ rfl _ hv
  | agg cs =>
    simp [DV.cells] at h; subst h
    simp only [Qy] at hv
    obtain ⟨ys, rfl, hl, hf⟩ := hv
    exact ⟨ys, rfl, hl, hf⟩
  | tuple vs => simp [DV.cells] at h
structure QcW (w w' : World) (b : Nat) (o : Obj) : Prop where
  os : w'.os = w.os
  tape : w'.tape = w.tape
  output : w'.output = w.output
  size : w'.heap.size = w.heap.size
  at_ : w'.heap[b]? = some o
  other : ∀ k, k ≠ b → w'.heap[k]? = w.heap[k]?
theorem QcW.below {w' : World} {b B : Nat} {o : Obj} (h : QcW w w' b o) (hb : B ≤ b) : Below B w w' :=
  ⟨h.os, h.tape, h.output, Nat.le_of_eq h.size.symm, fun k hk => h.other k (by omega)⟩
theorem QcW.step {w' : World} {b : Nat} {o : Obj} (h : QcW w w' b o) (hp : ∀ j, ¬ C.pc b j) (hm : ¬ C.pm b) (hk : ∀ c e, w.heap[b]? = some (.cells c e) → ∃ c' e', o = .cells c' e' ∧ c'.size = c.size) : Step C w w' :=
  ⟨fun k j p => World.cell?_of_block (w := w) (h.other k (fun e => by subst e; exact hp j p)), fun k p => h.other k (fun e => by subst e; exact hm p), fun k c e p q => by
    by_cases ek : k = b
    · subst ek
      obtain ⟨c', e', rfl, hsz⟩ := hk c e q
      exact ⟨c', e', h.at_, hsz⟩
    · exact ⟨c, e, by rw [h.other k ek]; exact q, rfl⟩⟩
theorem Qav.turn {w' : World} {id b : Nat} {o : Qjt} {o' : Qjt} {ob : Obj} (h : Qav E F C w σ) (ho : σ.objs id = some o) (hb : C.obj id = some b) (ht : QcW w w' b ob) (hk : ∀ c e, w.heap[b]? = some (.cells c e) → ∃ c' e', ob = .cells c' e' ∧ c'.size = c.size)
    (hO : Qjz C w' b o') : Step C w w' ∧ Qav E F C w' { σ with objs := upd σ.objs id (some o') } := by
  obtain ⟨b', hb', hB, hlt, hnp, hnm, _⟩ := h.obj id o ho
  obtain rfl : b = b' := by rw [hb] at hb'; exact Option.some.inj hb'
  have hst : Step C w w' := ht.step hnp hnm hk
  refine ⟨hst, ?_⟩
  constructor
  · exact h.lo
  · exact h.below.trans (ht.below hB)
  · rw [ht.size]; exact h.bsize
  · exact h.pB
  · exact h.mB
  · exact h.psup
  · exact h.msup
  · rw [ht.size]; exact h.psub
  · rw [ht.size]; exact h.msub
  · intro i oi hi
    by_cases e : i = id
    · subst e
      simp [upd] at hi; subst hi
      exact ⟨b, hb, hB, by rw [ht.size]; exact hlt, hnp, hnm, hO⟩
    · simp [upd, e] at hi
      obtain ⟨bi, h1, h2, h3, h4, h5, h6⟩ := h.obj i oi hi
      refine ⟨bi, h1, h2, by rw [ht.size]; exact h3, h4, h5, h6.mono (.refl C) hst (ht.other _ fun e' => ?_)⟩
      subst e'
      exact e (h.inj i id oi o bi hi ho h1 hb)
  · intro i j oi oj bb hi hj h1 h2
    have key : ∀ k ok, upd σ.objs id (some o') k = some ok → ∃ ok', σ.objs k = some ok' := by
      intro k ok hk
      by_cases e : k = id
      · subst e; exact ⟨o, ho⟩
      · simp [upd, e] at hk; exact ⟨ok, hk⟩
    obtain ⟨oi', hi'⟩ := key i oi hi
    obtain ⟨oj', hj'⟩ := key j oj hj
    exact h.inj i j oi' oj' bb hi' hj' h1 h2
  · intro t g htk
    obtain ⟨x, h1, h2, h3⟩ := h.tok t g htk
    refine ⟨x, h1, h2, fun hx => ?_⟩
    obtain ⟨h4, h5, h6, h7⟩ := h3 hx
    refine ⟨h4, ?_, h6, h7⟩
    rw [ht.other x.blk (fun e => ?_)]
    · exact h5
    · exact h.tobj t g x id o htk h1 hx ho (by rw [hb, e])
  · exact h.tinj
  · intro t g x i oi htk h1 hx hi
    by_cases e : i = id
    · subst e; exact h.tobj t g x i o htk h1 hx ho
    · simp [upd, e] at hi; exact h.tobj t g x i oi htk h1 hx hi
  · exact h.fresh
theorem QaR {b : Nat} {cur cs : Array Value} {t : TypeId} (h : w.heap[b]? = some (.cells cur t)) : QcW w (w.setRow b cs) b (.cells cs t) := by
  refine ⟨rfl, rfl, rfl, ?_, ?_, ?_⟩
  · simp [World.setRow]
  · simp [World.setRow, Array.getElem?_modify, h]
  · intro k hk
    simp only [World.setRow, Array.getElem?_modify]
    rw [if_neg (fun e => hk e.symm)]
theorem Qd6 {α : Type} : ∀ (xs cs : List α) (o : Nat), o + xs.length ≤ cs.length → setAt cs o xs = cs.take o ++ xs ++ cs.drop (o + xs.length)
  | [], cs, o, h => by simp [setAt]
  | x :: xs, cs, o, h => by
    simp only [List.length_cons] at h
    rw [setAt, Qd6 xs (cs.set o x) (o + 1) (by simp; omega)]
    apply List.ext_getElem?
    intro i
    have hl : o < cs.length := by omega
    simp only [List.getElem?_append, List.length_append, List.length_take, List.length_set, List.getElem?_take, List.getElem?_drop, List.getElem?_set, List.length_cons]
    by_cases h1 : i < o
    · simp [h1, show i < o + 1 by omega, show i < cs.length by omega, show i < min (o + 1) cs.length by omega, show i < min o cs.length by omega, show o ≠ i by omega, show i < min (o+1) cs.length + xs.length by omega, show i < min o cs.length + (xs.length + 1) by omega]
    · by_cases h2 : i = o
      · subst h2
        simp [show i < i + 1 by omega, show i < min (i + 1) cs.length by omega, hl, show ¬ i < min i cs.length by omega, show i < min (i+1) cs.length + xs.length by omega, show i < min i cs.length + (xs.length + 1) by omega, show i - min i cs.length = 0 by omega]
      · by_cases h3 : i < o + 1 + xs.length
        · simp [show ¬ i < min (o + 1) cs.length by omega, show ¬ i < min o cs.length by omega, show i < min (o+1) cs.length + xs.length by omega, show i < min o cs.length + (xs.length + 1) by omega]
          rw [show i - min o cs.length = (i - min (o + 1) cs.length) + 1 by omega, List.getElem?_cons_succ]
        · have e1 : o + 1 + xs.length + (i - (min (o + 1) cs.length + xs.length)) = i := by omega
          have e2 : o + (xs.length + 1) + (i - (min o cs.length + (xs.length + 1))) = i := by omega
          simp [show ¬ i < min (o+1) cs.length + xs.length by omega, show ¬ i < min o cs.length + (xs.length + 1) by omega, e1, e2, show o ≠ i by omega]
theorem Qc7 : ∀ {xs : List DV} {vx : List Value} {cs : List DV} {vc : List Value} {o : Nat}, QP C w xs vx → QP C w cs vc → QP C w (setAt cs o xs) (setAt vc o vx)
  | [], [], _, _, _, _, h => by simpa [setAt] using h
  | x :: xs, v :: vx, cs, vc, o, hx, hc => by
    simp only [QP] at hx
    simp only [setAt]
    exact Qc7 hx.2 (QiR o hc hx.1)
  | [], _ :: _, _, _, _, h, _ => by simp [QP] at h
  | _ :: _, [], _, _, _, h, _ => by simp [QP] at h
theorem Flat.set {ys : List Value} (h : Flat ys) (n : Nat) {v : Value} (hv : v.oneCell' = true) : Flat (ys.set n v) := fun y hy => by
  rcases List.mem_or_eq_of_mem_set hy with q | rfl
  · exact h y q
  · exact hv
theorem Flat.setAt : ∀ {vx vc : List Value} {o : Nat}, Flat vx → Flat vc → Flat (setAt vc o vx)
  | [], _, _, _, h => by simpa [FA.setAt] using h
  | v :: vx, vc, o, hx, hc => by
    simp only [FA.setAt]
    exact Flat.setAt (fun y hy => hx y (by simp [hy])) (hc.set o (hx v (by simp)))
theorem QfK {t : TypeId} {ad x : DV} {va vx : Value} {σ' : St} (h : QI P σ t ad x = some σ') (ha : Qy C w ad va) (hx : Qy C w x vx) (hs : Qav E F C w σ) :
    ∃ w', (Instr.storeAt t va vx).run P w = .ok () w' ∧ Step C w w' ∧ Qav E F C w' σ' := by
  unfold QI at h
  split at h
  · next id off i xs ht hcs =>
    split at h
    · next e cs ho =>
      split at h
      · next hc =>
        simp at hc h; subst h
        simp only [Qy] at ha
        obtain ⟨b, hb, rfl⟩ := ha
        obtain ⟨b', hb', hB, hlt, hnp, hnm, vs, hheap, hl, hf⟩ := hs.obj _ _ ho
        obtain rfl : b = b' := by rw [hb] at hb'; exact Option.some.inj hb'
        obtain ⟨us, hus, hlu, hfu⟩ := Qay hcs hx
        have hlen1 := QY hlu
        have hlen2 := QY hl
        have hrun := run_storeCells_at P b off e us 0 vs.toArray w hheap (by simp; omega) hfu
        simp only [Nat.add_zero] at hrun
        have hT := QaR (w := w) (cs := (vs.toArray.toList.take off ++ us ++ vs.toArray.toList.drop (off + us.length)).toArray) hheap
        have hkk : ∀ c2 e2, w.heap[b]? = some (.cells c2 e2) → ∃ c' e', Obj.cells (vs.toArray.toList.take off ++ us ++ vs.toArray.toList.drop (off + us.length)).toArray e = .cells c' e' ∧ c'.size = c2.size := fun c2 e2 q => by
          rw [hheap] at q; cases q
          exact ⟨_, _, rfl, by simp; omega⟩
        have hstep := hT.step hnp hnm hkk
        refine ⟨_, ?_, hs.turn (o' := .cells e (setAt cs off xs)) ho hb hT hkk ?_⟩
        · simp [Instr.storeAt, Instr.sureAddr, storeVar, hus, run_sizeOf ht, ← hlen1, hc.1, hrun]
        · have hse := Qd6 us vs off (by omega)
          refine ⟨setAt vs off us, by rw [hse]; simpa using hT.at_, ?_, ?_⟩
          · exact QS (.refl C) hstep _ _ (Qc7 hlu hl)
          · exact hfu.setAt hf
      · simp at h
    · next e cs ho =>
      split at h
      · next hc =>
        simp at hc h; subst h
        simp only [Qy] at ha
        obtain ⟨b, hb, rfl⟩ := ha
        obtain ⟨b', hb', hB, hlt, hnp, hnm, vs, tl, hheap, hl, hf⟩ := hs.obj _ _ ho
        obtain rfl : b = b' := by rw [hb] at hb'; exact Option.some.inj hb'
        obtain ⟨us, hus, hlu, hfu⟩ := Qay hcs hx
        have hlen1 := QY hlu
        have hlen2 := QY hl
        have hrun := run_storeCells_at P b off e us 0 (vs ++ tl).toArray w hheap (by simp; omega) hfu
        simp only [Nat.add_zero] at hrun
        have hT := QaR (w := w) (cs := ((vs ++ tl).toArray.toList.take off ++ us ++ (vs ++ tl).toArray.toList.drop (off + us.length)).toArray) hheap
        have hkk : ∀ c2 e2, w.heap[b]? = some (.cells c2 e2) → ∃ c' e', Obj.cells ((vs ++ tl).toArray.toList.take off ++ us ++ (vs ++ tl).toArray.toList.drop (off + us.length)).toArray e = .cells c' e' ∧ c'.size = c2.size := fun c2 e2 q => by
          rw [hheap] at q; cases q
          exact ⟨_, _, rfl, by simp; omega⟩
        have hstep := hT.step hnp hnm hkk
        refine ⟨_, ?_, hs.turn (o' := .buf e (setAt cs off xs)) ho hb hT hkk ?_⟩
        · simp [Instr.storeAt, Instr.sureAddr, storeVar, hus, run_sizeOf ht, ← hlen1, hc.1, hrun]
        · have hse := Qd6 us vs off (by omega)
          have hse2 := Qd6 us (vs ++ tl) off (by simp; omega)
          have hcat : setAt (vs ++ tl) off us = setAt vs off us ++ tl := by
            rw [hse, hse2, List.take_append_of_le_length (by omega), List.drop_append_of_le_length (by omega)]
            simp
          refine ⟨setAt vs off us, tl, by rw [← hcat, hse2]; simpa using hT.at_, ?_, ?_⟩
          · exact QS (.refl C) hstep _ _ (Qc7 hlu hl)
          · rw [← hcat]; exact hfu.setAt hf
      · simp at h
    · simp at h
  · simp at h
theorem Qav.new_obj {id : Nat} {ob : Obj} {o : Qjt} (h : Qav E F C w σ) (hF : F id) (hO : ∀ C', C.Le C' → Step C w (w.alloc ob) → Qjz C' (w.alloc ob) w.heap.size o) :
    ∃ C', C.Le C' ∧ Step C w (w.alloc ob) ∧ C'.obj id = some w.heap.size ∧ C'.tk = C.tk ∧ C'.pc = C.pc ∧ C'.pm = C.pm ∧
      Qav E (fun i => F i ∧ i ≠ id) C' (w.alloc ob) { σ with objs := upd σ.objs id (some o) } := by
  have hbel : Below w.heap.size w (w.alloc ob) := (Below.refl _ _).alloc (Nat.le_refl _) _
  obtain ⟨hle0, hst, h1⟩ := h.grow (pc' := C.pc) (pm' := C.pm) hbel (fun _ _ p => p) (fun _ p => p) (fun _ _ p => .inl p) (fun _ p => .inl p)
  obtain ⟨hno, hnt⟩ := h.fresh id hF
  have hle : C.Le { C with obj := upd C.obj id (some w.heap.size) } :=
    ⟨fun i b e => by
      by_cases q : i = id
      · subst q; simp [hno] at e
      · simpa [upd, q] using e,
     fun _ x e => ⟨x, e, Nat.le_refl _, fun _ => rfl⟩, fun _ _ p => p, fun _ p => p, rfl⟩
  refine ⟨{ C with obj := upd C.obj id (some w.heap.size) }, hle, hst, by simp [upd], rfl, rfl, rfl, ?_⟩
  have hnone : ∀ oo, σ.objs id = some oo → False := fun oo e => by
    obtain ⟨b, hb, _⟩ := h.obj id oo e
    rw [hno] at hb; cases hb
  constructor
  · exact h1.lo
  · exact h1.below
  · exact h1.bsize
  · exact h1.pB
  · exact h1.mB
  · exact h1.psup
  · exact h1.msup
  · exact h1.psub
  · exact h1.msub
  · intro i oi hi
    by_cases e : i = id
    · subst e
      simp [upd] at hi; subst hi
      refine ⟨w.heap.size, by simp [upd], h.bsize, by simp, fun j p => ?_, fun p => ?_, hO _ hle hst⟩
      · have := h.pcsize _ _ p; omega
      · have := h.pmsize _ p; omega
    · simp [upd, e] at hi
      obtain ⟨bi, g1, g2, g3, g4, g5, g6⟩ := h.obj i oi hi
      exact ⟨bi, by simpa [upd, e] using g1, g2, by simp; omega, g4, g5, g6.mono hle hst (hbel.block _ g3)⟩
  · intro i j oi oj bb hi hj g1 g2
    by_cases ei : i = id
    · by_cases ej : j = id
      · rw [ei, ej]
      · subst ei
        simp [upd] at g1; simp [upd, ej] at hj g2
        obtain ⟨bj, q1, q2, q3, _⟩ := h.obj j oj hj
        rw [g2] at q1; cases q1; omega
    · simp [upd, ei] at hi g1
      by_cases ej : j = id
      · subst ej
        simp [upd] at g2
        obtain ⟨bi, q1, q2, q3, _⟩ := h.obj i oi hi
        rw [g1] at q1; cases q1; omega
      · simp [upd, ej] at hj g2
        exact h.inj i j oi oj bb hi hj g1 g2
  · intro t g ht
    exact h1.tok t g ht
  · exact h.tinj
  · intro t g x i oi ht g1 hx hi
    by_cases e : i = id
    · subst e
      obtain ⟨x', q1, _, q3⟩ := h.tok t g ht
      have : x' = x := by rw [show C.tk t = some x from g1] at q1; exact (Option.some.inj q1).symm
      subst this
      have := Qa3 (q3 hx).2.1
      simp [upd]; omega
    · simp [upd, e] at hi ⊢
      exact h.tobj t g x i oi ht g1 hx hi
  · intro i ⟨hf, hne⟩
    have := h.fresh i hf
    exact ⟨by simpa [upd, hne] using this.1, this.2⟩
theorem alloc_sound {t : TypeId} {id : Nat} {i : TyI} {cs : List DV} (ht : Qag P t = some i) (hz : i.zero.cells = some cs) (hs : Qav E F C w σ) (hF : F id) :
    ∃ v w', (Instr.alloc t true (.tuple #[])).run P w = .ok v w' ∧
      Res E (fun j => F j ∧ j ≠ id) C w { σ with objs := upd σ.objs id (some (.cells t cs)) } (.ptr id 0) v w' := by
  obtain ⟨z, hz1, hz2⟩ := QbD ht w
  have hzr : ∀ C' w', Qy C' w' i.zero z := fun C' w' => by rw [hz2]; exact QaK z
  obtain ⟨C', hle, hst, hob, _, _, _, hs'⟩ := hs.new_obj (id := id) (ob := .cells z.cells t) (o := .cells t cs) hF (fun C' hle hst => by
    obtain ⟨vs, h1, h2, h3⟩ := Qay hz (hzr C' (w.alloc (.cells z.cells t)))
    exact ⟨vs, by rw [← h1]; exact heap_alloc_new w _, h2, h3⟩)
  refine ⟨.pointer (some ⟨w.heap.size, 0, none⟩), w.alloc (.cells z.cells t), ?_, C', hle, hst, ?_, hs'⟩
  · simp [Instr.alloc, hz1, newVar, newRow]
  · simp only [Qy]; exact ⟨_, hob, rfl⟩
theorem Qav.new_row {cs : List DV} {vs : List Value} {t : TypeId} (h : Qav E F C w σ) (hl : QP C w cs vs) (hf : Flat vs) :
    ∃ C', C.Le C' ∧ Step C w (w.alloc (.cells vs.toArray t)) ∧ C'.obj = C.obj ∧ C'.tk = C.tk ∧ Qa6 C' (w.alloc (.cells vs.toArray t)) w.heap.size 0 cs ∧ Qav E F C' (w.alloc (.cells vs.toArray t)) σ := by
  have hbel : Below w.heap.size w (w.alloc (.cells vs.toArray t)) := (Below.refl _ _).alloc (Nat.le_refl _) _
  obtain ⟨hle, hst, h1⟩ := h.grow (pc' := fun b o => C.pc b o ∨ b = w.heap.size) (pm' := C.pm) hbel (fun _ _ p => .inl p) (fun _ p => p)
    (fun b o p => p.imp id fun e => by subst e; simp) (fun _ p => .inl p)
  refine ⟨_, hle, hst, rfl, rfl, ?_, h1⟩
  refine Qdv (QS hle hst _ _ hl) hf fun i v hv => ⟨.inr rfl, ?_⟩
  rw [cell?_of_cells (heap_alloc_new w _)]
  simpa using hv
theorem Qhe {t : TypeId} {x : DV} {v : Value} {cs : List DV} (hc : x.cells = some cs) (hv : Qy C w x v) (hs : Qav E F C w σ) :
    ∃ u w', (Instr.box t v).run P w = .ok u w' ∧ Res E F C w σ (.row cs 0) u w' := by
  obtain ⟨vs, h1, h2, h3⟩ := Qay hc hv
  obtain ⟨C', hle, hst, _, _, hcr, hs'⟩ := hs.new_row (t := t) h2 h3
  refine ⟨.pointer (some ⟨w.heap.size, 0, none⟩), w.alloc (.cells vs.toArray t), ?_, C', hle, hst, ?_, hs'⟩
  · simp [Instr.box, newVar, newRow, h1]
  · simp only [Qy]; exact ⟨_, 0, rfl, hcr⟩
theorem makeMap_sound {t : TypeId} {id : Nat} (hs : Qav E F C w σ) (hF : F id) :
    ∃ u w', (Instr.makeMap t none).run P w = .ok u w' ∧ Res E (fun j => F j ∧ j ≠ id) C w { σ with objs := upd σ.objs id (some (.map [] [])) } (.map id) u w' := by
  obtain ⟨C', hle, hst, hob, _, _, _, hs'⟩ := hs.new_obj (id := id) (ob := .map #[] 0) (o := .map [] []) hF (fun C' hle hst =>
    ⟨#[], 0, heap_alloc_new w _, rfl, by simp [QP], by simp [Stamped]⟩)
  refine ⟨.map (some w.heap.size), w.alloc (.map #[] 0), ?_, C', hle, hst, ?_, hs'⟩
  · simp [Instr.makeMap]
  · simp only [Qy]; exact ⟨_, hob, rfl⟩
end Go.FA
namespace Go.FA
open Go.RowKit
variable {P : Program} {E : Entry} {F : Nat → Prop} {C : Ctx} {w : World} {σ : St}
theorem QcY (a b : ByteArray) : (a == b) = decide (a = b) := by rw [beq_toListBytes, bytes_beq]
instance : LawfulBEq ByteArray where
  eq_of_beq {a b} h := by rw [QcY] at h; exact of_decide_eq_true h
  rfl {a} := by rw [QcY]; exact decide_eq_true rfl
theorem Qgq {d : TypeDesc} {a b : Value} {r : Bool} (hf : QC d a = true) (h : Qax a b = some r) : Instr.sameNow d a b = some r := by
  unfold Qax at h
  split at h
  · cases d <;> simp [QC] at hf
    simp only [Instr.sameNow]; exact h
  · cases d <;> simp [QC] at hf
    simp only [Instr.sameNow, QcY]; exact h
  · cases d <;> simp [QC] at hf
    simp only [Instr.sameNow]; exact h
  · cases d <;> simp [QC] at hf
  · simp at h
def Qaj (key : Value) : List Value → Option (Option Nat)
  | [] => some none
  | k :: ks => match Qax key k with
    | some true => some (some 0)
    | some false => (Qaj key ks).map fun r => r.map (· + 1)
    | none => none
theorem Qf5 {d : TypeDesc} {key : Value} (hf : QC d key = true) : ∀ (l : List MapEntry) (i : Nat) (r : Option Nat), Qaj key (l.map (·.key)) = some r →
    Instr.findNow d key l i = some (r.bind fun j => (l[j]?).map fun e => (i + j, e.val))
  | [], i, r, h => by simp [Qaj] at h; subst h; simp [Instr.findNow]
  | e :: l, i, r, h => by
    simp only [List.map_cons, Qaj] at h
    split at h
    · next he => simp at h; subst h; simp [Instr.findNow, Qgq hf he]
    · next he =>
      obtain ⟨r', h1, rfl⟩ := Option.map_eq_some_iff.1 h
      have ih := Qf5 hf l (i + 1) r' h1
      simp only [Instr.findNow, Qgq hf he, ih]
      cases r' with
      | none => rfl
      | some j => simp [show i + 1 + j = i + (j + 1) by omega]
    · simp at h
theorem Qe4 {t : TypeId} {vs : List Value} (hf : Qbf P t vs = true) : ∀ (l : List MapEntry) (i : Nat) (r : Option Nat), Qaj (.agg vs.toArray) (l.map (·.key)) = some r →
    (Instr.findAsking t (.agg vs.toArray) l i).run P w = .ok (r.bind fun j => (l[j]?).map fun e => (i + j, e.val)) w
  | [], i, r, h => by simp [Qaj] at h; subst h; simp [Instr.findAsking]
  | e :: l, i, r, h => by
    simp only [List.map_cons, Qaj] at h
    have hq : ∀ b, Qax (.agg vs.toArray) e.key = some b → (Op.equal t (.agg vs.toArray) e.key).run P w = .ok b w := by
      intro b hb
      cases hk : e.key <;> rw [hk] at hb <;> simp [Qax] at hb
      next cs =>
      have := QeH (w := w) hf hb
      simpa using this
    split at h
    · next he => simp at h; subst h; simp [Instr.findAsking, hq _ he]
    · next he =>
      obtain ⟨r', h1, rfl⟩ := Option.map_eq_some_iff.1 h
      have ih := Qe4 hf l (i + 1) r' h1
      simp only [Instr.findAsking, Sem.run_bind, hq _ he, Result.andThen_ok, Bool.false_eq_true, if_false, ih]
      cases r' with
      | none => rfl
      | some j => simp [show i + 1 + j = i + (j + 1) by omega]
    · simp at h
theorem run_findKey {t : TypeId} {i : TyI} {key : Value} {l : List MapEntry} {r : Option Nat} (ht : Qag P t = some i) (hf : Qcw P t i key = true) (h : Qaj key (l.map (·.key)) = some r) :
    (Instr.findKey t key l).run P w = .ok (r.bind fun j => (l[j]?).map fun e => (j, e.val)) w := by
  unfold Qcw at hf
  split at hf
  · next cs =>
    have hu : ∃ fs, i.desc = .struct fs := by
      obtain ⟨_, _, q, _⟩ := Qau ht
      unfold Qbf at hf
      split at hf
      · next fs hu => rw [hu] at q; exact ⟨fs, (Option.some.inj q).symm⟩
      · simp at hf
    obtain ⟨fs, hd⟩ := hu
    have hs := Qe4 (w := w) hf l 0 r (by simpa using h)
    simp only [Nat.zero_add] at hs
    cases l with
    | nil =>
      simp [Qaj] at h; subst h
      simp [Instr.findKey, run_underlying ht, Instr.findNow]
    | cons e l =>
      have : Instr.findNow i.desc (.agg cs) (e :: l) 0 = none := by simp [Instr.findNow, hd, Instr.sameNow]
      simp only [Instr.findKey, Sem.run_bind, run_underlying ht, Result.andThen_ok, this]
      simpa using hs
  · have := Qf5 hf l 0 r h
    simp only [Nat.zero_add] at this
    simp [Instr.findKey, run_underlying ht, this]
theorem Qe0 {key : Value} : ∀ (l : List MapEntry) (vs : List DV) (r : Option DV), assoc key (l.map (·.key)) vs = some r → QP C w vs (l.map (·.val)) →
    match r with
    | none => Qaj key (l.map (·.key)) = some none
    | some x => ∃ j e, Qaj key (l.map (·.key)) = some (some j) ∧ l[j]? = some e ∧ Qy C w x e.val
  | [], vs, r, h, _ => by
    simp [assoc] at h; subst h; simp [Qaj]
  | e :: l, [], r, h, hl => by simp [QP] at hl
  | e :: l, v :: vs, r, h, hl => by
    simp only [List.map_cons, assoc] at h
    simp only [List.map_cons, QP] at hl
    split at h
    · next he =>
      simp at h; subst h
      exact ⟨0, e, by simp [Qaj, he], rfl, hl.1⟩
    · next he =>
      have ih := Qe0 l vs r h hl.2
      cases r with
      | none => simp only [] at ih ⊢; simp [Qaj, he, ih]
      | some x =>
        obtain ⟨j, u, h1, h2, h3⟩ := ih
        exact ⟨j + 1, u, by simp [Qaj, he, h1], by simpa using h2, h3⟩
    · simp at h
theorem Qdk {t : TypeId} {i : TyI} {v : Value} {e : Bool} {n : Nat} (ht : Qag P t = some i) (hf : QC i.desc v = true) : (Instr.checkKey e (n + 1) t v).run P w = .ok () w := by
  rw [Instr.checkKey]
  simp only [Sem.run_bind, run_underlying ht, Result.andThen_ok]
  cases hd : i.desc <;> cases v <;> simp [hd, QC] at hf <;> rfl
theorem QcE {e : Bool} {n : Nat} : ∀ (fs : List Field) (vs pre : List Value) (o : Nat), Qbh P fs vs o = true → pre.length = o →
    (forIn (m := Sem) fs PUnit.unit fun f r => do
        if f.name ≠ "_" then
          let c ← part f.type (pre ++ vs).toArray f.offset
          Instr.checkKey e (n + 1) f.type c
          pure (ForInStep.yield PUnit.unit)
        else pure (ForInStep.yield PUnit.unit)).run P w = .ok PUnit.unit w
  | [], vs, pre, o, hf, _ => by simp
  | f :: fs, [], pre, o, hf, _ => by simp [Qbh] at hf
  | f :: fs, v :: vs, pre, o, hf, h1 => by
    simp only [Qbh, Bool.and_eq_true] at hf
    obtain ⟨⟨⟨hn, ho⟩, hk⟩, hr⟩ := hf
    split at hk
    · next i hi =>
      simp only [Bool.and_eq_true, Bool.not_eq_true'] at hk
      have hn' : f.name ≠ "_" := by simpa using hn
      have ho' : f.offset = o := by simpa using ho
      have ih := QcE (e := e) (n := n) fs vs (pre ++ [v]) (o + 1) hr (by simp [h1])
      simp only [List.append_assoc, List.singleton_append] at ih
      have p1 : (part f.type (pre ++ v :: vs).toArray f.offset).run P w = .ok v w := run_part_plain hi hk.1 (by simp [ho', ← h1])
      simp only [List.forIn_cons, hn', ne_eq, not_false_eq_true, if_true, Sem.run_bind, p1, Result.andThen_ok, Qdk hi hk.2, Sem.run_pure]
      exact ih
    · simp at hk
theorem run_checkKey {t : TypeId} {i : TyI} {v : Value} {e : Bool} (ht : Qag P t = some i) (hf : Qcw P t i v = true) : (Instr.checkKey e 10000 t v).run P w = .ok () w := by
  unfold Qcw at hf
  split at hf
  · next cs =>
    unfold Qbf at hf
    split at hf
    · next fs hu =>
      simp only [Bool.and_eq_true, Bool.not_eq_true'] at hf
      have hd : i.desc = .struct fs := by
        obtain ⟨_, _, q, _⟩ := Qau ht
        rw [hu] at q; exact (Option.some.inj q).symm
      have := QcE (w := w) (e := e) (n := 9998) fs.toList cs.toList [] 0 hf.2 rfl
      simp only [List.nil_append, Array.toArray_toList] at this
      rw [show (10000 : Nat) = 9999 + 1 from rfl, Instr.checkKey]
      simp only [Sem.run_bind, run_underlying ht, Result.andThen_ok, hd]
      rw [← Array.forIn_toList]
      first
        | exact this
        | (simp only [Sem.run_bind]; rw [this]; rfl)
        | (simp at this ⊢; simp [this])
    · simp at hf
  · exact Qdk ht hf
theorem run_getObj_map {b : Nat} {es : Array MapEntry} {clock : Nat} (h : w.heap[b]? = some (.map es clock)) : (getObj b).run P w = .ok (.map es clock) w := by
  simp [getObj, Sem.run, h]
theorem QcP.keys {C : Ctx} {w : World} : ∀ {l : List (Value × DV)} {es : List MapEntry}, QcP C w l es → es.map (·.key) = l.map (·.1) ∧ QP C w (l.map (·.2)) (es.map (·.val))
  | [], [], _ => by simp [QP]
  | (k, x) :: r, e :: es, h => by
    obtain ⟨h1, h2, h3⟩ := h
    obtain ⟨q1, q2⟩ := QcP.keys h3
    exact ⟨by simp [h1, q1], by simp only [List.map_cons, QP]; exact ⟨h2, q2⟩⟩
  | [], _ :: _, h => h.elim
  | _ :: _, [], h => by simp [QcP] at h
theorem QbX {key : Value} : ∀ {l : List Value}, QcL key l = true → ∀ k ∈ l, Qax key k = some false
  | [], _, k, hk => by simp at hk
  | x :: l, h, k, hk => by
    unfold QcL at h
    split at h
    · next hx =>
      rcases List.mem_cons.1 hk with rfl | q
      · exact hx
      · exact QbX h k q
    · simp at h
theorem Qhz {key : Value} : ∀ {l : List MapEntry}, uniq key (l.map (·.key)) = true → (∀ e ∈ l, Qax key e.key ≠ none) ∧ ∀ e ∈ l, ∀ e' ∈ l, Qax key e.key = some true → Qax key e'.key = some true → e = e'
  | [], _ => by simp
  | x :: l, h => by
    simp only [List.map_cons, uniq] at h
    split at h
    · next hx =>
      have hm := QbX h
      have hm' : ∀ e ∈ l, Qax key e.key = some false := fun e he => hm _ (List.mem_map.2 ⟨e, he, rfl⟩)
      constructor
      · intro e he
        rcases List.mem_cons.1 he with rfl | q
        · rw [hx]; simp
        · rw [hm' e q]; simp
      · intro e he e' he' h1 h2
        rcases List.mem_cons.1 he with rfl | q
        · rcases List.mem_cons.1 he' with rfl | q'
          · rfl
          · rw [hm' _ q'] at h2; simp at h2
        · rw [hm' _ q] at h1; simp at h1
    · next hx =>
      obtain ⟨i1, i2⟩ := Qhz h
      constructor
      · intro e he
        rcases List.mem_cons.1 he with rfl | q
        · rw [hx]; simp
        · exact i1 e q
      · intro e he e' he' h1 h2
        rcases List.mem_cons.1 he with rfl | q
        · rw [hx] at h1; simp at h1
        · rcases List.mem_cons.1 he' with rfl | q'
          · rw [hx] at h2; simp at h2
          · exact i2 e q e' q' h1 h2
    · simp at h
theorem QcX {key : Value} : ∀ (l : List MapEntry), (∀ e ∈ l, Qax key e.key ≠ none) →
    (Qaj key (l.map (·.key)) = some none ∧ ∀ e ∈ l, Qax key e.key = some false) ∨ ∃ j e, Qaj key (l.map (·.key)) = some (some j) ∧ l[j]? = some e ∧ Qax key e.key = some true
  | [], _ => .inl ⟨rfl, by simp⟩
  | x :: l, h => by
    simp only [List.map_cons, Qaj]
    cases hx : Qax key x.key with
    | none => exact (h x (by simp) hx).elim
    | some b => cases b with
      | true => exact .inr ⟨0, x, rfl, rfl, hx⟩
      | false =>
        rcases QcX l (fun e he => h e (by simp [he])) with ⟨q1, q2⟩ | ⟨j, e, q1, q2, q3⟩
        · refine .inl ⟨by simp [q1], fun e he => ?_⟩
          rcases List.mem_cons.1 he with rfl | q
          · exact hx
          · exact q2 e q
        · exact .inr ⟨j + 1, e, by simp [q1], by simpa using q2, q3⟩
theorem Qhy {key : Value} : ∀ {l : List MapEntry} {j : Nat}, Qaj key (l.map (·.key)) = some (some j) → ∃ e, l[j]? = some e ∧ Qax key e.key = some true
  | [], j, h => by simp [Qaj] at h
  | x :: l, j, h => by
    simp only [List.map_cons, Qaj] at h
    split at h
    · next hx => simp at h; subst h; exact ⟨x, rfl, hx⟩
    · next hx =>
      obtain ⟨r, h1, h2⟩ := Option.map_eq_some_iff.1 h
      cases r with
      | none => simp at h2
      | some i => simp at h2; subst h2; obtain ⟨e, q1, q2⟩ := Qhy h1; exact ⟨e, by simpa using q1, q2⟩
    · simp at h
theorem Qff {key : Value} : ∀ {l : List MapEntry}, Qaj key (l.map (·.key)) = some none → ∀ e ∈ l, Qax key e.key = some false
  | [], _, e, he => by simp at he
  | x :: l, h, e, he => by
    simp only [List.map_cons, Qaj] at h
    split at h
    · simp at h
    · next hx =>
      obtain ⟨r, h1, h2⟩ := Option.map_eq_some_iff.1 h
      cases r with
      | some i => simp at h2
      | none =>
        rcases List.mem_cons.1 he with rfl | q
        · exact hx
        · exact Qff h1 e q
    · simp at h
theorem assoc_perm {key : Value} {l l' : List MapEntry} {vs : List DV} {r : Option DV} (hp : l'.Perm l) (hu : uniq key (l'.map (·.key)) = true) (h : assoc key (l'.map (·.key)) vs = some r) (hl : QP C w vs (l'.map (·.val))) :
    match r with
    | none => Qaj key (l.map (·.key)) = some none
    | some x => ∃ j e, Qaj key (l.map (·.key)) = some (some j) ∧ l[j]? = some e ∧ Qy C w x e.val := by
  have h1 := Qe0 l' vs r h hl
  obtain ⟨u1, u2⟩ := Qhz hu
  have ht := QcX (key := key) l (fun e he => u1 e (hp.mem_iff.2 he))
  cases r with
  | none =>
    simp only [] at h1 ⊢
    have hm := Qff h1
    rcases ht with ⟨q, _⟩ | ⟨j, e, _, q2, q3⟩
    · exact q
    · have := hm e (hp.mem_iff.2 (List.mem_of_getElem? q2)); rw [this] at q3; simp at q3
  | some x =>
    simp only [] at h1 ⊢
    obtain ⟨j, e, k1, k2, k3⟩ := h1
    obtain ⟨e1, k4, k5⟩ := Qhy k1
    rw [k2] at k4; cases k4
    have hin : e ∈ l := hp.mem_iff.1 (List.mem_of_getElem? k2)
    rcases ht with ⟨_, q⟩ | ⟨j', e', q1, q2, q3⟩
    · have := q e hin; rw [this] at k5; simp at k5
    · have := u2 e (List.mem_of_getElem? k2) e' (hp.mem_iff.2 (List.mem_of_getElem? q2)) k5 q3
      subst this
      exact ⟨j', e, q1, q2, k3⟩
theorem mapOf_rel {m : DV} {v : Value} {u : Bool} {ks : List Value} {vs : List DV} (h : mapOf σ m = some (u, ks, vs)) (hv : Qy C w m v) (hs : Qav E F C w σ) :
    (v = .map none ∧ ks = [] ∧ vs = [] ∧ u = false) ∨ ∃ b es clock es', v = .map (some b) ∧ w.heap[b]? = some (.map es clock) ∧ es'.Perm es.toList ∧ (u = false → es' = es.toList) ∧ es'.map (·.key) = ks ∧ QP C w vs (es'.map (·.val)) := by
  unfold mapOf at h
  split at h
  · simp only [Qy] at hv; subst hv; simp at h; exact .inl ⟨rfl, h.2.1, h.2.2, h.1⟩
  · next ks' vs' =>
    simp at h; obtain ⟨rfl, rfl, rfl⟩ := h
    simp only [Qy] at hv
    obtain ⟨b, es, clock, rfl, _, h1, h2, h3, _⟩ := hv
    exact .inr ⟨b, es, clock, _, rfl, h1, .refl _, fun _ => rfl, h2, h3⟩
  · next id =>
    split at h
    · next ks' vs' ho =>
      simp at h; obtain ⟨rfl, rfl, rfl⟩ := h
      simp only [Qy] at hv
      obtain ⟨b, hb, rfl⟩ := hv
      obtain ⟨b', hb', _, _, _, _, es, clock, h1, h2, h3, _⟩ := hs.obj _ _ ho
      obtain rfl : b = b' := by rw [hb] at hb'; exact Option.some.inj hb'
      exact .inr ⟨b, es, clock, _, rfl, h1, .refl _, fun _ => rfl, h2, h3⟩
    · next sl ho =>
      simp at h; obtain ⟨rfl, rfl, rfl⟩ := h
      simp only [Qy] at hv
      obtain ⟨b, hb, rfl⟩ := hv
      obtain ⟨b', hb', _, _, _, _, es, clock, es', h1, h2, h3, _⟩ := hs.obj _ _ ho
      obtain rfl : b = b' := by rw [hb] at hb'; exact Option.some.inj hb'
      obtain ⟨q1, q2⟩ := QcP.keys h3
      exact .inr ⟨b, es, clock, es', rfl, h1, h2, fun e => by simp at e, q1, q2⟩
    · simp at h
  · simp at h
theorem QeG {t : TypeId} {m k r : DV} {vm vk : Value} {ok : Bool} (h : QD P σ t m k ok = some r) (hm : Qy C w m vm) (hk : Qy C w k vk) (hs : Qav E F C w σ) :
    ∃ u, (Instr.lookup t vm vk ok).run P w = .ok u w ∧ Qy C w r u := by
  unfold QD at h
  split at h
  · next kt et _ _ _ un ks vs kv ht hmo hkv =>
    obtain rfl := Qhh hkv hk
    split at h
    · next ki ei hki hei =>
      split at h
      · next hf =>
        obtain ⟨z, hz1, hz2⟩ := QbD hei w
        have hzr : Qy C w ei.zero z := by rw [hz2]; exact QaK z
        -- the entries
        have key : ∀ (es : Array MapEntry) (pre : Sem (Array MapEntry)) (es' : List MapEntry), pre.run P w = .ok es w → es'.Perm es.toList → (un = false → es' = es.toList) → es'.map (·.key) = ks → QP C w vs (es'.map (·.val)) →
            ∃ u, (do
              let es ← pre
              Instr.checkKey es.isEmpty 10000 kt vk
              let (v, ok') ← match ← Instr.findKey kt vk es.toList with
                | some (_, v) => pure (v, true)
                | none => pure (← zeroValue et, false)
              pure (if ok then Value.tuple #[v, .bool ok'] else v) : Sem Value).run P w = .ok u w ∧ Qy C w r u := by
          intro es pre es' hpre hperm hsame hks hvs
          subst hks
          have hit : ∀ r', QQ un vk (es'.map (·.key)) vs = some r' → match r' with
              | none => Qaj vk (es.toList.map (·.key)) = some none
              | some x => ∃ j e, Qaj vk (es.toList.map (·.key)) = some (some j) ∧ es.toList[j]? = some e ∧ Qy C w x e.val := by
            intro r' hr'
            cases un with
            | false =>
              have := hsame rfl
              subst this
              exact Qe0 _ _ _ hr' hvs
            | true =>
              simp only [QQ] at hr'
              split at hr'
              · next hu => exact assoc_perm hperm hu hr' hvs
              · simp at hr'
          split at h
          · next x ha =>
            obtain ⟨j, e, h1, h2, h3⟩ := hit (some x) ha
            simp at h; subst h
            have hfk := run_findKey (w := w) hki hf h1
            simp only [Option.bind_some, h2, Option.map_some] at hfk
            refine ⟨if ok then .tuple #[e.val, .bool true] else e.val, by simp [hpre, run_checkKey hki hf, hfk], ?_⟩
            cases ok
            · simpa using h3
            · simp only [if_true, Qy]
              exact ⟨[e.val, .bool true], rfl, by simp [QP, Qy, h3]⟩
          · next ha =>
            have h1 := hit none ha
            simp only [] at h1
            simp at h; subst h
            have hfk := run_findKey (w := w) hki hf h1
            simp only [Option.bind_none] at hfk
            refine ⟨if ok then .tuple #[z, .bool false] else z, by simp [hpre, run_checkKey hki hf, hfk, hz1], ?_⟩
            cases ok
            · simpa using hzr
            · simp only [if_true, Qy]
              exact ⟨[z, .bool false], rfl, by simp [QP, Qy, hzr]⟩
          · simp at h
        have hund := run_underlying ht w
        rcases mapOf_rel hmo hm hs with ⟨rfl, rfl, rfl, rfl⟩ | ⟨b, es, clock, es', rfl, hb, hp, hu, h1, h2⟩
        · obtain ⟨u, hu, hr⟩ := key #[] (pure #[]) [] rfl (by simp) (fun _ => rfl) rfl (by simp [QP])
          refine ⟨u, ?_, hr⟩
          rw [← hu]
          simp only [Instr.lookup, Sem.run_bind, hund, Result.andThen_ok, Sem.run_pure]
          rfl
        · obtain ⟨u, hu, hr⟩ := key es (do
              let .map es _ ← getObj b | stuck "Lookup: map expected"
              pure es) es' (by simp [run_getObj_map hb]) hp hu h1 h2
          refine ⟨u, ?_, hr⟩
          rw [← hu]
          simp only [Instr.lookup, Sem.run_bind, hund, Result.andThen_ok, Sem.run_pure, run_getObj_map hb]
          rfl
      · simp at h
    · simp at h
  · simp at h
theorem QbG : ∀ {xs ys : List Value} {n : Nat}, Qbp xs ys = some true → xs.length = ys.length ∧ (ys.zip xs).all (fun p => Instr.sameBits n p.1 p.2) = true
  | [], [], n, _ => by simp
  | [], _ :: _, n, h => by simp [Qbp] at h
  | x :: xs, [], n, h => by simp [Qbp] at h
  | x :: xs, y :: ys, n, h => by
    unfold Qbp at h
    split at h
    · simp_all
    · next k a xs' k' b ys' e1 e2 =>
      cases e1; cases e2
      split at h
      · next hk =>
        subst hk
        obtain ⟨r, h1, h2⟩ := Option.map_eq_some_iff.1 h
        simp only [Bool.and_eq_true] at h2
        obtain ⟨h2, rfl⟩ := h2
        have := QbG (n := n) h1
        refine ⟨by simp [this.1], ?_⟩
        have e : a = b := by simpa using h2
        subst e
        simp only [List.zip_cons_cons, List.all_cons, this.2, Bool.and_true]
        cases n <;> simp [Instr.sameBits]
      · simp at h
    · next a xs' b ys' e1 e2 =>
      cases e1; cases e2
      obtain ⟨r, h1, h2⟩ := Option.map_eq_some_iff.1 h
      simp only [Bool.and_eq_true] at h2
      obtain ⟨h2, rfl⟩ := h2
      have := QbG (n := n) h1
      refine ⟨by simp [this.1], ?_⟩
      have e : a = b := by simpa using h2
      subst e
      simp only [List.zip_cons_cons, List.all_cons, this.2, Bool.and_true]
      cases n <;> simp [Instr.sameBits]
    · next a xs' b ys' e1 e2 =>
      cases e1; cases e2
      obtain ⟨r, h1, h2⟩ := Option.map_eq_some_iff.1 h
      simp only [Bool.and_eq_true] at h2
      obtain ⟨h2, rfl⟩ := h2
      have := QbG (n := n) h1
      refine ⟨by simp [this.1], ?_⟩
      have e : a = b := by simpa using h2
      subst e
      simp only [List.zip_cons_cons, List.all_cons, this.2, Bool.and_true]
      cases n <;> simp [Instr.sameBits]
    · simp at h
theorem sameBits_of {a b : Value} (h : Qax a b = some true) : Instr.sameBits 10000 b a = true := by
  unfold Qax at h
  split at h
  · split at h
    · next hk => simp at h; subst hk; subst h; simp [Instr.sameBits]
    · simp at h
  · simp at h; subst h; simp [Instr.sameBits, QcY]
  · simp at h; subst h; simp [Instr.sameBits]
  · next xs ys =>
    have := QbG (n := 9999) h
    rw [show (10000 : Nat) = 9999 + 1 from rfl, Instr.sameBits]
    have hl : ys.size = xs.size := by have := this.1; simpa using this.symm
    simp only [hl, beq_self_eq_true, Bool.true_and]
    exact this.2
  · simp at h
theorem Qj7 {key v : Value} {x : DV} (hx : Qy C w x v) : ∀ (l : List MapEntry) (vs : List DV) (r : List Value × List DV),
    putKey key x (l.map (·.key)) vs = some r → QP C w vs (l.map (·.val)) →
    (∃ j e, Qaj key (l.map (·.key)) = some (some j) ∧ l[j]? = some e ∧ Qax key e.key = some true ∧
      (l.modify j fun e => { e with key := key, val := v }).map (·.key) = r.1 ∧ QP C w r.2 ((l.modify j fun e => { e with key := key, val := v }).map (·.val))) ∨
    (Qaj key (l.map (·.key)) = some none ∧ r.1 = l.map (·.key) ++ [key] ∧ QP C w r.2 (l.map (·.val) ++ [v]))
  | [], [], r, h, _ => by
    simp [putKey] at h; subst h
    exact .inr ⟨by simp [Qaj], by simp, by simpa [QP] using hx⟩
  | [], _ :: _, r, h, hl => by simp [QP] at hl
  | e :: l, [], r, h, hl => by simp [QP] at hl
  | e :: l, u :: vs, r, h, hl => by
    simp only [List.map_cons, putKey] at h
    simp only [List.map_cons, QP] at hl
    split at h
    · next he =>
      simp at h; subst h
      refine .inl ⟨0, e, by simp [Qaj, he], rfl, he, by simp, ?_⟩
      simp only [List.modify_zero_cons, List.map_cons, QP]
      exact ⟨hx, hl.2⟩
    · next he =>
      simp at h
      obtain ⟨a, b, hr, rfl⟩ := h
      rcases Qj7 hx l vs (a, b) hr hl.2 with ⟨j, e', h1, h2, h3, h4, h5⟩ | ⟨h1, h2, h3⟩
      · refine .inl ⟨j + 1, e', by simp [Qaj, he, h1], by simpa using h2, h3, ?_, ?_⟩
        · simp only [List.modify_succ_cons, List.map_cons, h4]
        · simp only [List.modify_succ_cons, List.map_cons, QP]; exact ⟨hl.1, h5⟩
      · refine .inr ⟨by simp [Qaj, he, h1], ?_, ?_⟩
        · simp only [List.map_cons, List.cons_append]; simp only [] at h2; rw [h2]
        · simp only [List.map_cons, List.cons_append, QP]; exact ⟨hl.1, h3⟩
    · simp at h
theorem Qcp {b : Nat} {es es' : Array MapEntry} {c c' : Nat} (h : w.heap[b]? = some (.map es c)) :
    (setObj b (.map es' c')).run P w = .ok () { w with heap := w.heap.setIfInBounds b (.map es' c') } ∧ QcW w { w with heap := w.heap.setIfInBounds b (.map es' c') } b (.map es' c') := by
  have hlt : b < w.heap.size := by
    rcases Nat.lt_or_ge b w.heap.size with q | q
    · exact q
    · simp [Array.getElem?_eq_none q] at h
  refine ⟨by simp [setObj, Sem.run, h], rfl, rfl, rfl, by simp, ?_, ?_⟩
  · simp [Array.getElem?_setIfInBounds, hlt]
  · intro k hk; simp [Array.getElem?_setIfInBounds]; intro e; exact absurd e.symm hk
theorem Stamped.modify {es : Array MapEntry} {c : Nat} (h : Stamped es c) (i : Nat) (f : MapEntry → MapEntry) (hf : ∀ e, (f e).born = e.born) : Stamped (es.modify i f) c := by
  have hb : ((es.modify i f).toList.map (·.born)) = es.toList.map (·.born) := by
    rw [Array.toList_modify]
    apply List.ext_getElem?
    intro j
    simp only [List.getElem?_map, List.getElem?_modify]
    cases es.toList[j]? with
    | none => simp
    | some e => simp; split <;> simp [hf]
  refine ⟨?_, by rw [hb]; exact h.2⟩
  intro e he
  have : e.born ∈ es.toList.map (·.born) := by rw [← hb]; exact List.mem_map.2 ⟨e, he, rfl⟩
  obtain ⟨e', h1, h2⟩ := List.mem_map.1 this
  rw [← h2]; exact h.1 e' h1
theorem Stamped.push {es : Array MapEntry} {c : Nat} (h : Stamped es c) (k v : Value) : Stamped (es.push { key := k, val := v, born := c }) (c + 1) := by
  constructor
  · intro e he
    simp at he
    rcases he with he | rfl
    · have := h.1 e (by simpa using he); omega
    · simp
  · simp only [Array.toList_push, List.map_append, List.map_cons, List.map_nil]
    rw [List.nodup_append]
    refine ⟨h.2, by simp, ?_⟩
    intro a ha b hb
    simp at hb; subst hb
    obtain ⟨e, h1, rfl⟩ := List.mem_map.1 ha
    have := h.1 e h1; omega
theorem Qba {t : TypeId} {m k x : DV} {vm vk vx : Value} {σ' : St} (h : Qq P σ t m k x = some σ') (hm : Qy C w m vm) (hk : Qy C w k vk) (hx : Qy C w x vx) (hs : Qav E F C w σ) :
    ∃ w', (Instr.mapUpdate t vm vk vx).run P w = .ok () w' ∧ Step C w w' ∧ Qav E F C w' σ' := by
  unfold Qq at h
  split at h
  · next kt et _ _ _ id kv ht hkv =>
    obtain rfl := Qhh hkv hk
    split at h
    · next ki ks vs hki ho =>
      split at h
      · next hf =>
        simp at h
        obtain ⟨a, b', hput, rfl⟩ := h
        simp only [Qy] at hm
        obtain ⟨b, hb, rfl⟩ := hm
        obtain ⟨b', hb', hB, hlt, hnp, hnm, es, clock, h1, rfl, h3, h4⟩ := hs.obj _ _ ho
        obtain rfl : b = b' := by rw [hb] at hb'; exact Option.some.inj hb'
        have hund := run_underlying ht w
        rcases Qj7 hx es.toList vs _ hput h3 with ⟨j, e, f1, f2, f3, f4, f5⟩ | ⟨f1, f2, f3⟩
        · have hj : es[j]? = some e := by simpa using f2
          have hfk := run_findKey (w := w) hki hf f1
          simp only [Option.bind_some, f2, Option.map_some] at hfk
          obtain ⟨hr, hT⟩ := Qcp (P := P) (es' := es.modify j fun e => { e with key := vk, val := vx }) (c' := clock) h1
          have hno : ∀ c2 e2, w.heap[b]? = some (.cells c2 e2) → ∃ c' e', Obj.map (es.modify j fun e => { e with key := vk, val := vx }) clock = .cells c' e' ∧ c'.size = c2.size := fun _ _ q => by rw [h1] at q; cases q
          have hst := hT.step hnp hnm hno
          refine ⟨_, ?_, hs.turn (o' := .map a b') ho hb hT hno ?_⟩
          · simp [Instr.mapUpdate, hund, run_getObj_map h1, run_checkKey hki hf, hfk, hj, Instr.keyThatStays, sameBits_of f3, hr]
          · refine ⟨_, _, hT.at_, by rw [Array.toList_modify]; exact f4, ?_, h4.modify j _ (fun _ => rfl)⟩
            rw [Array.toList_modify]
            exact QS (.refl C) hst _ _ f5
        · have hfk := run_findKey (w := w) hki hf f1
          simp only [Option.bind_none] at hfk
          obtain ⟨hr, hT⟩ := Qcp (P := P) (es' := es.push { key := vk, val := vx, born := clock }) (c' := clock + 1) h1
          have hno : ∀ c2 e2, w.heap[b]? = some (.cells c2 e2) → ∃ c' e', Obj.map (es.push { key := vk, val := vx, born := clock }) (clock + 1) = .cells c' e' ∧ c'.size = c2.size := fun _ _ q => by rw [h1] at q; cases q
          have hst := hT.step hnp hnm hno
          refine ⟨_, ?_, hs.turn (o' := .map a b') ho hb hT hno ?_⟩
          · simp [Instr.mapUpdate, hund, run_getObj_map h1, run_checkKey hki hf, hfk, hr]
          · simp only [] at f2 f3
            refine ⟨_, _, hT.at_, by simp [f2], ?_, h4.push _ _⟩
            simp only [Array.toList_push, List.map_append, List.map_cons, List.map_nil]
            exact QS (.refl C) hst _ _ f3
      · simp at h
    · simp at h
  · simp at h
theorem eqKey_str {a : ByteArray} {k : Value} (h : Qax (.string a) k = some true) : k = .string a := by
  cases k <;> simp [Qax] at h
  rw [h]
theorem Qdq {a : ByteArray} {x : DV} {v : Value} {born : Nat} (hx : Qy C w x v) : ∀ {sl sl' : List (Value × Option DV)} {es' : List MapEntry}, setSlot a x sl = some sl' → QcP C w (fil sl) es' →
    (∀ e ∈ es', Qax (.string a) e.key = some false) ∧ ∃ es2, QcP C w (fil sl') es2 ∧ es2.Perm ({ key := .string a, val := v, born := born } :: es')
  | [], sl', es', h, _ => by simp [setSlot] at h
  | (k, o) :: r, sl', es', h, hr => by
    simp only [setSlot] at h
    split at h
    · next hk =>
      split at h
      · split at h
        · next hm =>
          simp only [Option.some.injEq] at h; subst h
          simp only [fil] at hr ⊢
          refine ⟨fun e he => ?_, { key := .string a, val := v, born := born } :: es', ⟨(eqKey_str hk).symm, hx, hr⟩, .refl _⟩
          have h1 := (QcP.keys hr).1
          have h2 : e.key ∈ (fil r).map (·.1) := by rw [← h1]; exact List.mem_map.2 ⟨e, he, rfl⟩
          have h3 : ∀ (l : List (Value × Option DV)) (k : Value), k ∈ (fil l).map (·.1) → k ∈ l.map (·.1) := by
            intro l
            induction l with
            | nil => intro k hk; simp [fil] at hk
            | cons p l ih =>
              obtain ⟨k', o'⟩ := p
              intro k hk
              cases o' with
              | none => simp only [fil] at hk; have := ih k hk; simp only [List.map_cons, List.mem_cons]; exact .inr this
              | some y =>
                simp only [fil, List.map_cons, List.mem_cons] at hk ⊢
                exact hk.imp id (ih k)
          exact QbX hm _ (h3 _ _ h2)
        · simp at h
      · simp at h
    · next hk =>
      split at h
      · next r' hr' =>
        simp only [Option.some.injEq] at h; subst h
        cases o with
        | none =>
          simp only [fil] at hr ⊢
          exact Qdq hx hr' hr
        | some y =>
          simp only [fil] at hr ⊢
          cases es' with
          | nil => simp [QcP] at hr
          | cons e es' =>
            obtain ⟨q1, q2, q3⟩ := hr
            obtain ⟨i1, es2, i2, i3⟩ := Qdq hx hr' q3
            refine ⟨fun e2 he => ?_, e :: es2, ⟨q1, q2, i2⟩, (i3.cons e).trans (List.Perm.swap _ _ _)⟩
            rcases List.mem_cons.1 he with rfl | q
            · rw [q1]; exact hk
            · exact i1 e2 q
      · simp at h
    · simp at h
theorem slot_sound {t kt et : TypeId} {ki : TyI} {id : Nat} {sl sl' : List (Value × Option DV)} {a : ByteArray} {x : DV} {vm vx : Value} (ht : ∃ i, Qag P t = some i ∧ i.desc = .map kt et) (hki : Qag P kt = some ki) (hf : Qcw P kt ki (.string a) = true)
    (ho : σ.objs id = some (.slots sl)) (h : setSlot a x sl = some sl') (hm : Qy C w (.map id) vm) (hx : Qy C w x vx) (hs : Qav E F C w σ) :
    ∃ w', (Instr.mapUpdate t vm (.string a) vx).run P w = .ok () w' ∧ Step C w w' ∧ Qav E F C w' { σ with objs := upd σ.objs id (some (.slots sl')) } := by
  obtain ⟨ti, ht1, ht2⟩ := ht
  simp only [Qy] at hm
  obtain ⟨b, hb, rfl⟩ := hm
  obtain ⟨b', hb', hB, hlt, hnp, hnm, es, clock, es', h1, h2, h3, h4⟩ := hs.obj _ _ ho
  obtain rfl : b = b' := by rw [hb] at hb'; exact Option.some.inj hb'
  have hund := run_underlying ht1 w
  rw [ht2] at hund
  obtain ⟨m1, es2, m2, m3⟩ := Qdq (born := clock) hx h h3
  have f1 : Qaj (.string a) (es.toList.map (·.key)) = some none := by
    have hall : ∀ e ∈ es.toList, Qax (.string a) e.key = some false := fun e he => m1 e (h2.mem_iff.2 he)
    rcases QcX (key := .string a) es.toList (fun e he => by rw [hall e he]; simp) with ⟨q, _⟩ | ⟨j, e, _, q2, q3⟩
    · exact q
    · have := hall e (List.mem_of_getElem? q2); rw [this] at q3; simp at q3
  have hfk := run_findKey (w := w) hki hf f1
  simp only [Option.bind_none] at hfk
  obtain ⟨hr, hT⟩ := Qcp (P := P) (es' := es.push { key := .string a, val := vx, born := clock }) (c' := clock + 1) h1
  have hno : ∀ c2 e2, w.heap[b]? = some (.cells c2 e2) → ∃ c' e', Obj.map (es.push { key := .string a, val := vx, born := clock }) (clock + 1) = .cells c' e' ∧ c'.size = c2.size := fun _ _ q => by rw [h1] at q; cases q
  have hst := hT.step hnp hnm hno
  have hS := hs.turn (o' := .slots sl') ho hb hT hno ⟨_, _, es2, hT.at_, by
      simp only [Array.toList_push]
      exact m3.trans ((h2.cons _).trans (List.perm_append_comm (l₁ := [_]) (l₂ := es.toList))), m2.mono (.refl C) hst, h4.push _ _⟩
  exact ⟨_, by simp [Instr.mapUpdate, hund, run_getObj_map h1, run_checkKey hki hf, hfk, hr], hS⟩
theorem makeSlots_sound {t : TypeId} {id : Nat} {ks : List Value} (hs : Qav E F C w σ) (hF : F id) :
    ∃ u w', (Instr.makeMap t none).run P w = .ok u w' ∧ Res E (fun j => F j ∧ j ≠ id) C w { σ with objs := upd σ.objs id (some (.slots (ks.map fun k => (k, none)))) } (.map id) u w' := by
  have hnil : fil (ks.map fun k => (k, (none : Option DV))) = [] := by
    induction ks with
    | nil => rfl
    | cons k ks ih => simpa [fil] using ih
  obtain ⟨C', hle, hst, hob, _, _, _, hs'⟩ := hs.new_obj (id := id) (ob := .map #[] 0) (o := .slots (ks.map fun k => (k, none))) hF (fun C' hle hst =>
    ⟨#[], 0, [], heap_alloc_new w _, by simp, by rw [hnil]; trivial, by simp [Stamped]⟩)
  refine ⟨.map (some w.heap.size), w.alloc (.map #[] 0), ?_, C', hle, hst, ?_, hs'⟩
  · simp [Instr.makeMap]
  · simp only [Qy]; exact ⟨_, hob, rfl⟩
end Go.FA
namespace Go.FA
open Go.RowKit
variable {P : Program} {E : Entry} {F : Nat → Prop} {C : Ctx} {w : World} {σ : St}
def QcV (C : Ctx) (w : World) : Option DV → Option Value → Prop
  | none, none => True
  | some d, some v => Qy C w d v
  | _, _ => False
theorem run_sliceBound {k : IntKind} {n : Int} {top : Nat} {code : BoundsCode} (h : 0 ≤ n ∧ n ≤ top) : (Instr.sliceBound (.int k n) top code).run P w = .ok n.toNat w := by
  simp [Instr.sliceBound, asIntOf, h]
theorem Qa2 {b : Option DV} {vb : Option Value} {top dflt r : Nat} (h : Qk b top dflt = some r) (hv : QcV C w b vb) :
    (b = none ∧ vb = none ∧ r = dflt) ∨ ∃ k n, b = some (.lit (.int k n)) ∧ vb = some (.int k n) ∧ 0 ≤ n ∧ n ≤ top ∧ r = n.toNat := by
  unfold Qk at h
  split at h
  · simp at h; cases vb with
    | none => exact .inl ⟨rfl, rfl, h.symm⟩
    | some v => simp [QcV] at hv
  · next k n =>
    split at h
    · next hn =>
      simp at h; cases vb with
      | none => simp [QcV] at hv
      | some v => simp [QcV, Qy] at hv; subst hv; exact .inr ⟨k, n, rfl, rfl, hn.1, hn.2, h.symm⟩
    · simp at h
  · simp at h
theorem QbQ {isS : Bool} {len cap : Nat} {lo hi : Option DV} {vlo vhi : Option Value} {h l : Nat} (hh : Qk hi len len = some h) (hl : Qk lo h 0 = some l)
    (rh : QcV C w hi vhi) (rl : QcV C w lo vlo) (hc : len ≤ cap) : (Instr.sliceBounds isS len cap vlo vhi none).run P w = .ok (l, h, cap) w ∧ l ≤ h ∧ h ≤ len := by
  rcases Qa2 hh rh with ⟨rfl, rfl, rfl⟩ | ⟨k, n, rfl, rfl, h1, h2, rfl⟩
  · rcases Qa2 hl rl with ⟨rfl, rfl, rfl⟩ | ⟨k', n', rfl, rfl, h3, h4, rfl⟩
    · exact ⟨by simp [Instr.sliceBounds], by omega, by omega⟩
    · refine ⟨by simp [Instr.sliceBounds, run_sliceBound (P := P) (w := w) ⟨h3, h4⟩], by omega, by omega⟩
  · have hcap : n ≤ (cap : Int) := by omega
    rcases Qa2 hl rl with ⟨rfl, rfl, rfl⟩ | ⟨k', n', rfl, rfl, h3, h4, rfl⟩
    · exact ⟨by simp [Instr.sliceBounds, run_sliceBound (P := P) (w := w) ⟨h1, hcap⟩], by omega, by omega⟩
    · refine ⟨by simp [Instr.sliceBounds, run_sliceBound (P := P) (w := w) ⟨h1, hcap⟩, run_sliceBound (P := P) (w := w) ⟨h3, h4⟩], by omega, by omega⟩
theorem QfN {t : TypeId} {x r : DV} {lo hi mx : Option DV} {v : Value} {vlo vhi vmx : Option Value} (h : Qt P t x lo hi mx = some r) (hx : Qy C w x v)
    (hlo : QcV C w lo vlo) (hhi : QcV C w hi vhi) (hmx : QcV C w mx vmx) :
    ∃ u, (Instr.sliceAt t v vlo vhi vmx).run P w = .ok u w ∧ Qy C w r u := by
  unfold Qt at h
  split at h
  · next s ht =>
    cases vmx with
    | some _ => simp [QcV] at hmx
    | none =>
    simp only [Qy] at hx; subst hx
    split at h
    · next hh hhe =>
      split at h
      · next ll hle =>
        simp at h; subst h
        obtain ⟨hr, h1, h2⟩ := QbQ (P := P) (isS := false) hhe hle hhi hlo (Nat.le_refl _)
        exact ⟨.string (s.extract ll hh), by simp [Instr.sliceAt, Instr.slice, run_underlying ht, hr], by simp [Qy]⟩
      · simp at h
    · simp at h
  · next e _ _ _ k tag rows ht =>
    cases vmx with
    | some _ => simp [QcV] at hmx
    | none =>
    split at h
    · next i hh hti hhe =>
      split at h
      · next hk =>
        split at h
        · next ll hle =>
          simp at h; subst h
          simp only [Qy] at hx
          rcases hx with ⟨b, o, cap, rfl, hlen, hr, htag⟩ | ⟨ad, rfl, rfl, htag⟩
          · obtain ⟨hrun, h1, h2⟩ := QbQ (P := P) (isS := true) hhe hle hhi hlo hlen
            refine ⟨.slice (if cap = ll then some ⟨b, o, none⟩ else some ⟨b, o + ll * k, none⟩) (hh - ll) (cap - ll), ?_, ?_⟩
            · simp only [Instr.sliceAt, Instr.slice, Sem.run_bind, run_underlying ht, Result.andThen_ok, hrun, run_sizeOf hti, Sem.run_pure, hk]
              split <;> simp [addr_add]
            · simp only [Qy]
              left
              have hlr : ((rows.take hh).drop ll).length = hh - ll := by simp; omega
              have htl : (rows.take hh).length = hh := by simp; omega
              by_cases hcl : cap = ll
              · have he : hh - ll = 0 := by omega
                have hrn : (rows.take hh).drop ll = [] := List.eq_nil_of_length_eq_zero (by omega)
                refine ⟨b, o, cap - ll, by simp [hcl, hrn]; omega, by omega, by rw [hrn]; simp [QaP], ?_⟩
                cases hi with
                | some _ => trivial
                | none =>
                  cases tag with
                  | none => trivial
                  | nn => trivial
                  | full => exact ⟨by omega, htag.2⟩
                  | tok tk g =>
                    obtain ⟨⟨x, q1, q2, q3⟩, q4⟩ := htag
                    exact ⟨⟨x, q1, q2, fun _ => .inl (by omega)⟩, q4⟩
              · refine ⟨b, o + ll * k, cap - ll, by simp [hcl, hlr], by omega, Qfa ll (by omega) (Qfz hh hr), ?_⟩
                rcases Qa2 hhe hhi with ⟨rfl, _, rfl⟩ | ⟨_, _, rfl, _⟩
                · cases tag with
                  | none => trivial
                  | nn => trivial
                  | full => refine ⟨?_, htag.2⟩; have := htag.1; omega
                  | tok tk g =>
                    obtain ⟨⟨x, q1, q2, q3⟩, q7⟩ := htag
                    refine ⟨⟨x, q1, q2, fun q => ?_⟩, q7⟩
                    rcases q3 q with q4 | ⟨q4, q5, q6⟩
                    · exact .inl (by omega)
                    · refine .inr ⟨q4, ?_, ?_⟩
                      · rw [q5, hlr, Nat.add_assoc, ← Nat.add_mul]; congr 2; omega
                      · rw [q6, Nat.add_assoc, ← Nat.add_mul]; congr 2; omega
                · trivial
          · obtain ⟨hrun, h1, h2⟩ := QbQ (P := P) (isS := true) hhe hle hhi hlo (Nat.le_refl 0)
            simp at h2; subst h2
            have : ll = 0 := by omega
            subst this
            simp only [List.length_nil] at hrun
            refine ⟨.slice ad 0 0, ?_, ?_⟩
            · cases ad <;> simp [Instr.sliceAt, Instr.slice, run_underlying ht, hrun, run_sizeOf hti]
            · simp only [Qy, List.take_nil, List.drop_nil]
              cases hi with
              | none => exact .inr ⟨ad, rfl, trivial, htag⟩
              | some d =>
                exact .inr ⟨ad, rfl, trivial, trivial⟩
        · simp at h
      · simp at h
    · simp at h
  · next e _ _ _ k tag rows kd m ht =>
    cases vmx with
    | none => simp [QcV] at hmx
    | some vm =>
    simp [QcV, Qy] at hmx; subst hmx
    split at h
    · next i kh hn hti =>
      split at h
      · next hc =>
        obtain ⟨hk, hm0, hml, hhm⟩ := hc
        subst hhm
        cases vhi with
        | none => simp [QcV] at hhi
        | some vh =>
        simp [QcV, Qy] at hhi; subst hhi
        split at h
        · next ll hle =>
          simp at h; subst h
          simp only [Qy] at hx
          rcases hx with ⟨b, o, cap, rfl, hlen, hr, htag⟩ | ⟨ad, rfl, rfl, htag⟩
          · have hcap : hn ≤ (cap : Int) := by omega
            have hrun : (Instr.sliceBounds true rows.length cap vlo (some (.int kh hn)) (some (.int kd hn))).run P w = .ok (ll, hn.toNat, hn.toNat) w ∧ ll ≤ hn.toNat := by
              have e1 : hn ≤ ((hn.toNat : Nat) : Int) := by omega
              rcases Qa2 hle hlo with ⟨rfl, rfl, rfl⟩ | ⟨k', n', rfl, rfl, h3, h4, rfl⟩
              · exact ⟨by simp [Instr.sliceBounds, run_sliceBound (P := P) (w := w) ⟨hm0, hcap⟩, run_sliceBound (P := P) (w := w) ⟨hm0, e1⟩], by omega⟩
              · exact ⟨by simp [Instr.sliceBounds, run_sliceBound (P := P) (w := w) ⟨hm0, hcap⟩, run_sliceBound (P := P) (w := w) ⟨hm0, e1⟩, run_sliceBound (P := P) (w := w) ⟨h3, h4⟩], by omega⟩
            obtain ⟨hrun, h1⟩ := hrun
            refine ⟨.slice (if hn.toNat = ll then some ⟨b, o, none⟩ else some ⟨b, o + ll * k, none⟩) (hn.toNat - ll) (hn.toNat - ll), ?_, ?_⟩
            · simp only [Instr.sliceAt, Instr.slice, Sem.run_bind, run_underlying ht, Result.andThen_ok, hrun, run_sizeOf hti, Sem.run_pure, hk]
              split <;> simp [addr_add]
            · simp only [Qy]
              have hlr : ((rows.take hn.toNat).drop ll).length = hn.toNat - ll := by simp; omega
              by_cases hz : hn = 0
              · subst hz
                have hl0 : ll = 0 := by simp at h1; omega
                subst hl0
                right
                refine ⟨some ⟨b, o, none⟩, by simp, by simp, ?_⟩
                simp only [or_true, if_true]
                trivial
              left
              have htg : ∀ (o' cap' n' : Nat), cap' = n' → Qjv C w k n' b o' cap' (if tag.owns = true ∨ hn = 0 then .full else .none) := by
                intro o' cap' n' he
                simp only [hz, or_false]
                cases tag with
                | none => trivial
                | nn => trivial
                | full => exact ⟨he, htag.2⟩
                | tok t g => exact ⟨he, htag.2⟩
              by_cases hcl : hn.toNat = ll
              · have hrn : (rows.take hn.toNat).drop ll = [] := List.eq_nil_of_length_eq_zero (by omega)
                exact ⟨b, o, hn.toNat - ll, by simp [hcl, hrn], by omega, by rw [hrn]; simp [QaP], htg _ _ _ (by omega)⟩
              · exact ⟨b, o + ll * k, hn.toNat - ll, by simp [hcl, hlr], by omega, Qfa ll (by simp; omega) (Qfz _ hr), htg _ _ _ (by omega)⟩
          · have e0 : hn = 0 := by simp at hml; omega
            subst e0
            have hl0 : ll = 0 := by
              rcases Qa2 hle hlo with ⟨_, _, rfl⟩ | ⟨_, _, _, _, _, h4, rfl⟩
              · rfl
              · simp at h4; omega
            subst hl0
            refine ⟨.slice ad 0 0, ?_, by simp only [Qy, List.take_nil, List.drop_nil, or_true, if_true]; exact .inr ⟨ad, rfl, trivial, trivial⟩⟩
            have e1 : (0 : Int) ≤ 0 ∧ (0 : Int) ≤ ((0 : Nat) : Int) := by simp
            rcases Qa2 hle hlo with ⟨rfl, rfl, _⟩ | ⟨k', n', rfl, rfl, h3, h4, _⟩
            · simp [Instr.sliceAt, Instr.slice, run_underlying ht, Instr.sliceBounds, run_sliceBound (P := P) (w := w) e1, run_sizeOf hti]
            · have e2 : n' = 0 := by simp at h4; omega
              subst e2
              simp [Instr.sliceAt, Instr.slice, run_underlying ht, Instr.sliceBounds, run_sliceBound (P := P) (w := w) e1, run_sizeOf hti]
        · simp at h
      · simp at h
    · simp at h
  · simp at h
end Go.FA
namespace Go.FA
open Go.RowKit
variable {P : Program} {E : Entry} {F : Nat → Prop} {C : Ctx} {w : World} {σ : St}
theorem Qfd : ∀ (l : List Value) (off j : Nat) (cs : Array Value),
    ((l.zipIdx j).foldl (fun (cs : Array Value) (p : Value × Nat) => cs.setIfInBounds (off + p.2) p.1) cs).toList = setAt cs.toList (off + j) l
  | [], off, j, cs => by simp [setAt]
  | v :: l, off, j, cs => by
    simp only [List.zipIdx_cons, List.foldl_cons, setAt]
    rw [Qfd l off (j + 1)]
    simp [Nat.add_assoc]
theorem Qiy {place : Nat → Option (Nat × Nat)} {cells : Array Value} {i : Nat} {v : Value} {rest : List (Nat × Value)} {off size : Nat} (hp : place i = some (off, size))
    (hs : v.cells.size = size) (ho : off + size ≤ cells.size) :
    ∃ cs' : Array Value, cs'.toList = setAt cells.toList off v.cells.toList ∧ Instr.fill place cells ((i, v) :: rest) = Instr.fill place cs' rest := by
  refine ⟨v.cells.zipIdx.foldl (fun cs (c, j) => cs.setIfInBounds (off + j) c) cells, ?_, ?_⟩
  · have := Qfd v.cells.toList off 0 cells
    rw [Nat.add_zero] at this
    rw [← this, ← Array.foldl_toList, Array.toList_zipIdx]
  · simp only [Instr.fill, hp]
    rw [if_neg]
    simp [hs, ho]
theorem QiY {fs : Array Field} {places : Array (Nat × Nat)} (hpl : ∀ (i : Nat) (f : Field) (ti : TyI), fs[i]? = some f → Qag P f.type = some ti → places[i]? = some (f.offset, ti.size)) :
    ∀ (parts : List (Nat × DV)) (vparts : List (Nat × Value)) (cs : List DV) (vs : Array Value) (out : List DV), Qe.go P fs.toList cs parts = some out →
      QP C w cs vs.toList → Flat vs.toList → (∀ (i : Nat) (d : Nat × DV), parts[i]? = some d → ∃ v, vparts[i]? = some (d.1, v) ∧ Qy C w d.2 v) → parts.length = vparts.length →
      ∃ out' : Array Value, Instr.fill (places[·]?) vs vparts = some out' ∧ QP C w out out'.toList ∧ Flat out'.toList
  | [], vparts, cs, vs, out, h, hl, hf, hp, hlen => by
    simp [Qe.go] at h; subst h
    simp at hlen
    obtain rfl := List.eq_nil_of_length_eq_zero hlen.symm
    exact ⟨vs, rfl, hl, hf⟩
  | (i, d) :: parts, [], cs, vs, out, h, hl, hf, hp, hlen => by simp at hlen
  | (i, d) :: parts, (i', v) :: vparts, cs, vs, out, h, hl, hf, hp, hlen => by
    obtain ⟨v', hv', hr⟩ := hp 0 (i, d) rfl
    simp at hv'; obtain ⟨rfl, rfl⟩ := hv'
    simp only [Qe.go] at h
    split at h
    · next f xs hfi hxs =>
      split at h
      · next ti hti =>
        split at h
        · next hc =>
          simp at hc
          obtain ⟨us, hu1, hu2, hu3⟩ := Qay hxs hr
          have hlx := QY hu2
          have hlc := QY hl
          obtain ⟨cs', hcs, hfill⟩ := Qiy (rest := vparts) (v := v) (hpl i' f ti (by simpa using hfi) hti) (by rw [hu1]; simp; omega) (cells := vs) (by simp at hlc; omega)
          have husl : v.cells.toList = us := by rw [hu1]
          rw [husl] at hcs
          obtain ⟨out', h1, h2, h3⟩ := QiY hpl parts vparts (setAt cs f.offset xs) cs' out h (by rw [hcs]; exact Qc7 hu2 hl) (by rw [hcs]; exact hu3.setAt hf)
            (fun j q hq => hp (j + 1) q (by simpa using hq)) (by simpa using hlen)
          exact ⟨out', by rw [hfill]; exact h1, h2, h3⟩
        · simp at h
      · simp at h
    · simp at h
theorem mapM_list_run {α β : Type} (f : α → Sem β) (g : α → β) (l : List α) (h : ∀ x ∈ l, (f x).run P w = .ok (g x) w) : (l.mapM f).run P w = .ok (l.map g) w := by
  induction l with
  | nil => rfl
  | cons x l ih =>
    simp only [List.mapM_cons, Sem.run_bind, h x (by simp), Result.andThen_ok, ih fun y hy => h y (by simp [hy]), Sem.run_pure, List.map_cons]
theorem mapM_run {α β : Type} (f : α → Sem β) (g : α → β) (l : Array α) (h : ∀ x ∈ l, (f x).run P w = .ok (g x) w) : (l.mapM f).run P w = .ok (l.map g) w := by
  rw [Array.mapM_eq_mapM_toList]
  have := mapM_list_run (P := P) (w := w) f g l.toList (fun x hx => h x (by simpa using hx))
  simp [this]
  apply Array.ext'
  simp
theorem Qfm {t : TypeId} {parts : List (Nat × DV)} {vparts : Array (Nat × Value)} {out : List DV} (h : Qe P t parts = some out)
    (hok : Qz P t = true)
    (hp : ∀ (i : Nat) (d : Nat × DV), parts[i]? = some d → ∃ v, vparts[i]? = some (d.1, v) ∧ Qy C w d.2 v) (hlen : parts.length = vparts.size) :
    ∃ u, (Instr.build t vparts).run P w = .ok u w ∧ Qy C w (.agg out) u := by
  unfold Qe at h
  split at h
  · next fs sz by' z ht =>
    simp only [Qz, ht] at hok
    split at h
    · next zs =>
      obtain ⟨zv, hz1, hz2⟩ := QbD ht w
      have hzr : Qy C w (.agg zs) zv := by
        have := QaK (C := C) (w := w) zv
        rw [← hz2] at this; exact this
      simp only [Qy] at hzr
      obtain ⟨ys, rfl, hl, hf⟩ := hzr
      have hall : ∀ f ∈ fs.toList, ∃ ti, Qag P f.type = some ti := fun f hf => by
        have := List.all_eq_true.1 hok f hf
        exact Option.isSome_iff_exists.1 this
      let g : Field → Nat × Nat := fun f => (f.offset, ((Qag P f.type).map (·.size)).getD 0)
      have hplaces : (fs.mapM fun f => (do pure (f.offset, ← sizeOf f.type) : Sem (Nat × Nat))).run P w = .ok (fs.map g) w := by
        refine mapM_run _ g fs fun f hf => ?_
        obtain ⟨ti, hti⟩ := hall f (by simpa using hf)
        simp [run_sizeOf hti, g, hti]
      obtain ⟨out', h1, h2, h3⟩ := QiY (C := C) (w := w) (places := fs.map g) (fun i f ti hfi hti => by simp [hfi, g, hti]) parts vparts.toList zs ys.toArray out h (by simpa using hl) (by simpa using hf)
        (fun i d hd => by simpa using hp i d hd) (by simpa using hlen)
      refine ⟨.agg out', ?_, by simp only [Qy]; exact ⟨out'.toList, by simp, h2, h3⟩⟩
      simp only [Instr.build, Sem.run_bind, hz1, Result.andThen_ok, run_underlying ht, hplaces, Value.cells, h1, Sem.run_pure]
    · simp at h
  · simp at h
theorem setAt_left {α : Type} (done rest xs : List α) (n : Nat) (hd : done.length = n) (hr : xs.length ≤ rest.length) : setAt (done ++ rest) n xs = done ++ xs ++ rest.drop xs.length := by
  subst hd
  rw [Qd6 _ _ _ (by simp; omega)]
  simp
theorem QdL {k : Nat} : ∀ (parts : List (Nat × DV)) (vparts : List (Nat × Value)) (j : Nat) (done rest : List Value) (cells : Array Value) (rs : List (List DV)),
    Qc k j parts = some rs → cells.toList = done ++ rest → done.length = j * k → rest.length = parts.length * k →
      (∀ (i : Nat) (d : Nat × DV), parts[i]? = some d → ∃ v, vparts[i]? = some (d.1, v) ∧ Qy C w d.2 v) → parts.length = vparts.length →
      ∃ (out' : Array Value) (us : List Value), Instr.fill (fun i => some (i * k, k)) cells vparts = some out' ∧ out'.toList = done ++ us ∧ QP C w rs.flatten us ∧ Flat us ∧ (∀ r ∈ rs, r.length = k)
  | [], vparts, j, done, rest, cells, rs, h, hc, hd, hr, hp, hlen => by
    simp [Qc] at h; subst h
    simp at hlen
    obtain rfl := List.eq_nil_of_length_eq_zero hlen.symm
    simp at hr
    exact ⟨cells, [], rfl, by simp [hc, hr], by simp [QP], by simp [Flat], by simp⟩
  | (i, d) :: parts, [], j, done, rest, cells, rs, h, hc, hd, hr, hp, hlen => by simp at hlen
  | (i, d) :: parts, (i', v) :: vparts, j, done, rest, cells, rs, h, hc, hd, hr, hp, hlen => by
    obtain ⟨v', hv', hrel⟩ := hp 0 (i, d) rfl
    simp at hv'; obtain ⟨rfl, rfl⟩ := hv'
    simp only [Qc] at h
    split at h
    · next xs rs' hxs hrs =>
      split at h
      · next hcnd =>
        simp at hcnd h; subst h
        obtain ⟨rfl, hxk⟩ := hcnd
        obtain ⟨us, hu1, hu2, hu3⟩ := Qay hxs hrel
        have hlx := QY hu2
        have husl : v.cells.toList = us := by rw [hu1]
        simp only [List.length_cons, Nat.add_mul, Nat.one_mul] at hr
        have hsz : cells.size = (done ++ rest).length := by rw [← hc]; simp
        have hfit : i' * k + k ≤ cells.size := by rw [hsz, List.length_append, hd]; omega
        obtain ⟨cs', hcs, hfill⟩ := Qiy (rest := vparts) (v := v) (place := fun i => some (i * k, k)) (i := i') (off := i' * k) (size := k) rfl (by rw [hu1]; simp; omega) (cells := cells) hfit
        rw [husl, hc, setAt_left done rest us (i' * k) hd (by omega)] at hcs
        obtain ⟨out', us', h1, h2, h3, h4, h5⟩ := QdL parts vparts (i' + 1) (done ++ us) (rest.drop us.length) cs' rs' hrs (by rw [hcs]) (by simp [hd, Nat.add_mul]; omega) (by simp; omega)
          (fun j q hq => hp (j + 1) q (by simpa using hq)) (by simpa using hlen)
        refine ⟨out', us ++ us', by rw [hfill]; exact h1, by rw [h2]; simp, by simp only [List.flatten_cons]; exact Qaw hu2 h3, hu3.append h4, ?_⟩
        intro r hr'
        rcases List.mem_cons.1 hr' with rfl | hr'
        · exact hxk
        · exact h5 r hr'
      · simp at h
    · simp at h
theorem Qcj {k : Nat} : ∀ (parts : List (Nat × DV)) (j : Nat) (rs : List (List DV)), Qc k j parts = some rs → rs.length = parts.length
  | [], j, rs, h => by simp [Qc] at h; subst h; rfl
  | (i, d) :: parts, j, rs, h => by
    simp only [Qc] at h
    split at h
    · next xs rs' hxs hrs =>
      split at h
      · simp at h; subst h; simp [Qcj parts (j + 1) rs' hrs]
      · simp at h
    · simp at h
theorem Qcy {t e : TypeId} {i : TyI} {s1 s2 : Nat} {s3 : DV} {len : Nat} {parts : List (Nat × DV)} {vparts : Array (Nat × Value)} {rs : List (List DV)} (ht : Qag P t = some ⟨.slice e, s1, s2, s3⟩) (hi : Qag P e = some i)
    (h : Qc i.size 0 parts = some rs) (hl0 : len = parts.length) (hpos : 0 < i.size) (hsmall : len * i.size ≤ Qd)
    (hp : ∀ (i : Nat) (d : Nat × DV), parts[i]? = some d → ∃ v, vparts[i]? = some (d.1, v) ∧ Qy C w d.2 v) (hlen : parts.length = vparts.size) (hs : Qav E F C w σ) :
    ∃ u w', (Instr.buildSlice t len vparts).run P w = .ok u w' ∧ Res E F C w σ (.slice i.size .full rs) u w' := by
  obtain ⟨z, hz1, hz2⟩ := QbD hi w
  have hnot : ¬ (len * i.size > 2 ^ 24) := by unfold Qd at hsmall; omega
  obtain ⟨cells0, hcells, hsz⟩ : ∃ c0 : Array Value, c0 = (Array.range (len * i.size)).map (fun j => (if len * i.size = 0 then #[] else z.cells)[j % (if len * i.size = 0 then #[] else z.cells).size]!) ∧ c0.size = len * i.size := ⟨_, rfl, by simp⟩
  obtain ⟨out', us, h1, h2, h3, h4, h5⟩ := QdL (C := C) (w := w) parts vparts.toList 0 [] cells0.toList cells0 rs h (by simp) (by simp) (by simp [hsz, hl0]) (fun i d hd => by simpa using hp i d hd) (by simpa using hlen)
  simp at h2
  have hrl : rs.length = len := by rw [Qcj _ _ _ h, hl0]
  obtain ⟨C', hle, hst, ho, hk, hcr, hs'⟩ := hs.new_row (t := e) h3 h4
  have hout : out' = us.toArray := by rw [← h2]
  refine ⟨.slice (some ⟨w.heap.size, 0, none⟩) len len, w.alloc (.cells us.toArray e), ?_, C', hle, hst, ?_, hs'⟩
  · rw [hcells] at h1
    simp only [Instr.buildSlice, Sem.run_bind, run_underlying ht, Result.andThen_ok, run_sizeOf hi, hnot, if_false]
    by_cases h0 : len * i.size = 0
    · simp [h0] at h1
      simp [h0, h1, newRow, hout]
    · simp [h0] at h1
      simp [h0, hz1, h1, newRow, hout]
  · simp only [Qy]
    left
    exact ⟨w.heap.size, 0, len, by rw [hrl], by rw [hrl]; exact Nat.le_refl _, Qbx h5 hcr, hrl.symm, by rw [hs'.lo]; exact hs.bsize, _, _, heap_alloc_new w _⟩
end Go.FA
namespace Go.FA
open Go.RowKit
variable {P : Program} {E : Entry} {F : Nat → Prop} {C : Ctx} {w : World} {σ : St}
theorem Qav.tok_set {w' : World} {t id g' bx : Nat} {x' : Qdy} {pc' : Nat → Nat → Prop} (h : Qav E F C w σ) (hbel : Below E.B w w') (hst : Step C w w')
    (hsame : ∀ b, b < w.heap.size → b ≠ bx → w'.heap[b]? = w.heap[b]?)
    (hwho : (w.heap.size ≤ x'.blk ∧ bx = x'.blk) ∨ (∃ g x, σ.toks t = some g ∧ C.tk t = some x ∧ x.fr < x.ce ∧ x.blk = x'.blk ∧ bx = x'.blk) ∨ (x'.ce ≤ x'.fr ∧ w.heap.size ≤ bx))
    (hnew : (t = id ∧ F id) ∨ ∃ x, C.tk t = some x ∧ x.gen < x'.gen)
    (hpc : ∀ b o, C.pc b o → pc' b o) (npc : ∀ b o, pc' b o → C.pc b o ∨ (b = x'.blk ∧ o < x'.fr ∧ E.B ≤ b ∧ b < w'.heap.size ∧ (w.heap.size ≤ b ∨ x'.blk = bx)))
    (hfr : ∀ g x, σ.toks t = some g → C.tk t = some x → x.fr < x.ce → x.blk = x'.blk → x.fr ≤ x'.fr)
    (hgen : x'.gen = g') (hspare : x'.fr < x'.ce → E.B ≤ x'.blk ∧ ∃ c e, w'.heap[x'.blk]? = some (.cells c e) ∧ x'.ce ≤ c.size) :
    C.Le { C with tk := upd C.tk t (some x'), pc := pc' } ∧
    Qav E (fun i => F i ∧ i ≠ id) { C with tk := upd C.tk t (some x'), pc := pc' } w' { σ with toks := upd σ.toks t (some g') } := by
  have hle : C.Le { C with tk := upd C.tk t (some x'), pc := pc' } := by
    refine ⟨fun _ _ e => e, fun u x e => ?_, hpc, fun _ p => p, rfl⟩
    by_cases q : u = t
    · subst q
      rcases hnew with ⟨rfl, hF⟩ | ⟨x0, h1, h2⟩
      · have := (h.fresh _ hF).2; rw [this] at e; cases e
      · rw [h1] at e; cases e
        exact ⟨x', by simp [upd], by omega, fun q => by omega⟩
    · exact ⟨x, by simpa [upd, q] using e, Nat.le_refl _, fun _ => rfl⟩
  -- blocks of objects and of other tokens are not the one that turns
  have hobx : ∀ i o b, σ.objs i = some o → C.obj i = some b → b < w.heap.size → b ≠ bx ∧ (x'.fr < x'.ce → b ≠ x'.blk) := by
    intro i o b hi hb hlt
    rcases hwho with ⟨q, rfl⟩ | ⟨g, x, h1, h2, h3, h4, rfl⟩ | ⟨q, q'⟩
    · exact ⟨by omega, fun _ => by omega⟩
    · have := h.tobj t g x i o h1 h2 h3 hi
      rw [hb, h4] at this
      have hne : b ≠ x'.blk := fun e => this (by rw [e])
      exact ⟨hne, fun _ => hne⟩
    · exact ⟨by omega, fun r => by omega⟩
  have htbx : ∀ u g x, u ≠ t → σ.toks u = some g → C.tk u = some x → x.fr < x.ce → x.blk ≠ bx ∧ (x'.fr < x'.ce → x.blk ≠ x'.blk) := by
    intro u g x hne hu hx hsp
    obtain ⟨x0, q1, _, q3⟩ := h.tok u g hu
    rw [hx] at q1; cases q1
    have hlt := Qa3 (q3 hsp).2.1
    rcases hwho with ⟨q, rfl⟩ | ⟨g0, x0, h1, h2, h3, h4, rfl⟩ | ⟨q, q'⟩
    · exact ⟨by omega, fun _ => by omega⟩
    · have hd : x.blk ≠ x'.blk := fun e => hne (h.tinj u t g g0 x x0 hu h1 hx h2 hsp h3 (by rw [e, h4]))
      exact ⟨hd, fun _ => hd⟩
    · exact ⟨by omega, fun r => by omega⟩
  refine ⟨hle, ?_⟩
  constructor
  · exact h.lo
  · exact h.below.trans hbel
  · exact Nat.le_trans h.bsize hbel.size
  · exact h.pB
  · exact h.mB
  · exact fun b o p => hpc _ _ (h.psup _ _ p)
  · exact h.msup
  · intro b o p
    rcases npc b o p with q | ⟨_, _, q1, q2, _⟩
    · exact (h.psub b o q).imp (fun q => q) fun r => ⟨r.1, Nat.lt_of_lt_of_le r.2 hbel.size⟩
    · exact .inr ⟨q1, q2⟩
  · intro b p
    exact (h.msub b p).imp (fun q => q) fun r => ⟨r.1, Nat.lt_of_lt_of_le r.2 hbel.size⟩
  · intro i o hi
    obtain ⟨b, h1, h2, h3, h4, h5, h6⟩ := h.obj i o hi
    obtain ⟨hne, hne2⟩ := hobx i o b hi h1 h3
    refine ⟨b, h1, h2, Nat.lt_of_lt_of_le h3 hbel.size, ?_, h5, h6.mono hle hst (hsame b h3 hne)⟩
    intro j p
    rcases npc b j p with q | ⟨q1, q2, q3, q4, q5⟩
    · exact h4 j q
    · rcases q5 with q5 | q5
      · omega
      · exact hne (by rw [q1, q5])
  · exact h.inj
  · intro u g hu
    by_cases e : u = t
    · subst e
      simp [upd] at hu; subst hu
      refine ⟨x', by simp [upd], hgen, fun hx => ?_⟩
      obtain ⟨q1, q2⟩ := hspare hx
      refine ⟨q1, q2, ?_, ?_⟩
      · intro o ho p
        rcases npc _ _ p with q | ⟨_, q, _⟩
        · rcases hwho with ⟨r, _⟩ | ⟨g0, x0, r1, r2, r3, r4, _⟩ | ⟨r, _⟩
          · have := h.pcsize _ _ q; omega
          · obtain ⟨x1, s1, _, s3⟩ := h.tok u g0 r1
            rw [r2] at s1; cases s1
            by_cases ho2 : x0.fr ≤ o
            · exact (s3 r3).2.2.1 o ho2 (by rw [r4]; exact q)
            · -- the new frontier is not before the old one: cells before the old one are protected, those are fine only below
              exact absurd q (by
                intro _
                exact ho2 (Nat.le_trans (hfr g0 x0 r1 r2 r3 r4) ho))
          · omega
        · omega
      · intro p
        rcases hwho with ⟨r, _⟩ | ⟨g0, x0, r1, r2, r3, r4, _⟩ | ⟨r, _⟩
        · have := h.pmsize _ p; omega
        · obtain ⟨x1, s1, _, s3⟩ := h.tok u g0 r1
          rw [r2] at s1; cases s1
          exact (s3 r3).2.2.2 (by rw [r4]; exact p)
        · omega
    · simp [upd, e] at hu
      obtain ⟨x, h1, h2, h3⟩ := h.tok u g hu
      refine ⟨x, by simpa [upd, e] using h1, h2, fun hx => ?_⟩
      obtain ⟨h4, h5, h6, h7⟩ := h3 hx
      obtain ⟨hb1, hb2⟩ := htbx u g x e hu h1 hx
      refine ⟨h4, by rw [hsame _ (Qa3 h5) hb1]; exact h5, ?_, h7⟩
      intro o ho p
      rcases npc _ _ p with q | ⟨q1, q2, q3, q4, q5⟩
      · exact h6 o ho q
      · rcases q5 with q5 | q5
        · have := Qa3 h5; omega
        · exact hb1 (by rw [q1, q5])
  · intro u u' g g1 x x1 hu hu' hx hx1 hs1 hs2 hb
    by_cases e : u = t
    · by_cases e' : u' = t
      · rw [e, e']
      · subst e
        simp [upd] at hx; subst hx
        simp [upd, e'] at hu' hx1
        exact absurd hb.symm ((htbx u' g1 x1 e' hu' hx1 hs2).2 hs1)
    · simp [upd, e] at hu hx
      by_cases e' : u' = t
      · subst e'
        simp [upd] at hx1; subst hx1
        exact absurd hb ((htbx u g x e hu hx hs1).2 hs2)
      · simp [upd, e'] at hu' hx1
        exact h.tinj u u' g g1 x x1 hu hu' hx hx1 hs1 hs2 hb
  · intro u g x i o hu hx hsp hi
    intro hb
    obtain ⟨b, q1, q2, q3, _⟩ := h.obj i o hi
    by_cases e : u = t
    · subst e
      simp [upd] at hx; subst hx
      exact (hobx i o _ hi hb (by rw [show C.obj i = some b from q1] at hb; cases hb; exact q3)).2 hsp rfl
    · simp [upd, e] at hu hx
      exact h.tobj u g x i o hu hx hsp hi hb
  · intro i ⟨hf, hne⟩
    have hff := h.fresh i hf
    refine ⟨hff.1, ?_⟩
    have : i ≠ t := by
      rintro rfl
      rcases hnew with ⟨rfl, _⟩ | ⟨x, h1, _⟩
      · exact hne rfl
      · rw [hff.2] at h1; cases h1
    simpa [upd, this] using hff.2
theorem QcT {k : Nat} {s : DV} {v : Value} {rs : List (List DV)} (h : rowsOf k s = some rs) (hv : Qy C w s v) :
    (∃ ad, v = .slice ad 0 0 ∧ rs = []) ∨ ∃ b o cap tag, v = .slice (some ⟨b, o, none⟩) rs.length cap ∧ s = .slice k tag rs ∧ rs.length ≤ cap ∧ QaP C w k b o rs ∧ Qjv C w k rs.length b o cap tag := by
  unfold rowsOf at h
  split at h
  · simp at h; subst h; simp only [Qy] at hv; exact .inl ⟨_, hv, rfl⟩
  · next k' tag rows =>
    split at h
    · next hk =>
      simp at h; subst h; subst hk
      simp only [Qy] at hv
      rcases hv with ⟨b, o, cap, h1, h2, h3, h4⟩ | ⟨ad, h1, h2, _⟩
      · exact .inr ⟨b, o, cap, tag, h1, rfl, h2, h3, h4⟩
      · exact .inl ⟨ad, h1, h2⟩
    · simp at h
  · simp at h
theorem QgD {k : Nat} {b o : Nat} {rs : List (List DV)} (h : QaP C w k b o rs) :
    ∃ news : List Value, news.length = rs.length * k ∧ QP C w rs.flatten news ∧ Flat news ∧ ∀ j u, news[j]? = some u → w.cell? ((⟨b, o, none⟩ : Addr).add j) = some u := by
  obtain ⟨hc, hl⟩ := Qeb h
  obtain ⟨vs, h1, h2, h3⟩ := Qfe hc
  exact ⟨vs, by rw [← QY h1, hl], h1, h2, fun j u hu => by rw [addr_add]; exact h3 j u hu⟩
theorem QfL {b : Nat} {cur cs : Array Value} {t : TypeId} (h : w.heap[b]? = some (.cells cur t)) (o : Nat) : (w.setRow b cs).cell? ⟨b, o, none⟩ = cs[o]? :=
  cell?_of_cells (QaR h).at_ o
theorem append_sound {t e ty : TypeId} {id : Nat} {i : TyI} {s1 s2 : Nat} {s3 : DV} {s x : DV} {vs vx : Value} {rs xs : List (List DV)} {zs : List DV} {tk g' : Nat} {σ' : St}
    (ht : Qag P t = some ⟨.slice e, s1, s2, s3⟩) (hi : Qag P e = some i) (hrs : rowsOf i.size s = some rs) (hxs : rowsOf i.size x = some xs)
    (hpos : 0 < i.size) (hby : 0 < i.bytes) (hby2 : i.bytes ≤ 65536) (hz : i.zero.cells = some zs) (hzl : zs.length = i.size) (hlim : rs.length + xs.length ≤ Qd)
    (happ : QK σ id s = some (tk, g', σ')) (hv : Qy C w s vs) (hx : Qy C w x vx) (hs : Qav E F C w σ) (hF : F id) :
    ∃ u w', (Builtin.append_ #[t, t] ty #[vs, vx]).run P w = .ok u w' ∧ Res E (fun j => F j ∧ j ≠ id) C w σ' (.slice i.size (.tok tk g') (rs ++ xs)) u w' := by
  obtain ⟨info, z, hu1, hu2, hu3, hu4, hu5, hu6⟩ := Qau hi
  obtain ⟨_, _, htu, _⟩ := Qau ht
  have hzc : z.cells.size = i.size := by
    obtain ⟨us, q1, q2, _⟩ := Qay hz (hu6 ▸ QaK (C := C) (w := w) z)
    rw [q1]; simp [← QY q2, hzl]
  unfold Qd at hlim
  -- the new elements
  have hnews : ∃ news : List Value, news.length = xs.length * i.size ∧ QP C w xs.flatten news ∧ Flat news ∧ Builtin.lenOf vx = pure xs.length ∧
      (Builtin.firstCells i.size xs.length vx).run P w = .ok news.toArray w := by
    rcases QcT hxs hx with ⟨ad, rfl, rfl⟩ | ⟨b, o, cap, tag, rfl, _, h1, h2, _⟩
    · cases ad with
      | none => exact ⟨[], by simp, by simp [QP], by simp [Flat], rfl, run_firstCells_none (P := P) w _ _ _ _⟩
      | some ad => exact ⟨[], by simp, by simp [QP], by simp [Flat], rfl, run_firstCells_some (P := P) w i.size 0 ad 0 0 [] (by simp) (by simp)⟩
    · obtain ⟨news, n1, n2, n3, n4⟩ := QgD h2
      exact ⟨news, n1, n2, n3, rfl, run_firstCells_some (P := P) w i.size xs.length _ _ _ news n1 n4⟩
  obtain ⟨news, n1, n2, n3, n4, n5⟩ := hnews
  -- whose the token is
  have htok : (tk = id ∧ g' = 0 ∧ σ' = { σ with toks := upd σ.toks id (some 0) } ∧ (s = .lit (.slice none 0 0) ∨ s = .slice i.size .full rs)) ∨
      ∃ g x0, σ.toks tk = some g ∧ C.tk tk = some x0 ∧ x0.gen = g ∧ g' = g + 1 ∧ σ' = { σ with toks := upd σ.toks tk (some (g + 1)) } ∧ s = .slice i.size (.tok tk g) rs := by
    unfold QK at happ
    unfold rowsOf at hrs
    split at happ
    · next k tk' g rows =>
      split at happ
      · next hg =>
        simp at hg happ
        obtain ⟨rfl, rfl, rfl⟩ := happ
        simp only [] at hrs
        split at hrs
        · next hk =>
          simp at hrs; subst hrs; subst hk
          obtain ⟨x0, q1, q2, _⟩ := hs.tok _ _ hg
          exact .inr ⟨g, x0, hg, q1, q2, rfl, rfl, rfl⟩
        · simp at hrs
      · simp at happ
    · next k rows =>
      simp at happ
      obtain ⟨rfl, rfl, rfl⟩ := happ
      simp only [] at hrs
      split at hrs
      · next hk => simp at hrs; subst hrs; subst hk; exact .inl ⟨rfl, rfl, rfl, .inr rfl⟩
      · simp at hrs
    · simp at happ
      obtain ⟨rfl, rfl, rfl⟩ := happ
      exact .inl ⟨rfl, rfl, rfl, .inl rfl⟩
    · simp at happ
  have hnewtok : (tk = id ∧ F id) ∨ ∃ x, C.tk tk = some x ∧ x.gen < g' := by
    rcases htok with ⟨rfl, _⟩ | ⟨g, x0, _, q1, q2, q3, _⟩
    · exact .inl ⟨rfl, hF⟩
    · exact .inr ⟨x0, q1, by omega⟩
  have hσ : σ' = { σ with toks := upd σ.toks tk (some g') } := by
    rcases htok with ⟨rfl, rfl, q, _⟩ | ⟨g, x0, _, _, _, rfl, q, _⟩ <;> exact q
  have hblk : ∀ g x, σ.toks tk = some g → C.tk tk = some x → x.fr < x.ce → x.blk < w.heap.size := by
    intro g x q1 q2 q3
    obtain ⟨x1, r1, _, r3⟩ := hs.tok _ _ q1
    rw [q2] at r1; cases r1
    exact Qa3 (r3 q3).2.1
  -- a token whose spare is empty
  have hidle : ∀ (u : Value), (∀ C' : Ctx, C.Le C' → C'.tk tk = some ⟨g', w.heap.size, 0, 0⟩ → Qy C' w (.slice i.size (.tok tk g') (rs ++ xs)) u) →
      Res E (fun j => F j ∧ j ≠ id) C w σ' (.slice i.size (.tok tk g') (rs ++ xs)) u w := by
    intro u hu
    obtain ⟨hle, hS⟩ := hs.tok_set (w' := w) (t := tk) (id := id) (g' := g') (bx := w.heap.size) (x' := ⟨g', w.heap.size, 0, 0⟩) (pc' := C.pc) (Below.refl _ _) (.refl C w) (fun _ _ _ => rfl)
      (.inl ⟨Nat.le_refl _, rfl⟩) hnewtok (fun _ _ p => p) (fun _ _ p => .inl p) (fun g x q1 q2 q3 q4 => by have := hblk g x q1 q2 q3; simp at q4; omega) rfl (fun q => by simp at q)
    exact ⟨_, hle, .refl C w, hu _ hle (by simp [upd]), hσ ▸ hS⟩
  -- a new array
  have hgrow : ∀ (olds : List Value) (newCap : Nat), olds.length = rs.length * i.size → QP C w rs.flatten olds → Flat olds → rs.length + xs.length ≤ newCap → (∀ r ∈ rs, r.length = i.size) → (∀ r ∈ xs, r.length = i.size) →
      Res E (fun j => F j ∧ j ≠ id) C w σ' (.slice i.size (.tok tk g') (rs ++ xs)) (.slice (some ⟨w.heap.size, 0, none⟩) (rs.length + xs.length) newCap)
        (w.drew.alloc (.cells (olds.toArray ++ news.toArray ++ Builtin.zeroCells z.cells (newCap - (rs.length + xs.length))) e)) := by
    intro olds newCap o1 o2 o3 hcap hk1 hk2
    have hbel : Below w.heap.size w (w.drew.alloc (.cells (olds.toArray ++ news.toArray ++ Builtin.zeroCells z.cells (newCap - (rs.length + xs.length))) e)) := ((Below.refl _ _).drew).alloc (Nat.le_refl _) _
    have hst : Step C w (w.drew.alloc (.cells (olds.toArray ++ news.toArray ++ Builtin.zeroCells z.cells (newCap - (rs.length + xs.length))) e)) := .of_below hbel hs.pcsize hs.pmsize
    have hnew : (w.drew.alloc (.cells (olds.toArray ++ news.toArray ++ Builtin.zeroCells z.cells (newCap - (rs.length + xs.length))) e)).heap[w.heap.size]? = some (.cells (olds.toArray ++ news.toArray ++ Builtin.zeroCells z.cells (newCap - (rs.length + xs.length))) e) := heap_alloc_new w.drew _
    have hsize : (olds.toArray ++ news.toArray ++ Builtin.zeroCells z.cells (newCap - (rs.length + xs.length))).size = newCap * i.size := by
      simp only [Array.size_append, List.size_toArray, size_zeroCells, hzc, o1, n1, ← Nat.add_mul]
      congr 1; omega
    obtain ⟨hle, hS⟩ := hs.tok_set (t := tk) (id := id) (g' := g') (bx := w.heap.size) (x' := ⟨g', w.heap.size, (rs.length + xs.length) * i.size, newCap * i.size⟩)
      (pc' := fun b o => C.pc b o ∨ (b = w.heap.size ∧ o < (rs.length + xs.length) * i.size)) (hbel.mono hs.bsize) hst (fun b hb _ => hbel.block b hb)
      (.inl ⟨Nat.le_refl _, rfl⟩) hnewtok (fun _ _ p => .inl p) (fun b o p => p.imp (fun q => q) fun q => ⟨q.1, q.2, by rw [q.1]; exact hs.bsize, by rw [q.1]; simp, .inl (by omega)⟩)
      (fun g x q1 q2 q3 q4 => by have := hblk g x q1 q2 q3; simp at q4; omega) rfl (fun _ => ⟨hs.bsize, _, _, hnew, by rw [hsize]; exact Nat.le_refl _⟩)
    refine ⟨_, hle, hst, ?_, hσ ▸ hS⟩
    simp only [Qy]
    left
    refine ⟨w.heap.size, 0, newCap, by simp, by simpa using hcap, ?_, ⟨⟨_, by simp [upd]; rfl, by simp, fun _ => .inr ⟨rfl, by simp, by simp⟩⟩, by show C.lo ≤ _; rw [hs.lo]; exact hs.bsize, _, _, hnew⟩⟩
    refine Qbx (fun r hr => (List.mem_append.1 hr).elim (hk1 r) (hk2 r)) ?_
    rw [List.flatten_append]
    refine Qdv (vs := olds ++ news) (Qaw (QS hle hst _ _ o2) (QS hle hst _ _ n2)) (o3.append n3) fun j v hj => ?_
    have hjl : j < (rs.length + xs.length) * i.size := by
      have : j < (olds ++ news).length := by
        rcases Nat.lt_or_ge j (olds ++ news).length with q | q
        · exact q
        · simp [List.getElem?_eq_none q] at hj
      simpa [o1, n1, ← Nat.add_mul] using this
    refine ⟨.inr ⟨rfl, by omega⟩, ?_⟩
    rw [cell?_of_cells hnew, Nat.zero_add, Array.getElem?_append]
    have : j < (olds.toArray ++ news.toArray).size := by simp [o1, n1, ← Nat.add_mul]; exact hjl
    rw [if_pos this]
    simpa using hj
  have hk2 : ∀ r ∈ xs, r.length = i.size := by
    rcases QcT hxs hx with ⟨_, _, rfl⟩ | ⟨_, _, _, _, _, _, _, q, _⟩
    · simp
    · exact QeP q
  have hnx : xs ≠ [] → ∃ a c, vx = .slice (some a) xs.length c ∧ ∃ news' : List Value, news' = news ∧ ∀ j u, news'[j]? = some u → w.cell? (a.add j) = some u := by
    intro hne
    rcases QcT hxs hx with ⟨_, _, q⟩ | ⟨b, o, cap, tag, q1, q2, q3, q4, q5⟩
    · exact absurd q hne
    · obtain ⟨news', m1, m2, m3, m4⟩ := QgD q4
      refine ⟨_, _, q1, news', ?_, m4⟩
      have hf := run_firstCells_some (P := P) w i.size xs.length ⟨b, o, none⟩ xs.length cap news' m1 m4
      rw [q1] at n5
      rw [hf] at n5
      simpa using n5
  have hbytes : ∀ n, n ≤ 16777216 → n * i.bytes ≤ 1099511627776 := fun n hn => Nat.le_trans (Nat.mul_le_mul hn hby2) (by omega)
  rcases QcT hrs hv with ⟨ad, rfl, rfl⟩ | ⟨b, o, cap, tag, rfl, hs', hcap, hR, htag⟩
  · by_cases hxe : xs = []
    · subst hxe
      have hnn : news = [] := List.eq_nil_of_length_eq_zero (by simpa using n1)
      subst hnn
      refine ⟨.slice ad 0 0, w, ?_, hidle _ fun C' hle' htk => ?_⟩
      · simp only [List.length_nil] at n4 n5
        cases ad <;> simp [Builtin.append_, run_underlying ht, run_sizeOf hi, n4, n5, storeCells]
      · simp only [Qy]; exact .inr ⟨ad, rfl, by simp, _, htk, by simp⟩
    · cases ad with
      | some ad =>
        obtain ⟨a, c, rfl, news', rfl, hcell⟩ := hnx hxe
        have hxl : 0 < xs.length := List.length_pos_iff.2 hxe
        simp only [List.length_nil, Nat.zero_add] at hlim
        have hb := hbytes xs.length hlim
        have hrun := run_append_grow (P := P) w t ty e info z htu hu2 hu5 ad 0 0 [] (by simp) (by simp) a xs.length c news' (by rw [n1, hu3]) hcell (by omega) (by omega)
          (growslice_fits (by omega) (by rw [hu4, Nat.zero_add]; omega))
        exact ⟨_, _, hrun, hgrow [] _ (by simp) (by simp [QP]) (by simp [Flat]) (by simpa using grownCap_ge w _ _ e) (by simp) hk2⟩
      | none =>
      obtain ⟨a, c, rfl, news', rfl, hcell⟩ := hnx hxe
      have hxl : 0 < xs.length := List.length_pos_iff.2 hxe
      simp only [List.length_nil, Nat.zero_add] at hlim
      have hb := hbytes xs.length hlim
      have hrun := run_append_nil (P := P) w t ty e info z htu hu2 hu5 a xs.length c news' (by rw [n1, hu3]) hcell hxl (by omega) (by rw [hu4]; omega)
      have hg := hgrow [] (grownCap w xs.length 0 e) (by simp) (by simp [QP]) (by simp [Flat]) (by simpa using grownCap_ge w xs.length 0 e) (by simp) hk2
      refine ⟨_, _, hrun, ?_⟩
      simpa using hg
  · by_cases hroom : rs.length + xs.length ≤ cap
    · by_cases hxe : xs = []
      · subst hxe
        have hnn : news = [] := List.eq_nil_of_length_eq_zero (by simpa using n1)
        subst hnn
        have hrun : (Builtin.append_ #[t, t] ty #[.slice (some ⟨b, o, none⟩) rs.length cap, vx]).run P w = .ok (.slice (some ⟨b, o, none⟩) rs.length cap) w := by
          simp only [List.length_nil] at n4 n5
          simp at hroom
          simp [Builtin.append_, run_underlying ht, run_sizeOf hi, n4, n5, hroom, storeCells]
        refine ⟨_, _, hrun, ?_⟩
        rcases htok with ⟨rfl, rfl, _, q | q⟩ | ⟨g, x0, q1, q2, q3, q4, _, q⟩
        · rw [q] at hs'; cases hs'
        · rw [q] at hs'; cases hs'
          exact hidle _ fun C' hle' htk => by
            simp only [Qy, List.append_nil]
            exact .inl ⟨b, o, cap, rfl, hcap, QdR hle' (.refl C w) _ _ _ _ hR, ⟨_, htk, by simp, fun _ => .inl htag.1⟩, Qfu hle' (.refl C w) htag.2⟩
        · rw [q] at hs'; cases hs'
          obtain ⟨⟨x1, r1, r2, r3⟩, r4⟩ := htag
          rw [q2] at r1; cases r1
          subst q4
          have hcase : (x0.fr < x0.ce) ∨ (x0.ce ≤ x0.fr) := by omega
          obtain ⟨bx, hwho⟩ : ∃ bx, (w.heap.size ≤ x0.blk ∧ bx = x0.blk) ∨ (∃ g x, σ.toks tk = some g ∧ C.tk tk = some x ∧ x.fr < x.ce ∧ x.blk = x0.blk ∧ bx = x0.blk) ∨ (x0.ce ≤ x0.fr ∧ w.heap.size ≤ bx) := by
            rcases hcase with h1 | h1
            · exact ⟨x0.blk, .inr (.inl ⟨g, x0, q1, q2, h1, rfl, rfl⟩)⟩
            · exact ⟨w.heap.size, .inr (.inr ⟨h1, Nat.le_refl _⟩)⟩
          obtain ⟨hle, hS⟩ := hs.tok_set (w' := w) (t := tk) (id := id) (g' := g + 1) (bx := bx) (x' := ⟨g + 1, x0.blk, x0.fr, x0.ce⟩) (pc' := C.pc) (Below.refl _ _) (.refl C w) (fun _ _ _ => rfl)
            hwho hnewtok (fun _ _ p => p) (fun _ _ p => .inl p) (fun g1 x1 e1 e2 e3 e4 => by rw [q2] at e2; cases e2; exact Nat.le_refl _) rfl (fun hsp => by
              obtain ⟨x1, s1, _, s3⟩ := hs.tok _ _ q1
              rw [q2] at s1; cases s1
              exact ⟨(s3 hsp).1, (s3 hsp).2.1⟩)
          refine ⟨_, hle, .refl C w, ?_, hσ ▸ hS⟩
          simp only [Qy, List.append_nil]
          refine .inl ⟨b, o, cap, rfl, hcap, QdR hle (.refl C w) _ _ _ _ hR, ⟨_, by simp [upd]; rfl, by simp, fun _ => ?_⟩, Qfu hle (.refl C w) r4⟩
          rcases r3 q3.symm with h1 | ⟨h1, h2, h3⟩
          · exact .inl h1
          · exact .inr ⟨h1, h2, h3⟩
      · have hxl : 0 < xs.length := List.length_pos_iff.2 hxe
        rcases htok with ⟨rfl, rfl, _, q | q⟩ | ⟨g, x0, q1, q2, q3, q4, _, q⟩
        · rw [q] at hs'; cases hs'
        · rw [q] at hs'; cases hs'
          have := htag.1; omega
        · rw [q] at hs'; cases hs'
          obtain ⟨⟨x1, r1, r2, r3⟩, r4⟩ := htag
          rw [q2] at r1; cases r1
          subst q4
          rcases r3 q3.symm with h1 | ⟨rfl, h2, h3⟩
          · omega
          have hnl : 0 < news.length := by rw [n1]; exact Nat.mul_pos hxl hpos
          have hfit : x0.fr + news.length ≤ x0.ce := by
            rw [h2, h3, n1, Nat.add_assoc, ← Nat.add_mul]
            exact Nat.add_le_add_left (Nat.mul_le_mul_right _ hroom) _
          have hsp : x0.fr < x0.ce := by omega
          obtain ⟨x1, s1, _, s3⟩ := hs.tok _ _ q1
          rw [q2] at s1; cases s1
          obtain ⟨t1, ⟨c, e', t2, t3⟩, t4, t5⟩ := s3 hsp
          have hst0 := run_storeCells_at P x0.blk (o + rs.length * i.size) e' news 0 c w t2 (by rw [← h2]; omega) n3
          simp only [Nat.add_zero] at hst0
          have hrun : (Builtin.append_ #[t, t] ty #[.slice (some ⟨x0.blk, o, none⟩) rs.length cap, vx]).run P w = .ok (.slice (some ⟨x0.blk, o, none⟩) (rs.length + xs.length) cap)
              (w.setRow x0.blk (c.toList.take (o + rs.length * i.size) ++ news ++ c.toList.drop (o + rs.length * i.size + news.length)).toArray) := by
            simp [Builtin.append_, run_underlying ht, run_sizeOf hi, n4, n5, hroom, addr_add, hst0]
          refine ⟨_, _, hrun, ?_⟩
          rw [← h2] at hst0 ⊢
          have hT := QaR (w := w) (cs := (c.toList.take x0.fr ++ news ++ c.toList.drop (x0.fr + news.length)).toArray) t2
          have hst : Step C w (w.setRow x0.blk (c.toList.take x0.fr ++ news ++ c.toList.drop (x0.fr + news.length)).toArray) := by
            refine ⟨fun k j p => ?_, fun k p => hT.other k (fun e => by subst e; exact t5 p), fun k c1 e1 p q => (Decidable.em (k = x0.blk)).elim (fun ek => by subst ek; rw [t2] at q; cases q; exact ⟨_, _, hT.at_, by simp; omega⟩) fun ek => ⟨c1, e1, by rw [hT.other k ek]; exact q, rfl⟩⟩
            by_cases ek : k = x0.blk
            · subst ek
              have hj : j < x0.fr := by
                rcases Nat.lt_or_ge j x0.fr with q | q
                · exact q
                · exact absurd p (t4 j q)
              rw [QfL t2, cell?_of_cells t2]
              simp only [List.getElem?_toArray, List.append_assoc]
              rw [List.getElem?_append_left (by simp; omega), List.getElem?_take_of_lt hj]
              simp
            · exact World.cell?_of_block (w := w) (hT.other k ek)
          have hsize : (c.toList.take x0.fr ++ news ++ c.toList.drop (x0.fr + news.length)).toArray.size = c.size := by simp; omega
          obtain ⟨hle, hS⟩ := hs.tok_set (t := tk) (id := id) (g' := g + 1) (bx := x0.blk) (x' := ⟨g + 1, x0.blk, x0.fr + news.length, x0.ce⟩)
            (pc' := fun k j => C.pc k j ∨ (k = x0.blk ∧ x0.fr ≤ j ∧ j < x0.fr + news.length)) (hT.below t1) hst (fun k _ hk => hT.other k hk)
            (.inr (.inl ⟨g, x0, q1, q2, hsp, rfl, rfl⟩)) hnewtok (fun _ _ p => .inl p)
            (fun k j p => p.imp (fun q => q) fun q => ⟨q.1, q.2.2, by rw [q.1]; exact t1, by rw [q.1, hT.size]; exact Qa3 ⟨c, e', t2, t3⟩, .inr rfl⟩)
            (fun g1 x1 e1 e2 e3 e4 => by rw [q2] at e2; cases e2; simp) rfl (fun _ => ⟨t1, _, _, hT.at_, by rw [hsize]; exact t3⟩)
          refine ⟨_, hle, hst, ?_, hσ ▸ hS⟩
          simp only [Qy]
          refine .inl ⟨x0.blk, o, cap, by simp, by simpa using hroom, ?_, ⟨⟨g + 1, x0.blk, x0.fr + news.length, x0.ce⟩, by simp [upd], Nat.le_refl _, fun _ => .inr ⟨rfl, ?_, h3⟩⟩, Qfu hle hst r4⟩
          · refine Qbx (fun r hr => (List.mem_append.1 hr).elim (QeP hR r) (hk2 r)) ?_
            rw [List.flatten_append]
            refine Qdw (QdV hle hst _ _ _ (Qeb hR).1) ?_
            rw [(Qeb hR).2, ← h2]
            refine Qdv (QS hle hst _ _ n2) n3 fun j v hj => ?_
            have hjl : j < news.length := by
              rcases Nat.lt_or_ge j news.length with q | q
              · exact q
              · simp [List.getElem?_eq_none q] at hj
            refine ⟨.inr ⟨rfl, by omega, by omega⟩, ?_⟩
            rw [QfL t2]
            simp only [List.getElem?_toArray, List.append_assoc]
            have hlt : (List.take x0.fr c.toList).length = x0.fr := by simp; omega
            rw [List.getElem?_append_right (by omega), hlt, show x0.fr + j - x0.fr = j by omega, List.getElem?_append_left hjl]
            exact hj
          · simp only [List.length_append]; rw [h2, n1, Nat.add_assoc, ← Nat.add_mul]
    · have hxe : xs ≠ [] := fun e => by subst e; simp at hroom; omega
      obtain ⟨a, c, rfl, news', rfl, hcell⟩ := hnx hxe
      obtain ⟨olds, o1, o2, o3, o4⟩ := QgD hR
      have hb := hbytes (rs.length + xs.length) (by omega)
      have hrun := run_append_grow (P := P) w t ty e info z htu hu2 hu5 ⟨b, o, none⟩ rs.length cap olds (by rw [o1, hu3]) o4 a xs.length c news' (by rw [n1, hu3]) hcell (by omega) (by omega)
        (growslice_fits (by omega) (by rw [hu4]; omega))
      exact ⟨_, _, hrun, hgrow olds _ o1 o2 o3 (grownCap_ge w _ _ e) (QeP hR) hk2⟩
end Go.FA
namespace Go.FA
open Go.RowKit
variable {P : Program} {E : Entry} {F : Nat → Prop} {C : Ctx} {w : World} {σ : St}
theorem range_sound {t kt et : TypeId} {id : Nat} {s1 s2 : Nat} {s3 : DV} {ks : List Value} {vs : List DV} {v : Value} (ht : Qag P t = some ⟨.map kt et, s1, s2, s3⟩) (hv : Qy C w (.fmap ks vs) v) (hs : Qav E F C w σ) (hF : F id) :
    ∃ u w', (Instr.range t v).run P w = .ok u w' ∧ Res E (fun j => F j ∧ j ≠ id) C w { σ with objs := upd σ.objs id (some (.mapIter ks vs [])) } (.ptr id 0) u w' := by
  simp only [Qy] at hv
  obtain ⟨b, es, clock, rfl, hp, hh, hk, hl, hst⟩ := hv
  have hblt := hs.pmsize _ hp
  obtain ⟨C', hle, hstep, hob, _, _, _, hs'⟩ := hs.new_obj (id := id) (ob := .mapIter (some b) clock #[] clock) (o := .mapIter ks vs []) hF (fun C' hle hstep =>
    ⟨b, es, clock, by simpa using heap_alloc_new w _, hle.pm _ hp, by rw [heap_alloc_old w _ _ hblt]; exact hh, hk, QS hle hstep _ _ hl, hst, by simp⟩)
  refine ⟨.pointer (some ⟨w.heap.size, 0, none⟩), w.alloc (.mapIter (some b) clock #[] clock), ?_, C', hle, hstep, ?_, hs'⟩
  · simp [Instr.range, run_underlying ht, run_getObj_map hh]
  · simp only [Qy]; exact ⟨_, hob, rfl⟩
theorem QbK {b : Nat} {m : Option Nat} {since : Nat} {seen : Array Nat} {st : Nat} (h : w.heap[b]? = some (.mapIter m since seen st)) : (getObj b).run P w = .ok (.mapIter m since seen st) w := by
  simp [getObj, Sem.run, h]
theorem QhT : ∀ (l : List MapEntry) (j : Nat) (e : MapEntry), l[j]? = some e → (l.map (·.born)).Nodup → l.find? (fun x => x.born == e.born) = some e
  | [], j, e, hl, _ => by simp at hl
  | x :: l, j, e, hl, hn => by
    simp only [List.map_cons, List.nodup_cons] at hn
    cases j with
    | zero => simp at hl; subst hl; simp
    | succ j =>
      simp at hl
      have : x.born ≠ e.born := fun q => hn.1 (by rw [q]; exact List.mem_map.2 ⟨e, List.mem_of_getElem? hl, rfl⟩)
      rw [List.find?_cons_of_neg (by simpa using this)]
      exact QhT l j e hl hn.2
theorem find_born {es : Array MapEntry} {c : Nat} (h : Stamped es c) {j : Nat} {e : MapEntry} (he : es[j]? = some e) : es.find? (fun x => x.born == e.born) = some e := by
  rw [← Array.find?_toList]
  exact QhT es.toList j e (by simpa using he) h.2
theorem Qfy {i : Nat} {d : DV} {v : Value} (h : Qez σ i = some d) (hv : Qy C w (.ptr i 0) v) (hs : Qav E F C w σ) :
    ∃ u, (Instr.entry v).run P w = .ok u w ∧ Qy C w d u := by
  unfold Qez at h
  split at h
  · next ks vs seen ho =>
    split at h
    · next j hj =>
      split at h
      · next k x hk hx =>
        simp at h; subst h
        simp only [Qy] at hv
        obtain ⟨b, hb, rfl⟩ := hv
        obtain ⟨b', hb', _, _, _, _, m, es, clock, h1, h2, h3, h4, h5, h6, h7⟩ := hs.obj _ _ ho
        obtain rfl : b = b' := by rw [hb] at hb'; exact Option.some.inj hb'
        subst h4
        obtain ⟨val, hv1, hv2⟩ := Qc1 h5 hx
        simp at hk hv1
        obtain ⟨e, he1, he2⟩ := hk
        obtain ⟨e', he1', he2'⟩ := hv1
        rw [he1] at he1'; cases he1'
        have hback : ((seen.map fun j => ((es[j]?).map (·.born)).getD 0).toArray).back? = some e.born := by
          rw [List.back?_toArray, List.getLast?_map, hj]
          simp [he1]
        refine ⟨.tuple #[e.key, e.val], ?_, ?_⟩
        · simp only [Instr.entry, Sem.run_bind, QbK h1, Result.andThen_ok, hback, run_getObj_map h3]
          simp [find_born h6 he1]
        · simp only [Qy]
          exact ⟨[e.key, e.val], rfl, by simp only [QP, Qy]; exact ⟨he2, by rw [he2']; exact hv2, trivial⟩⟩
      · simp at h
    · simp at h
  · simp at h
end Go.FA
namespace Go.FA
open Go.RowKit
variable {P : Program} {T : Tab} {E : Entry} {F : Nat → Prop} {C : Ctx} {w : World} {σ : St}
theorem Res.of_call {r : DV} {v : Value} {w' : World} (hs : Qav E F C w σ) (hb : Below w.heap.size w w') (hp : QhS r = true)
    (hr : Qy { C with pc := fun b o => C.pc b o ∨ (w.heap.size ≤ b ∧ b < w'.heap.size), pm := fun b => C.pm b ∨ (w.heap.size ≤ b ∧ b < w'.heap.size) } w' r v) :
    Res E F C w σ r v w' := by
  obtain ⟨hle, hst, h1⟩ := hs.grow (pc' := fun b o => C.pc b o ∨ (w.heap.size ≤ b ∧ b < w'.heap.size)) (pm' := fun b => C.pm b ∨ (w.heap.size ≤ b ∧ b < w'.heap.size)) hb
    (fun _ _ p => .inl p) (fun _ p => .inl p) (fun _ _ p => p) (fun _ p => p)
  exact ⟨_, hle, hst, hr, h1⟩
theorem Res.fewer {F' : Nat → Prop} {σ' : St} {d : DV} {v : Value} {w' : World} (h : Res E F C w σ' d v w') (hf : ∀ i, F' i → F i) : Res E F' C w σ' d v w' := by
  obtain ⟨C', h1, h2, h3, h4⟩ := h
  exact ⟨C', h1, h2, h3, h4.fewer hf⟩
theorem Qby {a : Nat → DV} {ca : Array Value} {ds : List Deferred} {x : Operand} {args : List DV} {vargs : List Value} {f : FuncId} {xs : List DV} (h : Qi a x args = some (f, xs))
    (hf : QfC C w a ca) (hl : QP C w args vargs) :
    ∃ first captured : List Value, Act.eval ⟨ca, ds⟩ x = .func (.func f) first.toArray captured.toArray ∧ QP C w xs (first ++ vargs ++ captured) := by
  have hx := Qae (ds := ds) hf x
  unfold Qi at h
  split at h
  · next g first captured he =>
    split at h
    · next hc =>
      simp at hc h; obtain ⟨rfl, rfl⟩ := h; obtain ⟨rfl, rfl⟩ := hc
      rw [he] at hx; simp only [Qy] at hx
      exact ⟨[], [], by simpa using hx, by simpa using hl⟩
    · simp at h
  · next g first captured he =>
    simp at h; obtain ⟨rfl, rfl⟩ := h
    rw [he] at hx; simp only [Qy] at hx
    obtain ⟨f', c', h1, h2, h3⟩ := hx
    exact ⟨f', c', h1, by rw [← List.append_assoc]; exact Qaw (Qaw h2 hl) h3⟩
  · simp at h
theorem QfG {r d : DV} (h : Qm r = some d) : d = r ∧ (∀ k rows, r ≠ .slice k (.tok 0 0) rows) := by
  unfold Qm at h
  split at h
  · simp at h
  · next hne => simp at h; subst h; exact ⟨rfl, fun k rows e => hne _ _ _ _ e⟩
theorem Qg2 {id : Nat} {r : DV} (h : QhS r = true) : own id σ r = (r, σ) := by
  unfold own
  split
  · simp [QhS] at h
  · rfl
theorem Qga {a : Nat → DV} {ca : Array Value} {ds : List Deferred} {o : Oper} {x : Operand} {args : Array Operand} {tys : Array TypeId} {g : FuncId} {xs : List DV} {r : DV} {id : Nat}
    (ho : o.op = .call ⟨.value x, args, tys⟩) (hc : Qi a x (args.toList.map (eval a)) = some (g, xs)) (hr : dcall T g xs = some r) (hT : QH P T) (hF : F id) (hf : QfC C w a ca) (hs : Qav E F C w σ) :
    Upon P (execOp (Act.eval ⟨ca, ds⟩) o) w (fun v w' => Res E (fun i => F i ∧ i ≠ id) C w (own id σ r).2 (own id σ r).1 v w') := by
  have hl : QP C w (args.toList.map (eval a)) (args.toList.map (Act.eval ⟨ca, ds⟩)) := Qbn _ _ _ fun y _ => Qae hf y
  obtain ⟨first, captured, h1, h2⟩ := Qby (ds := ds) hc hf hl
  unfold dcall at hr
  split at hr
  · next s hTs =>
      obtain ⟨hsound, fn, c, hfn, hbody, hname⟩ := hT g s hTs
      have hrun : (execOp (Act.eval ⟨ca, ds⟩) o).run P w = .ok (.enter g (first ++ args.toList.map (Act.eval ⟨ca, ds⟩) ++ captured).toArray) w := by
        simp only [execOp, ho, resolve, h1, Deferred.ofValue, Sem.run_bind, Sem.run_pure, Result.andThen_ok, invoke, callFunc, run_program, hfn]
        simp [hname, hbody]
      unfold Upon
      rw [hrun]
      rcases hsound _ _ hr with ⟨hpr, hcalls⟩ | ⟨k, rows, rfl, hpr, hcalls⟩
      · have hcl := hcalls C w _ hs.glob hs.pcsize hs.pmsize h2
        rw [Qg2 hpr]
        exact hcl.mono fun e w' ⟨v, he, hb, hv⟩ => ⟨v, he, (Res.of_call hs hb hpr hv).fewer fun i q => q.1⟩
      · have hcl := hcalls C w _ hs.glob hs.pcsize hs.pmsize h2
        exact hcl.mono fun e w' ⟨v, he, hb, hv⟩ => ⟨v, he, Res.own hs hF hb hpr hv⟩
  · simp at hr
theorem QeW {a : Nat → DV} {ca : Array Value} {ds : List Deferred} {id : Nat} {o : Oper} {d : DV} {σ' : St} (h : dop P T id a σ o.op = some (d, σ')) (hT : QH P T) (hF : F id)
    (hf : QfC C w a ca) (hs : Qav E F C w σ) : Upon P (execOp (Act.eval ⟨ca, ds⟩) o) w (fun v w' => Res E (fun i => F i ∧ i ≠ id) C w σ' d v w') := by
  have hw : ∀ i, (F i ∧ i ≠ id) → F i := fun _ q => q.1
  have ev := fun x => Qae (ds := ds) hf x
  have here : ∀ {d v}, Qy C w d v → Res E (fun i => F i ∧ i ≠ id) C w σ d v w := fun hv => (Res.here hs hv).fewer hw
  cases hop : o.op with
  | move x =>
    simp [dop, hop] at h; obtain ⟨rfl, rfl⟩ := h
    simp only [execOp, hop, Upon]; exact here (ev x)
  | assign x =>
    simp [dop, hop] at h; obtain ⟨rfl, rfl⟩ := h
    simp only [execOp, hop, Upon]; exact here (ev x)
  | pick c x y =>
    simp only [dop, hop] at h
    split at h
    · next b hb =>
      simp at h; obtain ⟨rfl, rfl⟩ := h
      have hc := ev c; rw [hb] at hc; simp only [Qy] at hc
      simp only [execOp, hop, Upon, hc, asBool, Sem.run_bind, Sem.run_pure, Result.andThen_ok]
      cases b
      · simpa using here (ev y)
      · simpa using here (ev x)
    · simp at h
  | extract x i =>
    simp only [dop, hop] at h
    split at h
    · next vs hv =>
      simp at h; obtain ⟨d', h1, rfl, rfl⟩ := h
      have hx := ev x; rw [hv] at hx
      obtain ⟨u, h2, h3⟩ := QdC (P := P) h1 hx
      simp only [execOp, hop]; exact Q7 h2 (here h3)
    · simp at h
  | load t x =>
    simp only [dop, hop, Option.map_eq_some_iff] at h; obtain ⟨d', h1, h0⟩ := h; cases h0
    obtain ⟨u, h2, h3⟩ := Qet h1 (ev x) hs
    simp only [execOp, hop]; exact Q7 h2 (here h3)
  | store t ad x =>
    simp only [dop, hop, Option.map_eq_some_iff] at h; obtain ⟨σ1, h1, h0⟩ := h; cases h0
    obtain ⟨w', h2, h3, h4⟩ := QfK h1 (ev ad) (ev x) hs
    simp only [execOp, hop]; exact upon_skip h2 ⟨C, .refl C, h3, by simp [Qy, undef], h4.fewer hw⟩
  | fieldAddr s x f =>
    simp only [dop, hop, Option.map_eq_some_iff] at h; obtain ⟨d', h1, h0⟩ := h; cases h0
    obtain ⟨u, h2, h3⟩ := QcI h1 (ev x)
    simp only [execOp, hop]; exact Q7 h2 (here h3)
  | field s x f =>
    simp only [dop, hop, Option.map_eq_some_iff] at h; obtain ⟨d', h1, h0⟩ := h; cases h0
    obtain ⟨u, h2, h3⟩ := Qfi h1 (ev x)
    simp only [execOp, hop]; exact Q7 h2 (here h3)
  | indexAddr t x i =>
    simp only [dop, hop, Option.map_eq_some_iff] at h; obtain ⟨d', h1, h0⟩ := h; cases h0
    obtain ⟨u, h2, h3⟩ := QcB h1 (ev x) (ev i)
    simp only [execOp, hop]; exact Q7 h2 (here h3)
  | index t x i =>
    simp only [dop, hop, Option.map_eq_some_iff] at h; obtain ⟨d', h1, h0⟩ := h; cases h0
    obtain ⟨u, h2, h3⟩ := QfQ h1 (ev x) (ev i)
    simp only [execOp, hop]; exact Q7 h2 (here h3)
  | binOp op t x y yt =>
    simp only [dop, hop, Option.map_eq_some_iff] at h; obtain ⟨d', h1, h0⟩ := h; cases h0
    obtain ⟨u, h2, h3⟩ := QhV (xo := x) (yo := y) h1 (ev x) (ev y)
    simp only [execOp, hop]; exact Q7 h2 (here h3)
  | unOp op t x =>
    simp only [dop, hop] at h
    split at h
    · next b hb =>
      simp at h; obtain ⟨rfl, rfl⟩ := h
      have hx := ev x; rw [hb] at hx; simp only [Qy] at hx
      simp only [execOp, hop, hx]
      exact Q7 (s := Op.unary .not (.bool b)) (by simp [Op.unary]; rfl) (here (by simp [Qy]))
    · next k n hb =>
      simp at h; obtain ⟨rfl, rfl⟩ := h
      have hx := ev x; rw [hb] at hx; simp only [Qy] at hx
      simp only [execOp, hop, hx]
      exact Q7 (s := Op.unary .neg (.int k n)) (by simp [Op.unary, Op.intArith]; rfl) (here (by simp [Qy]))
    · simp at h
  | lookup t m k ok =>
    simp only [dop, hop, Option.map_eq_some_iff] at h; obtain ⟨d', h1, h0⟩ := h; cases h0
    obtain ⟨u, h2, h3⟩ := QeG h1 (ev m) (ev k) hs
    simp only [execOp, hop]; exact Q7 h2 (here h3)
  | mapUpdate t m k x =>
    simp only [dop, hop, Option.map_eq_some_iff] at h; obtain ⟨σ1, h1, h0⟩ := h; cases h0
    obtain ⟨w', h2, h3, h4⟩ := Qba h1 (ev m) (ev k) (ev x) hs
    simp only [execOp, hop]; exact upon_skip h2 ⟨C, .refl C, h3, by simp [Qy, undef], h4.fewer hw⟩
  | insert t m k x =>
    simp only [dop, hop, Option.map_eq_some_iff] at h; obtain ⟨σ1, h1, h0⟩ := h; cases h0
    obtain ⟨w', h2, h3, h4⟩ := Qba h1 (ev m) (ev k) (ev x) hs
    simp only [execOp, hop]; exact upon_skip h2 ⟨C, .refl C, h3, by simp [Qy, undef], h4.fewer hw⟩
  | nilCheck x =>
    simp only [dop, hop, Option.map_eq_some_iff] at h; obtain ⟨d', h1, h0⟩ := h; cases h0
    have hx := ev x
    unfold Qab at h1
    split at h1
    · next id off he =>
      simp at h1; subst h1
      rw [he] at hx
      have hx2 := hx
      simp only [Qy] at hx2; obtain ⟨b, _, e⟩ := hx2
      simp only [execOp, hop, e, Upon]; rw [e] at hx; exact here hx
    · next cells off he =>
      simp at h1; subst h1
      rw [he] at hx
      have hx2 := hx
      simp only [Qy] at hx2; obtain ⟨b, o', e, _⟩ := hx2
      simp only [execOp, hop, e, Upon]; rw [e] at hx; exact here hx
    · simp at h1
  | convert s t x =>
    simp only [dop, hop, Option.map_eq_some_iff] at h; obtain ⟨d', h1, h0⟩ := h; cases h0
    obtain ⟨u, h2, h3⟩ := QgA h1 (ev x)
    simp only [execOp, hop]; exact Q7 h2 (here h3)
  | makeMap t r =>
    cases r with
    | some _ => simp [dop, hop] at h
    | none =>
      simp [dop, hop] at h; obtain ⟨rfl, rfl⟩ := h
      obtain ⟨u, w', h2, h3⟩ := makeMap_sound (P := P) (t := t) (id := id) hs hF
      simp only [execOp, hop]; exact Q7 h2 h3
  | alloc t =>
    simp only [dop, hop, Option.bind_eq_some_iff] at h
    obtain ⟨i, h1, cs, h2, h0⟩ := h; cases h0
    obtain ⟨u, w', h3, h4⟩ := alloc_sound h1 h2 hs hF
    simp only [execOp, hop]; exact Q7 h3 h4
  | box t x =>
    simp only [dop, hop, Option.map_eq_some_iff] at h; obtain ⟨cs, h1, h0⟩ := h; cases h0
    obtain ⟨u, w', h3, h4⟩ := Qhe (P := P) (t := t) h1 (ev x) hs
    simp only [execOp, hop]; exact Q7 h3 (h4.fewer hw)
  | build t parts =>
    simp only [dop, hop] at h
    split at h
    · next hok =>
      simp only [Option.map_eq_some_iff] at h; obtain ⟨cs, h1, h0⟩ := h; cases h0
      obtain ⟨u, h2, h3⟩ := Qfm (C := C) (w := w) (vparts := parts.map fun (i, x) => (i, Act.eval ⟨ca, ds⟩ x)) h1 hok (fun i d hd => by
        simp only [List.getElem?_map, Option.map_eq_some_iff] at hd
        obtain ⟨p, hp, rfl⟩ := hd
        exact ⟨_, by simp at hp ⊢; exact ⟨_, _, hp, rfl, rfl⟩, ev p.2⟩) (by simp)
      simp only [execOp, hop]; exact Q7 h2 (here h3)
    · simp at h
  | buildSlice t len parts =>
    simp only [dop, hop] at h
    split at h
    · next e _ _ _ ht =>
      split at h
      · next i hi =>
        split at h
        · next hc =>
          simp only [Option.map_eq_some_iff] at h; obtain ⟨rs, h1, h0⟩ := h; cases h0
          obtain ⟨u, w', h2, h3⟩ := Qcy (C := C) (w := w) (len := len) (vparts := parts.map fun (i, x) => (i, Act.eval ⟨ca, ds⟩ x)) ht hi h1 (by simp [hc.1]) hc.2.1 hc.2.2 (fun i d hd => by
            simp only [List.getElem?_map, Option.map_eq_some_iff] at hd
            obtain ⟨p, hp, rfl⟩ := hd
            exact ⟨_, by simp at hp ⊢; exact ⟨_, _, hp, rfl, rfl⟩, ev p.2⟩) (by simp) hs
          simp only [execOp, hop]; exact Q7 h2 (h3.fewer hw)
        · simp at h
      · simp at h
    · simp at h
  | makeFunc fn first captured =>
    simp [dop, hop] at h; obtain ⟨rfl, rfl⟩ := h
    simp only [execOp, hop]
    refine Q7 (s := Instr.makeFunc fn _ _) rfl (here ?_)
    simp only [Qy]
    exact ⟨first.toList.map (Act.eval ⟨ca, ds⟩), captured.toList.map (Act.eval ⟨ca, ds⟩), by simp [← Array.toList_map], Qbn _ _ _ fun y _ => ev y, Qbn _ _ _ fun y _ => ev y⟩
  | slice t x lo hi mx =>
    simp only [dop, hop, Option.map_eq_some_iff] at h; obtain ⟨d', h1, h0⟩ := h; cases h0
    have om : ∀ b : Option Operand, QcV C w (b.map (eval a)) (b.map (Act.eval ⟨ca, ds⟩)) := fun b => by cases b with
      | none => trivial
      | some y => exact ev y
    obtain ⟨u, h2, h3⟩ := QfN h1 (ev x) (om lo) (om hi) (om mx)
    simp only [execOp, hop]; exact Q7 h2 (here h3)
  | range t x =>
    simp only [dop, hop] at h
    split at h
    · next kt et _ _ _ ks vs ht he =>
      simp at h; obtain ⟨rfl, rfl⟩ := h
      have hx := ev x; rw [he] at hx
      obtain ⟨u, w', h2, h3⟩ := range_sound (id := id) ht hx hs hF
      simp only [execOp, hop]; exact Q7 h2 h3
    · simp at h
  | entry x =>
    simp only [dop, hop] at h
    split at h
    · next i he =>
      simp only [Option.map_eq_some_iff] at h; obtain ⟨d', h1, h0⟩ := h; cases h0
      have hx := ev x; rw [he] at hx
      obtain ⟨u, h2, h3⟩ := Qfy (P := P) h1 hx hs
      simp only [execOp, hop]; exact Q7 h2 (here h3)
    · simp at h
  | call c =>
    obtain ⟨callee, args, tys⟩ := c
    cases callee with
    | value x =>
      simp only [dop, hop, Option.bind_eq_some_iff, Option.map_eq_some_iff] at h
      obtain ⟨⟨g, xs⟩, h1, r, ⟨r0, h2, h3⟩, h0⟩ := h; cases h0
      obtain ⟨rfl, hne⟩ := QfG h3
      have hown : own id σ d = (d, σ) := by
        unfold own
        split
        · simp [Qm] at h3
        · rfl
      have hk := Qga (ds := ds) hop h1 h2 hT hF hf hs
      rw [hown] at hk
      exact hk
    | invoke r m => simp [dop, hop] at h
    | builtin b =>
      simp only [dop, hop] at h
      unfold Qj at h
      split at h
      · next t x hty hargs =>
        obtain ⟨y, hy⟩ : ∃ y, args = #[y] := by
          cases hq : args.toList with
          | nil => simp [hq] at hargs
          | cons y r =>
            simp [hq] at hargs
            exact ⟨y, by rw [← Array.toList_inj]; simp [hq, hargs.2]⟩
        subst hy
        have htys : tys = #[t] := by rw [← Array.toList_inj]; simpa using hty
        subst htys
        simp at hargs; subst hargs
        split at h
        · next i hi =>
          split at h
          · next hl =>
            simp only [Option.map_eq_some_iff] at h; obtain ⟨d', h1, h0⟩ := h; cases h0
            obtain ⟨u, h2, h3⟩ := Qhr (ty := o.type) hi hl h1 (ev y)
            simp only [execOp, hop, resolve, Sem.run_bind, Sem.run_pure, invoke, builtin]
            simp only [Upon, Sem.run_bind, Sem.run_pure, Result.andThen_ok]
            simp only [List.map_toArray, List.map_cons, List.map_nil, h2, Result.andThen_ok]
            exact here h3
          · simp at h
        · simp at h
      · next t t' s x hty hargs =>
        obtain ⟨y, z, hy⟩ : ∃ y z, args = #[y, z] := by
          cases hq : args.toList with
          | nil => simp [hq] at hargs
          | cons y r =>
            cases hq2 : r with
            | nil => simp [hq, hq2] at hargs
            | cons z r' =>
              simp [hq, hq2] at hargs
              exact ⟨y, z, by rw [← Array.toList_inj]; simp [hq, hq2, hargs.2.2]⟩
        subst hy
        have htys : tys = #[t, t'] := by rw [← Array.toList_inj]; simpa using hty
        subst htys
        simp at hargs; obtain ⟨rfl, rfl⟩ := hargs
        split at h
        · next htt =>
          subst htt
          unfold QE at h
          split at h
          · next e _ _ _ ht =>
            split at h
            · next i hi =>
              split at h
              · next rs xs tk g' σ1 q1 q2 q3 =>
                split at h
                · next hc =>
                  simp at h; obtain ⟨rfl, rfl⟩ := h
                  obtain ⟨hc1, hc2⟩ := hc
                  simp only [QL, Bool.and_eq_true, decide_eq_true_eq] at hc1
                  obtain ⟨⟨⟨c1, c2⟩, c3⟩, c4⟩ := hc1
                  cases hz : i.zero.cells with
                  | none => simp [hz] at c4
                  | some zs =>
                    simp [hz] at c4
                    obtain ⟨u, w', h2, h3⟩ := append_sound (ty := o.type) ht hi q1 q2 c1 c2 c3 hz c4 hc2 q3 (ev y) (ev z) hs hF
                    simp only [execOp, hop, resolve, Sem.run_bind, Sem.run_pure, invoke, builtin]
                    simp only [Upon, Sem.run_bind, Sem.run_pure, Result.andThen_ok]
                    simp only [List.map_toArray, List.map_cons, List.map_nil, h2, Result.andThen_ok]
                    exact h3
                · simp at h
              · simp at h
            · simp at h
          · simp at h
        · simp at h
      · next k a' k' b' hargs =>
        simp at h; obtain ⟨rfl, rfl⟩ := h
        obtain ⟨y, z, hy⟩ : ∃ y z, args = #[y, z] := by
          cases hq : args.toList with
          | nil => simp [hq] at hargs
          | cons y r =>
            cases hq2 : r with
            | nil => simp [hq, hq2] at hargs
            | cons z r' =>
              simp [hq, hq2] at hargs
              exact ⟨y, z, by rw [← Array.toList_inj]; simp [hq, hq2, hargs.2.2]⟩
        subst hy
        simp at hargs; obtain ⟨e1, e2⟩ := hargs
        have q1 := ev y; have q2 := ev z
        rw [e1] at q1; rw [e2] at q2
        simp only [Qy] at q1 q2
        simp only [execOp, hop, resolve, Sem.run_bind, Sem.run_pure, invoke, builtin]
        simp only [Upon, Sem.run_bind, Sem.run_pure, Result.andThen_ok]
        simp only [List.map_toArray, List.map_cons, List.map_nil, q1, q2, Builtin.max_, List.foldlM, Builtin.max2, Sem.run_bind, Sem.run_pure, Result.andThen_ok]
        exact here (by simp [Qy])
      · next k a' k' b' hargs =>
        simp at h; obtain ⟨rfl, rfl⟩ := h
        obtain ⟨y, z, hy⟩ : ∃ y z, args = #[y, z] := by
          cases hq : args.toList with
          | nil => simp [hq] at hargs
          | cons y r =>
            cases hq2 : r with
            | nil => simp [hq, hq2] at hargs
            | cons z r' =>
              simp [hq, hq2] at hargs
              exact ⟨y, z, by rw [← Array.toList_inj]; simp [hq, hq2, hargs.2.2]⟩
        subst hy
        simp at hargs; obtain ⟨e1, e2⟩ := hargs
        have q1 := ev y; have q2 := ev z
        rw [e1] at q1; rw [e2] at q2
        simp only [Qy] at q1 q2
        simp only [execOp, hop, resolve, Sem.run_bind, Sem.run_pure, invoke, builtin]
        simp only [Upon, Sem.run_bind, Sem.run_pure, Result.andThen_ok]
        simp only [List.map_toArray, List.map_cons, List.map_nil, q1, q2, Builtin.min_, List.foldlM, Builtin.min2, Sem.run_bind, Sem.run_pure, Result.andThen_ok]
        exact here (by simp [Qy])
      · simp at h
  | _ => simp [dop, hop] at h
def Qam : Op → Bool
  | .makeMap .. | .alloc _ | .range .. | .call ⟨.builtin .append, _, _⟩ => true
  | _ => false
theorem call_sound0 {a : Nat → DV} {ca : Array Value} {ds : List Deferred} {o : Oper} {x : Operand} {args : Array Operand} {tys : Array TypeId} {g : FuncId} {xs : List DV} {r : DV}
    (ho : o.op = .call ⟨.value x, args, tys⟩) (hc : Qi a x (args.toList.map (eval a)) = some (g, xs)) (hr : dcall T g xs = some r) (hne : ∀ k rows, r ≠ .slice k (.tok 0 0) rows) (hT : QH P T) (hf : QfC C w a ca) (hs : Qav E F C w σ) :
    Upon P (execOp (Act.eval ⟨ca, ds⟩) o) w (fun v w' => Res E F C w σ r v w') := by
  have hl : QP C w (args.toList.map (eval a)) (args.toList.map (Act.eval ⟨ca, ds⟩)) := Qbn _ _ _ fun y _ => Qae hf y
  obtain ⟨first, captured, h1, h2⟩ := Qby (ds := ds) hc hf hl
  unfold dcall at hr
  split at hr
  · next s hTs =>
      obtain ⟨hsound, fn, c, hfn, hbody, hname⟩ := hT g s hTs
      have hrun : (execOp (Act.eval ⟨ca, ds⟩) o).run P w = .ok (.enter g (first ++ args.toList.map (Act.eval ⟨ca, ds⟩) ++ captured).toArray) w := by
        simp only [execOp, ho, resolve, h1, Deferred.ofValue, Sem.run_bind, Sem.run_pure, Result.andThen_ok, invoke, callFunc, run_program, hfn]
        simp [hname, hbody]
      unfold Upon
      rw [hrun]
      rcases hsound _ _ hr with ⟨hpr, hcalls⟩ | ⟨k, rows, rfl, hpr, hcalls⟩
      · exact (hcalls C w _ hs.glob hs.pcsize hs.pmsize h2).mono fun e w' ⟨v, he, hb, hv⟩ => ⟨v, he, Res.of_call hs hb hpr hv⟩
      · exact (hne k rows rfl).elim
  · simp at hr
theorem dop_sound0 {a : Nat → DV} {ca : Array Value} {ds : List Deferred} {id : Nat} {o : Oper} {d : DV} {σ' : St} (h : dop P T id a σ o.op = some (d, σ')) (hu : Qam o.op = false) (hT : QH P T)
    (hf : QfC C w a ca) (hs : Qav E F C w σ) : Upon P (execOp (Act.eval ⟨ca, ds⟩) o) w (fun v w' => Res E F C w σ' d v w') := by
  have ev := fun x => Qae (ds := ds) hf x
  have here : ∀ {d v}, Qy C w d v → Res E F C w σ d v w := fun hv => Res.here hs hv
  cases hop : o.op with
  | move x =>
    simp [dop, hop] at h; obtain ⟨rfl, rfl⟩ := h
    simp only [execOp, hop, Upon]; exact here (ev x)
  | assign x =>
    simp [dop, hop] at h; obtain ⟨rfl, rfl⟩ := h
    simp only [execOp, hop, Upon]; exact here (ev x)
  | pick c x y =>
    simp only [dop, hop] at h
    split at h
    · next b hb =>
      simp at h; obtain ⟨rfl, rfl⟩ := h
      have hc := ev c; rw [hb] at hc; simp only [Qy] at hc
      simp only [execOp, hop, Upon, hc, asBool, Sem.run_bind, Sem.run_pure, Result.andThen_ok]
      cases b
      · simpa using here (ev y)
      · simpa using here (ev x)
    · simp at h
  | extract x i =>
    simp only [dop, hop] at h
    split at h
    · next vs hv =>
      simp at h; obtain ⟨d', h1, rfl, rfl⟩ := h
      have hx := ev x; rw [hv] at hx
      obtain ⟨u, h2, h3⟩ := QdC (P := P) h1 hx
      simp only [execOp, hop]; exact Q7 h2 (here h3)
    · simp at h
  | load t x =>
    simp only [dop, hop, Option.map_eq_some_iff] at h; obtain ⟨d', h1, h0⟩ := h; cases h0
    obtain ⟨u, h2, h3⟩ := Qet h1 (ev x) hs
    simp only [execOp, hop]; exact Q7 h2 (here h3)
  | store t ad x =>
    simp only [dop, hop, Option.map_eq_some_iff] at h; obtain ⟨σ1, h1, h0⟩ := h; cases h0
    obtain ⟨w', h2, h3, h4⟩ := QfK h1 (ev ad) (ev x) hs
    simp only [execOp, hop]; exact upon_skip h2 ⟨C, .refl C, h3, by simp [Qy, undef], h4⟩
  | fieldAddr s x f =>
    simp only [dop, hop, Option.map_eq_some_iff] at h; obtain ⟨d', h1, h0⟩ := h; cases h0
    obtain ⟨u, h2, h3⟩ := QcI h1 (ev x)
    simp only [execOp, hop]; exact Q7 h2 (here h3)
  | field s x f =>
    simp only [dop, hop, Option.map_eq_some_iff] at h; obtain ⟨d', h1, h0⟩ := h; cases h0
    obtain ⟨u, h2, h3⟩ := Qfi h1 (ev x)
    simp only [execOp, hop]; exact Q7 h2 (here h3)
  | indexAddr t x i =>
    simp only [dop, hop, Option.map_eq_some_iff] at h; obtain ⟨d', h1, h0⟩ := h; cases h0
    obtain ⟨u, h2, h3⟩ := QcB h1 (ev x) (ev i)
    simp only [execOp, hop]; exact Q7 h2 (here h3)
  | index t x i =>
    simp only [dop, hop, Option.map_eq_some_iff] at h; obtain ⟨d', h1, h0⟩ := h; cases h0
    obtain ⟨u, h2, h3⟩ := QfQ h1 (ev x) (ev i)
    simp only [execOp, hop]; exact Q7 h2 (here h3)
  | binOp op t x y yt =>
    simp only [dop, hop, Option.map_eq_some_iff] at h; obtain ⟨d', h1, h0⟩ := h; cases h0
    obtain ⟨u, h2, h3⟩ := QhV (xo := x) (yo := y) h1 (ev x) (ev y)
    simp only [execOp, hop]; exact Q7 h2 (here h3)
  | unOp op t x =>
    simp only [dop, hop] at h
    split at h
    · next b hb =>
      simp at h; obtain ⟨rfl, rfl⟩ := h
      have hx := ev x; rw [hb] at hx; simp only [Qy] at hx
      simp only [execOp, hop, hx]
      exact Q7 (s := Op.unary .not (.bool b)) (by simp [Op.unary]; rfl) (here (by simp [Qy]))
    · next k n hb =>
      simp at h; obtain ⟨rfl, rfl⟩ := h
      have hx := ev x; rw [hb] at hx; simp only [Qy] at hx
      simp only [execOp, hop, hx]
      exact Q7 (s := Op.unary .neg (.int k n)) (by simp [Op.unary, Op.intArith]; rfl) (here (by simp [Qy]))
    · simp at h
  | lookup t m k ok =>
    simp only [dop, hop, Option.map_eq_some_iff] at h; obtain ⟨d', h1, h0⟩ := h; cases h0
    obtain ⟨u, h2, h3⟩ := QeG h1 (ev m) (ev k) hs
    simp only [execOp, hop]; exact Q7 h2 (here h3)
  | mapUpdate t m k x =>
    simp only [dop, hop, Option.map_eq_some_iff] at h; obtain ⟨σ1, h1, h0⟩ := h; cases h0
    obtain ⟨w', h2, h3, h4⟩ := Qba h1 (ev m) (ev k) (ev x) hs
    simp only [execOp, hop]; exact upon_skip h2 ⟨C, .refl C, h3, by simp [Qy, undef], h4⟩
  | insert t m k x =>
    simp only [dop, hop, Option.map_eq_some_iff] at h; obtain ⟨σ1, h1, h0⟩ := h; cases h0
    obtain ⟨w', h2, h3, h4⟩ := Qba h1 (ev m) (ev k) (ev x) hs
    simp only [execOp, hop]; exact upon_skip h2 ⟨C, .refl C, h3, by simp [Qy, undef], h4⟩
  | nilCheck x =>
    simp only [dop, hop, Option.map_eq_some_iff] at h; obtain ⟨d', h1, h0⟩ := h; cases h0
    have hx := ev x
    unfold Qab at h1
    split at h1
    · next id off he =>
      simp at h1; subst h1
      rw [he] at hx
      have hx2 := hx
      simp only [Qy] at hx2; obtain ⟨b, _, e⟩ := hx2
      simp only [execOp, hop, e, Upon]; rw [e] at hx; exact here hx
    · next cells off he =>
      simp at h1; subst h1
      rw [he] at hx
      have hx2 := hx
      simp only [Qy] at hx2; obtain ⟨b, o', e, _⟩ := hx2
      simp only [execOp, hop, e, Upon]; rw [e] at hx; exact here hx
    · simp at h1
  | convert s t x =>
    simp only [dop, hop, Option.map_eq_some_iff] at h; obtain ⟨d', h1, h0⟩ := h; cases h0
    obtain ⟨u, h2, h3⟩ := QgA h1 (ev x)
    simp only [execOp, hop]; exact Q7 h2 (here h3)
  | makeMap t r => rw [hop] at hu; simp [Qam] at hu
  | alloc t => rw [hop] at hu; simp [Qam] at hu
  | box t x =>
    simp only [dop, hop, Option.map_eq_some_iff] at h; obtain ⟨cs, h1, h0⟩ := h; cases h0
    obtain ⟨u, w', h3, h4⟩ := Qhe (P := P) (t := t) h1 (ev x) hs
    simp only [execOp, hop]; exact Q7 h3 h4
  | build t parts =>
    simp only [dop, hop] at h
    split at h
    · next hok =>
      simp only [Option.map_eq_some_iff] at h; obtain ⟨cs, h1, h0⟩ := h; cases h0
      obtain ⟨u, h2, h3⟩ := Qfm (C := C) (w := w) (vparts := parts.map fun (i, x) => (i, Act.eval ⟨ca, ds⟩ x)) h1 hok (fun i d hd => by
        simp only [List.getElem?_map, Option.map_eq_some_iff] at hd
        obtain ⟨p, hp, rfl⟩ := hd
        exact ⟨_, by simp at hp ⊢; exact ⟨_, _, hp, rfl, rfl⟩, ev p.2⟩) (by simp)
      simp only [execOp, hop]; exact Q7 h2 (here h3)
    · simp at h
  | buildSlice t len parts =>
    simp only [dop, hop] at h
    split at h
    · next e _ _ _ ht =>
      split at h
      · next i hi =>
        split at h
        · next hc =>
          simp only [Option.map_eq_some_iff] at h; obtain ⟨rs, h1, h0⟩ := h; cases h0
          obtain ⟨u, w', h2, h3⟩ := Qcy (C := C) (w := w) (len := len) (vparts := parts.map fun (i, x) => (i, Act.eval ⟨ca, ds⟩ x)) ht hi h1 (by simp [hc.1]) hc.2.1 hc.2.2 (fun i d hd => by
            simp only [List.getElem?_map, Option.map_eq_some_iff] at hd
            obtain ⟨p, hp, rfl⟩ := hd
            exact ⟨_, by simp at hp ⊢; exact ⟨_, _, hp, rfl, rfl⟩, ev p.2⟩) (by simp) hs
          simp only [execOp, hop]; exact Q7 h2 h3
        · simp at h
      · simp at h
    · simp at h
  | makeFunc fn first captured =>
    simp [dop, hop] at h; obtain ⟨rfl, rfl⟩ := h
    simp only [execOp, hop]
    refine Q7 (s := Instr.makeFunc fn _ _) rfl (here ?_)
    simp only [Qy]
    exact ⟨first.toList.map (Act.eval ⟨ca, ds⟩), captured.toList.map (Act.eval ⟨ca, ds⟩), by simp [← Array.toList_map], Qbn _ _ _ fun y _ => ev y, Qbn _ _ _ fun y _ => ev y⟩
  | slice t x lo hi mx =>
    simp only [dop, hop, Option.map_eq_some_iff] at h; obtain ⟨d', h1, h0⟩ := h; cases h0
    have om : ∀ b : Option Operand, QcV C w (b.map (eval a)) (b.map (Act.eval ⟨ca, ds⟩)) := fun b => by cases b with
      | none => trivial
      | some y => exact ev y
    obtain ⟨u, h2, h3⟩ := QfN h1 (ev x) (om lo) (om hi) (om mx)
    simp only [execOp, hop]; exact Q7 h2 (here h3)
  | range t x => rw [hop] at hu; simp [Qam] at hu
  | entry x =>
    simp only [dop, hop] at h
    split at h
    · next i he =>
      simp only [Option.map_eq_some_iff] at h; obtain ⟨d', h1, h0⟩ := h; cases h0
      have hx := ev x; rw [he] at hx
      obtain ⟨u, h2, h3⟩ := Qfy (P := P) h1 hx hs
      simp only [execOp, hop]; exact Q7 h2 (here h3)
    · simp at h
  | call c =>
    obtain ⟨callee, args, tys⟩ := c
    cases callee with
    | value x =>
      simp only [dop, hop, Option.bind_eq_some_iff, Option.map_eq_some_iff] at h
      obtain ⟨⟨g, xs⟩, h1, r, ⟨r0, h2, h3⟩, h0⟩ := h; cases h0
      obtain ⟨rfl, hne⟩ := QfG h3
      exact call_sound0 (ds := ds) hop h1 h2 hne hT hf hs
    | invoke r m => simp [dop, hop] at h
    | builtin b =>
      simp only [dop, hop] at h
      unfold Qj at h
      split at h
      · next t x hty hargs =>
        obtain ⟨y, hy⟩ : ∃ y, args = #[y] := by
          cases hq : args.toList with
          | nil => simp [hq] at hargs
          | cons y r =>
            simp [hq] at hargs
            exact ⟨y, by rw [← Array.toList_inj]; simp [hq, hargs.2]⟩
        subst hy
        have htys : tys = #[t] := by rw [← Array.toList_inj]; simpa using hty
        subst htys
        simp at hargs; subst hargs
        split at h
        · next i hi =>
          split at h
          · next hl =>
            simp only [Option.map_eq_some_iff] at h; obtain ⟨d', h1, h0⟩ := h; cases h0
            obtain ⟨u, h2, h3⟩ := Qhr (ty := o.type) hi hl h1 (ev y)
            simp only [execOp, hop, resolve, Sem.run_bind, Sem.run_pure, invoke, builtin]
            simp only [Upon, Sem.run_bind, Sem.run_pure, Result.andThen_ok]
            simp only [List.map_toArray, List.map_cons, List.map_nil, h2, Result.andThen_ok]
            exact here h3
          · simp at h
        · simp at h
      · next t t' s x hty hargs => rw [hop] at hu; simp [Qam] at hu
      · next k a' k' b' hargs =>
        simp at h; obtain ⟨rfl, rfl⟩ := h
        obtain ⟨y, z, hy⟩ : ∃ y z, args = #[y, z] := by
          cases hq : args.toList with
          | nil => simp [hq] at hargs
          | cons y r =>
            cases hq2 : r with
            | nil => simp [hq, hq2] at hargs
            | cons z r' =>
              simp [hq, hq2] at hargs
              exact ⟨y, z, by rw [← Array.toList_inj]; simp [hq, hq2, hargs.2.2]⟩
        subst hy
        simp at hargs; obtain ⟨e1, e2⟩ := hargs
        have q1 := ev y; have q2 := ev z
        rw [e1] at q1; rw [e2] at q2
        simp only [Qy] at q1 q2
        simp only [execOp, hop, resolve, Sem.run_bind, Sem.run_pure, invoke, builtin]
        simp only [Upon, Sem.run_bind, Sem.run_pure, Result.andThen_ok]
        simp only [List.map_toArray, List.map_cons, List.map_nil, q1, q2, Builtin.max_, List.foldlM, Builtin.max2, Sem.run_bind, Sem.run_pure, Result.andThen_ok]
        exact here (by simp [Qy])
      · next k a' k' b' hargs =>
        simp at h; obtain ⟨rfl, rfl⟩ := h
        obtain ⟨y, z, hy⟩ : ∃ y z, args = #[y, z] := by
          cases hq : args.toList with
          | nil => simp [hq] at hargs
          | cons y r =>
            cases hq2 : r with
            | nil => simp [hq, hq2] at hargs
            | cons z r' =>
              simp [hq, hq2] at hargs
              exact ⟨y, z, by rw [← Array.toList_inj]; simp [hq, hq2, hargs.2.2]⟩
        subst hy
        simp at hargs; obtain ⟨e1, e2⟩ := hargs
        have q1 := ev y; have q2 := ev z
        rw [e1] at q1; rw [e2] at q2
        simp only [Qy] at q1 q2
        simp only [execOp, hop, resolve, Sem.run_bind, Sem.run_pure, invoke, builtin]
        simp only [Upon, Sem.run_bind, Sem.run_pure, Result.andThen_ok]
        simp only [List.map_toArray, List.map_cons, List.map_nil, q1, q2, Builtin.min_, List.foldlM, Builtin.min2, Sem.run_bind, Sem.run_pure, Result.andThen_ok]
        exact here (by simp [Qy])
      · simp at h
  | _ => simp [dop, hop] at h
theorem frz2_rel (hs : Qav E F C w σ) : ∀ (d : DV) (v : Value), Qy C w d v → Qy { C with pm := fun b => C.pm b ∨ (E.B ≤ b ∧ b < w.heap.size) } w (Q0 σ d) v := by
  have hle : C.Le { C with pm := fun b => C.pm b ∨ (E.B ≤ b ∧ b < w.heap.size) } := ⟨fun _ _ e => e, fun _ x e => ⟨x, e, Nat.le_refl _, fun _ => rfl⟩, fun _ _ p => p, fun _ p => .inl p, rfl⟩
  have keep : ∀ {d v}, Qy C w d v → Qy { C with pm := fun b => C.pm b ∨ (E.B ≤ b ∧ b < w.heap.size) } w d v := fun h => QaH hle (.refl C w) _ _ h
  have h1 : ∀ d v, Qy C w d v → Qy { C with pm := fun b => C.pm b ∨ (E.B ≤ b ∧ b < w.heap.size) } w (Q2 σ d) v := by
    intro d v hv
    unfold Q2
    split
    · next id =>
      split
      · next ks vs ho =>
        simp only [Qy] at hv ⊢
        obtain ⟨b, hb, rfl⟩ := hv
        obtain ⟨b', hb', hB, hlt, _, _, es, clock, q1, q2, q3, q4⟩ := hs.obj _ _ ho
        obtain rfl : b = b' := by rw [hb] at hb'; exact Option.some.inj hb'
        exact ⟨b, es, clock, rfl, .inr ⟨hB, hlt⟩, q1, q2, QS hle (.refl C w) _ _ q3, q4⟩
      · exact keep hv
    · exact keep hv
  have hmap : ∀ (ds : List DV) (vs : List Value), QP C w ds vs → QP { C with pm := fun b => C.pm b ∨ (E.B ≤ b ∧ b < w.heap.size) } w (ds.map (Q2 σ)) vs := by
    intro ds
    induction ds with
    | nil => intro vs h; cases vs <;> simp [QP] at h ⊢
    | cons d ds ih =>
      intro vs h
      cases vs with
      | nil => simp [QP] at h
      | cons v vs => simp only [QP, List.map_cons] at h ⊢; exact ⟨h1 _ _ h.1, ih _ h.2⟩
  intro d v hv
  unfold Q0
  split
  · simp only [Qy] at hv ⊢
    obtain ⟨ys, rfl, q1, q2⟩ := hv
    exact ⟨ys, rfl, hmap _ _ q1, q2⟩
  · exact h1 _ _ hv
theorem QeX (hs : Qav E F C w σ) : ∀ (ds : List DV) (vs : List Value), QP C w ds vs → QP { C with pm := fun b => C.pm b ∨ (E.B ≤ b ∧ b < w.heap.size) } w (ds.map (Q0 σ)) vs
  | [], [], _ => by simp [QP]
  | d :: ds, v :: vs, h => by simp only [QP, List.map_cons] at h ⊢; exact ⟨frz2_rel hs _ _ h.1, QeX hs ds vs h.2⟩
  | [], _ :: _, h => by simp [QP] at h
  | _ :: _, [], h => by simp [QP] at h
theorem call_lent {a : Nat → DV} {ca : Array Value} {ds : List Deferred} {o : Oper} {x : Operand} {args : Array Operand} {tys : Array TypeId} {g : FuncId} {xs : List DV} {r : Value} {id : Nat}
    (ho : o.op = .call ⟨.value x, args, tys⟩) (hc : Qi a x (args.toList.map (eval a)) = some (g, xs)) (hr : dcall T g (xs.map (Q0 σ)) = some (.lit r)) (hT : QH P T) (hf : QfC C w a ca) (hs : Qav E F C w σ) :
    Upon P (execOp (Act.eval ⟨ca, ds⟩) o) w (fun v w' => Res E (fun i => F i ∧ i ≠ id) C w σ (.lit r) v w') := by
  have hl : QP C w (args.toList.map (eval a)) (args.toList.map (Act.eval ⟨ca, ds⟩)) := Qbn _ _ _ fun y _ => Qae hf y
  obtain ⟨first, captured, h1, h2⟩ := Qby (ds := ds) hc hf hl
  unfold dcall at hr
  split at hr
  · next s hTs =>
      obtain ⟨hsound, fn, c, hfn, hbody, hname⟩ := hT g s hTs
      have hrun : (execOp (Act.eval ⟨ca, ds⟩) o).run P w = .ok (.enter g (first ++ args.toList.map (Act.eval ⟨ca, ds⟩) ++ captured).toArray) w := by
        simp only [execOp, ho, resolve, h1, Deferred.ofValue, Sem.run_bind, Sem.run_pure, Result.andThen_ok, invoke, callFunc, run_program, hfn]
        simp [hname, hbody]
      unfold Upon
      rw [hrun]
      rcases hsound _ _ hr with ⟨hpr, hcalls⟩ | ⟨k, rows, e, _⟩
      · have hcl := hcalls { C with pm := fun b => C.pm b ∨ (E.B ≤ b ∧ b < w.heap.size) } w _ (fun p hp => ⟨.inl (hs.glob p hp).1, (hs.glob p hp).2⟩) hs.pcsize (fun b p => p.elim (fun q => hs.pmsize b q) fun q => q.2) (QeX hs _ _ h2)
        exact hcl.mono fun e w' ⟨v, he, hb, hv⟩ => ⟨v, he, (Res.of_call (r := .lit r) hs hb rfl (by simp only [Qy] at hv ⊢; exact hv)).fewer fun i q => q.1⟩
      · cases e
  · simp at hr
theorem call_lent0 {a : Nat → DV} {ca : Array Value} {ds : List Deferred} {o : Oper} {x : Operand} {args : Array Operand} {tys : Array TypeId} {g : FuncId} {xs : List DV} {r : Value}
    (ho : o.op = .call ⟨.value x, args, tys⟩) (hc : Qi a x (args.toList.map (eval a)) = some (g, xs)) (hr : dcall T g (xs.map (Q0 σ)) = some (.lit r)) (hT : QH P T) (hf : QfC C w a ca) (hs : Qav E F C w σ) :
    Upon P (execOp (Act.eval ⟨ca, ds⟩) o) w (fun v w' => Res E F C w σ (.lit r) v w') := by
  have hl : QP C w (args.toList.map (eval a)) (args.toList.map (Act.eval ⟨ca, ds⟩)) := Qbn _ _ _ fun y _ => Qae hf y
  obtain ⟨first, captured, h1, h2⟩ := Qby (ds := ds) hc hf hl
  unfold dcall at hr
  split at hr
  · next s hTs =>
      obtain ⟨hsound, fn, c, hfn, hbody, hname⟩ := hT g s hTs
      have hrun : (execOp (Act.eval ⟨ca, ds⟩) o).run P w = .ok (.enter g (first ++ args.toList.map (Act.eval ⟨ca, ds⟩) ++ captured).toArray) w := by
        simp only [execOp, ho, resolve, h1, Deferred.ofValue, Sem.run_bind, Sem.run_pure, Result.andThen_ok, invoke, callFunc, run_program, hfn]
        simp [hname, hbody]
      unfold Upon
      rw [hrun]
      rcases hsound _ _ hr with ⟨hpr, hcalls⟩ | ⟨k, rows, e, _⟩
      · have hcl := hcalls { C with pm := fun b => C.pm b ∨ (E.B ≤ b ∧ b < w.heap.size) } w _ (fun p hp => ⟨.inl (hs.glob p hp).1, (hs.glob p hp).2⟩) hs.pcsize (fun b p => p.elim (fun q => hs.pmsize b q) fun q => q.2) (QeX hs _ _ h2)
        exact hcl.mono fun e w' ⟨v, he, hb, hv⟩ => ⟨v, he, Res.of_call (r := .lit r) hs hb rfl (by simp only [Qy] at hv ⊢; exact hv)⟩
      · cases e
  · simp at hr
theorem Qem {a : Nat → DV} {ca : Array Value} {ds : List Deferred} {id : Nat} {o : Oper} {d : DV} {σ' : St} (h : QJ P T id a σ o.op = some (d, σ')) (hT : QH P T) (hF : F id)
    (hf : QfC C w a ca) (hs : Qav E F C w σ) : Upon P (execOp (Act.eval ⟨ca, ds⟩) o) w (fun v w' => Res E (fun i => F i ∧ i ≠ id) C w σ' d v w') := by
  unfold QJ at h
  split at h
  · next x args tys hop =>
    simp only [Option.bind_eq_some_iff] at h
    obtain ⟨⟨g, xs⟩, h1, h2⟩ := h
    simp only [] at h2
    split at h2
    · next r hr =>
      have hk := Qga (ds := ds) (id := id) hop h1 hr hT hF hf hs
      simp at h2
      rw [h2] at hk
      exact hk
    · split at h2
      · next r hr =>
        simp at h2; obtain ⟨rfl, rfl⟩ := h2
        exact call_lent (ds := ds) (id := id) hop h1 hr hT hf hs
      · simp at h2
  · exact QeW h hT hF hf hs
end Go.FA
namespace Go.FA
open Go.RowKit
variable {P : Program} {T : Tab} {E : Entry} {F : Nat → Prop} {C : Ctx} {w : World} {σ : St}
def QN (a : Nat → DV) (dst : Option Tmp) (d : DV) : Nat → DV :=
  match dst with
  | some t => upd a t d
  | none => a
def Qo (ops : Array Oper) (a : Nat → DV) (g : Option (Nat × Bool)) : Option Bool :=
  match g with
  | none => some true
  | some (j, want) => match (ops[j]?).bind (·.dst) with
    | some t => match a t with
      | .lit (.bool b) => some (b == want)
      | .lit (.tuple _) => some false
      | _ => none
    | none => some false
def QbV (P : Program) (T : Tab) (ops : Array Oper) (n0 : Nat) : List Nat → (Nat → DV) → St → Option ((Nat → DV) × St)
  | [], a, σ => some (a, σ)
  | i :: rest, a, σ => match ops[i]? with
    | none => none
    | some o => match Qo ops a o.guard with
      | some true => match dop P T (n0 + i) a σ o.op with
        | some (d, σ') => QbV P T ops n0 rest (QN a o.dst d) σ'
        | none => none
      | some false => QbV P T ops n0 rest (QN a o.dst (.lit (.tuple #[]))) σ
      | none => none
def QZ (P : Program) (T : Tab) (ops : Array Oper) (n0 : Nat) : List Nat → (Nat → DV) → St → Option ((Nat → DV) × St)
  | [], a, σ => some (a, σ)
  | i :: rest, a, σ => match ops[i]? with
    | none => none
    | some o => match Qo ops a o.guard with
      | some true => match QJ P T (n0 + i) a σ o.op with
        | some (d, σ') => QZ P T ops n0 rest (QN a o.dst d) σ'
        | none => none
      | some false => QZ P T ops n0 rest (QN a o.dst (.lit (.tuple #[]))) σ
      | none => none
def Q8 (n : Nat) (ops : Array Oper) : Bool := ops.toList.all fun o => match o.dst with | some t => decide (t < n) | none => true
def Ok (E : Entry) (F : Nat → Prop) (n : Nat) (a : Nat → DV) (σ : St) (ca : Array Value) (w : World) : Prop := ca.size = n ∧ ∃ C, QjX E C w a ca ∧ Qav E F C w σ
def Fr (n0 sz : Nat) (l : List Nat) : Nat → Prop := fun i => (∃ j ∈ l, i = n0 + j) ∨ n0 + sz ≤ i
theorem Qaq {ca : Array Value} {ds : List Deferred} {dst : Option Tmp} {v : Value} : ((Act.put ⟨ca, ds⟩ dst v).tmps).size = ca.size := by
  cases dst <;> simp [Act.put]
theorem put_eq {ca : Array Value} {ds : List Deferred} {dst : Option Tmp} {v : Value} : Act.put ⟨ca, ds⟩ dst v = ⟨(Act.put ⟨ca, ds⟩ dst v).tmps, ds⟩ := by
  cases dst <;> simp [Act.put]
theorem QfC.put {C : Ctx} {w : World} {a : Nat → DV} {ca : Array Value} {ds : List Deferred} {dst : Option Tmp} {d : DV} {v : Value} (h : QfC C w a ca) (hv : Qy C w d v)
    (hd : ∀ t, dst = some t → t < ca.size) : QfC C w (QN a dst d) (Act.put ⟨ca, ds⟩ dst v).tmps := by
  cases dst with
  | none => exact h
  | some t =>
    intro u
    have ht := hd t rfl
    simp only [QN, Act.put, upd, Array.getD_eq_getD_getElem?, Array.getElem?_setIfInBounds]
    by_cases e : u = t
    · subst e; simp [ht]; exact hv
    · rw [if_neg e, if_neg (fun q => e q.symm)]
      have := h u
      rwa [Array.getD_eq_getD_getElem?] at this
theorem QjX.put {E : Entry} {C : Ctx} {w : World} {a : Nat → DV} {ca : Array Value} {ds : List Deferred} {dst : Option Tmp} {d : DV} {v : Value} (h : QjX E C w a ca) (hv : Qy C w d v)
    (hd : ∀ t, dst = some t → t < ca.size) : QjX E C w (QN a dst d) (Act.put ⟨ca, ds⟩ dst v).tmps := h.of (h.rel.put hv hd)
theorem Qaf {ops : Array Oper} {a : Nat → DV} {ca : Array Value} {o : Oper} {b : Bool} {n : Nat} (h : Qo ops a o.guard = some b) (hf : QfC C w a ca) (hn : ca.size = n) (hd : Q8 n ops = true) :
    Region.wanted o (yielded ops ca) = b := by
  unfold Qo at h
  unfold Region.wanted
  cases hg : o.guard with
  | none => rw [hg] at h; simpa using h
  | some p =>
    obtain ⟨j, want⟩ := p
    rw [hg] at h
    simp only [] at h ⊢
    unfold yielded
    cases ho : (ops[j]?).bind (·.dst) with
    | none => rw [ho] at h; simp at h; subst h; simp
    | some t =>
      rw [ho] at h
      simp only [] at h
      obtain ⟨oj, h1, h2⟩ := Option.bind_eq_some_iff.1 ho
      have ht : t < ca.size := by
        have hm : oj ∈ ops.toList := by
          have := Array.mem_of_getElem? h1
          simpa using this
        have := List.all_eq_true.1 hd oj hm
        rw [h2] at this; rw [hn]; simpa using this
      have hft := hf t
      have hget : ca[t]? = some (ca.getD t undef) := by simp [Array.getD_eq_getD_getElem?, ht]
      simp only [Option.bind_some, hget]
      split at h
      · next b' he =>
        rw [he] at hft; simp only [Qy] at hft
        rw [hft]; simp at h; simpa using h
      · next he =>
        rw [he] at hft; simp only [Qy] at hft
        rw [hft]; simp at h; subst h; simp
      · simp at h
theorem Qcr {ops : Array Oper} {n0 n : Nat} {ds : List Deferred} {Q : Exit → Act → World → Prop} (hT : QH P T) (hd : Q8 n ops = true) :
    ∀ (l : List Nat) (a : Nat → DV) (σ : St) (ca : Array Value) (w : World) (a' : Nat → DV) (σ' : St), l.Nodup → (∀ i ∈ l, i < ops.size) → QZ P T ops n0 l a σ = some (a', σ') → Ok E (Fr n0 ops.size l) n a σ ca w →
      (∀ ca' w', Ok E (Fr n0 ops.size []) n a' σ' ca' w' → Q .normal ⟨ca', ds⟩ w') → wpOps P ops Q l ⟨ca, ds⟩ w
  | [], a, σ, ca, w, a', σ', _, _, h, hok, hq => by
    simp [QZ] at h; obtain ⟨rfl, rfl⟩ := h
    exact hq ca w hok
  | i :: rest, a, σ, ca, w, a', σ', hnd, hlt, h, hok, hq => by
    obtain ⟨hn, C, hg, hs⟩ := hok
    have hf := hg.rel
    simp only [QZ] at h
    simp only [wpOps]
    have hnd' := List.nodup_cons.1 hnd
    have hfew : ∀ k, Fr n0 ops.size rest k → Fr n0 ops.size (i :: rest) k ∧ k ≠ n0 + i := by
      intro k hk
      rcases hk with ⟨j, hj, rfl⟩ | hk
      · exact ⟨.inl ⟨j, by simp [hj], rfl⟩, fun e => hnd'.1 (by rw [show i = j by omega]; exact hj)⟩
      · have := hlt i (by simp)
        exact ⟨.inr hk, by omega⟩
    cases ho : ops[i]? with
    | none => rw [ho] at h; simp at h
    | some o =>
      rw [ho] at h
      simp only [] at h ⊢
      have hdst : ∀ t, o.dst = some t → t < ca.size := by
        intro t ht
        have hm : o ∈ ops.toList := by simpa using Array.mem_of_getElem? ho
        have := List.all_eq_true.1 hd o hm
        rw [ht] at this; rw [hn]; simpa using this
      split at h
      · next hwant =>
        have hw := Qaf hwant hf hn hd
        rw [if_pos hw]
        left
        split at h
        · next d σ1 hdop =>
          have hu := Qem (ds := ds) hdop hT (show Fr n0 ops.size (i :: rest) (n0 + i) from .inl ⟨i, by simp, rfl⟩) hf hs
          have key : ∀ v w', Res E (fun k => Fr n0 ops.size (i :: rest) k ∧ k ≠ n0 + i) C w σ1 d v w' → wpOps P ops Q rest (Act.put ⟨ca, ds⟩ o.dst v) w' := by
            intro v w' hres
            obtain ⟨C', r1, r2, r3, r4⟩ := hres
            rw [put_eq]
            exact Qcr hT hd rest _ _ _ _ _ _ hnd'.2 (fun k hk => hlt k (by simp [hk])) h
              ⟨by rw [Qaq]; exact hn, C', (hg.mono r1 r2).put r3 hdst, r4.fewer hfew⟩ hq
          unfold Oper.wp Oper.upon
          unfold Upon at hu
          split at hu
          · next v w' he => rw [he]; exact key _ _ hu
          · next w' he => rw [he]; exact key _ _ hu
          · next f args w' he =>
            rw [he]
            refine hu.mono fun e w'' ⟨v, hv, hk⟩ => ?_
            subst hv
            exact key _ _ hk
          · exact hu.elim
        · simp at h
      · next hwant =>
        have hw := Qaf hwant hf hn hd
        rw [if_neg (by simp [hw])]
        rw [put_eq]
        exact Qcr hT hd rest _ _ _ _ _ _ hnd'.2 (fun k hk => hlt k (by simp [hk])) h
          ⟨by rw [Qaq]; exact hn, C, hg.put (by simp [Qy, undef]) hdst, hs.fewer fun k hk => (hfew k hk).1⟩ hq
      · simp at h
inductive Ex where
  | normal
  | exit (id : Nat)
  | ret
def Ex.of : Ex → Exit
  | .normal => .normal
  | .exit id => .exit id
  | .ret => .ret
def Post (E : Entry) (n : Nat) (ds : List Deferred) (Q : Ex → (Nat → DV) → St → Prop) : Exit → Act → World → Prop := fun e act w =>
  act.defers = ds ∧ ∃ ex a σ, ex.of = e ∧ Q ex a σ ∧ Ok E (fun i => σ.n ≤ i) n a σ act.tmps w
inductive Dwp (P : Program) (T : Tab) (E : Entry) (n : Nat) : Code → (Ex → (Nat → DV) → St → Prop) → (Nat → DV) → St → Prop where
  | mk {c : Code} {Q : Ex → (Nat → DV) → St → Prop} {a : Nat → DV} {σ : St}
    (h : ∀ ca w ds, Ok E (fun i => σ.n ≤ i) n a σ ca w → c.wp P (Post E n ds Q) ⟨ca, ds⟩ w) : Dwp P T E n c Q a σ
theorem Dwp.out {n : Nat} {c : Code} {Q : Ex → (Nat → DV) → St → Prop} {a : Nat → DV} (h : Dwp P T E n c Q a σ) : ∀ ca w ds, Ok E (fun i => σ.n ≤ i) n a σ ca w → c.wp P (Post E n ds Q) ⟨ca, ds⟩ w := by
  cases h with
  | mk h => exact h
variable {n : Nat} {Q : Ex → (Nat → DV) → St → Prop} {a : Nat → DV}
theorem Dwp.mono {c : Code} {Q' : Ex → (Nat → DV) → St → Prop} (h : Dwp P T E n c Q a σ) (hq : ∀ e a σ, Q e a σ → Q' e a σ) : Dwp P T E n c Q' a σ :=
  ⟨fun ca w ds hok => wp_mono (h.out ca w ds hok) fun e act w' ⟨h1, ex, a', σ', h2, h3, h4⟩ => ⟨h1, ex, a', σ', h2, hq _ _ _ h3, h4⟩⟩
theorem Dwp.skip (h : Q .normal a σ) : Dwp P T E n .skip Q a σ := ⟨fun ca w ds hok => wp_skip ⟨rfl, .normal, a, σ, rfl, h, hok⟩⟩
theorem Dwp.exit {id : Nat} (h : Q (.exit id) a σ) : Dwp P T E n (.exit id) Q a σ := ⟨fun ca w ds hok => wp_exit ⟨rfl, .exit id, a, σ, rfl, h, hok⟩⟩
theorem Dwp.ret (h : Q .ret a σ) : Dwp P T E n .ret Q a σ := ⟨fun ca w ds hok => wp_ret ⟨rfl, .ret, a, σ, rfl, h, hok⟩⟩
def Ex.then (next : (Nat → DV) → St → Prop) (Q : Ex → (Nat → DV) → St → Prop) : Ex → (Nat → DV) → St → Prop
  | .normal, a, σ => next a σ
  | e, a, σ => Q e a σ
theorem Dwp.seq {x y : Code} (h : Dwp P T E n x (Ex.then (fun a σ => Dwp P T E n y Q a σ) Q) a σ) : Dwp P T E n (.seq x y) Q a σ :=
  ⟨fun ca w ds hok => wp_seq (wp_mono (h.out ca w ds hok) fun e act w' ⟨h1, ex, a', σ', h2, h3, h4⟩ => by
    subst h2
    cases ex with
    | normal =>
      obtain ⟨tmps, defers⟩ := act
      simp only [] at h1; subst h1
      exact h3.out tmps w' defers h4
    | exit id => exact ⟨h1, .exit id, a', σ', rfl, h3, h4⟩
    | ret => exact ⟨h1, .ret, a', σ', rfl, h3, h4⟩)⟩
theorem Dwp.cond {c : Operand} {x y : Code} {b : Bool} (hc : eval a c = .lit (.bool b)) (h : Dwp P T E n (if b then x else y) Q a σ) : Dwp P T E n (.cond c x y) Q a σ :=
  ⟨fun ca w ds hok => by
    obtain ⟨hn, C, hf, hs⟩ := hok
    have hv := Qae (ds := ds) hf.rel c
    rw [hc] at hv; simp only [Qy] at hv
    exact wp_cond hv (h.out ca w ds ⟨hn, C, hf, hs⟩)⟩
def Ex.inBlock (id : Nat) (Q : Ex → (Nat → DV) → St → Prop) : Ex → (Nat → DV) → St → Prop
  | .exit id', a, σ => if id' = id then Q .normal a σ else Q (.exit id') a σ
  | e, a, σ => Q e a σ
theorem Dwp.block {id : Nat} {c : Code} (h : Dwp P T E n c (Ex.inBlock id Q) a σ) : Dwp P T E n (.block id c) Q a σ :=
  ⟨fun ca w ds hok => wp_block (wp_mono (h.out ca w ds hok) fun e act w' ⟨h1, ex, a', σ', h2, h3, h4⟩ => by
    subst h2
    cases ex with
    | normal => exact ⟨h1, .normal, a', σ', rfl, h3, h4⟩
    | ret => exact ⟨h1, .ret, a', σ', rfl, h3, h4⟩
    | exit id' =>
      simp only [Ex.inBlock] at h3
      simp only [Ex.of, Exit.inBlock]
      split
      · next e => rw [if_pos e] at h3; exact ⟨h1, .normal, a', σ', rfl, h3, h4⟩
      · next e => rw [if_neg e] at h3; exact ⟨h1, .exit id', a', σ', rfl, h3, h4⟩)⟩
theorem wp_loop_rel {c : Code} {Q : Exit → Act → World → Prop} {act : Act} {w : World} (I : Nat → Act → World → Prop) (m : Nat) (h0 : I m act w)
    (round : ∀ k act w, I k act w → c.wp P (Exit.then (fun a' w' => ∃ k', k' < k ∧ I k' a' w') Q) act w) : (Code.loop c).wp P Q act w := by
  intro b k cs
  have key : ∀ n act w, I n act w → ∃ e a' w', Q e a' w' ∧ Arrives P (lone (b.at act (.code c :: .inLoop c :: k)) cs w) b k cs e a' w' := by
    intro n
    induction n using Nat.strongRecOn with
    | _ n ih =>
      intro act w hI
      obtain ⟨e, a₁, w₁, hq, harr⟩ := round n act w hI b (.inLoop c :: k) cs
      cases e with
      | normal =>
        obtain ⟨k', hlt, hI₁⟩ := hq
        obtain ⟨e₂, a₂, w₂, hq₂, harr₂⟩ := ih k' hlt a₁ w₁ hI₁
        exact ⟨e₂, a₂, w₂, hq₂, .of_steps (Steps.trans harr (.one step_inLoop)) harr₂⟩
      | exit id => exact ⟨_, a₁, w₁, hq, .pass (x := .inLoop c) rfl (fun _ _ => .inl (by simp)) harr⟩
      | goto l => exact ⟨_, a₁, w₁, hq, .pass (x := .inLoop c) rfl (fun _ _ => .inl (by simp)) harr⟩
      | ret => exact ⟨_, a₁, w₁, hq, .pass (x := .inLoop c) rfl (fun _ _ => .inl (by simp)) harr⟩
      | panic ch => exact ⟨_, a₁, w₁, hq, .pass (x := .inLoop c) rfl (fun _ _ => .inl (by simp)) harr⟩
      | outgrown => exact ⟨_, a₁, w₁, hq, .pass (x := .inLoop c) rfl (fun _ _ => .inl (by simp)) harr⟩
  obtain ⟨e, a', w', hq, harr⟩ := key m act w h0
  exact ⟨e, a', w', hq, .of_steps (.one step_loop) harr⟩
theorem Dwp.loop {c : Code} (I : Nat → (Nat → DV) → St → Prop) (m : Nat) (h0 : I m a σ)
    (round : ∀ k a σ, I k a σ → Dwp P T E n c (Ex.then (fun a' σ' => ∃ k', k' < k ∧ I k' a' σ') Q) a σ) : Dwp P T E n (.loop c) Q a σ := by
  refine ⟨fun ca w ds hok => ?_⟩
  refine wp_loop_rel (fun k act w => act.defers = ds ∧ ∃ a σ, I k a σ ∧ Ok E (fun i => σ.n ≤ i) n a σ act.tmps w) m ⟨rfl, a, σ, h0, hok⟩ ?_
  rintro k ⟨tmps, defers⟩ w' ⟨hds, a', σ', hI, hok'⟩
  simp only [] at hds; subst hds
  refine wp_mono ((round k a' σ' hI).out tmps w' defers hok') fun e act' w'' ⟨h1, ex, a2, σ2, h2, h3, h4⟩ => ?_
  subst h2
  cases ex with
  | normal =>
    obtain ⟨k', hlt, hI'⟩ := h3
    exact ⟨k', hlt, h1, a2, σ2, hI', h4⟩
  | exit id => exact ⟨h1, .exit id, a2, σ2, rfl, h3, h4⟩
  | ret => exact ⟨h1, .ret, a2, σ2, rfl, h3, h4⟩
theorem Dwp.regionO {id : Nat} {ops : Array Oper} {a' : Nat → DV} {σ' : St} (hT : QH P T) (hd : Q8 n ops = true) (h : QZ P T ops σ.n (List.range ops.size) a σ = some (a', σ'))
    (hn : σ'.n = σ.n) (hq : Q .normal a' { σ' with n := σ.n + ops.size }) : Dwp P T E n (.region id ops false) Q a σ :=
  ⟨fun ca w ds hok => wp_region (Qcr hT hd _ _ _ _ _ _ _ List.nodup_range (fun i hi => by simpa using hi) h
    (by
      obtain ⟨hn, C, hf, hs⟩ := hok
      refine ⟨hn, C, hf, hs.fewer fun i hi => ?_⟩
      rcases hi with ⟨j, _, rfl⟩ | hi <;> omega)
    (fun ca' w' hok' => by
      obtain ⟨hn', C, hf, hs⟩ := hok'
      refine ⟨rfl, .normal, a', _, rfl, hq, hn', C, hf, ?_⟩
      exact ⟨hs.lo, hs.below, hs.bsize, hs.pB, hs.mB, hs.psup, hs.msup, hs.psub, hs.msub, hs.obj, hs.inj, hs.tok, hs.tinj, hs.tobj, fun i hi => hs.fresh i (.inr hi)⟩))⟩
end Go.FA
