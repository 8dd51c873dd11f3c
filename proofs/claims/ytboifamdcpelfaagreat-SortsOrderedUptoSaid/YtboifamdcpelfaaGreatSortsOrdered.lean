/- SortsOrdered returns true, and its argument reads behind the call as before, for every signature that is read with a bulk of at most 1048576 (the statement SortsOrderedUptoSaid). Conditions: those of the given row, no others. -/
import Derived.Test.YtboifamdcpelfaaGreatSm3
import Derived.Test.YtboifamdcpelfaaGreatRows
import Derived.JoinedCond
import Derived.WideKeyArgs
import Derived.RowKit
import Derived.OpenShut
namespace Go.Proofs.Yt
open Go Go.FA Go.Proofs
set_option linter.unusedVariables false
set_option linter.unusedSimpArgs false
set_option maxRecDepth 100000

section maps
variable {α : Type}
theorem mget_put (k j : ByteArray) (v : α) : ∀ m : List (ByteArray × α), mget j (mput k v m) = if j = k then some v else mget j m
  | [] => by simp [mput, mget]
  | p :: l => by
    simp only [mput]
    by_cases h : k = p.1
    · rw [if_pos h]; simp only [mget]
      by_cases h2 : j = k
      · simp [h2]
      · have h3 : j ≠ p.1 := fun e => h2 (e.trans h.symm)
        simp [h2, h3]
    · rw [if_neg h]; simp only [mget, mget_put k j v l]
      by_cases h2 : j = k
      · subst h2; simp [h]
      · simp only [h2, if_false]
theorem mget_key (k : ByteArray) : ∀ m : List (ByteArray × α), (mget k m).isSome = true ↔ ∃ p ∈ m, p.1 = k
  | [] => by simp [mget]
  | p :: l => by
    simp only [mget]
    by_cases h : k = p.1
    · simp [h]
    · rw [if_neg h, mget_key k l]
      constructor
      · rintro ⟨q, hq, rfl⟩; exact ⟨q, by simp [hq], rfl⟩
      · rintro ⟨q, hq, rfl⟩
        rcases List.mem_cons.1 hq with rfl | hq
        · exact absurd rfl h
        · exact ⟨q, hq, rfl⟩
theorem mget_foldl_nil (k : ByteArray) (v : α) : ∀ (l : List ByteArray) (m : List (ByteArray × α)), mget k (l.foldl (fun m n => mput n v m) m) = if k ∈ l then some v else mget k m
  | [], m => by simp
  | n :: l, m => by
    simp only [List.foldl_cons, mget_foldl_nil k v l, mget_put]
    by_cases h : k ∈ l
    · simp [h]
    · by_cases h2 : k = n <;> simp [h, h2]
end maps

/-- what is declared to be above a sort -/
def ups (s : SigD) (x : ByteArray) : List ByteArray := (s.below.filter fun y => decide (y.low = x)).map (·.high)
def SigD.all (s : SigD) : List ByteArray := given ++ s.sorts
theorem mget_addBel (x : ByteArray) : ∀ (l : List Bel) (m : List (ByteArray × List ByteArray)), mget x (l.foldl addBel m) = (mget x m).map (· ++ (l.filter fun y => decide (y.low = x)).map (·.high))
  | [], m => by cases h : mget x m <;> simp [h]
  | y :: l, m => by
    simp only [List.foldl_cons, mget_addBel x l]
    unfold addBel
    by_cases h : y.low = x
    · subst h
      cases hm : mget y.low m with
      | none => simp [hm]
      | some z => simp [mget_put]
    · have hf : ((y :: l).filter fun y => decide (y.low = x)) = l.filter fun y => decide (y.low = x) := by simp [h]
      rw [hf]
      cases hm : mget y.low m with
      | none => rfl
      | some z => simp only [mget_put]; rw [if_neg (fun e => h e.symm)]
theorem highs_get (s : SigD) (x : ByteArray) : mget x (newBook s).highs = if x ∈ s.all then some (ups s x) else none := by
  simp only [newBook, mget_addBel, mget_foldl_nil, SigD.all, ups]
  by_cases h : x ∈ given ++ s.sorts <;> simp [h, mget]
theorem book_has (s : SigD) (x : ByteArray) : (newBook s).has x = decide (x ∈ s.all) := by
  unfold Book.has; rw [highs_get]; by_cases h : x ∈ s.all <;> simp [h]
theorem book_up (s : SigD) (x : ByteArray) : (newBook s).highsOf x = if x ∈ s.all then ups s x else [] := by
  unfold Book.highsOf; rw [highs_get]; by_cases h : x ∈ s.all <;> simp [h]
theorem book_keys (s : SigD) (x : ByteArray) : (∃ p ∈ (newBook s).highs, p.1 = x) ↔ x ∈ s.all := by
  rw [← mget_key, highs_get]; by_cases h : x ∈ s.all <;> simp [h]

/-- one step up, any steps up -/
inductive Star (b : Book) : ByteArray → ByteArray → Prop where
  | refl (x : ByteArray) : Star b x x
  | step {x y z : ByteArray} (h : y ∈ b.highsOf x) (t : Star b y z) : Star b x z
theorem Star.trans {b : Book} {x y z : ByteArray} (h : Star b x y) (h' : Star b y z) : Star b x z := by
  induction h with
  | refl => exact h'
  | step h t ih => exact .step h (ih h')
def Plus (b : Book) (x z : ByteArray) : Prop := ∃ y ∈ b.highsOf x, Star b y z
theorem Plus.star {b : Book} {x z : ByteArray} : Plus b x z → Star b x z := fun ⟨_, h, t⟩ => .step h t
theorem Plus.trans {b : Book} {x y z : ByteArray} (h : Plus b x y) (h' : Plus b y z) : Plus b x z := by
  obtain ⟨u, hu, ht⟩ := h; exact ⟨u, hu, ht.trans h'.star⟩
theorem Star.cases' {b : Book} {x z : ByteArray} : Star b x z → x = z ∨ Plus b x z
  | .refl _ => .inl rfl
  | .step h t => .inr ⟨_, h, t⟩

/-- declarations whose lower sort was not seen yet -/
def more (s : SigD) (seen : List ByteArray) : Nat := (s.below.filter fun y => !decide (y.low ∈ seen)).length
theorem filter_split {α : Type} (p q r : α → Bool) : ∀ l : List α, (∀ y ∈ l, (p y = true ↔ (q y = true ∨ r y = true)) ∧ ¬ (q y = true ∧ r y = true)) → (l.filter p).length = (l.filter q).length + (l.filter r).length
  | [], _ => rfl
  | y :: l, h => by
    have ih := filter_split p q r l fun z hz => h z (by simp [hz])
    have hy := h y (by simp)
    cases hp : p y <;> cases hq : q y <;> cases hr : r y <;> simp_all [List.filter_cons] <;> omega
theorem more_step (s : SigD) (seen : List ByteArray) (x : ByteArray) (h : x ∉ seen) : more s seen = more s (seen ++ [x]) + (ups s x).length := by
  unfold more ups
  rw [List.length_map]
  refine filter_split _ _ _ _ fun y _ => ?_
  by_cases h1 : y.low = x
  · subst h1; simp [h]
  · simp [h1]
theorem up_len (s : SigD) (x : ByteArray) : ((newBook s).highsOf x).length ≤ (ups s x).length := by
  rw [book_up]; split <;> simp

theorem overF_some (s : SigD) : ∀ (n : Nat) (todo seen : List ByteArray), todo.length + more s seen < n → todo.length + more s seen ≤ 16777216 →
    ∃ res, overF (newBook s) n todo seen = some res ∧ (∀ z ∈ seen, z ∈ res) ∧ (∀ z ∈ todo, z ∈ res) ∧ (∀ x ∈ res, x ∈ seen ∨ ∀ y ∈ (newBook s).highsOf x, y ∈ res) ∧ (∀ z ∈ res, z ∈ seen ∨ ∃ x ∈ todo, Star (newBook s) x z)
  | 0, _, _, h, _ => by omega
  | n + 1, [], seen, h, h2 => ⟨seen, rfl, fun _ h => h, by simp, fun _ h => .inl h, fun _ h => .inl h⟩
  | n + 1, x :: rest, seen, h, h2 => by
    simp only [overF, List.length_cons] at *
    by_cases hx : x ∈ seen
    · obtain ⟨res, r1, r2, r3, r4, r5⟩ := overF_some s n rest seen (by omega) (by omega)
      refine ⟨res, by rw [if_pos hx]; exact r1, r2, ?_, r4, fun z hz => ?_⟩
      · intro z hz; rcases List.mem_cons.1 hz with rfl | hz
        · exact r2 _ hx
        · exact r3 _ hz
      · rcases r5 z hz with q | ⟨y, hy, hs⟩
        · exact .inl q
        · exact .inr ⟨y, by simp [hy], hs⟩
    · have hm := more_step s seen x hx
      have hu := up_len s x
      rw [if_neg hx, if_pos (by omega)]
      obtain ⟨res, r1, r2, r3, r4, r5⟩ := overF_some s n (rest ++ (newBook s).highsOf x) (seen ++ [x]) (by simp only [List.length_append]; omega) (by simp only [List.length_append]; omega)
      refine ⟨res, r1, fun z hz => r2 z (by simp [hz]), ?_, ?_, ?_⟩
      · intro z hz; rcases List.mem_cons.1 hz with rfl | hz
        · exact r2 _ (by simp)
        · exact r3 _ (by simp [hz])
      · intro y hy
        rcases r4 y hy with q | q
        · rcases List.mem_append.1 q with q | q
          · exact .inl q
          · simp at q; subst q; exact .inr fun z hz => r3 z (by simp [hz])
        · exact .inr q
      · intro z hz
        rcases r5 z hz with q | ⟨y, hy, hs⟩
        · rcases List.mem_append.1 q with q | q
          · exact .inl q
          · simp at q; subst q; exact .inr ⟨z, by simp, .refl z⟩
        · rcases List.mem_append.1 hy with q | q
          · exact .inr ⟨y, by simp [q], hs⟩
          · exact .inr ⟨x, by simp, .step q hs⟩

theorem more_le (s : SigD) (seen : List ByteArray) : more s seen ≤ s.below.length := List.length_filter_le _ _
theorem ups_le (s : SigD) (x : ByteArray) : (ups s x).length ≤ s.below.length := by unfold ups; rw [List.length_map]; exact List.length_filter_le _ _
theorem over_some (s : SigD) (hb : s.below.length ≤ 200) (x : ByteArray) : ∃ res, (newBook s).over x = some res ∧ ∀ z, z ∈ res ↔ Plus (newBook s) x z := by
  have h1 := up_len s x
  have h2 := ups_le s x
  have h3 := more_le s []
  obtain ⟨res, r1, r2, r3, r4, r5⟩ := overF_some s 1000000 ((newBook s).highsOf x) [] (by omega) (by omega)
  refine ⟨res, by unfold Book.over; rw [if_pos (by omega)]; exact r1, fun z => ⟨fun hz => ?_, ?_⟩⟩
  · rcases r5 z hz with q | q
    · simp at q
    · exact q
  · rintro ⟨y, hy, hs⟩
    have hy' := r3 y hy
    clear hy
    induction hs with
    | refl => exact hy'
    | step h t ih =>
      refine ih ?_
      rcases r4 _ hy' with q | q
      · simp at q
      · exact q _ h
theorem atMost_some (s : SigD) (hb : s.below.length ≤ 200) (x y : ByteArray) : ∃ r, (newBook s).atMost x y = some r ∧ (r = true ↔ y = anyS ∨ x = y ∨ Plus (newBook s) x y) := by
  obtain ⟨res, h1, h2⟩ := over_some s hb x
  unfold Book.atMost
  by_cases h3 : y = anyS
  · exact ⟨true, by rw [if_pos h3], by simp [h3]⟩
  · by_cases h4 : x = y
    · exact ⟨true, by rw [if_neg h3, if_pos h4], by simp [h4]⟩
    · exact ⟨decide (y ∈ res), by rw [if_neg h3, if_neg h4, h1]; rfl, by simp [h3, h4, h2]⟩

/-- sizes that every argument of a call within the bulk has -/
def SigD.ok (s : SigD) : Prop := s.sorts.length ≤ 1048576 ∧ s.below.length ≤ 1048576 ∧ s.ops.length + s.funs.length ≤ 1048576 ∧ s.values.length ≤ 1048576 ∧
  ∀ o, o ∈ s.ops ∨ o ∈ s.funs → o.name.size ≤ 1048576 ∧ o.args.length ≤ 1048576 ∧ o.pieces.length ≤ 1048576 ∧ o.strict.length ≤ 1048576
theorem SigD.ok.sizes {s : SigD} (h : s.ok) (hw : s.within = true) : s.sizes := by
  obtain ⟨h1, h2, h3, h4, h5⟩ := h
  simp only [SigD.within, Bool.and_eq_true, decide_eq_true_eq] at hw
  refine ⟨by omega, by omega, by unfold lim; omega, fun o ho => ?_, fun o ho => ?_⟩
  · obtain ⟨a, b, c, d⟩ := h5 o (.inl ho); unfold OpD.small lim; omega
  · obtain ⟨a, b, c, d⟩ := h5 o (.inr ho); unfold OpD.small lim; omega

def SigD.vld (s : SigD) : Bool := s.within && decide (validB (newBook s) s = some true)
theorem okBelow_some (s : SigD) (hb : s.below.length ≤ 200) : ∃ r, okBelow (newBook s) s.below = some r ∧
    (r = true ↔ (∀ y ∈ s.below, okBel (newBook s) y = true) ∧ s.below.Nodup ∧ ∀ x ∈ s.all, ¬ Plus (newBook s) x x) := by
  unfold okBelow
  rw [if_pos (by unfold lim; omega)]
  by_cases h1 : s.below.all (okBel (newBook s)) = true
  · rw [if_pos h1]
    by_cases h2 : s.below.Nodup
    · rw [if_pos (by simpa using h2)]
      have h3 : ((newBook s).highs.all fun p => ((newBook s).over p.1).isSome) = true := by
        rw [List.all_eq_true]; intro p _
        obtain ⟨res, hr, _⟩ := over_some s hb p.1
        rw [hr]; rfl
      rw [if_pos h3]
      refine ⟨_, rfl, ?_⟩
      have h4 : (newBook s).circle = true ↔ ∃ x ∈ s.all, Plus (newBook s) x x := by
        unfold Book.circle
        rw [List.any_eq_true]
        constructor
        · rintro ⟨p, hp, hc⟩
          unfold Book.circ at hc
          obtain ⟨res, hr, hi⟩ := over_some s hb p.1
          rw [hr] at hc
          simp only [decide_eq_true_eq] at hc
          exact ⟨p.1, (book_keys s p.1).1 ⟨p, hp, rfl⟩, (hi _).1 hc⟩
        · rintro ⟨x, hx, hc⟩
          obtain ⟨p, hp, rfl⟩ := (book_keys s x).2 hx
          obtain ⟨res, hr, hi⟩ := over_some s hb p.1
          exact ⟨p, hp, by unfold Book.circ; rw [hr]; simpa using (hi _).2 hc⟩
      rw [List.all_eq_true] at h1
      constructor
      · intro h
        refine ⟨h1, h2, fun x hx hp => ?_⟩
        have := h4.2 ⟨x, hx, hp⟩
        simp [this] at h
      · rintro ⟨_, _, h⟩
        cases hc : (newBook s).circle with
        | false => rfl
        | true => obtain ⟨x, hx, hp⟩ := h4.1 hc; exact absurd hp (h x hx)
    · rw [if_neg (by simpa using h2)]; exact ⟨false, rfl, by simp [h2]⟩
  · rw [if_neg h1]
    refine ⟨false, rfl, by
      rw [List.all_eq_true] at h1
      simp [h1]⟩
    
theorem validB_some (s : SigD) (h : s.ok) (hw : s.within = true) : ∃ r, validB (newBook s) s = some r ∧ (r = true → okSorts s.sorts = true ∧ (∀ y ∈ s.below, okBel (newBook s) y = true) ∧ s.below.Nodup ∧ (∀ x ∈ s.all, ¬ Plus (newBook s) x x) ∧
    (opNames s).Nodup ∧ (∀ o ∈ s.ops, badOp (newBook s) o = false) ∧ (∀ o ∈ s.funs, badFun (newBook s) o = false) ∧ (∀ v ∈ s.values, v ∈ s.all) ∧ s.values.Nodup) := by
  have hb : s.below.length ≤ 200 := by simp only [SigD.within, Bool.and_eq_true, decide_eq_true_eq] at hw; omega
  obtain ⟨r, h1, h2⟩ := okBelow_some s hb
  unfold validB
  rw [if_pos (h.sizes hw)]
  by_cases h3 : okSorts s.sorts = true
  · rw [if_pos h3, h1]
    cases r with
    | false => exact ⟨false, rfl, by simp⟩
    | true =>
      refine ⟨_, rfl, fun h4 => ?_⟩
      obtain ⟨p1, p2, p3⟩ := h2.1 rfl
      simp only [Bool.and_eq_true, decide_eq_true_eq, Bool.not_eq_true', List.any_eq_false, List.all_eq_true, predB, book_has, Bool.false_eq_true, if_false, if_true, Bool.not_eq_true] at h4
      obtain ⟨⟨⟨⟨q1, q2⟩, q3⟩, q4⟩, q5⟩ := h4
      exact ⟨h3, p1, p2, p3, q1, q2, q3, q4, q5⟩
  · rw [if_neg h3]; exact ⟨false, rfl, by simp⟩

theorem openF_some (s : SigD) (h : s.ok) (names : List ByteArray) (hn : names.length ≤ 1048576) :
    openF s names = some (if s.vld then (if names.all (newBook s).has then (some (newBook s), 0) else (none, 13)) else (none, 2)) := by
  obtain ⟨h1, h2, h3, h4, h5⟩ := h
  unfold openF
  rw [if_pos ⟨by unfold lim; omega, by unfold lim; omega, by unfold lim; omega⟩]
  unfold SigD.vld
  cases hw : s.within with
  | false => simp
  | true =>
    obtain ⟨r, hr, _⟩ := validB_some s ⟨h1, h2, h3, h4, h5⟩ hw
    rw [hr]
    cases r
    · simp
    · simp only [if_true, Bool.true_and, decide_true]
      split <;> rfl
theorem validF_some (s : SigD) (h : s.ok) : validF s = some s.vld := by
  unfold validF
  rw [openF_some s h [] (by simp)]
  cases s.vld <;> simp
theorem vld_facts {s : SigD} (h : s.ok) (hv : s.vld = true) : s.within = true ∧ s.below.length ≤ 200 ∧ okSorts s.sorts = true ∧ (∀ y ∈ s.below, okBel (newBook s) y = true) ∧ s.below.Nodup ∧ (∀ x ∈ s.all, ¬ Plus (newBook s) x x) ∧
    (opNames s).Nodup ∧ (∀ o ∈ s.ops, badOp (newBook s) o = false) ∧ (∀ o ∈ s.funs, badFun (newBook s) o = false) ∧ (∀ v ∈ s.values, v ∈ s.all) ∧ s.values.Nodup := by
  unfold SigD.vld at hv
  simp only [Bool.and_eq_true, decide_eq_true_eq] at hv
  obtain ⟨hw, hv⟩ := hv
  obtain ⟨r, hr, hf⟩ := validB_some s h hw
  rw [hv] at hr
  cases hr
  refine ⟨hw, ?_, hf rfl⟩
  simp only [SigD.within, Bool.and_eq_true, decide_eq_true_eq] at hw; omega
/-- one sort at most another, and no error -/
def SigD.at (s : SigD) (x y : ByteArray) : Bool := match atMostF s x y with
  | some (b, e) => b && decide (e = 0)
  | none => false
theorem atMostF_some (s : SigD) (h : s.ok) (x y : ByteArray) : ∃ r, atMostF s x y = some r ∧ (s.vld = true → x ∈ s.all → y ∈ s.all → r.2 = 0 ∧ (r.1 = true ↔ y = anyS ∨ x = y ∨ Plus (newBook s) x y)) ∧ (¬ (s.vld = true ∧ x ∈ s.all ∧ y ∈ s.all) → r.1 = false ∧ r.2 ≠ 0) := by
  unfold atMostF withBook
  rw [openF_some s h [x, y] (by simp)]
  cases hv : s.vld with
  | false => exact ⟨_, rfl, by simp, by simp⟩
  | true =>
    simp only [List.all_cons, List.all_nil, Bool.and_true, book_has, if_true]
    by_cases hx : x ∈ s.all
    · by_cases hy : y ∈ s.all
      · obtain ⟨r, hr, hi⟩ := atMost_some s (vld_facts h hv).2.1 x y
        simp only [hx, hy, decide_true, Bool.and_true, if_true, hr, Option.map_some]
        exact ⟨_, rfl, by simpa using hi, by simp⟩
      · simp only [hx, hy, decide_true, decide_false, Bool.and_false]
        exact ⟨_, rfl, by simp, by simp⟩
    · simp only [hx, decide_false, Bool.false_and]
      exact ⟨_, rfl, by simp, by simp⟩
theorem at_iff (s : SigD) (h : s.ok) (x y : ByteArray) : s.at x y = true ↔ s.vld = true ∧ x ∈ s.all ∧ y ∈ s.all ∧ (y = anyS ∨ x = y ∨ Plus (newBook s) x y) := by
  obtain ⟨r, h1, h2, h3⟩ := atMostF_some s h x y
  unfold SigD.at
  rw [h1]
  obtain ⟨b, e⟩ := r
  by_cases hc : s.vld = true ∧ x ∈ s.all ∧ y ∈ s.all
  · obtain ⟨c1, c2, c3⟩ := hc
    obtain ⟨q1, q2⟩ := h2 c1 c2 c3
    simp only at q1 q2
    simp [q1, c1, c2, c3, q2]
  · have := h3 hc
    simp only at this
    simp only [this.1, Bool.false_and, Bool.false_eq_true, false_iff]
    rintro ⟨c1, c2, c3, _⟩; exact hc ⟨c1, c2, c3⟩
theorem plus_low {s : SigD} (h : s.ok) (hv : s.vld = true) (y : ByteArray) : ¬ Plus (newBook s) anyS y := by
  rintro ⟨u, hu, _⟩
  rw [book_up] at hu
  split at hu
  · unfold ups at hu
    simp only [List.mem_map, List.mem_filter, decide_eq_true_eq] at hu
    obtain ⟨z, ⟨hz, hl⟩, _⟩ := hu
    have := (vld_facts h hv).2.2.2.1 z hz
    simp [okBel, hl] at this
  · simp at hu
theorem at_refl {s : SigD} (h : s.ok) (hv : s.vld = true) {x : ByteArray} (hx : x ∈ s.all) : s.at x x = true := (at_iff s h x x).2 ⟨hv, hx, hx, .inr (.inl rfl)⟩
theorem any_all (s : SigD) : anyS ∈ s.all := by unfold SigD.all; exact List.mem_append_left _ (by decide)
theorem at_any {s : SigD} (h : s.ok) (hv : s.vld = true) {x : ByteArray} (hx : x ∈ s.all) : s.at x anyS = true := (at_iff s h x _).2 ⟨hv, hx, any_all s, .inl rfl⟩
theorem at_anti {s : SigD} (h : s.ok) {x y : ByteArray} (h1 : s.at x y = true) (h2 : s.at y x = true) : x = y := by
  obtain ⟨hv, hx, hy, q1⟩ := (at_iff s h x y).1 h1
  obtain ⟨_, _, _, q2⟩ := (at_iff s h y x).1 h2
  have hp := plus_low h hv
  have hc := (vld_facts h hv).2.2.2.2.2.1
  rcases q1 with rfl | rfl | q1
  · rcases q2 with rfl | rfl | q2
    · rfl
    · rfl
    · exact absurd q2 (hp _)
  · rfl
  · rcases q2 with rfl | rfl | q2
    · exact absurd q1 (hp _)
    · rfl
    · exact absurd (q1.trans q2) (hc _ hx)
theorem at_trans {s : SigD} (h : s.ok) {x y z : ByteArray} (h1 : s.at x y = true) (h2 : s.at y z = true) : s.at x z = true := by
  obtain ⟨hv, hx, hy, q1⟩ := (at_iff s h x y).1 h1
  obtain ⟨_, _, hz, q2⟩ := (at_iff s h y z).1 h2
  have hp := plus_low h hv
  refine (at_iff s h x z).2 ⟨hv, hx, hz, ?_⟩
  rcases q2 with rfl | rfl | q2
  · exact .inl rfl
  · exact q1
  · rcases q1 with rfl | rfl | q1
    · exact absurd q2 (hp _)
    · exact .inr (.inr q2)
    · exact .inr (.inr (q1.trans q2))
end Go.Proofs.Yt
namespace Go.Proofs.Yt
open Go Go.FA Go.Proofs
set_option linter.unusedVariables false
set_option linter.unusedSimpArgs false
set_option maxRecDepth 100000

def s11 : Sp := sp EncR.unit Enc.bool (fun _ => some true)
abbrev T11 : Tab := tabOf [(43, s43), (14, s14), (27, s27), (30, s30), (22, s22), (25, s25), (20, s20), (16, s16), (32, s32), (12, s12), (36, s36), (38, s38)]
theorem t11 : TabOk Tryz.prog T11 := .cons e43 (.cons e14 (.cons e27 (.cons e30 (.cons e22 (.cons e25 (.cons e20 (.cons e16 (.cons e32 (.cons e12 (.cons e36 (.cons e38 .nil)))))))))))
theorem c11 : CallSound Tryz.prog 11 s11 := by
  refine CallSound.of_sp (T := T11) Tryz.func11 rfl (Nat.le_of_ble_eq_true rfl) fun E xx y hy => ?_
  simp only [Option.some.injEq] at hy
  subst hy
  have g1 : dcall T11 43 [] = some (.agg (EncR.sigd.enc sums)) := by simp [dcall, T11, tabOf, s43, sp, EncR.unit, Enc.sigd, Enc.agg]
  have g2 : dcall T11 14 [Enc.sigd.enc sums, Enc.str.enc intS, Enc.str.enc expS] = some (Enc.boolErr.enc (true, 0)) := dcall3 (A := Enc.sigd) (B := Enc.str) (C := Enc.str) (D := Enc.boolErr) rfl aw1
  have g3 : dcall T11 14 [Enc.sigd.enc sums, Enc.str.enc expS, Enc.str.enc intS] = some (Enc.boolErr.enc (false, 0)) := dcall3 (A := Enc.sigd) (B := Enc.str) (C := Enc.str) (D := Enc.boolErr) rfl aw2
  have g4 : dcall T11 14 [Enc.sigd.enc sums, Enc.str.enc intS, Enc.str.enc nopeS] = some (Enc.boolErr.enc (false, 13)) := dcall3 (A := Enc.sigd) (B := Enc.str) (C := Enc.str) (D := Enc.boolErr) rfl aw3
  have g5 : dcall T11 27 [Enc.sigd.enc sums, Enc.str.enc intS] = some (Enc.strsErr.enc ([anyT, expS, intS, pgmS], 0)) := dcall2 (A := Enc.sigd) (B := Enc.str) (C := Enc.strsErr) rfl aw10
  have g6 : dcall T11 30 [Enc.sigd.enc sums, Enc.str.enc expS] = some (Enc.strsErr.enc ([expS, intS], 0)) := dcall2 (A := Enc.sigd) (B := Enc.str) (C := Enc.strsErr) rfl aw11
  have g7 : dcall T11 22 [Enc.sigd.enc sums, Enc.str.enc plusS] = some (Enc.opErr.enc (plusO, 0)) := dcall2 (A := Enc.sigd) (B := Enc.str) (C := Enc.opErr) rfl aw5
  have g8 : dcall T11 25 [Enc.sigd.enc sums, Enc.str.enc plusS] = some (Enc.opErr.enc (noOp, 4)) := dcall2 (A := Enc.sigd) (B := Enc.str) (C := Enc.opErr) rfl aw6
  have g9 : dcall T11 20 [Enc.sigd.enc sums, Enc.str.enc expS] = some (Enc.boolErr.enc (false, 0)) := dcall2 (A := Enc.sigd) (B := Enc.str) (C := Enc.boolErr) rfl aw7
  have g10 : dcall T11 16 [Enc.sigd.enc sums, Enc.str.enc pgmS, Enc.str.enc intS] = some (Enc.boolErr.enc (true, 0)) := dcall3 (A := Enc.sigd) (B := Enc.str) (C := Enc.str) (D := Enc.boolErr) rfl aw8
  have g11 : dcall T11 32 [Enc.sigd.enc sums, Enc.str.enc expS, Enc.str.enc fooS] = some (Enc.sigErr.enc (sums2, 0)) := dcall3 (A := Enc.sigd) (B := Enc.str) (C := Enc.str) (D := Enc.sigErr) rfl aw9
  have g12 : dcall T11 12 [Enc.sigd.enc sums] = some (Enc.bool.enc true) := dcall1 (A := Enc.sigd) (B := Enc.bool) rfl aw4
  have g13 : dcall T11 36 [.lit (.string ⟨#[105, 115, 118, 97, 108, 117, 101]⟩)] = some (.lit (.bool true)) := by kernel_rfl
  have g14 : dcall T11 36 [.lit (.string ⟨#[112, 108, 117, 115]⟩)] = some (.lit (.bool false)) := by kernel_rfl
  have g15 : dcall T11 38 [.lit (.string ⟨#[97, 95, 49]⟩)] = some (.lit (.bool true)) := by kernel_rfl
  have g16 : dcall T11 38 [.lit (.string ⟨#[49, 97]⟩)] = some (.lit (.bool false)) := by kernel_rfl
  have setO' := setO
  have set5' := set5
  have setS : setAt zsig 0 (EncR.sigd.enc sums) = EncR.sigd.enc sums := rfl
  have setS2 : setAt zsig 0 (EncR.sigd.enc sums2) = EncR.sigd.enc sums2 := rfl
  simp only [noOpD, zsig] at setO' setS setS2
  have hs : Enc.strs.enc sums2.sorts = .slice 1 .none [[.lit (.string ⟨#[70, 111, 111]⟩)], [.lit (.string ⟨#[80, 103, 109]⟩)]] := rfl
  simp only [Enc.sigd, Enc.agg, Enc.str, Enc.boolErr, Enc.strsErr, Enc.opErr, Enc.sigErr, Enc.opd, Enc.tup, arg2, EncR.and, EncR.one, Enc.bool, Enc.i64, Enc.int, strsC, List.map_cons, List.map_nil, intS, expS, pgmS, anyT, nopeS, fooS, plusS] at g2 g3 g4 g5 g6 g7 g8 g9 g10 g11 g12
  have hlen2 : (sums2.sorts.length : Int) = 2 := rfl
  have hmap2 : (sums2.sorts.map fun s => [DV.lit (.string s)]) = [[.lit (.string ⟨#[70, 111, 111]⟩)], [.lit (.string ⟨#[80, 103, 109]⟩)]] := rfl
  have hprec : plusO.prec = 5 := rfl
  have tT := t11
  generalize T11 = T at *
  refine Dwp.step tT rfl fun K hK => ?_
  simp [drunL, dwanted, dopS, own, plainOf, dop, dput, eval, ofVal, Then, Ex.then, Ex.inBlock, upd, dbin, Tag.isNN, nilTest, intCmp, dload, dpart, TyI.agg, dfieldAddr, dfield, dindexAddr, dindex, dlen, lenOk, dlookup, mapOf, keyFits, dmapUpdate, dcallee, dcall, tabOf, dbuiltin, dstore, DV.cells, setAt, dslice, dboundOk, dappend, appTag, rowsOf, elemOk, growLimit, dbuildCells, dbuildCells.go, structOk, fieldsOk, dbuildRows, goInt]
  refine hK _ _ ?_ rfl; clear hK K
  refine Dwp.step tT rfl fun K hK => ?_
  simp [drunL, dwanted, dopS, own, plainOf, dop, dput, eval, ofVal, Then, Ex.then, Ex.inBlock, upd, dbin, Tag.isNN, nilTest, intCmp, dload, dpart, TyI.agg, dfieldAddr, dfield, dindexAddr, dindex, dlen, lenOk, dlookup, mapOf, keyFits, dmapUpdate, dcallee, dbuiltin, dstore, DV.cells, dslice, dboundOk, dappend, appTag, rowsOf, elemOk, growLimit, dbuildCells, dbuildCells.go, structOk, fieldsOk, dbuildRows, goInt, g1, ty26, setS]
  refine hK _ _ ?_ rfl; clear hK K
  refine Dwp.step tT rfl fun K hK => ?_
  simp [drunL, dwanted, dopS, own, plainOf, dop, dput, eval, ofVal, Then, Ex.then, Ex.inBlock, upd, dbin, Tag.isNN, nilTest, intCmp, dload, dpart, TyI.agg, dfieldAddr, dfield, dindexAddr, dindex, dlen, lenOk, dlookup, mapOf, keyFits, dmapUpdate, dcallee, dbuiltin, dstore, DV.cells, dslice, dboundOk, dappend, appTag, rowsOf, elemOk, growLimit, dbuildCells, dbuildCells.go, structOk, fieldsOk, dbuildRows, goInt, ty26, g2]
  refine hK _ _ ?_ rfl; clear hK K
  refine Dwp.step tT rfl fun K hK => ?_
  simp [drunL, dwanted, dopS, own, plainOf, dop, dput, eval, ofVal, Then, Ex.then, Ex.inBlock, upd, dbin, Tag.isNN, nilTest, intCmp, dload, dpart, TyI.agg, dfieldAddr, dfield, dindexAddr, dindex, dlen, lenOk, dlookup, mapOf, keyFits, dmapUpdate, dcallee, dbuiltin, dstore, DV.cells, dslice, dboundOk, dappend, appTag, rowsOf, elemOk, growLimit, dbuildCells, dbuildCells.go, structOk, fieldsOk, dbuildRows, goInt, ty26, g3]
  refine hK _ _ ?_ rfl; clear hK K
  refine Dwp.step tT rfl fun K hK => ?_
  simp [drunL, dwanted, dopS, own, plainOf, dop, dput, eval, ofVal, Then, Ex.then, Ex.inBlock, upd, dbin, Tag.isNN, nilTest, intCmp, dload, dpart, TyI.agg, dfieldAddr, dfield, dindexAddr, dindex, dlen, lenOk, dlookup, mapOf, keyFits, dmapUpdate, dcallee, dbuiltin, dstore, DV.cells, dslice, dboundOk, dappend, appTag, rowsOf, elemOk, growLimit, dbuildCells, dbuildCells.go, structOk, fieldsOk, dbuildRows, goInt, ty26, g5]
  refine hK _ _ ?_ rfl; clear hK K
  refine Dwp.step tT rfl fun K hK => ?_
  simp [drunL, dwanted, dopS, own, plainOf, dop, dput, eval, ofVal, Then, Ex.then, Ex.inBlock, upd, dbin, Tag.isNN, nilTest, intCmp, dload, dpart, TyI.agg, dfieldAddr, dfield, dindexAddr, dindex, dlen, lenOk, dlookup, mapOf, keyFits, dmapUpdate, dcallee, dbuiltin, dstore, DV.cells, dslice, dboundOk, dappend, appTag, rowsOf, elemOk, growLimit, dbuildCells, dbuildCells.go, structOk, fieldsOk, dbuildRows, goInt, ty26, g6]
  refine hK _ _ ?_ rfl; clear hK K
  refine Dwp.step tT rfl fun K hK => ?_
  simp [drunL, dwanted, dopS, own, plainOf, dop, dput, eval, ofVal, Then, Ex.then, Ex.inBlock, upd, dbin, Tag.isNN, nilTest, intCmp, dload, dpart, TyI.agg, dfieldAddr, dfield, dindexAddr, dindex, dlen, lenOk, dlookup, mapOf, keyFits, dmapUpdate, dcallee, dbuiltin, dstore, DV.cells, dslice, dboundOk, dappend, appTag, rowsOf, elemOk, growLimit, dbuildCells, dbuildCells.go, structOk, fieldsOk, dbuildRows, goInt, ty26, ty38, g7, setO']
  refine hK _ _ ?_ rfl; clear hK K
  refine Dwp.step tT rfl fun K hK => ?_
  simp [drunL, dwanted, dopS, own, plainOf, dop, dput, eval, ofVal, Then, Ex.then, Ex.inBlock, upd, dbin, Tag.isNN, nilTest, intCmp, dload, dpart, TyI.agg, dfieldAddr, dfield, dindexAddr, dindex, dlen, lenOk, dlookup, mapOf, keyFits, dmapUpdate, dcallee, dbuiltin, dstore, DV.cells, dslice, dboundOk, dappend, appTag, rowsOf, elemOk, growLimit, dbuildCells, dbuildCells.go, structOk, fieldsOk, dbuildRows, goInt, ty26, ty38, g8, setO']
  refine hK _ _ ?_ rfl; clear hK K
  refine Dwp.step tT rfl fun K hK => ?_
  simp [drunL, dwanted, dopS, own, plainOf, dop, dput, eval, ofVal, Then, Ex.then, Ex.inBlock, upd, dbin, Tag.isNN, nilTest, intCmp, dload, dpart, TyI.agg, dfieldAddr, dfield, dindexAddr, dindex, dlen, lenOk, dlookup, mapOf, keyFits, dmapUpdate, dcallee, dbuiltin, dstore, DV.cells, dslice, dboundOk, dappend, appTag, rowsOf, elemOk, growLimit, dbuildCells, dbuildCells.go, structOk, fieldsOk, dbuildRows, goInt, ty26, g9]
  refine hK _ _ ?_ rfl; clear hK K
  refine Dwp.step tT rfl fun K hK => ?_
  simp [drunL, dwanted, dopS, own, plainOf, dop, dput, eval, ofVal, Then, Ex.then, Ex.inBlock, upd, dbin, Tag.isNN, nilTest, intCmp, dload, dpart, TyI.agg, dfieldAddr, dfield, dindexAddr, dindex, dlen, lenOk, dlookup, mapOf, keyFits, dmapUpdate, dcallee, dbuiltin, dstore, DV.cells, dslice, dboundOk, dappend, appTag, rowsOf, elemOk, growLimit, dbuildCells, dbuildCells.go, structOk, fieldsOk, dbuildRows, goInt, ty26, g10]
  refine hK _ _ ?_ rfl; clear hK K
  refine Dwp.step tT rfl fun K hK => ?_
  simp [drunL, dwanted, dopS, own, plainOf, dop, dput, eval, ofVal, Then, Ex.then, Ex.inBlock, upd, dbin, Tag.isNN, nilTest, intCmp, dload, dpart, TyI.agg, dfieldAddr, dfield, dindexAddr, dindex, dlen, lenOk, dlookup, mapOf, keyFits, dmapUpdate, dcallee, dbuiltin, dstore, DV.cells, dslice, dboundOk, dappend, appTag, rowsOf, elemOk, growLimit, dbuildCells, dbuildCells.go, structOk, fieldsOk, dbuildRows, goInt, ty26, g11, setS2]
  refine hK _ _ ?_ rfl; clear hK K
  refine Dwp.step tT rfl fun K hK => ?_
  simp [drunL, dwanted, dopS, own, plainOf, dop, dput, eval, ofVal, Then, Ex.then, Ex.inBlock, upd, dbin, Tag.isNN, nilTest, intCmp, dload, dpart, TyI.agg, dfieldAddr, dfield, dindexAddr, dindex, dlen, lenOk, dlookup, mapOf, keyFits, dmapUpdate, dcallee, dbuiltin, dstore, DV.cells, dslice, dboundOk, dappend, appTag, rowsOf, elemOk, growLimit, dbuildCells, dbuildCells.go, structOk, fieldsOk, dbuildRows, goInt, ty26, g4]
  refine hK _ _ ?_ rfl; clear hK K
  refine Dwp.seq ?_
  refine Dwp.step tT rfl fun K hK => ?_
  simp [drunL, dwanted, dopS, own, plainOf, dop, dput, eval, ofVal, Then, Ex.then, Ex.inBlock, upd, dbin, Tag.isNN, nilTest, intCmp, dload, dpart, TyI.agg, dfieldAddr, dfield, dindexAddr, dindex, dlen, lenOk, dlookup, mapOf, keyFits, dmapUpdate, dcallee, dbuiltin, dstore, DV.cells, dslice, dboundOk, dappend, appTag, rowsOf, elemOk, growLimit, dbuildCells, dbuildCells.go, structOk, fieldsOk, dbuildRows, goInt, ty26, ty22, strsC, hs, hlen2]
  refine hK _ _ ?_ rfl; clear hK K
  refine Dwp.condF (by simp [eval, upd]) (Dwp.skip ?_)
  refine Dwp.step tT rfl fun K hK => ?_
  simp [drunL, dwanted, dopS, own, plainOf, dop, dput, eval, ofVal, Then, Ex.then, Ex.inBlock, upd, dbin, Tag.isNN, nilTest, intCmp, dload, dpart, TyI.agg, dfieldAddr, dfield, dindexAddr, dindex, dlen, lenOk, dlookup, mapOf, keyFits, dmapUpdate, dcallee, dbuiltin, dstore, DV.cells, dslice, dboundOk, dappend, appTag, rowsOf, elemOk, growLimit, dbuildCells, dbuildCells.go, structOk, fieldsOk, dbuildRows, goInt, ty26, ty22, ty9, ty38, ty3, strsC, hlen2, hmap2, hprec, g12, g13, g14, g15, g16]
  refine hK _ _ (Dwp.ret ?_) rfl
  simp [Done, dresults, dres, frz, frz1, frz2, upd, Enc.bool]
theorem e11 : Go.FA.Good Tryz.prog (11, s11) := ⟨c11, Tryz.f11, _, Tryz.func11, rfl, by decide⟩
end Go.Proofs.Yt
namespace Go.Proofs.Yt
open Go Go.FA Go.Proofs
set_option linter.unusedVariables false
set_option linter.unusedSimpArgs false
set_option maxRecDepth 100000

theorem SigD.ok.lens {s : SigD} (h : s.ok) : lens s := by
  obtain ⟨h1, h2, h3, h4, h5⟩ := h
  refine ⟨by unfold lim; omega, by unfold lim; omega, by unfold lim; omega, by unfold lim; omega, by unfold lim; omega, fun o ho => ?_⟩
  obtain ⟨a, b, c, d⟩ := h5 o (by simpa using ho)
  unfold lim; omega
theorem call10 (T : Tab) (hT : T 10 = some s10) {s : SigD} (h : s.ok) : dcall T 10 [.agg (EncR.sigd.enc s)] = some (.lit (.bool (few s))) := by
  have := dcall1 (T := T) (A := Enc.sigd) (B := Enc.bool) hT (if_pos h.lens)
  simpa [Enc.sigd, Enc.agg, Enc.bool] using this
theorem call11 (T : Tab) (hT : T 11 = some s11) : dcall T 11 [] = some (.lit (.bool true)) := by
  simp [dcall, hT, s11, sp, EncR.unit, Enc.bool]
theorem call12 (T : Tab) (hT : T 12 = some s12) {s : SigD} (h : s.ok) : dcall T 12 [.agg (EncR.sigd.enc s)] = some (.lit (.bool s.vld)) := by
  have := dcall1 (T := T) (A := Enc.sigd) (B := Enc.bool) hT (validF_some s h)
  simpa [Enc.sigd, Enc.agg, Enc.bool] using this
theorem call40 (T : Tab) (hT : T 40 = some s40) {s : SigD} (h : s.ok) (x y : ByteArray) : dcall T 40 [.agg (EncR.sigd.enc s), .lit (.string x), .lit (.string y)] = some (.lit (.bool (s.at x y))) := by
  obtain ⟨r, hr, _⟩ := atMostF_some s h x y
  have h2 : (atMostF s x y).map (fun r => r.1 && decide (r.2 = 0)) = some (s.at x y) := by
    unfold SigD.at; rw [hr]; rfl
  have := dcall3 (T := T) (A := Enc.sigd) (B := Enc.str) (C := Enc.str) (D := Enc.bool) hT h2
  simpa [Enc.sigd, Enc.agg, Enc.bool, Enc.str] using this

open Classical in
noncomputable def s7 : Sp := sp (arg1 Enc.sigd) Enc.bool (fun s => if s.ok then some true else none)
abbrev T7 : Tab := tabOf [(10, s10), (11, s11), (12, s12), (40, s40)]
theorem t7 : TabOk Tryz.prog T7 := .cons e10 (.cons e11 (.cons e12 (.cons e40 .nil)))
abbrev rows1 (l : List ByteArray) : List (List DV) := l.map fun x => [DV.lit (.string x)]
def inv7a (s : SigD) (l : List ByteArray) : Nat → (Nat → DV) → St → Prop := fun k a σ => ∃ i tag, i ≤ l.length ∧ k = l.length - i ∧
  a 1 = .row (EncR.sigd.enc s) 0 ∧ a 3 = .slice 1 tag (rows1 l) ∧ a 29 = .slice 1 tag (rows1 l) ∧ a 30 = .lit (.int .i64 l.length) ∧ a 31 = .lit (.int .i64 i)
def inv7b (s : SigD) (l : List ByteArray) (i : Nat) (x : ByteArray) : Nat → (Nat → DV) → St → Prop := fun k a σ => ∃ j tag, j ≤ l.length ∧ k = l.length - j ∧
  a 1 = .row (EncR.sigd.enc s) 0 ∧ a 3 = .slice 1 tag (rows1 l) ∧ a 29 = .slice 1 tag (rows1 l) ∧ a 30 = .lit (.int .i64 l.length) ∧ a 31 = .lit (.int .i64 i) ∧
  a 5 = .lit (.string x) ∧ a 46 = .slice 1 tag (rows1 l) ∧ a 47 = .lit (.int .i64 l.length) ∧ a 48 = .lit (.int .i64 j)
def inv7c (s : SigD) (l : List ByteArray) (i : Nat) (x : ByteArray) (j : Nat) (y : ByteArray) : Nat → (Nat → DV) → St → Prop := fun k a σ => ∃ n tag, n ≤ l.length ∧ k = l.length - n ∧
  a 1 = .row (EncR.sigd.enc s) 0 ∧ a 3 = .slice 1 tag (rows1 l) ∧ a 29 = .slice 1 tag (rows1 l) ∧ a 30 = .lit (.int .i64 l.length) ∧ a 31 = .lit (.int .i64 i) ∧
  a 5 = .lit (.string x) ∧ a 46 = .slice 1 tag (rows1 l) ∧ a 47 = .lit (.int .i64 l.length) ∧ a 48 = .lit (.int .i64 j) ∧
  a 7 = .lit (.string y) ∧ a 67 = .slice 1 tag (rows1 l) ∧ a 68 = .lit (.int .i64 l.length) ∧ a 69 = .lit (.int .i64 n)
theorem wrap1 (i : Nat) (h : i ≤ 16777216) : IntKind.i64.wrap ((i : Int) + 1) = (i : Int) + 1 := wrap_small (n := (i : Int) + 1) (by omega) (by omega)
theorem c7 : CallSound Tryz.prog 7 s7 := by
  refine CallSound.of_sp (T := T7) Tryz.func7 rfl (Nat.le_of_ble_eq_true rfl) fun E s y hy => ?_
  split at hy
  case isFalse => cases hy
  next hok =>
  cases hy
  have g10 := call10 T7 rfl hok
  have g11 := call11 T7 rfl
  have g12 := call12 T7 rfl hok
  have g40 := call40 T7 rfl hok
  have tT := t7
  generalize T7 = T at *
  have z1 := hok.1
  refine Dwp.step tT rfl fun K hK => ?_
  simp [drunL, dwanted, dopS, own, plainOf, dop, dput, eval, ofVal, Then, Ex.then, Ex.inBlock, upd, dbin, Tag.isNN, nilTest, intCmp, dload, dpart, TyI.agg, dfieldAddr, dfield, dindexAddr, dindex, dlen, lenOk, dlookup, mapOf, keyFits, dmapUpdate, dcallee, dbuiltin, dstore, DV.cells, dslice, dboundOk, dappend, appTag, rowsOf, elemOk, growLimit, dbuildCells, dbuildCells.go, structOk, fieldsOk, dbuildRows, goInt, init, arg1, EncR.one, Enc.sigd, Enc.agg]
  refine hK _ _ ?_ rfl; clear hK K
  refine Dwp.seq ?_
  refine Dwp.step tT rfl fun K hK => ?_
  have fin : ∀ (a : Nat → DV) (σ : St), a 2 = .lit (.bool true) → Done Tryz.prog Tryz.f7.results Enc.bool true Ex.ret a σ := by
    intro a σ h2
    refine ⟨.inr rfl, .lit (.bool true), ?_, rfl⟩
    show dresults Tryz.prog σ a [ResultVar.tmp 2] = _
    simp [dresults, dres, h2]
  by_cases hf : few s = true
  case neg =>
    have hf' : few s = false := by simpa using hf
    simp [drunL, dwanted, dopS, own, plainOf, dop, dput, eval, ofVal, Then, Ex.then, Ex.inBlock, upd, dbin, Tag.isNN, nilTest, intCmp, dload, dpart, TyI.agg, dfieldAddr, dfield, dindexAddr, dindex, dlen, lenOk, dlookup, mapOf, keyFits, dmapUpdate, dcallee, dbuiltin, dstore, DV.cells, dslice, dboundOk, dappend, appTag, rowsOf, elemOk, growLimit, dbuildCells, dbuildCells.go, structOk, fieldsOk, dbuildRows, goInt, ty26, ty22, g10, hf']
    refine hK _ _ ?_ rfl; clear hK K
    refine Dwp.condT (by simp [eval, upd]) ?_
    refine Dwp.step tT rfl fun K hK => ?_
    simp [drunL, dwanted, dopS, own, plainOf, dop, dput, eval, ofVal, Then, Ex.then, Ex.inBlock, upd, dbin, Tag.isNN, nilTest, intCmp, dload, dpart, TyI.agg, dfieldAddr, dfield, dindexAddr, dindex, dlen, lenOk, dlookup, mapOf, keyFits, dmapUpdate, dcallee, dbuiltin, dstore, DV.cells, dslice, dboundOk, dappend, appTag, rowsOf, elemOk, growLimit, dbuildCells, dbuildCells.go, structOk, fieldsOk, dbuildRows, goInt, g11]
    refine hK _ _ (Dwp.ret ?_) rfl
    exact fin _ _ (by simp [upd])
  by_cases h6 : s.sorts.length ≤ 6
  case neg =>
    have h6' : (6 : Int) < (s.sorts.length : Int) := by omega
    simp [drunL, dwanted, dopS, own, plainOf, dop, dput, eval, ofVal, Then, Ex.then, Ex.inBlock, upd, dbin, Tag.isNN, nilTest, intCmp, dload, dpart, TyI.agg, dfieldAddr, dfield, dindexAddr, dindex, dlen, lenOk, dlookup, mapOf, keyFits, dmapUpdate, dcallee, dbuiltin, dstore, DV.cells, dslice, dboundOk, dappend, appTag, rowsOf, elemOk, growLimit, dbuildCells, dbuildCells.go, structOk, fieldsOk, dbuildRows, goInt, ty26, ty22, strsC, g10, hf, h6']
    refine hK _ _ ?_ rfl; clear hK K
    refine Dwp.condT (by simp [eval, upd]) ?_
    refine Dwp.step tT rfl fun K hK => ?_
    simp [drunL, dwanted, dopS, own, plainOf, dop, dput, eval, ofVal, Then, Ex.then, Ex.inBlock, upd, dbin, Tag.isNN, nilTest, intCmp, dload, dpart, TyI.agg, dfieldAddr, dfield, dindexAddr, dindex, dlen, lenOk, dlookup, mapOf, keyFits, dmapUpdate, dcallee, dbuiltin, dstore, DV.cells, dslice, dboundOk, dappend, appTag, rowsOf, elemOk, growLimit, dbuildCells, dbuildCells.go, structOk, fieldsOk, dbuildRows, goInt, g11]
    refine hK _ _ (Dwp.ret ?_) rfl
    exact fin _ _ (by simp [upd])
  have h6' : ¬ (6 : Int) < (s.sorts.length : Int) := by omega
  by_cases hv : s.vld = true
  case neg =>
    have hv' : s.vld = false := by simpa using hv
    simp [drunL, dwanted, dopS, own, plainOf, dop, dput, eval, ofVal, Then, Ex.then, Ex.inBlock, upd, dbin, Tag.isNN, nilTest, intCmp, dload, dpart, TyI.agg, dfieldAddr, dfield, dindexAddr, dindex, dlen, lenOk, dlookup, mapOf, keyFits, dmapUpdate, dcallee, dbuiltin, dstore, DV.cells, dslice, dboundOk, dappend, appTag, rowsOf, elemOk, growLimit, dbuildCells, dbuildCells.go, structOk, fieldsOk, dbuildRows, goInt, ty26, ty22, strsC, g10, hf, h6', g12, hv']
    refine hK _ _ ?_ rfl; clear hK K
    refine Dwp.condT (by simp [eval, upd]) ?_
    refine Dwp.step tT rfl fun K hK => ?_
    simp [drunL, dwanted, dopS, own, plainOf, dop, dput, eval, ofVal, Then, Ex.then, Ex.inBlock, upd, dbin, Tag.isNN, nilTest, intCmp, dload, dpart, TyI.agg, dfieldAddr, dfield, dindexAddr, dindex, dlen, lenOk, dlookup, mapOf, keyFits, dmapUpdate, dcallee, dbuiltin, dstore, DV.cells, dslice, dboundOk, dappend, appTag, rowsOf, elemOk, growLimit, dbuildCells, dbuildCells.go, structOk, fieldsOk, dbuildRows, goInt, g11]
    refine hK _ _ (Dwp.ret ?_) rfl
    exact fin _ _ (by simp [upd])
  simp [drunL, dwanted, dopS, own, plainOf, dop, dput, eval, ofVal, Then, Ex.then, Ex.inBlock, upd, dbin, Tag.isNN, nilTest, intCmp, dload, dpart, TyI.agg, dfieldAddr, dfield, dindexAddr, dindex, dlen, lenOk, dlookup, mapOf, keyFits, dmapUpdate, dcallee, dbuiltin, dstore, DV.cells, dslice, dboundOk, dappend, appTag, rowsOf, elemOk, growLimit, dbuildCells, dbuildCells.go, structOk, fieldsOk, dbuildRows, goInt, ty26, ty22, strsC, g10, hf, h6', g12, hv]
  refine hK _ _ ?_ rfl; clear hK K
  refine Dwp.condF (by simp [eval, upd]) (Dwp.skip ?_)
  refine Dwp.step tT rfl fun K hK => ?_
  have hgrow : 2 + s.sorts.length ≤ 16777216 := by omega
  simp [drunL, dwanted, dopS, own, plainOf, dop, dput, eval, ofVal, Then, Ex.then, Ex.inBlock, upd, dbin, Tag.isNN, nilTest, intCmp, dload, dpart, TyI.agg, dfieldAddr, dfield, dindexAddr, dindex, dlen, lenOk, dlookup, mapOf, keyFits, dmapUpdate, dcallee, dbuiltin, dstore, DV.cells, dslice, dboundOk, dappend, appTag, rowsOf, elemOk, growLimit, dbuildCells, dbuildCells.go, structOk, fieldsOk, dbuildRows, goInt, ty26, ty22, ty9, strsC, hgrow]
  refine hK _ _ ?_ rfl; clear hK K
  obtain ⟨l, hl⟩ : ∃ l, l = anyS :: intS :: s.sorts := ⟨_, rfl⟩
  have hrow : ([DV.lit (.string ⟨#[65, 110, 121]⟩)] :: [DV.lit (.string ⟨#[73, 110, 116]⟩)] :: s.sorts.map fun x => [DV.lit (.string x)]) = rows1 l := by rw [hl]; rfl
  rw [hrow]
  have hll : l.length ≤ 8 := by rw [hl]; simp; omega
  have hin : ∀ x ∈ l, x ∈ s.all := by
    intro x hx; rw [hl] at hx; unfold SigD.all
    rcases List.mem_cons.1 hx with rfl | hx
    · exact List.mem_append_left _ (by decide)
    rcases List.mem_cons.1 hx with rfl | hx
    · exact List.mem_append_left _ (by decide)
    · exact List.mem_append_right _ hx
  clear hrow hl hgrow h6 h6' g10 g12 hf z1
  refine Dwp.seq ?_
  refine Dwp.step tT rfl fun K hK => ?_
  simp [drunL, dwanted, dopS, own, plainOf, dop, dput, eval, ofVal, Then, Ex.then, Ex.inBlock, upd, dbin, Tag.isNN, nilTest, intCmp, dload, dpart, TyI.agg, dfieldAddr, dfield, dindexAddr, dindex, dlen, lenOk, dlookup, mapOf, keyFits, dmapUpdate, dcallee, dbuiltin, dstore, DV.cells, dslice, dboundOk, dappend, appTag, rowsOf, elemOk, growLimit, dbuildCells, dbuildCells.go, structOk, fieldsOk, dbuildRows, goInt, ty22]
  refine hK _ _ ?_ rfl; clear hK K
  refine Dwp.block (Dwp.loop (inv7a s l) l.length ⟨0, _, by simp, by simp, by simp [upd], by simp [upd]; rfl, by simp [upd], by simp [upd], by simp [upd]⟩ ?_)
  rintro k a σ ⟨i, tag, hi, rfl, h1, h3, h29, h30, h31⟩
  refine Dwp.step tT rfl fun K hK => ?_
  simp [drunL, dwanted, dopS, own, plainOf, dop, dput, eval, ofVal, Then, Ex.then, Ex.inBlock, upd, dbin, Tag.isNN, nilTest, intCmp, dload, dpart, TyI.agg, dfieldAddr, dfield, dindexAddr, dindex, dlen, lenOk, dlookup, mapOf, keyFits, dmapUpdate, dcallee, dbuiltin, dstore, DV.cells, dslice, dboundOk, dappend, appTag, rowsOf, elemOk, growLimit, dbuildCells, dbuildCells.go, structOk, fieldsOk, dbuildRows, goInt, h30, h31]
  refine hK _ _ ?_ rfl; clear hK K
  by_cases hlt : i < l.length
  case neg =>
    refine Dwp.seq (Dwp.condF (by simp [eval, upd, hlt]) (Dwp.exit ?_))
    simp only [Ex.then, Ex.inBlock, if_true]
    refine Dwp.step tT rfl fun K hK => ?_
    simp [drunL, dwanted, dopS, own, plainOf, dop, dput, eval, ofVal, Then, Ex.then, Ex.inBlock, upd, dbin, Tag.isNN, nilTest, intCmp, dload, dpart, TyI.agg, dfieldAddr, dfield, dindexAddr, dindex, dlen, lenOk, dlookup, mapOf, keyFits, dmapUpdate, dcallee, dbuiltin, dstore, DV.cells, dslice, dboundOk, dappend, appTag, rowsOf, elemOk, growLimit, dbuildCells, dbuildCells.go, structOk, fieldsOk, dbuildRows, goInt, g11]
    refine hK _ _ (Dwp.ret ?_) rfl
    exact fin _ _ (by simp [upd])
  refine Dwp.seq (Dwp.condT (by simp [eval, upd, hlt]) (Dwp.skip ?_))
  refine Dwp.seq (Dwp.block ?_)
  refine Dwp.step tT rfl fun K hK => ?_
  simp [drunL, dwanted, dopS, own, plainOf, dop, dput, eval, ofVal, Then, Ex.then, Ex.inBlock, upd, dbin, Tag.isNN, nilTest, intCmp, dload, dpart, TyI.agg, dfieldAddr, dfield, dindexAddr, dindex, dlen, lenOk, dlookup, mapOf, keyFits, dmapUpdate, dcallee, dbuiltin, dstore, DV.cells, dslice, dboundOk, dappend, appTag, rowsOf, elemOk, growLimit, dbuildCells, dbuildCells.go, structOk, fieldsOk, dbuildRows, goInt, h29, h31, ty22, ty9, hlt]
  refine hK _ _ ?_ rfl; clear hK K
  obtain ⟨x, hx⟩ : ∃ x, x = l[i] := ⟨_, rfl⟩
  have hxi : x ∈ s.all := hin x (by rw [hx]; exact List.getElem_mem hlt)
  rw [← hx]
  refine Dwp.seq ?_
  refine Dwp.step tT rfl fun K hK => ?_
  have g1 := at_refl hok hv hxi
  have g2 := at_any hok hv hxi
  simp only [anyS] at g2
  simp [drunL, dwanted, dopS, own, plainOf, dop, dput, eval, ofVal, Then, Ex.then, Ex.inBlock, upd, dbin, Tag.isNN, nilTest, intCmp, dload, dpart, TyI.agg, dfieldAddr, dfield, dindexAddr, dindex, dlen, lenOk, dlookup, mapOf, keyFits, dmapUpdate, dcallee, dbuiltin, dstore, DV.cells, dslice, dboundOk, dappend, appTag, rowsOf, elemOk, growLimit, dbuildCells, dbuildCells.go, structOk, fieldsOk, dbuildRows, goInt, h1, ty26, g40, g1, g2]
  refine hK _ _ ?_ rfl; clear hK K
  refine Dwp.condF (by simp [eval, upd]) (Dwp.skip ?_)
  refine Dwp.step tT rfl fun K hK => ?_
  simp [drunL, dwanted, dopS, own, plainOf, dop, dput, eval, ofVal, Then, Ex.then, Ex.inBlock, upd, dbin, Tag.isNN, nilTest, intCmp, dload, dpart, TyI.agg, dfieldAddr, dfield, dindexAddr, dindex, dlen, lenOk, dlookup, mapOf, keyFits, dmapUpdate, dcallee, dbuiltin, dstore, DV.cells, dslice, dboundOk, dappend, appTag, rowsOf, elemOk, growLimit, dbuildCells, dbuildCells.go, structOk, fieldsOk, dbuildRows, goInt, h3, ty22]
  refine hK _ _ ?_ rfl; clear hK K
  refine Dwp.block (Dwp.loop (inv7b s l i x) l.length ⟨0, tag, by simp, by simp, by simp [upd, h1], by simp [upd, h3], by simp [upd, h29], by simp [upd, h30], by simp [upd, h31], by simp [upd], by simp [upd], by simp [upd], by simp [upd]⟩ ?_)
  clear h1 h3 h29 h30 h31 hi tag
  rintro k a σ ⟨j, tag, hj, rfl, h1, h3, h29, h30, h31, h5, h46, h47, h48⟩
  refine Dwp.step tT rfl fun K hK => ?_
  simp [drunL, dwanted, dopS, own, plainOf, dop, dput, eval, ofVal, Then, Ex.then, Ex.inBlock, upd, dbin, Tag.isNN, nilTest, intCmp, dload, dpart, TyI.agg, dfieldAddr, dfield, dindexAddr, dindex, dlen, lenOk, dlookup, mapOf, keyFits, dmapUpdate, dcallee, dbuiltin, dstore, DV.cells, dslice, dboundOk, dappend, appTag, rowsOf, elemOk, growLimit, dbuildCells, dbuildCells.go, structOk, fieldsOk, dbuildRows, goInt, h47, h48]
  refine hK _ _ ?_ rfl; clear hK K
  by_cases hjlt : j < l.length
  case neg =>
    refine Dwp.seq (Dwp.condF (by simp [eval, upd, hjlt]) (Dwp.exit ?_))
    simp only [Ex.then, Ex.inBlock, if_true]
    refine Dwp.reg tT rfl fun K hK => ?_
    simp [drunL, dwanted, dopS, own, plainOf, dop, dput, eval, ofVal, Then, Ex.then, Ex.inBlock, upd, dbin, Tag.isNN, nilTest, intCmp, dload, dpart, TyI.agg, dfieldAddr, dfield, dindexAddr, dindex, dlen, lenOk, dlookup, mapOf, keyFits, dmapUpdate, dcallee, dbuiltin, dstore, DV.cells, dslice, dboundOk, dappend, appTag, rowsOf, elemOk, growLimit, dbuildCells, dbuildCells.go, structOk, fieldsOk, dbuildRows, goInt, h31]
    refine hK _ _ ?_ rfl; clear hK K
    exact ⟨l.length - (i + 1), by omega, i + 1, tag, by omega, rfl, by simp [upd, h1], by simp [upd, h3], by simp [upd, h29], by simp [upd, h30], by simp [upd, wrap1 i (by omega)]⟩
  refine Dwp.seq (Dwp.condT (by simp [eval, upd, hjlt]) (Dwp.skip ?_))
  refine Dwp.seq (Dwp.block ?_)
  refine Dwp.step tT rfl fun K hK => ?_
  simp [drunL, dwanted, dopS, own, plainOf, dop, dput, eval, ofVal, Then, Ex.then, Ex.inBlock, upd, dbin, Tag.isNN, nilTest, intCmp, dload, dpart, TyI.agg, dfieldAddr, dfield, dindexAddr, dindex, dlen, lenOk, dlookup, mapOf, keyFits, dmapUpdate, dcallee, dbuiltin, dstore, DV.cells, dslice, dboundOk, dappend, appTag, rowsOf, elemOk, growLimit, dbuildCells, dbuildCells.go, structOk, fieldsOk, dbuildRows, goInt, h46, h48, ty22, ty9, hjlt]
  refine hK _ _ ?_ rfl; clear hK K
  obtain ⟨y, hy⟩ : ∃ y, y = l[j] := ⟨_, rfl⟩
  have hyi : y ∈ s.all := hin y (by rw [hy]; exact List.getElem_mem hjlt)
  rw [← hy]
  refine Dwp.seq ?_
  refine Dwp.step tT rfl fun K hK => ?_
  have g3 : x ≠ y → s.at x y = true → s.at y x = false := fun hne h2 => by
    cases h3 : s.at y x with
    | false => rfl
    | true => exact absurd (at_anti hok h2 h3) hne
  have rest : ∀ a' σ', (a' 66 = .lit (.bool false) ∧ a' 1 = .row (EncR.sigd.enc s) 0 ∧ a' 3 = .slice 1 tag (rows1 l) ∧ a' 29 = .slice 1 tag (rows1 l) ∧ a' 30 = .lit (.int .i64 l.length) ∧ a' 31 = .lit (.int .i64 i) ∧
      a' 5 = .lit (.string x) ∧ a' 46 = .slice 1 tag (rows1 l) ∧ a' 47 = .lit (.int .i64 l.length) ∧ a' 48 = .lit (.int .i64 j) ∧ a' 7 = .lit (.string y)) → σ'.n = σ.n + 1 + 3 → K a' σ' := by
    rintro a' σ' ⟨h66, h1, h3, h29, h30, h31, h5, h46, h47, h48, h7⟩ hn
    refine hK _ _ ?_ hn
    clear hK K
    refine Dwp.condF (by simp [eval, h66]) (Dwp.skip ?_)
    refine Dwp.step tT rfl fun K hK => ?_
    simp [drunL, dwanted, dopS, own, plainOf, dop, dput, eval, ofVal, Then, Ex.then, Ex.inBlock, upd, dbin, Tag.isNN, nilTest, intCmp, dload, dpart, TyI.agg, dfieldAddr, dfield, dindexAddr, dindex, dlen, lenOk, dlookup, mapOf, keyFits, dmapUpdate, dcallee, dbuiltin, dstore, DV.cells, dslice, dboundOk, dappend, appTag, rowsOf, elemOk, growLimit, dbuildCells, dbuildCells.go, structOk, fieldsOk, dbuildRows, goInt, h3, ty22]
    refine hK _ _ ?_ rfl; clear hK K
    refine Dwp.block (Dwp.loop (inv7c s l i x j y) l.length ⟨0, tag, by simp, by simp, by simp [upd, h1], by simp [upd, h3], by simp [upd, h29], by simp [upd, h30], by simp [upd, h31], by simp [upd, h5], by simp [upd, h46], by simp [upd, h47], by simp [upd, h48], by simp [upd, h7], by simp [upd], by simp [upd], by simp [upd]⟩ ?_)
    clear h1 h3 h29 h30 h31 h5 h46 h47 h48 h7 h66 hn
    rintro k a σ ⟨n, tag, hn, rfl, h1, h3, h29, h30, h31, h5, h46, h47, h48, h7, h67, h68, h69⟩
    refine Dwp.step tT rfl fun K hK => ?_
    simp [drunL, dwanted, dopS, own, plainOf, dop, dput, eval, ofVal, Then, Ex.then, Ex.inBlock, upd, dbin, Tag.isNN, nilTest, intCmp, dload, dpart, TyI.agg, dfieldAddr, dfield, dindexAddr, dindex, dlen, lenOk, dlookup, mapOf, keyFits, dmapUpdate, dcallee, dbuiltin, dstore, DV.cells, dslice, dboundOk, dappend, appTag, rowsOf, elemOk, growLimit, dbuildCells, dbuildCells.go, structOk, fieldsOk, dbuildRows, goInt, h68, h69]
    refine hK _ _ ?_ rfl; clear hK K
    by_cases hnlt : n < l.length
    case neg =>
      refine Dwp.seq (Dwp.condF (by simp [eval, upd, hnlt]) (Dwp.exit ?_))
      simp only [Ex.then, Ex.inBlock, if_true]
      refine Dwp.reg tT rfl fun K hK => ?_
      simp [drunL, dwanted, dopS, own, plainOf, dop, dput, eval, ofVal, Then, Ex.then, Ex.inBlock, upd, dbin, Tag.isNN, nilTest, intCmp, dload, dpart, TyI.agg, dfieldAddr, dfield, dindexAddr, dindex, dlen, lenOk, dlookup, mapOf, keyFits, dmapUpdate, dcallee, dbuiltin, dstore, DV.cells, dslice, dboundOk, dappend, appTag, rowsOf, elemOk, growLimit, dbuildCells, dbuildCells.go, structOk, fieldsOk, dbuildRows, goInt, h48]
      refine hK _ _ ?_ rfl; clear hK K
      exact ⟨l.length - (j + 1), by omega, j + 1, tag, by omega, rfl, by simp [upd, h1], by simp [upd, h3], by simp [upd, h29], by simp [upd, h30], by simp [upd, h31], by simp [upd, h5], by simp [upd, h46], by simp [upd, h47], by simp [upd, wrap1 j (by omega)]⟩
    refine Dwp.seq (Dwp.condT (by simp [eval, upd, hnlt]) (Dwp.skip ?_))
    refine Dwp.seq (Dwp.block ?_)
    refine Dwp.step tT rfl fun K hK => ?_
    simp [drunL, dwanted, dopS, own, plainOf, dop, dput, eval, ofVal, Then, Ex.then, Ex.inBlock, upd, dbin, Tag.isNN, nilTest, intCmp, dload, dpart, TyI.agg, dfieldAddr, dfield, dindexAddr, dindex, dlen, lenOk, dlookup, mapOf, keyFits, dmapUpdate, dcallee, dbuiltin, dstore, DV.cells, dslice, dboundOk, dappend, appTag, rowsOf, elemOk, growLimit, dbuildCells, dbuildCells.go, structOk, fieldsOk, dbuildRows, goInt, h67, h69, ty22, ty9, hnlt]
    refine hK _ _ ?_ rfl; clear hK K
    obtain ⟨z, hz⟩ : ∃ z, z = l[n] := ⟨_, rfl⟩
    rw [← hz]
    refine Dwp.step tT rfl fun K hK => ?_
    have g4 : s.at x y = true → s.at y z = true → s.at x z = true := fun h2 h3 => at_trans hok h2 h3
    have rest : ∀ a' σ', (a' 89 = .lit (.bool false) ∧ a' 1 = .row (EncR.sigd.enc s) 0 ∧ a' 3 = .slice 1 tag (rows1 l) ∧ a' 29 = .slice 1 tag (rows1 l) ∧ a' 30 = .lit (.int .i64 l.length) ∧ a' 31 = .lit (.int .i64 i) ∧
        a' 5 = .lit (.string x) ∧ a' 46 = .slice 1 tag (rows1 l) ∧ a' 47 = .lit (.int .i64 l.length) ∧ a' 48 = .lit (.int .i64 j) ∧ a' 7 = .lit (.string y) ∧
        a' 67 = .slice 1 tag (rows1 l) ∧ a' 68 = .lit (.int .i64 l.length) ∧ a' 69 = .lit (.int .i64 n)) → σ'.n = σ.n + 1 + 3 → K a' σ' := by
      rintro a' σ' ⟨h89, h1, h3, h29, h30, h31, h5, h46, h47, h48, h7, h67, h68, h69⟩ hn
      refine hK _ _ ?_ hn
      clear hK K
      refine Dwp.condF (by simp [eval, h89]) (Dwp.skip ?_)
      refine Dwp.reg tT rfl fun K hK => ?_
      simp [drunL, dwanted, dopS, own, plainOf, dop, dput, eval, ofVal, Then, Ex.then, Ex.inBlock, upd, dbin, Tag.isNN, nilTest, intCmp, dload, dpart, TyI.agg, dfieldAddr, dfield, dindexAddr, dindex, dlen, lenOk, dlookup, mapOf, keyFits, dmapUpdate, dcallee, dbuiltin, dstore, DV.cells, dslice, dboundOk, dappend, appTag, rowsOf, elemOk, growLimit, dbuildCells, dbuildCells.go, structOk, fieldsOk, dbuildRows, goInt, h69]
      refine hK _ _ ?_ rfl; clear hK K
      exact ⟨l.length - (n + 1), by omega, n + 1, tag, by omega, rfl, by simp [upd, h1], by simp [upd, h3], by simp [upd, h29], by simp [upd, h30], by simp [upd, h31], by simp [upd, h5], by simp [upd, h46], by simp [upd, h47], by simp [upd, h48], by simp [upd, h7], by simp [upd, h67], by simp [upd, h68], by simp [upd, wrap1 n (by omega)]⟩
    by_cases q1 : s.at x y = true
    · by_cases q2 : s.at y z = true
      · simp [drunL, dwanted, dopS, own, plainOf, dop, dput, eval, ofVal, Then, Ex.then, Ex.inBlock, upd, dbin, Tag.isNN, nilTest, intCmp, dload, dpart, TyI.agg, dfieldAddr, dfield, dindexAddr, dindex, dlen, lenOk, dlookup, mapOf, keyFits, dmapUpdate, dcallee, dbuiltin, dstore, DV.cells, dslice, dboundOk, dappend, appTag, rowsOf, elemOk, growLimit, dbuildCells, dbuildCells.go, structOk, fieldsOk, dbuildRows, goInt, h1, h5, h7, ty26, ty9, g40, q1, q2, g4 q1 q2]
        exact rest _ _ (by simp [upd, h1, h3, h29, h30, h31, h5, h46, h47, h48, h7, h67, h68, h69]) rfl
      · have q2' : s.at y z = false := by simpa using q2
        simp [drunL, dwanted, dopS, own, plainOf, dop, dput, eval, ofVal, Then, Ex.then, Ex.inBlock, upd, dbin, Tag.isNN, nilTest, intCmp, dload, dpart, TyI.agg, dfieldAddr, dfield, dindexAddr, dindex, dlen, lenOk, dlookup, mapOf, keyFits, dmapUpdate, dcallee, dbuiltin, dstore, DV.cells, dslice, dboundOk, dappend, appTag, rowsOf, elemOk, growLimit, dbuildCells, dbuildCells.go, structOk, fieldsOk, dbuildRows, goInt, h1, h5, h7, ty26, ty9, g40, q1, q2']
        exact rest _ _ (by simp [upd, h1, h3, h29, h30, h31, h5, h46, h47, h48, h7, h67, h68, h69]) rfl
    · have q1' : s.at x y = false := by simpa using q1
      simp [drunL, dwanted, dopS, own, plainOf, dop, dput, eval, ofVal, Then, Ex.then, Ex.inBlock, upd, dbin, Tag.isNN, nilTest, intCmp, dload, dpart, TyI.agg, dfieldAddr, dfield, dindexAddr, dindex, dlen, lenOk, dlookup, mapOf, keyFits, dmapUpdate, dcallee, dbuiltin, dstore, DV.cells, dslice, dboundOk, dappend, appTag, rowsOf, elemOk, growLimit, dbuildCells, dbuildCells.go, structOk, fieldsOk, dbuildRows, goInt, h1, h5, h7, ty26, ty9, g40, q1']
      exact rest _ _ (by simp [upd, h1, h3, h29, h30, h31, h5, h46, h47, h48, h7, h67, h68, h69]) rfl
  by_cases hxy : x = y
  · simp [drunL, dwanted, dopS, own, plainOf, dop, dput, eval, ofVal, Then, Ex.then, Ex.inBlock, upd, dbin, Tag.isNN, nilTest, intCmp, dload, dpart, TyI.agg, dfieldAddr, dfield, dindexAddr, dindex, dlen, lenOk, dlookup, mapOf, keyFits, dmapUpdate, dcallee, dbuiltin, dstore, DV.cells, dslice, dboundOk, dappend, appTag, rowsOf, elemOk, growLimit, dbuildCells, dbuildCells.go, structOk, fieldsOk, dbuildRows, goInt, h1, h5, ty26, ty9, hxy]
    exact rest _ _ (by simp [upd, h1, h3, h29, h30, h31, h5, h46, h47, h48, hxy]) rfl
  · by_cases q1 : s.at x y = true
    · simp [drunL, dwanted, dopS, own, plainOf, dop, dput, eval, ofVal, Then, Ex.then, Ex.inBlock, upd, dbin, Tag.isNN, nilTest, intCmp, dload, dpart, TyI.agg, dfieldAddr, dfield, dindexAddr, dindex, dlen, lenOk, dlookup, mapOf, keyFits, dmapUpdate, dcallee, dbuiltin, dstore, DV.cells, dslice, dboundOk, dappend, appTag, rowsOf, elemOk, growLimit, dbuildCells, dbuildCells.go, structOk, fieldsOk, dbuildRows, goInt, h1, h5, ty26, ty9, hxy, g40, q1, g3 hxy q1]
      exact rest _ _ (by simp [upd, h1, h3, h29, h30, h31, h5, h46, h47, h48]) rfl
    · have q1' : s.at x y = false := by simpa using q1
      simp [drunL, dwanted, dopS, own, plainOf, dop, dput, eval, ofVal, Then, Ex.then, Ex.inBlock, upd, dbin, Tag.isNN, nilTest, intCmp, dload, dpart, TyI.agg, dfieldAddr, dfield, dindexAddr, dindex, dlen, lenOk, dlookup, mapOf, keyFits, dmapUpdate, dcallee, dbuiltin, dstore, DV.cells, dslice, dboundOk, dappend, appTag, rowsOf, elemOk, growLimit, dbuildCells, dbuildCells.go, structOk, fieldsOk, dbuildRows, goInt, h1, h5, ty26, ty9, hxy, g40, q1']
      exact rest _ _ (by simp [upd, h1, h3, h29, h30, h31, h5, h46, h47, h48]) rfl
theorem e7 : Go.FA.Good Tryz.prog (7, s7) := ⟨c7, Tryz.f7, _, Tryz.func7, rfl, by decide⟩
end Go.Proofs.Yt
namespace Go.Proofs.Yt
open Go Go.FA Go.Proofs Go.RowKit Go.ChangeShapes
set_option linter.unusedVariables false
set_option linter.unusedSimpArgs false
set_option maxRecDepth 100000

theorem under_of_ty {P : Program} {t : TypeId} {i : TyI} (h : tyOf P t = some i) : P.underlying t = some i.desc := by
  unfold tyOf at h
  split at h
  · next d j h1 h2 => split at h
                      · simp at h; subst h; exact h1
                      · simp at h
  · simp at h
theorem cells_of_ty {P : Program} {t : TypeId} {i : TyI} (h : tyOf P t = some i) : P.cellsOf t = i.size := by
  unfold tyOf at h
  split at h
  · next d j h1 h2 => split at h
                      · simp at h; subst h; simp [Program.cellsOf, h2]
                      · simp at h
  · simp at h

open YtboifamdcpelfaaGreat in
def blk (H : Type) : Bulk H where
  b := Rows.uptoBulk
  ba := Rows.uptoBulkAll
  str l := by simp [Rows.uptoBulk]
  one d := by cases d with
    | lit l => cases l <;> simp [Rows.uptoBulk]
    | nil => simp [Rows.uptoBulk]
    | ptr d => simp [Rows.uptoBulk]
    | slice elems spare => simp [Rows.uptoBulk]
    | agg parts => simp [Rows.uptoBulk]
    | iface t d => simp [Rows.uptoBulk]
    | map entries => simp [Rows.uptoBulk]
    | held h => simp [Rows.uptoBulk]
  agg l := by simp [Rows.uptoBulk]
  slice l r := by simp only [Rows.uptoBulk]; omega
  cons d l := by simp [Rows.uptoBulkAll]

theorem _root_.Go.FA.Rd.to {H : Type} {K : Bulk H} {enc : TypeId × Value → H} {P : Program} {W : World} {α β : Type} {t : TypeId} {A : EncR α} {B : EncR β} {sz : α → Nat} {sz' : β → Nat} (h : Rd K enc P W t A sz) (g : α → β)
    (he : ∀ y, B.enc (g y) = A.enc y) (hs : ∀ y, sz' (g y) ≤ sz y) : Rd K enc P W t B sz' := by
  intro fuel cs x hx
  obtain ⟨y, q1, q2, q3⟩ := h fuel cs x hx
  exact ⟨g y, by rw [he]; exact q1, q2, Nat.le_trans (hs y) q3⟩

def szS (s : ByteArray) : Nat := s.size + 1
def szL {α : Type} (sz : α → Nat) (l : List α) : Nat := (l.map sz).sum + 1
def szBel (b : Bel) : Nat := szS b.low + szS b.high + 1
def szPie (b : Pie) : Nat := szS b.text + szS b.sort + 1
def szOp (o : OpD) : Nat := szS o.name + szL szS o.args + szL szPie o.pieces + szL (fun _ => 1) o.strict
def szSig (s : SigD) : Nat := szL szS s.sorts + szL szBel s.below + szL szOp s.ops + szL szOp s.funs + szL szS s.values

section
variable {H : Type} {enc : TypeId × Value → H} {W : World}
theorem rdStr : Rd (blk H) enc Tryz.prog W 9 (EncR.one Enc.str) szS := Rd.str (under_of_ty ty9)
theorem rdInt : Rd (blk H) enc Tryz.prog W 3 (EncR.one Enc.i64) (fun _ => 1) := Rd.int (under_of_ty ty3)
theorem rdInt35 : Rd (blk H) enc Tryz.prog W 35 (EncR.one Enc.i64) (fun _ => 1) := Rd.int (under_of_ty ty35)
theorem rdStrs : Rd (blk H) enc Tryz.prog W 22 (EncR.one Enc.strs) (szL szS) := Rd.slice (under_of_ty ty22) rdStr (by rw [cells_of_ty ty9]; rfl) (by decide)
theorem rdInts : Rd (blk H) enc Tryz.prog W 36 (EncR.one Enc.ints) (szL fun _ => 1) := Rd.slice (under_of_ty ty36) rdInt (by rw [cells_of_ty ty3]; rfl) (by decide)
theorem rdBel : Rd (blk H) enc Tryz.prog W 78 EncR.bel szBel :=
  (Rd.struct (A := (EncR.one Enc.str).and (EncR.one Enc.str)) (under_of_ty ty78) (by rw [cells_of_ty ty78]; rfl)
    (.cons rdStr (by rw [cells_of_ty ty9]; rfl) rfl (.one rdStr (by rw [cells_of_ty ty9]; rfl) rfl))).to (fun x => ⟨x.1, x.2⟩) (fun _ => rfl) (fun _ => Nat.le_refl _)
theorem rdPie : Rd (blk H) enc Tryz.prog W 69 EncR.pie szPie :=
  (Rd.struct (A := (EncR.one Enc.str).and (EncR.one Enc.str)) (under_of_ty ty69) (by rw [cells_of_ty ty69]; rfl)
    (.cons rdStr (by rw [cells_of_ty ty9]; rfl) rfl (.one rdStr (by rw [cells_of_ty ty9]; rfl) rfl))).to (fun x => ⟨x.1, x.2⟩) (fun _ => rfl) (fun _ => Nat.le_refl _)
theorem rdPies : Rd (blk H) enc Tryz.prog W 34 (EncR.one Enc.pies) (szL szPie) := Rd.slice (under_of_ty ty34) rdPie (by rw [cells_of_ty ty69]; rfl) (by decide)
theorem rdBels : Rd (blk H) enc Tryz.prog W 23 (EncR.one Enc.bels) (szL szBel) := Rd.slice (under_of_ty ty23) rdBel (by rw [cells_of_ty ty78]; rfl) (by decide)
theorem rdOp : Rd (blk H) enc Tryz.prog W 38 EncR.opd szOp :=
  (Rd.struct (A := (EncR.one Enc.str).and ((EncR.one Enc.strs).and ((EncR.one Enc.str).and ((EncR.one Enc.pies).and ((EncR.one Enc.i64).and ((EncR.one Enc.i64).and (EncR.one Enc.ints))))))) (under_of_ty ty38) (by rw [cells_of_ty ty38]; rfl)
    (.cons rdStr (by rw [cells_of_ty ty9]; rfl) rfl (.cons rdStrs (by rw [cells_of_ty ty22]; rfl) rfl (.cons rdStr (by rw [cells_of_ty ty9]; rfl) rfl (.cons rdPies (by rw [cells_of_ty ty34]; rfl) rfl
      (.cons rdInt (by rw [cells_of_ty ty3]; rfl) rfl (.cons rdInt35 (by rw [cells_of_ty ty35]; rfl) rfl (.one rdInts (by rw [cells_of_ty ty36]; rfl) rfl)))))))).to
    (fun x => ⟨x.1, x.2.1, x.2.2.1, x.2.2.2.1, x.2.2.2.2.1, x.2.2.2.2.2.1, x.2.2.2.2.2.2⟩) (fun _ => rfl) (fun y => by simp only [szOp]; omega)
theorem rdOps : Rd (blk H) enc Tryz.prog W 24 (EncR.one Enc.ops) (szL szOp) := Rd.slice (under_of_ty ty24) rdOp (by rw [cells_of_ty ty38]; rfl) (by decide)
theorem rdSig : Rd (blk H) enc Tryz.prog W 26 EncR.sigd szSig :=
  (Rd.struct (A := (EncR.one Enc.strs).and ((EncR.one Enc.bels).and ((EncR.one Enc.ops).and ((EncR.one Enc.ops).and (EncR.one Enc.strs))))) (under_of_ty ty26) (by rw [cells_of_ty ty26]; rfl)
    (.cons rdStrs (by rw [cells_of_ty ty22]; rfl) rfl (.cons rdBels (by rw [cells_of_ty ty23]; rfl) rfl (.cons rdOps (by rw [cells_of_ty ty24]; rfl) rfl (.cons rdOps (by rw [cells_of_ty ty24]; rfl) rfl (.one rdStrs (by rw [cells_of_ty ty22]; rfl) rfl)))))).to
    (fun x => ⟨x.1, x.2.1, x.2.2.1, x.2.2.2.1, x.2.2.2.2⟩) (fun _ => rfl) (fun y => by simp only [szSig]; omega)
end
theorem len_le {α : Type} {sz : α → Nat} (h : ∀ x, 1 ≤ sz x) : ∀ l : List α, l.length ≤ (l.map sz).sum
  | [] => by simp
  | x :: l => by have := len_le h l; have := h x; simp; omega
theorem mem_le {α : Type} {sz : α → Nat} {x : α} : ∀ {l : List α}, x ∈ l → sz x ≤ (l.map sz).sum
  | y :: l, h => by
    rcases List.mem_cons.1 h with rfl | h
    · simp
    · have := mem_le (sz := sz) h; simp; omega
theorem sig_ok {s : SigD} (h : szSig s ≤ 1048576) : s.ok := by
  have h1 := len_le (sz := szS) (fun x => by unfold szS; omega) s.sorts
  have h2 := len_le (sz := szBel) (fun x => by unfold szBel; omega) s.below
  have h3 := len_le (sz := szOp) (fun x => by unfold szOp szS; omega) s.ops
  have h4 := len_le (sz := szOp) (fun x => by unfold szOp szS; omega) s.funs
  have h5 := len_le (sz := szS) (fun x => by unfold szS; omega) s.values
  unfold szSig at h
  simp only [szL] at h
  refine ⟨by omega, by omega, by omega, by omega, fun o ho => ?_⟩
  have : szOp o ≤ 1048576 := by
    rcases ho with ho | ho
    · have := mem_le (sz := szOp) ho; omega
    · have := mem_le (sz := szOp) ho; omega
  have k1 := len_le (sz := szS) (fun x => by unfold szS; omega) o.args
  have k2 := len_le (sz := szPie) (fun x => by unfold szPie; omega) o.pieces
  have k3 := len_le (sz := fun _ : Int => 1) (fun x => by omega) o.strict
  unfold szOp at this
  simp only [szL, szS] at this k1
  omega
theorem own_ : ownKnob Tryz.prog.godebug = none := by kernel_rfl
theorem laidOut_ : laidOutB Tryz.prog = true := by kernel_rfl
end Go.Proofs.Yt
namespace Go.FA
open Go.RowKit Go.ChangeShapes
set_option linter.unusedVariables false
set_option linter.unusedSimpArgs false

section
variable {H : Type} (K : Bulk H) (enc : TypeId × Value → H) (P : Program) (W : World)
/-- an argument of a type is data -/
def ARd1 {α : Type} (t : TypeId) (A : Enc α) (sz : α → Nat) : Prop :=
  ∀ (base : Nat) (v : Value) (d : DataW H) (ps : List MemPlace), Value.okWide P W .any base t v → DataW.Trod enc P W 0 (fun _ => true) true t v d ps → ∃ y, VRel (ctxOf W) W (A.enc y) v ∧ sz y ≤ K.b d
/-- a call's arguments are data -/
def ARd {α : Type} (ts : List TypeId) (A : EncR α) (sz : α → Nat) : Prop :=
  ∀ (base : Nat) (args : List Value) (ds : List (DataW H)) (ps : List MemPlace), (∀ (j : Nat) t v, ts[j]? = some t → args[j]? = some v → Value.okWide P W .any base t v) →
    DataW.TrodAll enc P W 0 (fun _ => true) true ts args ds ps → ∃ y, LRel (ctxOf W) W (A.enc y) args ∧ sz y ≤ K.ba ds
variable {K enc P W}
theorem ARd1.cell {α : Type} {t : TypeId} {A : Enc α} {sz : α → Nat} (h : Rd K enc P W t (EncR.one A) sz) (hna : ∀ base cs, ¬ Value.okWide P W .any base t (.agg cs)) : ARd1 K enc P W t A sz := by
  intro base v d ps hok hd
  obtain ⟨fuel, hf⟩ := hd
  obtain ⟨y, q1, _, q3⟩ := h fuel _ _ hf
  refine ⟨y, ?_, q3⟩
  have hc : v.cells = #[v] := by
    unfold Value.cells
    split
    · exact absurd hok (hna _ _)
    · rfl
  rw [hc] at q1
  simp only [EncR.one, LRel] at q1
  exact q1.1
theorem ARd1.agg {α : Type} {t : TypeId} {fs : Array Field} {A : EncR α} {sz : α → Nat} (ht : P.underlying t = some (.struct fs)) (h : Rd K enc P W t A sz) : ARd1 K enc P W t (Enc.agg A) sz := by
  intro base v d ps hok hd
  obtain ⟨fuel, hf⟩ := hd
  obtain ⟨y, q1, q2, q3⟩ := h fuel _ _ hf
  simp only [Value.okWide, ht] at hok
  obtain ⟨cs, rfl, _⟩ := hok
  refine ⟨y, ?_, q3⟩
  simp only [Enc.agg, VRel]
  exact ⟨cs.toList, by simp, by simpa [Value.cells] using q1, by simpa [Value.cells] using q2⟩
theorem ARd.one {α : Type} {t : TypeId} {A : Enc α} {sz : α → Nat} (h : ARd1 K enc P W t A sz) : ARd K enc P W [t] (EncR.one A) sz := by
  intro base args ds ps hok hd
  obtain ⟨v, vs, d, ds', p, q, rfl, rfl, rfl, h1, h2⟩ := trodAll_cons hd
  obtain ⟨rfl, rfl, rfl⟩ := trodAll_nil h2
  obtain ⟨y, q1, q2⟩ := h base v d p (hok 0 t v rfl rfl) h1
  have := K.cons d []
  exact ⟨y, by simp only [EncR.one, LRel]; exact ⟨q1, trivial⟩, by omega⟩
theorem ARd.cons {α β : Type} {t : TypeId} {ts : List TypeId} {A : Enc α} {B : EncR β} {sz : α → Nat} {sz' : β → Nat} (h : ARd1 K enc P W t A sz) (ht : ARd K enc P W ts B sz') : ARd K enc P W (t :: ts) ((EncR.one A).and B) (fun x => sz x.1 + sz' x.2) := by
  intro base args ds ps hok hd
  obtain ⟨v, vs, d, ds', p, q, rfl, rfl, rfl, h1, h2⟩ := trodAll_cons hd
  obtain ⟨y, q1, q2⟩ := h base v d p (hok 0 t v rfl rfl) h1
  obtain ⟨z, r1, r2⟩ := ht base vs ds' q (fun j t' v' a b => hok (j + 1) t' v' (by simpa using a) (by simpa using b)) h2
  have := K.cons d ds'
  exact ⟨(y, z), by simp only [EncR.and, EncR.one, List.cons_append, List.nil_append, LRel]; exact ⟨q1, r1⟩, by simp only []; omega⟩

theorem trodAll_stays (hl : laidOutB P = true) {W' : World} (hb : Below W.heap.size W W') : ∀ {ts : List TypeId} {vs : List Value} {ds : List (DataW H)} {ps : List MemPlace} {sp : Nat → Bool},
    (∀ t ∈ ts, P.readableRec t = true ∧ t < P.types.size) → DataW.TrodAll enc P W 0 (fun _ => true) true ts vs ds ps → (∀ p ∈ ps, p.block < W.heap.size) → (∀ p ∈ ps, sp p.block = true) → DataW.TrodAll enc P W' 0 sp true ts vs ds ps
  | [], _, _, _, _, _, h, _, _ => by
    obtain ⟨rfl, rfl, rfl⟩ := trodAll_nil h
    rfl
  | t :: ts, _, _, _, _, hr, h, hlt, hsp => by
    obtain ⟨v, vs, d, ds', p, q, rfl, rfl, rfl, h1, h2⟩ := trodAll_cons h
    exact ⟨p, q, WideElems.Trod_stays hl (hr t (by simp)).1 (hr t (by simp)).2 h1 (fun x hx => hb.same (hlt x (by simp [hx]))) (fun x hx => hsp x (by simp [hx])),
      trodAll_stays hl hb (fun t' ht' => hr t' (by simp [ht'])) h2 (fun x hx => hlt x (by simp [hx])) (fun x hx => hsp x (by simp [hx])), rfl⟩

/-- A LAW OUT OF A CONTRACT: the call returns true, its arguments read as before -/
theorem law_post {f : FuncId} {fn : Func} {S : Sp} {dvs : List DV} {args : Array Value} {ds gs : List (DataW H)} {before : List MemPlace} {s : ChangeSpec} {t : TypeId}
    (hl : laidOutB P = true) (hcs : CallSound P f S) (hS : S dvs = some (.lit (.bool true))) (hvars : s.vars = []) (hrd : ∀ t ∈ fn.params.toList, P.readableRec t = true ∧ t < P.types.size)
    (hfn : (s.fn H (ds ++ gs)).results = [.lit (.bool true)] ∧ (s.fn H (ds ++ gs)).args = ds ∧ (s.fn H (ds ++ gs)).vars = []) (hrt : fn.resultTypes = #[t]) (hbool : P.underlying t = some .bool)
    (hW : DataW.Whole enc P fn.params.toList s.vars false W args.toList ds gs before) (hrel : LRel (ctxOf W) W dvs args.toList) :
    Calls P f args W fun e W' => ∃ v, e = .returned v ∧ s.post enc P fn false true false false W args v W' := by
  have hlt := hW.lt
  have hW' := hW
  obtain ⟨p, q, hA, hV, rfl, hfz, hnd⟩ := hW
  rw [hvars] at hV
  obtain ⟨rfl, rfl⟩ := trodVars_none hV
  rcases hcs dvs _ hS with ⟨_, hc⟩ | ⟨k, rows, hr, _⟩
  · refine (hc (ctxOf W) W args.toList (fun b o h => h) (fun b h => h) hrel).mono fun e W' ⟨v, he, hb, hv⟩ => ?_
    subst he
    simp only [VRel] at hv
    subst hv
    have hpl : ∀ x ∈ p, x.block < W.heap.size := fun x hx => hlt x (by simp [hx])
    have hres : ∀ (b : Nat) (sp : Nat → Bool) (hd : Bool), DataW.TrodAll enc P W' b sp hd fn.resultTypes.toList ((Value.bool true).resultList fn.resultTypes.size) (s.fn H (ds ++ [])).results [] := fun b sp hd => by
      rw [hfn.1, hrt]; exact trodAll_cons_mk (shut_bool hbool _) trodAll_mk0
    have hargs : ∀ sp : Nat → Bool, (∀ x ∈ p, sp x.block = true) → DataW.TrodAll enc P W' 0 sp true fn.params.toList args.toList (s.fn H (ds ++ [])).args p := fun sp hsp => by
      rw [hfn.2.1]; exact trodAll_stays hl hb hrd hA hpl hsp
    have hvs : ∀ sp : Nat → Bool, DataW.TrodVars enc P W' sp s.vars (s.fn H (ds ++ [])).vars [] := fun sp => by rw [hfn.2.2, hvars]; rfl
    refine ⟨_, rfl, ds, [], p ++ [], [], p, [], hW', hres _ _ _, hargs _ (fun x hx => by simpa using hpl x hx), hvs _, ?_, fun _ => ⟨ok_one hrt rfl (okWide_bool_mk hbool _), (s.fn H (ds ++ [])).results ++ (s.fn H (ds ++ [])).args, _, p ++ [], ⟨p, [], ?_, hvs (fun _ => true), rfl, ?_, ?_⟩, ?_⟩⟩
    · exact World.keptBut_mono (fun x hx => ⟨hx, .inr (by simpa using hx)⟩) (hb.frame (· ∈ p ++ []))
    · have := trodAll_append (hargs _ fun _ _ => rfl) (hres 0 (fun _ => true) true)
      simpa using this
    · intro b off hx
      rw [hb.frozen (hlt _ hx)]; exact hfz b off hx
    · intro q; cases q
    · intro x hx _; simpa using hx
  · cases hr
end
end Go.FA
namespace Go.Proofs.Yt
open Go Go.FA Go.Proofs Go.RowKit Go.ChangeShapes
open YtboifamdcpelfaaGreat
set_option linter.unusedVariables false
set_option linter.unusedSimpArgs false
set_option maxRecDepth 100000

theorem readable26 : Tryz.prog.readableRec 26 = true := by kernel_rfl
theorem types26 : 26 < Tryz.prog.types.size := of_decide_eq_true (by kernel_rfl)
theorem readable9 : Tryz.prog.readableRec 9 = true := by kernel_rfl
theorem types9 : 9 < Tryz.prog.types.size := of_decide_eq_true (by kernel_rfl)
theorem bulk_le {H : Type} {l : List (DataW H)} (hk : Rows.uptoSmall H l = true) : Rows.uptoBulkAll l ≤ 1048576 := of_decide_eq_true hk
section
variable {H : Type} {enc : TypeId × Value → H} {W : World}
theorem argSig : ARd1 (blk H) enc Tryz.prog W 26 Enc.sigd szSig := ARd1.agg (under_of_ty ty26) rdSig
theorem argStr : ARd1 (blk H) enc Tryz.prog W 9 Enc.str szS := ARd1.cell rdStr fun base cs h => by
  simp [Value.okWide, under_of_ty ty9, Cell.okWide, Cell.ok] at h
end

theorem law7 (H : Type) (enc : TypeId × Value → H) (W : World) (base : Nat) (args : Array Value) (ds gs : List (DataW H)) (before : List MemPlace)
    (hval : ∀ (j : Nat) t v, Tryz.f7.params[j]? = some t → args[j]? = some v → Value.okWide Tryz.prog W .any base t v)
    (hW : DataW.Whole enc Tryz.prog Tryz.f7.params.toList Rows.sortsOrderedSpec.vars false W args.toList ds gs before) (hk : Rows.uptoSmall H (ds ++ gs) = true) :
    Calls Tryz.prog 7 args W fun e W' => ∃ v, e = .returned v ∧ Rows.sortsOrderedSpec.post enc Tryz.prog Tryz.f7 false true false false W args v W' := by
  have hW' := hW
  obtain ⟨p, q, hA0, hV, rfl, hfz, hnd⟩ := hW
  have hA : DataW.TrodAll enc Tryz.prog W 0 (fun _ => true) true [26] args.toList ds p := hA0
  obtain ⟨rfl, rfl⟩ := trodVars_none hV
  obtain ⟨y, h1, h2⟩ := (ARd.one argSig) base args.toList ds p (fun j t v a b => hval j t v (by simpa using a) (by simpa using b)) hA
  have hb := bulk_le hk
  simp only [List.append_nil] at hb
  have hy : y.ok := sig_ok (Nat.le_trans h2 hb)
  obtain ⟨v, vs, d, ds', p', q', hargs, rfl, rfl, hd, hr⟩ := trodAll_cons hA
  obtain ⟨rfl, rfl, rfl⟩ := trodAll_nil hr
  refine law_post laidOut_ c7 (dvs := [Enc.sigd.enc y]) (t := 4) ?_ rfl ?_ ⟨rfl, rfl, rfl⟩ rfl (under_of_ty ty4) hW' h1
  · simp only [s7, sp, arg1, EncR.one, Enc.sigd.de, Option.bind_some, if_pos hy]; rfl
  · intro t ht
    have ht' : t ∈ ([26] : List TypeId) := ht
    simp only [List.mem_singleton] at ht'
    subst ht'; exact ⟨readable26, types26⟩

set_option maxRecDepth 100000 in
theorem lifted7 (os : Os) (started : os.Started) (H : Type) (enc : TypeId × Value → H) (F : Stop.Interp) :
    ReturnsInHanded {} Tryz.checked os 7 .any ((Rows.OpenSpec.upto Rows.sortsOrderedSpec).pre6 enc Tryz.prog Tryz.f7 Rows.sortsOrderedUptoRow.domain false) (((Rows.OpenSpec.upto Rows.sortsOrderedSpec).at F).post enc Tryz.prog Tryz.f7 false true false false) := by
  refine returnsInHanded_of_cond (C := Tryz.checked) (s := Rows.OpenSpec.upto Rows.sortsOrderedSpec) (k := Rows.uptoSmall) rfl own_ started (by kernel_rfl) Tryz.func7
    (OpenSpec.witness (enc := enc) (C := Tryz.checked) (s := Rows.OpenSpec.upto Rows.sortsOrderedSpec) (k := Rows.uptoSmall) rfl false ⟨#[], #[.agg #[.slice none 0 0, .slice none 0 0, .slice none 0 0, .slice none 0 0, .slice none 0 0]], []⟩ 8 (by kernel_rfl) (by kernel_rfl) (by kernel_rfl)
      (x := ([.agg [.nil, .nil, .nil, .nil, .nil]], [], [])) (by kernel_rfl) rfl (by kernel_rfl)) ?_
  intro W base args ds gs before hval hW _ hk _
  exact law7 H enc W base args ds gs before hval hW hk

theorem over7 : Rows.sortsOrderedUptoRow.holds Tryz.pinned (Rows.OpenSpec.upto Rows.sortsOrderedSpec) :=
  OpenClaim.holds_of_cond 7 Tryz.f7 rfl rfl rfl rfl rfl rfl rfl ⟨rfl, rfl, rfl, rfl, rfl⟩ rfl rfl rfl rfl rfl (by kernel_rfl) Tryz.func7 (by kernel_rfl)
    (of_decide_eq_true (by kernel_rfl)) (by unfold Func.isWrapper; first | (rw [if_pos (by decide +kernel)]; kernel_rfl) | (rw [if_neg (by decide +kernel)]; exact ⟨rfl, rfl⟩))
    (fun os started H enc _ F => lifted7 os started H enc F)

theorem sortsOrderedUpto_holds : Rows.SortsOrderedUptoSaid := over7

end Go.Proofs.Yt
namespace Go.Proofs.YtboifamdcpelfaaGreat
theorem sortsOrderedUpto : Rows.SortsOrderedUptoSaid := Go.Proofs.Yt.sortsOrderedUpto_holds
end Go.Proofs.YtboifamdcpelfaaGreat
