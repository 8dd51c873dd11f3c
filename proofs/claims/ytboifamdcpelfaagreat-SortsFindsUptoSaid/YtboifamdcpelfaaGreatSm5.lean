/- Contracts of functions of the program, by a machine over abstract values; part 6. No condition beyond those of each theorem. -/
import Derived.Test.YtboifamdcpelfaaGreatSm4
namespace Go.Proofs.Yt
open Go Go.FA Go.Proofs
set_option linter.unusedVariables false
set_option linter.unusedSimpArgs false
set_option maxRecDepth 100000

def OutNil (σ : St) (out : List ByteArray) (d : DV) : Prop := (out = [] ∧ d = .lit (.slice none 0 0)) ∨ ∃ tk g, d = .slice 1 (.tok tk g) (rows1 out) ∧ σ.toks tk = some g
theorem OutNil.toks {σ τ : St} {out : List ByteArray} {d : DV} (h : OutNil σ out d) (e : τ.toks = σ.toks) : OutNil τ out d := by unfold OutNil; rw [e]; exact h
/-- what holds of SORTS found, or the error -/
def hitB (s : SigD) (x : ByteArray) (q : ByteArray → Bool) : List ByteArray := if sureE s [x] = 0 then (allS s).filter q else []
def hitF (s : SigD) (x : ByteArray) (q : ByteArray → Bool) : List ByteArray × Int := (sortB (hitB s x q), sureE s [x])
theorem hit_len {s : SigD} (h : s.ok2) (x : ByteArray) (q : ByteArray → Bool) : (hitB s x q).length ≤ 1000 := by
  unfold hitB
  split
  case isFalse => simp
  next he =>
  have hv : s.vld = true := by
    unfold sureE at he
    cases hv : s.vld with
    | true => rfl
    | false => rw [hv] at he; simp at he
  have hw := (vld_facts h.1 hv).1
  simp only [SigD.within, Bool.and_eq_true, decide_eq_true_eq] at hw
  have h1 := List.length_filter_le q (allS s)
  have h2 : (allS s).length = 7 + s.sorts.length := by simp only [allS, always, List.length_append, List.length_cons, List.length_nil]
  omega

def s28 : Sp := sp (arg2 Enc.sigd Enc.str) Enc.strsErr (fun x => if x.1.ok2 ∧ x.1.below.length ≤ 250 then some (hitF x.1 x.2 (fun z => underB x.1 x.2 z)) else none)
abbrev T28 : Tab := tabOf [(51, s51), (52, s52), (63, s63), (64, s64)]
theorem t28 : TabOk Tryz.prog T28 := .cons e51 (.cons e52 (.cons e63 (.cons e64 .nil)))
attribute [local simp] drunL drunO dwanted dopS own plainOf dop dput eval ofVal Then Ex.then Ex.inBlock upd dbin Tag.isNN nilTest intCmp dload dpart TyI.agg dfieldAddr dfield dindexAddr dindex dlen lenOk dlookup mapOf keyFits dmapUpdate dcallee dbuiltin dstore DV.cells dslice dboundOk dappend appTag rowsOf elemOk growLimit dbuildCells dbuildCells.go structOk fieldsOk dbuildRows goInt
theorem c28 : CallSound Tryz.prog 28 s28 := by
  refine CallSound.of_sp (T := T28) Tryz.func28 rfl (Nat.le_of_ble_eq_true rfl) fun E xx y hy => ?_
  obtain ⟨s, x⟩ := xx
  simp only [] at hy
  split at hy
  case isFalse => cases hy
  next hh =>
  obtain ⟨hok, hbl⟩ := hh
  cases hy
  have g51 := call51 T28 rfl s (.slice 1 .full [[.lit (.string x)]]) [x] rfl hok hbl (by simp)
  have g52 := fun z => call52 T28 rfl s x z hbl
  have g63 := call63 T28 rfl hok.1
  have g64 := fun d l hd h => call64 T28 rfl d l hd h
  have hlen7 : (allS s).length ≤ 1048583 := by have := hok.1.1; simp only [allS, List.length_append, always, List.length_cons, List.length_nil]; omega
  have hhl := hit_len hok x (fun z => underB s x z)
  have tT := t28
  generalize T28 = T at *
  refine Dwp.step tT rfl fun K hK => ?_
  simp [init, arg2, EncR.and, EncR.one, Enc.sigd, Enc.agg, Enc.str]
  refine hK _ _ ?_ rfl; clear hK K
  refine Dwp.step tT rfl fun K hK => ?_
  simp [init, ty26, ty22, ty9, g51]
  refine hK _ _ ?_ rfl; clear hK K
  refine Dwp.step tT rfl fun K hK => ?_
  simp []
  refine hK _ _ ?_ rfl; clear hK K
  refine Dwp.seq ?_
  refine Dwp.step tT rfl fun K hK => ?_
  simp [σ0, ty26, ty22, g63]
  refine hK _ _ ?_ rfl; clear hK K
  obtain ⟨e, he⟩ : ∃ e, e = sureE s [x] := ⟨_, rfl⟩
  obtain ⟨L, hL⟩ : ∃ L, L = allS s := ⟨_, rfl⟩
  rw [← he, ← hL]
  rw [← hL] at hlen7
  obtain ⟨A, hA⟩ : ∃ A : Nat → DV, A = fun t => if t = 1 then .lit (.string x) else if t = 2 then .row (EncR.sigd.enc s) 0 else if t = 6 then .lit (.int .i64 e) else if t = 7 then .lit (.slice none 0 0) else if t = 15 then .slice 1 (.tok 10 0) (rows1 L) else if t = 16 then .lit (.int .i64 L.length) else if t = 17 then .lit (.int .i64 0) else .junk := ⟨_, rfl⟩
  refine Dwp.weaken A (fun t => ?_) ?_
  · rw [hA]
    by_cases h1 : t = 1
    · subst h1; simp [upd, init]; exact .refl _
    by_cases h2 : t = 2
    · subst h2; simp [upd]; exact .refl _
    by_cases h6 : t = 6
    · subst h6; simp [upd]; exact .refl _
    by_cases h7 : t = 7
    · subst h7; simp [upd]; exact .refl _
    by_cases h15 : t = 15
    · subst h15; simp [upd]; exact .refl _
    by_cases h16 : t = 16
    · subst h16; simp [upd]; exact .refl _
    by_cases h17 : t = 17
    · subst h17; simp [upd]; exact .refl _
    simp only [h1, h2, h6, h7, h15, h16, h17, if_false]
    exact fun C w v h => by simp [VRel]
  obtain ⟨q, hq⟩ : ∃ q : ByteArray → Bool, q = fun z => underB s x z := ⟨_, rfl⟩
  rw [← hq] at hhl
  rw [← hq]
  refine Dwp.range tT L.length (fun i a σ => a 1 = .lit (.string x) ∧ a 2 = .row (EncR.sigd.enc s) 0 ∧ a 6 = .lit (.int .i64 e) ∧ a 15 = .slice 1 (.tok 10 0) (rows1 L) ∧ OutNil σ (if e = 0 then (L.take i).filter q else []) (a 7))
    ⟨rfl, rfl, rfl⟩ ⟨rfl, rfl, rfl⟩ ⟨rfl, rfl, rfl⟩ (by decide) (by decide) (by omega) (by rw [hA]; rfl) (by rw [hA]; rfl) ⟨by rw [hA]; rfl, by rw [hA]; rfl, by rw [hA]; rfl, by rw [hA]; rfl, .inl ⟨by simp, by rw [hA]; rfl⟩⟩ ?_ ?_
  · rintro i a σ hi hidx hlen ⟨k1, k2, k6, k15, k7⟩
    obtain ⟨z, hz⟩ : ∃ z, z = L[i] := ⟨_, rfl⟩
    refine Dwp.step tT rfl fun K hK => ?_
    simp [hidx, k15, ty22, ty9, hi, ← hz]
    refine hK _ _ ?_ rfl; clear hK K
    refine Dwp.step tT rfl fun K hK => ?_
    have stay : (if e = 0 then (L.take (i + 1)).filter q else []) = (if e = 0 then (L.take i).filter q else []) ++ (if e = 0 ∧ q z = true then [z] else []) := by
      rw [List.take_succ_eq_append_getElem hi, ← hz]
      by_cases h0 : e = 0 <;> by_cases h1 : q z = true <;> simp [h0, h1]
    by_cases h0 : e = 0
    case neg =>
      have h0' : (e == 0) = false := by simpa using h0
      simp [k1, k2, k6, h0']
      refine hK _ _ ?_ rfl; clear hK K
      refine Dwp.condF (by simp [eval, upd]) (Dwp.skip ?_)
      refine ⟨by simp [upd, hidx], by simp [upd, hlen], by simp [upd, k1], by simp [upd, k2], by simp [upd, k6], by simp [upd, k15], ?_⟩
      rw [stay]
      simp [h0, upd] at k7 ⊢
      exact k7.toks rfl
    subst h0
    simp [k1, k2, k6, ty26, ty9, g52]
    refine hK _ _ ?_ rfl; clear hK K
    cases h1 : underB s x z with
    | false =>
      refine Dwp.condF (by simp [eval, upd, h1]) (Dwp.skip ?_)
      refine ⟨by simp [upd, hidx], by simp [upd, hlen], by simp [upd, k1], by simp [upd, k2], by simp [upd, k6], by simp [upd, k15], ?_⟩
      have h1' : q z = false := by rw [hq]; exact h1
      rw [stay]
      simp [h1', upd] at k7 ⊢
      exact k7.toks rfl
    | true =>
      refine Dwp.condT (by simp [eval, upd, h1]) ?_
      have h1' : q z = true := by rw [hq]; exact h1
      obtain ⟨out, hout⟩ : ∃ out, out = (L.take i).filter q := ⟨_, rfl⟩
      have hol : out.length ≤ 1048583 := by
        rw [hout]; refine Nat.le_trans (List.length_filter_le _ _) ?_; rw [List.length_take]; omega
      rw [if_pos rfl, ← hout] at k7
      have stay2 : (if (0 : Int) = 0 then (L.take (i + 1)).filter q else []) = out ++ [z] := by
        rw [if_pos rfl, List.take_succ_eq_append_getElem hi, ← hz, List.filter_append, ← hout]; simp [h1']
      refine Dwp.reg tT rfl fun K hK => ?_
      have fin := fun (a'' : Nat → DV) (τ'' : St) (h : a'' 17 = .lit (.int .i64 i) ∧ a'' 16 = .lit (.int .i64 L.length) ∧ a'' 1 = .lit (.string x) ∧ a'' 2 = .row (EncR.sigd.enc s) 0 ∧ a'' 6 = .lit (.int .i64 0) ∧ a'' 15 = .slice 1 (.tok 10 0) (rows1 L) ∧ OutNil τ'' (out ++ [z]) (a'' 7)) hn => hK a'' τ'' ⟨h.1, h.2.1, by simp [upd, h.2.2.1], by simp [upd, h.2.2.2.1], by simp [upd, h.2.2.2.2.1], by simp [upd, h.2.2.2.2.2.1], by rw [stay2]; simp only [upd]; exact h.2.2.2.2.2.2.toks rfl⟩ hn
      have hg : out.length + 1 ≤ 16777216 := by omega
      have hr : ∀ l : List ByteArray, l.map (fun x => [DV.lit (.string x)]) ++ [[.lit (.string z)]] = rows1 (l ++ [z]) := fun l => by simp [rows1]
      rcases k7 with ⟨ho, k7⟩ | ⟨tk, gg, k7, hgg⟩
      · simp [k7, ty22, ty9]
        exact fin _ _ ⟨by simp [upd, hidx], by simp [upd, hlen], by simp [upd, k1], by simp [upd, k2], by simp [upd, k6], by simp [upd, k15], .inr ⟨σ.n + 1 + 3 + 8 + 3, 0, by simp [upd, rows1, ho], by simp [upd]⟩⟩ rfl
      · simp [k7, ty22, ty9, hgg, hg]
        exact fin _ _ ⟨by simp [upd, hidx], by simp [upd, hlen], by simp [upd, k1], by simp [upd, k2], by simp [upd, k6], by simp [upd, k15], .inr ⟨tk, gg + 1, by simp [upd, rows1], by simp [upd]⟩⟩ rfl
  · rintro a σ hidx hlen ⟨k1, k2, k6, k15, k7⟩
    rw [List.take_length] at k7
    have hb : (if e = 0 then L.filter q else []) = hitB s x q := by unfold hitB; rw [← he, ← hL]
    rw [hb] at k7
    have hF : hitF s x q = (sortB (hitB s x q), e) := by rw [he]; rfl
    rw [hF]
    generalize hitB s x q = H at *
    refine Dwp.step tT rfl fun K hK => ?_
    have fin2 : ∀ (a'' : Nat → DV) (τ'' : St) (tg : Tag), tg = .none → a'' 4 = .slice 1 tg (rows1 (sortB H)) → a'' 5 = .lit (.int .i64 e) → Dwp Tryz.prog T E Tryz.f28.ntmps Code.ret (Done Tryz.prog Tryz.f28.results Enc.strsErr (sortB H, e)) a'' τ'' := by
      intro a'' τ'' tg hq h4 h5
      subst hq
      refine Dwp.ret ⟨.inr rfl, .tuple [.slice 1 .none (rows1 (sortB H)), .lit (.int .i64 e)], ?_, ?_⟩
      · show dresults Tryz.prog _ _ [ResultVar.tmp 4, ResultVar.tmp 5] = _
        simp [dresults, dres, h4, h5]
      · exact Enc.strsErr.de (sortB H, e)
    rcases k7 with ⟨ho, k7⟩ | ⟨tk, gg, k7, hgg⟩
    · have g := g64 (.lit (.slice none 0 0)) [] rfl (by simp)
      simp [k7, k6, g]
      refine hK _ _ (fin2 _ _ _ rfl (by simp [upd]; rw [ho]) (by simp [upd])) rfl
    · have g := g64 (.slice 1 (.tok tk gg) (rows1 H)) H (by have := decRows_enc (EncR.one Enc.str) H; exact this) hhl
      simp [k7, k6, g]
      refine hK _ _ (fin2 _ _ _ rfl (by simp [upd]) (by simp [upd])) rfl
theorem e28 : Go.FA.Good Tryz.prog (28, s28) := ⟨c28, Tryz.f28, _, Tryz.func28, rfl, by decide⟩
theorem call28 (T : Tab) (hT : T 28 = some s28) {s : SigD} (x : ByteArray) (h : s.ok2) (hb : s.below.length ≤ 250) : dcall T 28 [.agg (EncR.sigd.enc s), .lit (.string x)] = some (.tuple [.slice 1 .none (rows1 (sortB (hitB s x fun z => underB s x z))), .lit (.int .i64 (sureE s [x]))]) :=
  dcall2 (A := Enc.sigd) (B := Enc.str) (C := Enc.strsErr) (x := s) (y := x) hT (if_pos ⟨h, hb⟩)

def s31 : Sp := sp (arg2 Enc.sigd Enc.str) Enc.strsErr (fun x => if x.1.ok2 ∧ x.1.below.length ≤ 250 then some (hitF x.1 x.2 (fun z => underB x.1 z x.2)) else none)
theorem c31 : CallSound Tryz.prog 31 s31 := by
  refine CallSound.of_sp (T := T28) Tryz.func31 rfl (Nat.le_of_ble_eq_true rfl) fun E xx y hy => ?_
  obtain ⟨s, x⟩ := xx
  simp only [] at hy
  split at hy
  case isFalse => cases hy
  next hh =>
  obtain ⟨hok, hbl⟩ := hh
  cases hy
  have g51 := call51 T28 rfl s (.slice 1 .full [[.lit (.string x)]]) [x] rfl hok hbl (by simp)
  have g52 := fun z => call52 T28 rfl s z x hbl
  have g63 := call63 T28 rfl hok.1
  have g64 := fun d l hd h => call64 T28 rfl d l hd h
  have hlen7 : (allS s).length ≤ 1048583 := by have := hok.1.1; simp only [allS, List.length_append, always, List.length_cons, List.length_nil]; omega
  have hhl := hit_len hok x (fun z => underB s z x)
  have tT := t28
  generalize T28 = T at *
  refine Dwp.step tT rfl fun K hK => ?_
  simp [init, arg2, EncR.and, EncR.one, Enc.sigd, Enc.agg, Enc.str]
  refine hK _ _ ?_ rfl; clear hK K
  refine Dwp.step tT rfl fun K hK => ?_
  simp [init, ty26, ty22, ty9, g51]
  refine hK _ _ ?_ rfl; clear hK K
  refine Dwp.step tT rfl fun K hK => ?_
  simp []
  refine hK _ _ ?_ rfl; clear hK K
  refine Dwp.seq ?_
  refine Dwp.step tT rfl fun K hK => ?_
  simp [σ0, ty26, ty22, g63]
  refine hK _ _ ?_ rfl; clear hK K
  obtain ⟨e, he⟩ : ∃ e, e = sureE s [x] := ⟨_, rfl⟩
  obtain ⟨L, hL⟩ : ∃ L, L = allS s := ⟨_, rfl⟩
  rw [← he, ← hL]
  rw [← hL] at hlen7
  obtain ⟨A, hA⟩ : ∃ A : Nat → DV, A = fun t => if t = 1 then .lit (.string x) else if t = 2 then .row (EncR.sigd.enc s) 0 else if t = 6 then .lit (.int .i64 e) else if t = 7 then .lit (.slice none 0 0) else if t = 15 then .slice 1 (.tok 10 0) (rows1 L) else if t = 16 then .lit (.int .i64 L.length) else if t = 17 then .lit (.int .i64 0) else .junk := ⟨_, rfl⟩
  refine Dwp.weaken A (fun t => ?_) ?_
  · rw [hA]
    by_cases h1 : t = 1
    · subst h1; simp [upd, init]; exact .refl _
    by_cases h2 : t = 2
    · subst h2; simp [upd]; exact .refl _
    by_cases h6 : t = 6
    · subst h6; simp [upd]; exact .refl _
    by_cases h7 : t = 7
    · subst h7; simp [upd]; exact .refl _
    by_cases h15 : t = 15
    · subst h15; simp [upd]; exact .refl _
    by_cases h16 : t = 16
    · subst h16; simp [upd]; exact .refl _
    by_cases h17 : t = 17
    · subst h17; simp [upd]; exact .refl _
    simp only [h1, h2, h6, h7, h15, h16, h17, if_false]
    exact fun C w v h => by simp [VRel]
  obtain ⟨q, hq⟩ : ∃ q : ByteArray → Bool, q = fun z => underB s z x := ⟨_, rfl⟩
  rw [← hq] at hhl
  rw [← hq]
  refine Dwp.range tT L.length (fun i a σ => a 1 = .lit (.string x) ∧ a 2 = .row (EncR.sigd.enc s) 0 ∧ a 6 = .lit (.int .i64 e) ∧ a 15 = .slice 1 (.tok 10 0) (rows1 L) ∧ OutNil σ (if e = 0 then (L.take i).filter q else []) (a 7))
    ⟨rfl, rfl, rfl⟩ ⟨rfl, rfl, rfl⟩ ⟨rfl, rfl, rfl⟩ (by decide) (by decide) (by omega) (by rw [hA]; rfl) (by rw [hA]; rfl) ⟨by rw [hA]; rfl, by rw [hA]; rfl, by rw [hA]; rfl, by rw [hA]; rfl, .inl ⟨by simp, by rw [hA]; rfl⟩⟩ ?_ ?_
  · rintro i a σ hi hidx hlen ⟨k1, k2, k6, k15, k7⟩
    obtain ⟨z, hz⟩ : ∃ z, z = L[i] := ⟨_, rfl⟩
    refine Dwp.step tT rfl fun K hK => ?_
    simp [hidx, k15, ty22, ty9, hi, ← hz]
    refine hK _ _ ?_ rfl; clear hK K
    refine Dwp.step tT rfl fun K hK => ?_
    have stay : (if e = 0 then (L.take (i + 1)).filter q else []) = (if e = 0 then (L.take i).filter q else []) ++ (if e = 0 ∧ q z = true then [z] else []) := by
      rw [List.take_succ_eq_append_getElem hi, ← hz]
      by_cases h0 : e = 0 <;> by_cases h1 : q z = true <;> simp [h0, h1]
    by_cases h0 : e = 0
    case neg =>
      have h0' : (e == 0) = false := by simpa using h0
      simp [k1, k2, k6, h0']
      refine hK _ _ ?_ rfl; clear hK K
      refine Dwp.condF (by simp [eval, upd]) (Dwp.skip ?_)
      refine ⟨by simp [upd, hidx], by simp [upd, hlen], by simp [upd, k1], by simp [upd, k2], by simp [upd, k6], by simp [upd, k15], ?_⟩
      rw [stay]
      simp [h0, upd] at k7 ⊢
      exact k7.toks rfl
    subst h0
    simp [k1, k2, k6, ty26, ty9, g52]
    refine hK _ _ ?_ rfl; clear hK K
    cases h1 : underB s z x with
    | false =>
      refine Dwp.condF (by simp [eval, upd, h1]) (Dwp.skip ?_)
      refine ⟨by simp [upd, hidx], by simp [upd, hlen], by simp [upd, k1], by simp [upd, k2], by simp [upd, k6], by simp [upd, k15], ?_⟩
      have h1' : q z = false := by rw [hq]; exact h1
      rw [stay]
      simp [h1', upd] at k7 ⊢
      exact k7.toks rfl
    | true =>
      refine Dwp.condT (by simp [eval, upd, h1]) ?_
      have h1' : q z = true := by rw [hq]; exact h1
      obtain ⟨out, hout⟩ : ∃ out, out = (L.take i).filter q := ⟨_, rfl⟩
      have hol : out.length ≤ 1048583 := by
        rw [hout]; refine Nat.le_trans (List.length_filter_le _ _) ?_; rw [List.length_take]; omega
      rw [if_pos rfl, ← hout] at k7
      have stay2 : (if (0 : Int) = 0 then (L.take (i + 1)).filter q else []) = out ++ [z] := by
        rw [if_pos rfl, List.take_succ_eq_append_getElem hi, ← hz, List.filter_append, ← hout]; simp [h1']
      refine Dwp.reg tT rfl fun K hK => ?_
      have fin := fun (a'' : Nat → DV) (τ'' : St) (h : a'' 17 = .lit (.int .i64 i) ∧ a'' 16 = .lit (.int .i64 L.length) ∧ a'' 1 = .lit (.string x) ∧ a'' 2 = .row (EncR.sigd.enc s) 0 ∧ a'' 6 = .lit (.int .i64 0) ∧ a'' 15 = .slice 1 (.tok 10 0) (rows1 L) ∧ OutNil τ'' (out ++ [z]) (a'' 7)) hn => hK a'' τ'' ⟨h.1, h.2.1, by simp [upd, h.2.2.1], by simp [upd, h.2.2.2.1], by simp [upd, h.2.2.2.2.1], by simp [upd, h.2.2.2.2.2.1], by rw [stay2]; simp only [upd]; exact h.2.2.2.2.2.2.toks rfl⟩ hn
      have hg : out.length + 1 ≤ 16777216 := by omega
      have hr : ∀ l : List ByteArray, l.map (fun x => [DV.lit (.string x)]) ++ [[.lit (.string z)]] = rows1 (l ++ [z]) := fun l => by simp [rows1]
      rcases k7 with ⟨ho, k7⟩ | ⟨tk, gg, k7, hgg⟩
      · simp [k7, ty22, ty9]
        exact fin _ _ ⟨by simp [upd, hidx], by simp [upd, hlen], by simp [upd, k1], by simp [upd, k2], by simp [upd, k6], by simp [upd, k15], .inr ⟨σ.n + 1 + 3 + 8 + 3, 0, by simp [upd, rows1, ho], by simp [upd]⟩⟩ rfl
      · simp [k7, ty22, ty9, hgg, hg]
        exact fin _ _ ⟨by simp [upd, hidx], by simp [upd, hlen], by simp [upd, k1], by simp [upd, k2], by simp [upd, k6], by simp [upd, k15], .inr ⟨tk, gg + 1, by simp [upd, rows1], by simp [upd]⟩⟩ rfl
  · rintro a σ hidx hlen ⟨k1, k2, k6, k15, k7⟩
    rw [List.take_length] at k7
    have hb : (if e = 0 then L.filter q else []) = hitB s x q := by unfold hitB; rw [← he, ← hL]
    rw [hb] at k7
    have hF : hitF s x q = (sortB (hitB s x q), e) := by rw [he]; rfl
    rw [hF]
    generalize hitB s x q = H at *
    refine Dwp.step tT rfl fun K hK => ?_
    have fin2 : ∀ (a'' : Nat → DV) (τ'' : St) (tg : Tag), tg = .none → a'' 4 = .slice 1 tg (rows1 (sortB H)) → a'' 5 = .lit (.int .i64 e) → Dwp Tryz.prog T E Tryz.f31.ntmps Code.ret (Done Tryz.prog Tryz.f31.results Enc.strsErr (sortB H, e)) a'' τ'' := by
      intro a'' τ'' tg hq h4 h5
      subst hq
      refine Dwp.ret ⟨.inr rfl, .tuple [.slice 1 .none (rows1 (sortB H)), .lit (.int .i64 e)], ?_, ?_⟩
      · show dresults Tryz.prog _ _ [ResultVar.tmp 4, ResultVar.tmp 5] = _
        simp [dresults, dres, h4, h5]
      · exact Enc.strsErr.de (sortB H, e)
    rcases k7 with ⟨ho, k7⟩ | ⟨tk, gg, k7, hgg⟩
    · have g := g64 (.lit (.slice none 0 0)) [] rfl (by simp)
      simp [k7, k6, g]
      refine hK _ _ (fin2 _ _ _ rfl (by simp [upd]; rw [ho]) (by simp [upd])) rfl
    · have g := g64 (.slice 1 (.tok tk gg) (rows1 H)) H (by have := decRows_enc (EncR.one Enc.str) H; exact this) hhl
      simp [k7, k6, g]
      refine hK _ _ (fin2 _ _ _ rfl (by simp [upd]) (by simp [upd])) rfl
theorem e31 : Go.FA.Good Tryz.prog (31, s31) := ⟨c31, Tryz.f31, _, Tryz.func31, rfl, by decide⟩
theorem call31 (T : Tab) (hT : T 31 = some s31) {s : SigD} (x : ByteArray) (h : s.ok2) (hb : s.below.length ≤ 250) : dcall T 31 [.agg (EncR.sigd.enc s), .lit (.string x)] = some (.tuple [.slice 1 .none (rows1 (sortB (hitB s x fun z => underB s z x))), .lit (.int .i64 (sureE s [x]))]) :=
  dcall2 (A := Enc.sigd) (B := Enc.str) (C := Enc.strsErr) (x := s) (y := x) hT (if_pos ⟨h, hb⟩)
end Go.Proofs.Yt
namespace Go.Proofs.Yt
open Go Go.FA Go.Proofs
set_option linter.unusedVariables false
set_option linter.unusedSimpArgs false
set_option maxRecDepth 100000

theorem mput_keys {α : Type} (k : ByteArray) (v : α) : ∀ m : List (ByteArray × α), (m.map (·.1)).Nodup → ((mput k v m).map (·.1)).Nodup ∧ ∀ j, j ∈ (mput k v m).map (·.1) → j = k ∨ j ∈ m.map (·.1)
  | [], _ => by simp [mput]
  | p :: l, h => by
    simp only [List.map_cons, List.nodup_cons] at h
    simp only [mput]
    split
    · next e => subst e; simp only [List.map_cons, List.nodup_cons]; exact ⟨h, fun j hj => by simpa using hj⟩
    · next e =>
      obtain ⟨h1, h2⟩ := mput_keys k v l h.2
      simp only [List.map_cons, List.nodup_cons, List.mem_cons]
      refine ⟨⟨fun hm => ?_, h1⟩, fun j hj => ?_⟩
      · rcases h2 _ hm with q | q
        · exact e q.symm
        · exact h.1 q
      · rcases hj with rfl | hj
        · exact .inr (.inl rfl)
        · rcases h2 j hj with q | q
          · exact .inl q
          · exact .inr (.inr q)
theorem highs_nodup (s : SigD) : ((newBook s).highs.map (·.1)).Nodup := by
  have h1 : ∀ (l : List ByteArray) (m : List (ByteArray × List ByteArray)), (m.map (·.1)).Nodup → ((l.foldl (fun m n => mput n [] m) m).map (·.1)).Nodup := by
    intro l
    induction l with
    | nil => intro m h; exact h
    | cons n l ih => intro m h; exact ih _ (mput_keys n [] m h).1
  have h2 : ∀ (l : List Bel) (m : List (ByteArray × List ByteArray)), (m.map (·.1)).Nodup → ((l.foldl addBel m).map (·.1)).Nodup := by
    intro l
    induction l with
    | nil => intro m h; exact h
    | cons n l ih =>
      intro m h
      refine ih _ ?_
      unfold addBel
      split
      · exact (mput_keys _ _ m h).1
      · exact h
  exact h2 _ _ (h1 _ _ (by simp))
theorem allS_nodup {s : SigD} (h : s.ok) (hv : s.vld = true) : (allS s).Nodup := by
  have := (okSorts_iff s.sorts).1 (vld_facts h hv).2.2.1
  unfold allS
  rw [List.nodup_append]
  refine ⟨by decide, this.2, fun a ha b hb e => ?_⟩
  subst e
  exact (this.1 a hb).2 ha
theorem keys_perm {s : SigD} (h : s.ok) (hv : s.vld = true) : ((newBook s).highs.map (·.1)).Perm (allS s) := by
  refine (List.perm_ext_iff_of_nodup (highs_nodup s) (allS_nodup h hv)).2 fun y => ?_
  rw [allS_mem, ← book_keys]; simp
theorem that_hit {s : SigD} (h : s.ok) (f : Nat) (hf : f = 62 ∨ f = 65) (x : ByteArray) : withBook (openF s [x]) [] (fun b => thatF b f b x) = some (hitF s x (fun z => if f = 65 then underB s z x else underB s x z)) := by
  rw [withBook_sure h [x] (by simp)]
  unfold hitF hitB
  by_cases q : sureE s [x] = 0
  · obtain ⟨hv, hx⟩ := sure_one q
    have hl := highs_small h hv
    rw [if_pos q, if_pos q, q]
    have hc : ∀ y, ∃ r, (newBook s).clo f x y = some r ∧ (x ∈ s.all → y ∈ s.all → (r = true ↔ (if f = 65 then s.at y x else s.at x y) = true)) := fun y => clo_some h hv f x y (by omega)
    unfold thatF
    rw [if_pos ⟨by omega, hf, by rw [List.all_eq_true]; intro p _; obtain ⟨r, h1, _⟩ := hc p.1; rw [h1]; rfl⟩, Option.map_some]
    congr 2
    have hp := (keys_perm h hv).filter (cloB (newBook s) f x)
    rw [sortB_perm hp]
    congr 1
    refine List.filter_congr fun y hy => ?_
    have hy' : y ∈ s.all := (allS_mem s y).1 hy
    obtain ⟨r, h1, h2⟩ := hc y
    have h3 := h2 hx hy'
    unfold cloB
    rw [h1, Option.getD_some, Bool.eq_iff_iff, h3]
    by_cases e : f = 65
    · simp only [e, if_true]; rw [underB_at h hv hy' hx]
    · simp only [e, if_false]; rw [underB_at h hv hx hy']
  · rw [if_neg q, if_neg q]
    have : sortB [] = [] := List.eq_nil_of_length_eq_zero (by rw [sortB_length]; rfl)
    rw [this]
theorem found_fits {s : SigD} (h : s.ok) (x : ByteArray) : (foundF s s.ops x).1.fits ∧ (foundF s s.funs x).1.fits := by
  obtain ⟨f1, f2⟩ := h.fits
  have h0 : noOp.fits := by decide
  have key : ∀ l : List OpD, (∀ o ∈ l, o.fits) → (foundF s l x).1.fits := by
    intro l hl
    unfold foundF namedF
    split
    · cases q : l.find? (fun o => decide (o.name = x)) with
      | none => exact h0
      | some o => exact hl o (List.mem_of_find?_eq_some q)
    · exact h0
  exact ⟨key _ f1, key _ f2⟩
theorem call29 (T : Tab) (hT : T 29 = some s29) (l : List ByteArray) (h : l.length ≤ 1000) : dcall T 29 [.slice 1 .none (rows1 l), .slice 1 .none (rows1 l)] = some (.lit (.bool true)) := by
  have := dcall2 (T := T) (A := Enc.strs) (B := Enc.strs) (C := Enc.bool) (x := l) (y := l) hT (if_pos ⟨Nat.le_trans h (by decide), Nat.le_trans h (by decide)⟩)
  refine Eq.trans this ?_
  simp [Enc.bool]
end Go.Proofs.Yt
namespace Go.Proofs.Yt
open Go Go.FA Go.Proofs
set_option linter.unusedVariables false
set_option linter.unusedSimpArgs false
set_option maxRecDepth 100000

def s5 : Sp := sp (arg2 Enc.sigd Enc.str) Enc.bool (fun x => if x.1.ok2 then some true else none)
abbrev T5 : Tab := tabOf [(10, s10), (11, s11), (22, s22), (23, s23), (24, s24), (25, s25), (26, s26), (27, s27), (28, s28), (29, s29), (30, s30), (31, s31)]
theorem t5 : TabOk Tryz.prog T5 := .cons e10 (.cons e11 (.cons e22 (.cons e23 (.cons e24 (.cons e25 (.cons e26 (.cons e27 (.cons e28 (.cons e29 (.cons e30 (.cons e31 .nil)))))))))))
attribute [local simp] drunL drunO dwanted dopS own plainOf dop dput eval ofVal Then Ex.then Ex.inBlock upd dbin Tag.isNN nilTest intCmp dload dpart TyI.agg dfieldAddr dfield dindexAddr dindex dlen lenOk dlookup mapOf keyFits dmapUpdate dcallee dbuiltin dstore DV.cells dslice dboundOk dappend appTag rowsOf elemOk growLimit dbuildCells dbuildCells.go structOk fieldsOk dbuildRows goInt
theorem c5 : CallSound Tryz.prog 5 s5 := by
  refine CallSound.of_sp (T := T5) Tryz.func5 rfl (Nat.le_of_ble_eq_true rfl) fun E xx y hy => ?_
  obtain ⟨s, x⟩ := xx
  simp only [] at hy
  split at hy
  case isFalse => cases hy
  next hok =>
  cases hy
  have g10 := call10 T5 rfl hok.1
  have g11 := call11 T5 rfl
  have g22 := call22' T5 rfl hok.1 x
  have g23 := fun h => call23 T5 rfl s x hok h
  have g25 := call25' T5 rfl hok.1 x
  have g26 := fun h => call26 T5 rfl s x hok h
  have g27 := call27 T5 rfl s x (that_hit hok.1 62 (.inl rfl) x)
  have g28 := fun h => call28 T5 rfl x hok h
  have g30 := call30 T5 rfl s x (that_hit hok.1 65 (.inr rfl) x)
  have g31 := fun h => call31 T5 rfl x hok h
  have l1 : (sortB (hitB s x fun z => underB s x z)).length ≤ 1000 := by rw [sortB_length]; exact hit_len hok x _
  have l2 : (sortB (hitB s x fun z => underB s z x)).length ≤ 1000 := by rw [sortB_length]; exact hit_len hok x _
  have g29a := call29 T5 rfl _ l1
  have g29b := call29 T5 rfl _ l2
  obtain ⟨fo, ff⟩ := found_fits hok.1 x
  have g24a := call24 T5 rfl _ _ fo fo
  have g24b := call24 T5 rfl _ _ ff ff
  simp only [decide_true] at g24a g24b
  simp only [if_true, if_false, (by decide : ¬ ((62 : Nat) = 65))] at g27 g30
  have setP : ∀ o, setAt noOpD 0 (EncR.opd.enc o) = EncR.opd.enc o := fun _ => rfl
  have setQ : ∀ o p, setAt (EncR.opd.enc p) 0 (EncR.opd.enc o) = EncR.opd.enc o := fun _ _ => rfl
  simp only [noOpD] at setP
  have tT := t5
  generalize T5 = T at *
  have fin : ∀ (a : Nat → DV) (σ : St), a 4 = .lit (.bool true) → Done Tryz.prog Tryz.f5.results Enc.bool true Ex.ret a σ := by
    intro a σ h2
    refine ⟨.inr rfl, .lit (.bool true), ?_, rfl⟩
    show dresults Tryz.prog σ a [ResultVar.tmp 4] = _
    simp [dresults, dres, h2]
  refine Dwp.step tT rfl fun K hK => ?_
  simp [init, arg2, EncR.and, EncR.one, Enc.sigd, Enc.agg, Enc.str]
  refine hK _ _ ?_ rfl; clear hK K
  refine Dwp.seq ?_
  refine Dwp.step tT rfl fun K hK => ?_
  by_cases hf : few s = true
  case neg =>
    have hf' : few s = false := by simpa using hf
    simp [ty26, ty22, g10, hf']
    refine hK _ _ ?_ rfl; clear hK K
    refine Dwp.condT (by simp [eval, upd]) ?_
    refine Dwp.step tT rfl fun K hK => ?_
    simp [g11]
    refine hK _ _ (Dwp.ret ?_) rfl
    exact fin _ _ (by simp [upd])
  have hbl : s.below.length ≤ 250 := by unfold few at hf; simp only [Bool.and_eq_true, decide_eq_true_eq] at hf; omega
  have g23 := g23 hbl
  have g26 := g26 hbl
  have g28 := g28 hbl
  have g31 := g31 hbl
  obtain ⟨r1, hr1⟩ : ∃ r, r = foundF s s.ops x := ⟨_, rfl⟩
  obtain ⟨r2, hr2⟩ : ∃ r, r = foundF s s.funs x := ⟨_, rfl⟩
  rw [← hr1] at g22 g23 g24a
  rw [← hr2] at g25 g26 g24b
  simp [ty26, ty22, g10, hf]
  refine hK _ _ ?_ rfl; clear hK K
  refine Dwp.condF (by simp [eval, upd]) (Dwp.skip ?_)
  refine Dwp.step tT rfl fun K hK => ?_
  simp [ty26, init, σ0, ty38, g22, setP]
  refine hK _ _ ?_ rfl; clear hK K
  refine Dwp.step tT rfl fun K hK => ?_
  simp [ty26, init, σ0, ty38, g23, setP]
  refine hK _ _ ?_ rfl; clear hK K
  refine Dwp.seq ?_
  refine Dwp.step tT rfl fun K hK => ?_
  simp [ty38, g24a]
  refine hK _ _ ?_ rfl; clear hK K
  refine Dwp.condF (by simp [eval, upd]) (Dwp.skip ?_)
  refine Dwp.step tT rfl fun K hK => ?_
  simp [ty26, ty38, g25, init, setQ]
  refine hK _ _ ?_ rfl; clear hK K
  refine Dwp.step tT rfl fun K hK => ?_
  simp [ty26, ty38, g26, init, setQ]
  refine hK _ _ ?_ rfl; clear hK K
  refine Dwp.seq ?_
  refine Dwp.step tT rfl fun K hK => ?_
  simp [ty38, g24b]
  refine hK _ _ ?_ rfl; clear hK K
  refine Dwp.condF (by simp [eval, upd]) (Dwp.skip ?_)
  refine Dwp.step tT rfl fun K hK => ?_
  simp [ty26, ty22, g27, init]
  refine hK _ _ ?_ rfl; clear hK K
  refine Dwp.step tT rfl fun K hK => ?_
  simp [ty26, ty22, g28, init]
  refine hK _ _ ?_ rfl; clear hK K
  refine Dwp.seq ?_
  refine Dwp.step tT rfl fun K hK => ?_
  simp [ty22, g29a]
  refine hK _ _ ?_ rfl; clear hK K
  refine Dwp.condF (by simp [eval, upd]) (Dwp.skip ?_)
  refine Dwp.step tT rfl fun K hK => ?_
  simp [ty26, ty22, g30, init]
  refine hK _ _ ?_ rfl; clear hK K
  refine Dwp.step tT rfl fun K hK => ?_
  simp [ty26, ty22, g31, init]
  refine hK _ _ ?_ rfl; clear hK K
  refine Dwp.step tT rfl fun K hK => ?_
  simp [ty22, g29b, g11]
  refine hK _ _ (Dwp.ret ?_) rfl
  exact fin _ _ (by simp [upd])
theorem e5 : Go.FA.Good Tryz.prog (5, s5) := ⟨c5, Tryz.f5, _, Tryz.func5, rfl, by decide⟩
end Go.Proofs.Yt
namespace Go.Proofs.Yt
open Go Go.FA Go.Proofs
set_option linter.unusedVariables false
set_option linter.unusedSimpArgs false
theorem sig_ok2 {s : SigD} (h : szSig s ≤ 1048576) : s.ok2 := by
  unfold szSig at h
  simp only [szL] at h
  refine ⟨sig_ok (by unfold szSig; simp only [szL]; exact h), fun x hx => ?_, fun o ho p hp => ?_⟩
  · have h0 : x.size + 1 ≤ (s.sorts.map szS).sum := mem_le (sz := szS) hx
    omega
  · have h1 := mem_le (sz := szOp) ho
    have h2 := mem_le (sz := szPie) hp
    have e1 : (o.pieces.map szPie).sum ≤ szOp o := by unfold szOp szL; omega
    have e2 : p.text.size ≤ szPie p := by unfold szPie szS; omega
    omega
end Go.Proofs.Yt
