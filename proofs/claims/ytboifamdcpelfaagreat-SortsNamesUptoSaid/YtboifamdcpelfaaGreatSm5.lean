/- Contracts of functions of the program, by a machine over abstract values; part 6. No condition beyond those of each theorem. -/
import Derived.Test.YtboifamdcpelfaaGreatSm4
namespace Go.Proofs.Yt
open Go Go.FA Go.Proofs
set_option linter.unusedVariables false
set_option linter.unusedSimpArgs false
set_option maxRecDepth 100000

def OutNil (σ : St) (out : List ByteArray) (d : DV) : Prop := (out = [] ∧ d = .lit (.slice none 0 0)) ∨ ∃ tk g, d = .slice 1 (.tok tk g) (rows1 out) ∧ σ.toks tk = some g
theorem OutNil.toks {σ τ : St} {out : List ByteArray} {d : DV} (h : OutNil σ out d) (e : τ.toks = σ.toks) : OutNil τ out d := by unfold OutNil; rw [e]; exact h
/-- what holds of SORTS found, or the error -/
def hitB (s : SigD) (x : ByteArray) (q : ByteArray → Bool) : List ByteArray := if sureE s [x] = 0 then (allS s).filter q else []
def hitF (s : SigD) (x : ByteArray) (q : ByteArray → Bool) : List ByteArray × Int := (sortB (hitB s x q), sureE s [x])
theorem hit_len {s : SigD} (h : s.ok2) (x : ByteArray) (q : ByteArray → Bool) : (hitB s x q).length ≤ 1000 := by
  unfold hitB
  split
  case isFalse => simp
  next he =>
  have hv : s.vld = true := by
    unfold sureE at he
    cases hv : s.vld with
    | true => rfl
    | false => rw [hv] at he; simp at he
  have hw := (vld_facts h.1 hv).1
  simp only [SigD.within, Bool.and_eq_true, decide_eq_true_eq] at hw
  have h1 := List.length_filter_le q (allS s)
  have h2 : (allS s).length = 7 + s.sorts.length := by simp only [allS, always, List.length_append, List.length_cons, List.length_nil]
  omega

def s28 : Sp := sp (arg2 Enc.sigd Enc.str) Enc.strsErr (fun x => if x.1.ok2 ∧ x.1.below.length ≤ 250 then some (hitF x.1 x.2 (fun z => underB x.1 x.2 z)) else none)
abbrev T28 : Tab := tabOf [(51, s51), (52, s52), (63, s63), (64, s64)]
theorem t28 : TabOk Tryz.prog T28 := .cons e51 (.cons e52 (.cons e63 (.cons e64 .nil)))
attribute [local simp] drunL drunO dwanted dopS own plainOf dop dput eval ofVal Then Ex.then Ex.inBlock upd dbin Tag.isNN nilTest intCmp dload dpart TyI.agg dfieldAddr dfield dindexAddr dindex dlen lenOk dlookup mapOf keyFits dmapUpdate dcallee dbuiltin dstore DV.cells dslice dboundOk dappend appTag rowsOf elemOk growLimit dbuildCells dbuildCells.go structOk fieldsOk dbuildRows goInt
theorem c28 : CallSound Tryz.prog 28 s28 := by
  refine CallSound.of_sp (T := T28) Tryz.func28 rfl (Nat.le_of_ble_eq_true rfl) fun E xx y hy => ?_
  obtain ⟨s, x⟩ := xx
  simp only [] at hy
  split at hy
  case isFalse => cases hy
  next hh =>
  obtain ⟨hok, hbl⟩ := hh
  cases hy
  have g51 := call51 T28 rfl s (.slice 1 .full [[.lit (.string x)]]) [x] rfl hok hbl (by simp)
  have g52 := fun z => call52 T28 rfl s x z hbl
  have g63 := call63 T28 rfl hok.1
  have g64 := fun d l hd h => call64 T28 rfl d l hd h
  have hlen7 : (allS s).length ≤ 1048583 := by have := hok.1.1; simp only [allS, List.length_append, always, List.length_cons, List.length_nil]; omega
  have hhl := hit_len hok x (fun z => underB s x z)
  have tT := t28
  generalize T28 = T at *
  refine Dwp.step tT rfl fun K hK => ?_
  simp [init, arg2, EncR.and, EncR.one, Enc.sigd, Enc.agg, Enc.str]
  refine hK _ _ ?_ rfl; clear hK K
  refine Dwp.step tT rfl fun K hK => ?_
  simp [init, ty26, ty22, ty9, g51]
  refine hK _ _ ?_ rfl; clear hK K
  refine Dwp.step tT rfl fun K hK => ?_
  simp []
  refine hK _ _ ?_ rfl; clear hK K
  refine Dwp.seq ?_
  refine Dwp.step tT rfl fun K hK => ?_
  simp [σ0, ty26, ty22, g63]
  refine hK _ _ ?_ rfl; clear hK K
  obtain ⟨e, he⟩ : ∃ e, e = sureE s [x] := ⟨_, rfl⟩
  obtain ⟨L, hL⟩ : ∃ L, L = allS s := ⟨_, rfl⟩
  rw [← he, ← hL]
  rw [← hL] at hlen7
  obtain ⟨A, hA⟩ : ∃ A : Nat → DV, A = fun t => if t = 1 then .lit (.string x) else if t = 2 then .row (EncR.sigd.enc s) 0 else if t = 6 then .lit (.int .i64 e) else if t = 7 then .lit (.slice none 0 0) else if t = 15 then .slice 1 (.tok 10 0) (rows1 L) else if t = 16 then .lit (.int .i64 L.length) else if t = 17 then .lit (.int .i64 0) else .junk := ⟨_, rfl⟩
  refine Dwp.weaken A (fun t => ?_) ?_
  · rw [hA]
    by_cases h1 : t = 1
    · subst h1; simp [upd, init]; exact .refl _
    by_cases h2 : t = 2
    · subst h2; simp [upd]; exact .refl _
    by_cases h6 : t = 6
    · subst h6; simp [upd]; exact .refl _
    by_cases h7 : t = 7
    · subst h7; simp [upd]; exact .refl _
    by_cases h15 : t = 15
    · subst h15; simp [upd]; exact .refl _
    by_cases h16 : t = 16
    · subst h16; simp [upd]; exact .refl _
    by_cases h17 : t = 17
    · subst h17; simp [upd]; exact .refl _
    simp only [h1, h2, h6, h7, h15, h16, h17, if_false]
    exact fun C w v h => by simp [VRel]
  obtain ⟨q, hq⟩ : ∃ q : ByteArray → Bool, q = fun z => underB s x z := ⟨_, rfl⟩
  rw [← hq] at hhl
  rw [← hq]
  refine Dwp.range tT L.length (fun i a σ => a 1 = .lit (.string x) ∧ a 2 = .row (EncR.sigd.enc s) 0 ∧ a 6 = .lit (.int .i64 e) ∧ a 15 = .slice 1 (.tok 10 0) (rows1 L) ∧ OutNil σ (if e = 0 then (L.take i).filter q else []) (a 7))
    ⟨rfl, rfl, rfl⟩ ⟨rfl, rfl, rfl⟩ ⟨rfl, rfl, rfl⟩ (by decide) (by decide) (by omega) (by rw [hA]; rfl) (by rw [hA]; rfl) ⟨by rw [hA]; rfl, by rw [hA]; rfl, by rw [hA]; rfl, by rw [hA]; rfl, .inl ⟨by simp, by rw [hA]; rfl⟩⟩ ?_ ?_
  · rintro i a σ hi hidx hlen ⟨k1, k2, k6, k15, k7⟩
    obtain ⟨z, hz⟩ : ∃ z, z = L[i] := ⟨_, rfl⟩
    refine Dwp.step tT rfl fun K hK => ?_
    simp [hidx, k15, ty22, ty9, hi, ← hz]
    refine hK _ _ ?_ rfl; clear hK K
    refine Dwp.step tT rfl fun K hK => ?_
    have stay : (if e = 0 then (L.take (i + 1)).filter q else []) = (if e = 0 then (L.take i).filter q else []) ++ (if e = 0 ∧ q z = true then [z] else []) := by
      rw [List.take_succ_eq_append_getElem hi, ← hz]
      by_cases h0 : e = 0 <;> by_cases h1 : q z = true <;> simp [h0, h1]
    by_cases h0 : e = 0
    case neg =>
      have h0' : (e == 0) = false := by simpa using h0
      simp [k1, k2, k6, h0']
      refine hK _ _ ?_ rfl; clear hK K
      refine Dwp.condF (by simp [eval, upd]) (Dwp.skip ?_)
      refine ⟨by simp [upd, hidx], by simp [upd, hlen], by simp [upd, k1], by simp [upd, k2], by simp [upd, k6], by simp [upd, k15], ?_⟩
      rw [stay]
      simp [h0, upd] at k7 ⊢
      exact k7.toks rfl
    subst h0
    simp [k1, k2, k6, ty26, ty9, g52]
    refine hK _ _ ?_ rfl; clear hK K
    cases h1 : underB s x z with
    | false =>
      refine Dwp.condF (by simp [eval, upd, h1]) (Dwp.skip ?_)
      refine ⟨by simp [upd, hidx], by simp [upd, hlen], by simp [upd, k1], by simp [upd, k2], by simp [upd, k6], by simp [upd, k15], ?_⟩
      have h1' : q z = false := by rw [hq]; exact h1
      rw [stay]
      simp [h1', upd] at k7 ⊢
      exact k7.toks rfl
    | true =>
      refine Dwp.condT (by simp [eval, upd, h1]) ?_
      have h1' : q z = true := by rw [hq]; exact h1
      obtain ⟨out, hout⟩ : ∃ out, out = (L.take i).filter q := ⟨_, rfl⟩
      have hol : out.length ≤ 1048583 := by
        rw [hout]; refine Nat.le_trans (List.length_filter_le _ _) ?_; rw [List.length_take]; omega
      rw [if_pos rfl, ← hout] at k7
      have stay2 : (if (0 : Int) = 0 then (L.take (i + 1)).filter q else []) = out ++ [z] := by
        rw [if_pos rfl, List.take_succ_eq_append_getElem hi, ← hz, List.filter_append, ← hout]; simp [h1']
      refine Dwp.reg tT rfl fun K hK => ?_
      have fin := fun (a'' : Nat → DV) (τ'' : St) (h : a'' 17 = .lit (.int .i64 i) ∧ a'' 16 = .lit (.int .i64 L.length) ∧ a'' 1 = .lit (.string x) ∧ a'' 2 = .row (EncR.sigd.enc s) 0 ∧ a'' 6 = .lit (.int .i64 0) ∧ a'' 15 = .slice 1 (.tok 10 0) (rows1 L) ∧ OutNil τ'' (out ++ [z]) (a'' 7)) hn => hK a'' τ'' ⟨h.1, h.2.1, by simp [upd, h.2.2.1], by simp [upd, h.2.2.2.1], by simp [upd, h.2.2.2.2.1], by simp [upd, h.2.2.2.2.2.1], by rw [stay2]; simp only [upd]; exact h.2.2.2.2.2.2.toks rfl⟩ hn
      have hg : out.length + 1 ≤ 16777216 := by omega
      have hr : ∀ l : List ByteArray, l.map (fun x => [DV.lit (.string x)]) ++ [[.lit (.string z)]] = rows1 (l ++ [z]) := fun l => by simp [rows1]
      rcases k7 with ⟨ho, k7⟩ | ⟨tk, gg, k7, hgg⟩
      · simp [k7, ty22, ty9]
        exact fin _ _ ⟨by simp [upd, hidx], by simp [upd, hlen], by simp [upd, k1], by simp [upd, k2], by simp [upd, k6], by simp [upd, k15], .inr ⟨σ.n + 1 + 3 + 8 + 3, 0, by simp [upd, rows1, ho], by simp [upd]⟩⟩ rfl
      · simp [k7, ty22, ty9, hgg, hg]
        exact fin _ _ ⟨by simp [upd, hidx], by simp [upd, hlen], by simp [upd, k1], by simp [upd, k2], by simp [upd, k6], by simp [upd, k15], .inr ⟨tk, gg + 1, by simp [upd, rows1], by simp [upd]⟩⟩ rfl
  · rintro a σ hidx hlen ⟨k1, k2, k6, k15, k7⟩
    rw [List.take_length] at k7
    have hb : (if e = 0 then L.filter q else []) = hitB s x q := by unfold hitB; rw [← he, ← hL]
    rw [hb] at k7
    have hF : hitF s x q = (sortB (hitB s x q), e) := by rw [he]; rfl
    rw [hF]
    generalize hitB s x q = H at *
    refine Dwp.step tT rfl fun K hK => ?_
    have fin2 : ∀ (a'' : Nat → DV) (τ'' : St) (tg : Tag), tg = .none → a'' 4 = .slice 1 tg (rows1 (sortB H)) → a'' 5 = .lit (.int .i64 e) → Dwp Tryz.prog T E Tryz.f28.ntmps Code.ret (Done Tryz.prog Tryz.f28.results Enc.strsErr (sortB H, e)) a'' τ'' := by
      intro a'' τ'' tg hq h4 h5
      subst hq
      refine Dwp.ret ⟨.inr rfl, .tuple [.slice 1 .none (rows1 (sortB H)), .lit (.int .i64 e)], ?_, ?_⟩
      · show dresults Tryz.prog _ _ [ResultVar.tmp 4, ResultVar.tmp 5] = _
        simp [dresults, dres, h4, h5]
      · exact Enc.strsErr.de (sortB H, e)
    rcases k7 with ⟨ho, k7⟩ | ⟨tk, gg, k7, hgg⟩
    · have g := g64 (.lit (.slice none 0 0)) [] rfl (by simp)
      simp [k7, k6, g]
      refine hK _ _ (fin2 _ _ _ rfl (by simp [upd]; rw [ho]) (by simp [upd])) rfl
    · have g := g64 (.slice 1 (.tok tk gg) (rows1 H)) H (by have := decRows_enc (EncR.one Enc.str) H; exact this) hhl
      simp [k7, k6, g]
      refine hK _ _ (fin2 _ _ _ rfl (by simp [upd]) (by simp [upd])) rfl
theorem e28 : Go.FA.Good Tryz.prog (28, s28) := ⟨c28, Tryz.f28, _, Tryz.func28, rfl, by decide⟩
theorem call28 (T : Tab) (hT : T 28 = some s28) {s : SigD} (x : ByteArray) (h : s.ok2) (hb : s.below.length ≤ 250) : dcall T 28 [.agg (EncR.sigd.enc s), .lit (.string x)] = some (.tuple [.slice 1 .none (rows1 (sortB (hitB s x fun z => underB s x z))), .lit (.int .i64 (sureE s [x]))]) :=
  dcall2 (A := Enc.sigd) (B := Enc.str) (C := Enc.strsErr) (x := s) (y := x) hT (if_pos ⟨h, hb⟩)

def s31 : Sp := sp (arg2 Enc.sigd Enc.str) Enc.strsErr (fun x => if x.1.ok2 ∧ x.1.below.length ≤ 250 then some (hitF x.1 x.2 (fun z => underB x.1 z x.2)) else none)
theorem c31 : CallSound Tryz.prog 31 s31 := by
  refine CallSound.of_sp (T := T28) Tryz.func31 rfl (Nat.le_of_ble_eq_true rfl) fun E xx y hy => ?_
  obtain ⟨s, x⟩ := xx
  simp only [] at hy
  split at hy
  case isFalse => cases hy
  next hh =>
  obtain ⟨hok, hbl⟩ := hh
  cases hy
  have g51 := call51 T28 rfl s (.slice 1 .full [[.lit (.string x)]]) [x] rfl hok hbl (by simp)
  have g52 := fun z => call52 T28 rfl s z x hbl
  have g63 := call63 T28 rfl hok.1
  have g64 := fun d l hd h => call64 T28 rfl d l hd h
  have hlen7 : (allS s).length ≤ 1048583 := by have := hok.1.1; simp only [allS, List.length_append, always, List.length_cons, List.length_nil]; omega
  have hhl := hit_len hok x (fun z => underB s z x)
  have tT := t28
  generalize T28 = T at *
  refine Dwp.step tT rfl fun K hK => ?_
  simp [init, arg2, EncR.and, EncR.one, Enc.sigd, Enc.agg, Enc.str]
  refine hK _ _ ?_ rfl; clear hK K
  refine Dwp.step tT rfl fun K hK => ?_
  simp [init, ty26, ty22, ty9, g51]
  refine hK _ _ ?_ rfl; clear hK K
  refine Dwp.step tT rfl fun K hK => ?_
  simp []
  refine hK _ _ ?_ rfl; clear hK K
  refine Dwp.seq ?_
  refine Dwp.step tT rfl fun K hK => ?_
  simp [σ0, ty26, ty22, g63]
  refine hK _ _ ?_ rfl; clear hK K
  obtain ⟨e, he⟩ : ∃ e, e = sureE s [x] := ⟨_, rfl⟩
  obtain ⟨L, hL⟩ : ∃ L, L = allS s := ⟨_, rfl⟩
  rw [← he, ← hL]
  rw [← hL] at hlen7
  obtain ⟨A, hA⟩ : ∃ A : Nat → DV, A = fun t => if t = 1 then .lit (.string x) else if t = 2 then .row (EncR.sigd.enc s) 0 else if t = 6 then .lit (.int .i64 e) else if t = 7 then .lit (.slice none 0 0) else if t = 15 then .slice 1 (.tok 10 0) (rows1 L) else if t = 16 then .lit (.int .i64 L.length) else if t = 17 then .lit (.int .i64 0) else .junk := ⟨_, rfl⟩
  refine Dwp.weaken A (fun t => ?_) ?_
  · rw [hA]
    by_cases h1 : t = 1
    · subst h1; simp [upd, init]; exact .refl _
    by_cases h2 : t = 2
    · subst h2; simp [upd]; exact .refl _
    by_cases h6 : t = 6
    · subst h6; simp [upd]; exact .refl _
    by_cases h7 : t = 7
    · subst h7; simp [upd]; exact .refl _
    by_cases h15 : t = 15
    · subst h15; simp [upd]; exact .refl _
    by_cases h16 : t = 16
    · subst h16; simp [upd]; exact .refl _
    by_cases h17 : t = 17
    · subst h17; simp [upd]; exact .refl _
    simp only [h1, h2, h6, h7, h15, h16, h17, if_false]
    exact fun C w v h => by simp [VRel]
  obtain ⟨q, hq⟩ : ∃ q : ByteArray → Bool, q = fun z => underB s z x := ⟨_, rfl⟩
  rw [← hq] at hhl
  rw [← hq]
  refine Dwp.range tT L.length (fun i a σ => a 1 = .lit (.string x) ∧ a 2 = .row (EncR.sigd.enc s) 0 ∧ a 6 = .lit (.int .i64 e) ∧ a 15 = .slice 1 (.tok 10 0) (rows1 L) ∧ OutNil σ (if e = 0 then (L.take i).filter q else []) (a 7))
    ⟨rfl, rfl, rfl⟩ ⟨rfl, rfl, rfl⟩ ⟨rfl, rfl, rfl⟩ (by decide) (by decide) (by omega) (by rw [hA]; rfl) (by rw [hA]; rfl) ⟨by rw [hA]; rfl, by rw [hA]; rfl, by rw [hA]; rfl, by rw [hA]; rfl, .inl ⟨by simp, by rw [hA]; rfl⟩⟩ ?_ ?_
  · rintro i a σ hi hidx hlen ⟨k1, k2, k6, k15, k7⟩
    obtain ⟨z, hz⟩ : ∃ z, z = L[i] := ⟨_, rfl⟩
    refine Dwp.step tT rfl fun K hK => ?_
    simp [hidx, k15, ty22, ty9, hi, ← hz]
    refine hK _ _ ?_ rfl; clear hK K
    refine Dwp.step tT rfl fun K hK => ?_
    have stay : (if e = 0 then (L.take (i + 1)).filter q else []) = (if e = 0 then (L.take i).filter q else []) ++ (if e = 0 ∧ q z = true then [z] else []) := by
      rw [List.take_succ_eq_append_getElem hi, ← hz]
      by_cases h0 : e = 0 <;> by_cases h1 : q z = true <;> simp [h0, h1]
    by_cases h0 : e = 0
    case neg =>
      have h0' : (e == 0) = false := by simpa using h0
      simp [k1, k2, k6, h0']
      refine hK _ _ ?_ rfl; clear hK K
      refine Dwp.condF (by simp [eval, upd]) (Dwp.skip ?_)
      refine ⟨by simp [upd, hidx], by simp [upd, hlen], by simp [upd, k1], by simp [upd, k2], by simp [upd, k6], by simp [upd, k15], ?_⟩
      rw [stay]
      simp [h0, upd] at k7 ⊢
      exact k7.toks rfl
    subst h0
    simp [k1, k2, k6, ty26, ty9, g52]
    refine hK _ _ ?_ rfl; clear hK K
    cases h1 : underB s z x with
    | false =>
      refine Dwp.condF (by simp [eval, upd, h1]) (Dwp.skip ?_)
      refine ⟨by simp [upd, hidx], by simp [upd, hlen], by simp [upd, k1], by simp [upd, k2], by simp [upd, k6], by simp [upd, k15], ?_⟩
      have h1' : q z = false := by rw [hq]; exact h1
      rw [stay]
      simp [h1', upd] at k7 ⊢
      exact k7.toks rfl
    | true =>
      refine Dwp.condT (by simp [eval, upd, h1]) ?_
      have h1' : q z = true := by rw [hq]; exact h1
      obtain ⟨out, hout⟩ : ∃ out, out = (L.take i).filter q := ⟨_, rfl⟩
      have hol : out.length ≤ 1048583 := by
        rw [hout]; refine Nat.le_trans (List.length_filter_le _ _) ?_; rw [List.length_take]; omega
      rw [if_pos rfl, ← hout] at k7
      have stay2 : (if (0 : Int) = 0 then (L.take (i + 1)).filter q else []) = out ++ [z] := by
        rw [if_pos rfl, List.take_succ_eq_append_getElem hi, ← hz, List.filter_append, ← hout]; simp [h1']
      refine Dwp.reg tT rfl fun K hK => ?_
      have fin := fun (a'' : Nat → DV) (τ'' : St) (h : a'' 17 = .lit (.int .i64 i) ∧ a'' 16 = .lit (.int .i64 L.length) ∧ a'' 1 = .lit (.string x) ∧ a'' 2 = .row (EncR.sigd.enc s) 0 ∧ a'' 6 = .lit (.int .i64 0) ∧ a'' 15 = .slice 1 (.tok 10 0) (rows1 L) ∧ OutNil τ'' (out ++ [z]) (a'' 7)) hn => hK a'' τ'' ⟨h.1, h.2.1, by simp [upd, h.2.2.1], by simp [upd, h.2.2.2.1], by simp [upd, h.2.2.2.2.1], by simp [upd, h.2.2.2.2.2.1], by rw [stay2]; simp only [upd]; exact h.2.2.2.2.2.2.toks rfl⟩ hn
      have hg : out.length + 1 ≤ 16777216 := by omega
      have hr : ∀ l : List ByteArray, l.map (fun x => [DV.lit (.string x)]) ++ [[.lit (.string z)]] = rows1 (l ++ [z]) := fun l => by simp [rows1]
      rcases k7 with ⟨ho, k7⟩ | ⟨tk, gg, k7, hgg⟩
      · simp [k7, ty22, ty9]
        exact fin _ _ ⟨by simp [upd, hidx], by simp [upd, hlen], by simp [upd, k1], by simp [upd, k2], by simp [upd, k6], by simp [upd, k15], .inr ⟨σ.n + 1 + 3 + 8 + 3, 0, by simp [upd, rows1, ho], by simp [upd]⟩⟩ rfl
      · simp [k7, ty22, ty9, hgg, hg]
        exact fin _ _ ⟨by simp [upd, hidx], by simp [upd, hlen], by simp [upd, k1], by simp [upd, k2], by simp [upd, k6], by simp [upd, k15], .inr ⟨tk, gg + 1, by simp [upd, rows1], by simp [upd]⟩⟩ rfl
  · rintro a σ hidx hlen ⟨k1, k2, k6, k15, k7⟩
    rw [List.take_length] at k7
    have hb : (if e = 0 then L.filter q else []) = hitB s x q := by unfold hitB; rw [← he, ← hL]
    rw [hb] at k7
    have hF : hitF s x q = (sortB (hitB s x q), e) := by rw [he]; rfl
    rw [hF]
    generalize hitB s x q = H at *
    refine Dwp.step tT rfl fun K hK => ?_
    have fin2 : ∀ (a'' : Nat → DV) (τ'' : St) (tg : Tag), tg = .none → a'' 4 = .slice 1 tg (rows1 (sortB H)) → a'' 5 = .lit (.int .i64 e) → Dwp Tryz.prog T E Tryz.f31.ntmps Code.ret (Done Tryz.prog Tryz.f31.results Enc.strsErr (sortB H, e)) a'' τ'' := by
      intro a'' τ'' tg hq h4 h5
      subst hq
      refine Dwp.ret ⟨.inr rfl, .tuple [.slice 1 .none (rows1 (sortB H)), .lit (.int .i64 e)], ?_, ?_⟩
      · show dresults Tryz.prog _ _ [ResultVar.tmp 4, ResultVar.tmp 5] = _
        simp [dresults, dres, h4, h5]
      · exact Enc.strsErr.de (sortB H, e)
    rcases k7 with ⟨ho, k7⟩ | ⟨tk, gg, k7, hgg⟩
    · have g := g64 (.lit (.slice none 0 0)) [] rfl (by simp)
      simp [k7, k6, g]
      refine hK _ _ (fin2 _ _ _ rfl (by simp [upd]; rw [ho]) (by simp [upd])) rfl
    · have g := g64 (.slice 1 (.tok tk gg) (rows1 H)) H (by have := decRows_enc (EncR.one Enc.str) H; exact this) hhl
      simp [k7, k6, g]
      refine hK _ _ (fin2 _ _ _ rfl (by simp [upd]) (by simp [upd])) rfl
theorem e31 : Go.FA.Good Tryz.prog (31, s31) := ⟨c31, Tryz.f31, _, Tryz.func31, rfl, by decide⟩
theorem call31 (T : Tab) (hT : T 31 = some s31) {s : SigD} (x : ByteArray) (h : s.ok2) (hb : s.below.length ≤ 250) : dcall T 31 [.agg (EncR.sigd.enc s), .lit (.string x)] = some (.tuple [.slice 1 .none (rows1 (sortB (hitB s x fun z => underB s z x))), .lit (.int .i64 (sureE s [x]))]) :=
  dcall2 (A := Enc.sigd) (B := Enc.str) (C := Enc.strsErr) (x := s) (y := x) hT (if_pos ⟨h, hb⟩)
end Go.Proofs.Yt
namespace Go.Proofs.Yt
open Go Go.FA Go.Proofs
set_option linter.unusedVariables false
set_option linter.unusedSimpArgs false
set_option maxRecDepth 100000

theorem mput_keys {α : Type} (k : ByteArray) (v : α) : ∀ m : List (ByteArray × α), (m.map (·.1)).Nodup → ((mput k v m).map (·.1)).Nodup ∧ ∀ j, j ∈ (mput k v m).map (·.1) → j = k ∨ j ∈ m.map (·.1)
  | [], _ => by simp [mput]
  | p :: l, h => by
    simp only [List.map_cons, List.nodup_cons] at h
    simp only [mput]
    split
    · next e => subst e; simp only [List.map_cons, List.nodup_cons]; exact ⟨h, fun j hj => by simpa using hj⟩
    · next e =>
      obtain ⟨h1, h2⟩ := mput_keys k v l h.2
      simp only [List.map_cons, List.nodup_cons, List.mem_cons]
      refine ⟨⟨fun hm => ?_, h1⟩, fun j hj => ?_⟩
      · rcases h2 _ hm with q | q
        · exact e q.symm
        · exact h.1 q
      · rcases hj with rfl | hj
        · exact .inr (.inl rfl)
        · rcases h2 j hj with q | q
          · exact .inl q
          · exact .inr (.inr q)
theorem highs_nodup (s : SigD) : ((newBook s).highs.map (·.1)).Nodup := by
  have h1 : ∀ (l : List ByteArray) (m : List (ByteArray × List ByteArray)), (m.map (·.1)).Nodup → ((l.foldl (fun m n => mput n [] m) m).map (·.1)).Nodup := by
    intro l
    induction l with
    | nil => intro m h; exact h
    | cons n l ih => intro m h; exact ih _ (mput_keys n [] m h).1
  have h2 : ∀ (l : List Bel) (m : List (ByteArray × List ByteArray)), (m.map (·.1)).Nodup → ((l.foldl addBel m).map (·.1)).Nodup := by
    intro l
    induction l with
    | nil => intro m h; exact h
    | cons n l ih =>
      intro m h
      refine ih _ ?_
      unfold addBel
      split
      · exact (mput_keys _ _ m h).1
      · exact h
  exact h2 _ _ (h1 _ _ (by simp))
theorem allS_nodup {s : SigD} (h : s.ok) (hv : s.vld = true) : (allS s).Nodup := by
  have := (okSorts_iff s.sorts).1 (vld_facts h hv).2.2.1
  unfold allS
  rw [List.nodup_append]
  refine ⟨by decide, this.2, fun a ha b hb e => ?_⟩
  subst e
  exact (this.1 a hb).2 ha
theorem keys_perm {s : SigD} (h : s.ok) (hv : s.vld = true) : ((newBook s).highs.map (·.1)).Perm (allS s) := by
  refine (List.perm_ext_iff_of_nodup (highs_nodup s) (allS_nodup h hv)).2 fun y => ?_
  rw [allS_mem, ← book_keys]; simp
theorem that_hit {s : SigD} (h : s.ok) (f : Nat) (hf : f = 62 ∨ f = 65) (x : ByteArray) : withBook (openF s [x]) [] (fun b => thatF b f b x) = some (hitF s x (fun z => if f = 65 then underB s z x else underB s x z)) := by
  rw [withBook_sure h [x] (by simp)]
  unfold hitF hitB
  by_cases q : sureE s [x] = 0
  · obtain ⟨hv, hx⟩ := sure_one q
    have hl := highs_small h hv
    rw [if_pos q, if_pos q, q]
    have hc : ∀ y, ∃ r, (newBook s).clo f x y = some r ∧ (x ∈ s.all → y ∈ s.all → (r = true ↔ (if f = 65 then s.at y x else s.at x y) = true)) := fun y => clo_some h hv f x y (by omega)
    unfold thatF
    rw [if_pos ⟨by omega, hf, by rw [List.all_eq_true]; intro p _; obtain ⟨r, h1, _⟩ := hc p.1; rw [h1]; rfl⟩, Option.map_some]
    congr 2
    have hp := (keys_perm h hv).filter (cloB (newBook s) f x)
    rw [sortB_perm hp]
    congr 1
    refine List.filter_congr fun y hy => ?_
    have hy' : y ∈ s.all := (allS_mem s y).1 hy
    obtain ⟨r, h1, h2⟩ := hc y
    have h3 := h2 hx hy'
    unfold cloB
    rw [h1, Option.getD_some, Bool.eq_iff_iff, h3]
    by_cases e : f = 65
    · simp only [e, if_true]; rw [underB_at h hv hy' hx]
    · simp only [e, if_false]; rw [underB_at h hv hx hy']
  · rw [if_neg q, if_neg q]
    have : sortB [] = [] := List.eq_nil_of_length_eq_zero (by rw [sortB_length]; rfl)
    rw [this]
theorem found_fits {s : SigD} (h : s.ok) (x : ByteArray) : (foundF s s.ops x).1.fits ∧ (foundF s s.funs x).1.fits := by
  obtain ⟨f1, f2⟩ := h.fits
  have h0 : noOp.fits := by decide
  have key : ∀ l : List OpD, (∀ o ∈ l, o.fits) → (foundF s l x).1.fits := by
    intro l hl
    unfold foundF namedF
    split
    · cases q : l.find? (fun o => decide (o.name = x)) with
      | none => exact h0
      | some o => exact hl o (List.mem_of_find?_eq_some q)
    · exact h0
  exact ⟨key _ f1, key _ f2⟩
theorem call29 (T : Tab) (hT : T 29 = some s29) (l : List ByteArray) (h : l.length ≤ 1000) : dcall T 29 [.slice 1 .none (rows1 l), .slice 1 .none (rows1 l)] = some (.lit (.bool true)) := by
  have := dcall2 (T := T) (A := Enc.strs) (B := Enc.strs) (C := Enc.bool) (x := l) (y := l) hT (if_pos ⟨Nat.le_trans h (by decide), Nat.le_trans h (by decide)⟩)
  refine Eq.trans this ?_
  simp [Enc.bool]
end Go.Proofs.Yt
namespace Go.Proofs.Yt
open Go Go.FA Go.Proofs
set_option linter.unusedVariables false
set_option linter.unusedSimpArgs false
set_option maxRecDepth 100000

def s5 : Sp := sp (arg2 Enc.sigd Enc.str) Enc.bool (fun x => if x.1.ok2 then some true else none)
abbrev T5 : Tab := tabOf [(10, s10), (11, s11), (22, s22), (23, s23), (24, s24), (25, s25), (26, s26), (27, s27), (28, s28), (29, s29), (30, s30), (31, s31)]
theorem t5 : TabOk Tryz.prog T5 := .cons e10 (.cons e11 (.cons e22 (.cons e23 (.cons e24 (.cons e25 (.cons e26 (.cons e27 (.cons e28 (.cons e29 (.cons e30 (.cons e31 .nil)))))))))))
attribute [local simp] drunL drunO dwanted dopS own plainOf dop dput eval ofVal Then Ex.then Ex.inBlock upd dbin Tag.isNN nilTest intCmp dload dpart TyI.agg dfieldAddr dfield dindexAddr dindex dlen lenOk dlookup mapOf keyFits dmapUpdate dcallee dbuiltin dstore DV.cells dslice dboundOk dappend appTag rowsOf elemOk growLimit dbuildCells dbuildCells.go structOk fieldsOk dbuildRows goInt
theorem c5 : CallSound Tryz.prog 5 s5 := by
  refine CallSound.of_sp (T := T5) Tryz.func5 rfl (Nat.le_of_ble_eq_true rfl) fun E xx y hy => ?_
  obtain ⟨s, x⟩ := xx
  simp only [] at hy
  split at hy
  case isFalse => cases hy
  next hok =>
  cases hy
  have g10 := call10 T5 rfl hok.1
  have g11 := call11 T5 rfl
  have g22 := call22' T5 rfl hok.1 x
  have g23 := fun h => call23 T5 rfl s x hok h
  have g25 := call25' T5 rfl hok.1 x
  have g26 := fun h => call26 T5 rfl s x hok h
  have g27 := call27 T5 rfl s x (that_hit hok.1 62 (.inl rfl) x)
  have g28 := fun h => call28 T5 rfl x hok h
  have g30 := call30 T5 rfl s x (that_hit hok.1 65 (.inr rfl) x)
  have g31 := fun h => call31 T5 rfl x hok h
  have l1 : (sortB (hitB s x fun z => underB s x z)).length ≤ 1000 := by rw [sortB_length]; exact hit_len hok x _
  have l2 : (sortB (hitB s x fun z => underB s z x)).length ≤ 1000 := by rw [sortB_length]; exact hit_len hok x _
  have g29a := call29 T5 rfl _ l1
  have g29b := call29 T5 rfl _ l2
  obtain ⟨fo, ff⟩ := found_fits hok.1 x
  have g24a := call24 T5 rfl _ _ fo fo
  have g24b := call24 T5 rfl _ _ ff ff
  simp only [decide_true] at g24a g24b
  simp only [if_true, if_false, (by decide : ¬ ((62 : Nat) = 65))] at g27 g30
  have setP : ∀ o, setAt noOpD 0 (EncR.opd.enc o) = EncR.opd.enc o := fun _ => rfl
  have setQ : ∀ o p, setAt (EncR.opd.enc p) 0 (EncR.opd.enc o) = EncR.opd.enc o := fun _ _ => rfl
  simp only [noOpD] at setP
  have tT := t5
  generalize T5 = T at *
  have fin : ∀ (a : Nat → DV) (σ : St), a 4 = .lit (.bool true) → Done Tryz.prog Tryz.f5.results Enc.bool true Ex.ret a σ := by
    intro a σ h2
    refine ⟨.inr rfl, .lit (.bool true), ?_, rfl⟩
    show dresults Tryz.prog σ a [ResultVar.tmp 4] = _
    simp [dresults, dres, h2]
  refine Dwp.step tT rfl fun K hK => ?_
  simp [init, arg2, EncR.and, EncR.one, Enc.sigd, Enc.agg, Enc.str]
  refine hK _ _ ?_ rfl; clear hK K
  refine Dwp.seq ?_
  refine Dwp.step tT rfl fun K hK => ?_
  by_cases hf : few s = true
  case neg =>
    have hf' : few s = false := by simpa using hf
    simp [ty26, ty22, g10, hf']
    refine hK _ _ ?_ rfl; clear hK K
    refine Dwp.condT (by simp [eval, upd]) ?_
    refine Dwp.step tT rfl fun K hK => ?_
    simp [g11]
    refine hK _ _ (Dwp.ret ?_) rfl
    exact fin _ _ (by simp [upd])
  have hbl : s.below.length ≤ 250 := by unfold few at hf; simp only [Bool.and_eq_true, decide_eq_true_eq] at hf; omega
  have g23 := g23 hbl
  have g26 := g26 hbl
  have g28 := g28 hbl
  have g31 := g31 hbl
  obtain ⟨r1, hr1⟩ : ∃ r, r = foundF s s.ops x := ⟨_, rfl⟩
  obtain ⟨r2, hr2⟩ : ∃ r, r = foundF s s.funs x := ⟨_, rfl⟩
  rw [← hr1] at g22 g23 g24a
  rw [← hr2] at g25 g26 g24b
  simp [ty26, ty22, g10, hf]
  refine hK _ _ ?_ rfl; clear hK K
  refine Dwp.condF (by simp [eval, upd]) (Dwp.skip ?_)
  refine Dwp.step tT rfl fun K hK => ?_
  simp [ty26, init, σ0, ty38, g22, setP]
  refine hK _ _ ?_ rfl; clear hK K
  refine Dwp.step tT rfl fun K hK => ?_
  simp [ty26, init, σ0, ty38, g23, setP]
  refine hK _ _ ?_ rfl; clear hK K
  refine Dwp.seq ?_
  refine Dwp.step tT rfl fun K hK => ?_
  simp [ty38, g24a]
  refine hK _ _ ?_ rfl; clear hK K
  refine Dwp.condF (by simp [eval, upd]) (Dwp.skip ?_)
  refine Dwp.step tT rfl fun K hK => ?_
  simp [ty26, ty38, g25, init, setQ]
  refine hK _ _ ?_ rfl; clear hK K
  refine Dwp.step tT rfl fun K hK => ?_
  simp [ty26, ty38, g26, init, setQ]
  refine hK _ _ ?_ rfl; clear hK K
  refine Dwp.seq ?_
  refine Dwp.step tT rfl fun K hK => ?_
  simp [ty38, g24b]
  refine hK _ _ ?_ rfl; clear hK K
  refine Dwp.condF (by simp [eval, upd]) (Dwp.skip ?_)
  refine Dwp.step tT rfl fun K hK => ?_
  simp [ty26, ty22, g27, init]
  refine hK _ _ ?_ rfl; clear hK K
  refine Dwp.step tT rfl fun K hK => ?_
  simp [ty26, ty22, g28, init]
  refine hK _ _ ?_ rfl; clear hK K
  refine Dwp.seq ?_
  refine Dwp.step tT rfl fun K hK => ?_
  simp [ty22, g29a]
  refine hK _ _ ?_ rfl; clear hK K
  refine Dwp.condF (by simp [eval, upd]) (Dwp.skip ?_)
  refine Dwp.step tT rfl fun K hK => ?_
  simp [ty26, ty22, g30, init]
  refine hK _ _ ?_ rfl; clear hK K
  refine Dwp.step tT rfl fun K hK => ?_
  simp [ty26, ty22, g31, init]
  refine hK _ _ ?_ rfl; clear hK K
  refine Dwp.step tT rfl fun K hK => ?_
  simp [ty22, g29b, g11]
  refine hK _ _ (Dwp.ret ?_) rfl
  exact fin _ _ (by simp [upd])
theorem e5 : Go.FA.Good Tryz.prog (5, s5) := ⟨c5, Tryz.f5, _, Tryz.func5, rfl, by decide⟩
end Go.Proofs.Yt
namespace Go.Proofs.Yt
open Go Go.FA Go.Proofs
set_option linter.unusedVariables false
set_option linter.unusedSimpArgs false
set_option maxRecDepth 100000

def s76 : Sp := sp (arg2 Enc.bels Enc.bels) Enc.bool (fun x => if x.1.length ≤ 1048576 ∧ x.2.length ≤ 1048576 then some (decide (x.1 = x.2)) else none)
attribute [local simp] drunL drunO dwanted dopS own plainOf dop dput eval ofVal Then Ex.then Ex.inBlock upd dbin Tag.isNN nilTest intCmp dload dpart TyI.agg dfieldAddr dfield dindexAddr dindex dlen lenOk dlookup mapOf keyFits dmapUpdate dcallee dbuiltin dstore DV.cells dslice dboundOk dappend appTag rowsOf elemOk growLimit dbuildCells dbuildCells.go structOk fieldsOk dbuildRows goInt
theorem c76 : CallSound Tryz.prog 76 s76 := by
  refine CallSound.of_sp (T := tabOf []) Tryz.func76 rfl (Nat.le_of_ble_eq_true rfl) fun E xx y hy => ?_
  obtain ⟨l, m⟩ := xx
  simp only [] at hy
  split at hy
  case isFalse => cases hy
  next hlim =>
  obtain ⟨hl, hm⟩ := hlim
  cases hy
  have hl' : l.length ≤ 16777216 := by omega
  have tT := tab0 (P := Tryz.prog)
  refine Dwp.step tT rfl fun K hK => ?_
  simp [init, arg2, EncR.and, EncR.one]
  refine hK _ _ ?_ rfl; clear hK K
  refine Dwp.seq ?_
  refine Dwp.step tT rfl fun K hK => ?_
  by_cases hlen : l.length = m.length
  case neg =>
    have hlen' : ((l.length : Int) != (m.length : Int)) = true := by simp; omega
    simp [init, ty23, belsC, hlen']
    refine hK _ _ ?_ rfl; clear hK K
    refine Dwp.condT (by simp [eval, upd]) ?_
    refine Dwp.step tT rfl fun K hK => ?_
    simp []
    refine hK _ _ (Dwp.ret ?_) rfl
    have : l ≠ m := fun e => hlen (by rw [e])
    simp [Done, dresults, dres, frz, frz1, frz2, Ex.then, upd, Enc.bool, this]
  simp [init, ty23, belsC, hlen]
  refine hK _ _ ?_ rfl; clear hK K
  refine Dwp.condF (by simp [eval, upd]) (Dwp.skip ?_)
  refine Dwp.seq ?_
  refine Dwp.step tT rfl fun K hK => ?_
  simp [init, ty23, belsC, hlen]
  refine hK _ _ ?_ rfl; clear hK K
  refine Dwp.range tT m.length (fun i a σ => a 0 = .slice 2 .none (l.map EncR.bel.enc) ∧ a 1 = .slice 2 .none (m.map EncR.bel.enc) ∧ l.take i = m.take i) ⟨rfl, rfl, rfl⟩ ⟨rfl, rfl, rfl⟩ ⟨rfl, rfl, rfl⟩ (by decide) (by decide) (by omega) (by simp [upd]) (by simp [upd]) (by simp [upd, init]) ?_ ?_
  · rintro i a σ hi hidx hlen2 ⟨h0, h1, htk⟩
    have hil : i < l.length := by omega
    refine Dwp.step tT rfl fun K hK => ?_
    simp [hidx]
    refine hK _ _ ?_ rfl; clear hK K
    refine Dwp.drawStep [] mixed tT rfl (by decide) fun K hK => ?_
    have hs := eqBelS l[i] m[i]
    by_cases he : l[i] = m[i]
    · rw [he] at hs
      simp [drunT, touch, touchP, h0, h1, ty23, ty78, hi, hil, he, hs]
      refine hK _ _ ?_ rfl; clear hK K
      refine Dwp.condF (by simp [eval, upd]) (Dwp.skip ?_)
      exact ⟨by simp [upd, hidx], by simp [upd, hlen2], by simp [upd, h0], by simp [upd, h1], take_eq_succ hil hi htk he⟩
    · simp [drunT, touch, touchP, h0, h1, ty23, ty78, hi, hil, he, hs]
      refine hK _ _ ?_ rfl; clear hK K
      refine Dwp.condT (by simp [eval, upd, he]) ?_
      refine Dwp.step tT rfl fun K hK => ?_
      simp []
      refine hK _ _ (Dwp.ret ?_) rfl
      have : l ≠ m := fun e => he (by subst e; rfl)
      simp [Done, dresults, dres, frz, frz1, frz2, Round, Ex.then, upd, Enc.bool, this]
  · rintro a σ hidx hlen2 ⟨h0, h1, htk⟩
    have : l = m := by rwa [List.take_of_length_le (by omega), List.take_of_length_le (by omega)] at htk
    refine Dwp.step tT rfl fun K hK => ?_
    simp []
    refine hK _ _ (Dwp.ret ?_) rfl
    simp [Done, dresults, dres, frz, frz1, frz2, Ex.then, upd, Enc.bool, this]
theorem e76 : Go.FA.Good Tryz.prog (76, s76) := ⟨c76, Tryz.f76, _, Tryz.func76, rfl, by decide⟩
theorem call76 (T : Tab) (hT : T 76 = some s76) (l m : List Bel) (hl : l.length ≤ 1048576) (hm : m.length ≤ 1048576) : dcall T 76 [Enc.bels.enc l, Enc.bels.enc m] = some (.lit (.bool (decide (l = m)))) :=
  dcall2 (A := Enc.bels) (B := Enc.bels) (C := Enc.bool) hT (if_pos ⟨hl, hm⟩)
def s106 : Sp := sp (arg2 Enc.pies Enc.pies) Enc.bool (fun x => if x.1.length ≤ 1048576 ∧ x.2.length ≤ 1048576 then some (decide (x.1 = x.2)) else none)
theorem c106 : CallSound Tryz.prog 106 s106 := by
  refine CallSound.of_sp (T := tabOf []) Tryz.func106 rfl (Nat.le_of_ble_eq_true rfl) fun E xx y hy => ?_
  obtain ⟨l, m⟩ := xx
  simp only [] at hy
  split at hy
  case isFalse => cases hy
  next hlim =>
  obtain ⟨hl, hm⟩ := hlim
  cases hy
  have hl' : l.length ≤ 16777216 := by omega
  have tT := tab0 (P := Tryz.prog)
  refine Dwp.step tT rfl fun K hK => ?_
  simp [init, arg2, EncR.and, EncR.one]
  refine hK _ _ ?_ rfl; clear hK K
  refine Dwp.seq ?_
  refine Dwp.step tT rfl fun K hK => ?_
  by_cases hlen : l.length = m.length
  case neg =>
    have hlen' : ((l.length : Int) != (m.length : Int)) = true := by simp; omega
    simp [init, ty34, piesC, hlen']
    refine hK _ _ ?_ rfl; clear hK K
    refine Dwp.condT (by simp [eval, upd]) ?_
    refine Dwp.step tT rfl fun K hK => ?_
    simp []
    refine hK _ _ (Dwp.ret ?_) rfl
    have : l ≠ m := fun e => hlen (by rw [e])
    simp [Done, dresults, dres, frz, frz1, frz2, Ex.then, upd, Enc.bool, this]
  simp [init, ty34, piesC, hlen]
  refine hK _ _ ?_ rfl; clear hK K
  refine Dwp.condF (by simp [eval, upd]) (Dwp.skip ?_)
  refine Dwp.seq ?_
  refine Dwp.step tT rfl fun K hK => ?_
  simp [init, ty34, piesC, hlen]
  refine hK _ _ ?_ rfl; clear hK K
  refine Dwp.range tT m.length (fun i a σ => a 0 = .slice 2 .none (l.map EncR.pie.enc) ∧ a 1 = .slice 2 .none (m.map EncR.pie.enc) ∧ l.take i = m.take i) ⟨rfl, rfl, rfl⟩ ⟨rfl, rfl, rfl⟩ ⟨rfl, rfl, rfl⟩ (by decide) (by decide) (by omega) (by simp [upd]) (by simp [upd]) (by simp [upd, init]) ?_ ?_
  · rintro i a σ hi hidx hlen2 ⟨h0, h1, htk⟩
    have hil : i < l.length := by omega
    refine Dwp.step tT rfl fun K hK => ?_
    simp [hidx]
    refine hK _ _ ?_ rfl; clear hK K
    refine Dwp.drawStep [] mixed tT rfl (by decide) fun K hK => ?_
    have hs := eqPie l[i] m[i]
    by_cases he : l[i] = m[i]
    · rw [he] at hs
      simp [drunT, touch, touchP, h0, h1, ty34, ty69, hi, hil, he, hs]
      refine hK _ _ ?_ rfl; clear hK K
      refine Dwp.condF (by simp [eval, upd]) (Dwp.skip ?_)
      exact ⟨by simp [upd, hidx], by simp [upd, hlen2], by simp [upd, h0], by simp [upd, h1], take_eq_succ hil hi htk he⟩
    · simp [drunT, touch, touchP, h0, h1, ty34, ty69, hi, hil, he, hs]
      refine hK _ _ ?_ rfl; clear hK K
      refine Dwp.condT (by simp [eval, upd, he]) ?_
      refine Dwp.step tT rfl fun K hK => ?_
      simp []
      refine hK _ _ (Dwp.ret ?_) rfl
      have : l ≠ m := fun e => he (by subst e; rfl)
      simp [Done, dresults, dres, frz, frz1, frz2, Round, Ex.then, upd, Enc.bool, this]
  · rintro a σ hidx hlen2 ⟨h0, h1, htk⟩
    have : l = m := by rwa [List.take_of_length_le (by omega), List.take_of_length_le (by omega)] at htk
    refine Dwp.step tT rfl fun K hK => ?_
    simp []
    refine hK _ _ (Dwp.ret ?_) rfl
    simp [Done, dresults, dres, frz, frz1, frz2, Ex.then, upd, Enc.bool, this]
theorem e106 : Go.FA.Good Tryz.prog (106, s106) := ⟨c106, Tryz.f106, _, Tryz.func106, rfl, by decide⟩
theorem call106 (T : Tab) (hT : T 106 = some s106) (l m : List Pie) (hl : l.length ≤ 1048576) (hm : m.length ≤ 1048576) : dcall T 106 [Enc.pies.enc l, Enc.pies.enc m] = some (.lit (.bool (decide (l = m)))) :=
  dcall2 (A := Enc.pies) (B := Enc.pies) (C := Enc.bool) hT (if_pos ⟨hl, hm⟩)
def s107 : Sp := sp (arg2 Enc.ints Enc.ints) Enc.bool (fun x => if x.1.length ≤ 1048576 ∧ x.2.length ≤ 1048576 then some (decide (x.1 = x.2)) else none)
theorem c107 : CallSound Tryz.prog 107 s107 := by
  refine CallSound.of_sp (T := tabOf []) Tryz.func107 rfl (Nat.le_of_ble_eq_true rfl) fun E xx y hy => ?_
  obtain ⟨l, m⟩ := xx
  simp only [] at hy
  split at hy
  case isFalse => cases hy
  next hlim =>
  obtain ⟨hl, hm⟩ := hlim
  cases hy
  have hl' : l.length ≤ 16777216 := by omega
  have tT := tab0 (P := Tryz.prog)
  refine Dwp.step tT rfl fun K hK => ?_
  simp [init, arg2, EncR.and, EncR.one]
  refine hK _ _ ?_ rfl; clear hK K
  refine Dwp.seq ?_
  refine Dwp.step tT rfl fun K hK => ?_
  by_cases hlen : l.length = m.length
  case neg =>
    have hlen' : ((l.length : Int) != (m.length : Int)) = true := by simp; omega
    simp [init, ty36, intsC, hlen']
    refine hK _ _ ?_ rfl; clear hK K
    refine Dwp.condT (by simp [eval, upd]) ?_
    refine Dwp.step tT rfl fun K hK => ?_
    simp []
    refine hK _ _ (Dwp.ret ?_) rfl
    have : l ≠ m := fun e => hlen (by rw [e])
    simp [Done, dresults, dres, frz, frz1, frz2, Ex.then, upd, Enc.bool, this]
  simp [init, ty36, intsC, hlen]
  refine hK _ _ ?_ rfl; clear hK K
  refine Dwp.condF (by simp [eval, upd]) (Dwp.skip ?_)
  refine Dwp.seq ?_
  refine Dwp.step tT rfl fun K hK => ?_
  simp [init, ty36, intsC, hlen]
  refine hK _ _ ?_ rfl; clear hK K
  refine Dwp.range tT m.length (fun i a σ => a 0 = .slice 1 .none (l.map fun n => [DV.lit (.int .i64 n)]) ∧ a 1 = .slice 1 .none (m.map fun n => [DV.lit (.int .i64 n)]) ∧ l.take i = m.take i) ⟨rfl, rfl, rfl⟩ ⟨rfl, rfl, rfl⟩ ⟨rfl, rfl, rfl⟩ (by decide) (by decide) (by omega) (by simp [upd]) (by simp [upd]) (by simp [upd, init]) ?_ ?_
  · rintro i a σ hi hidx hlen2 ⟨h0, h1, htk⟩
    have hil : i < l.length := by omega
    refine Dwp.step tT rfl fun K hK => ?_
    simp [hidx]
    refine hK _ _ ?_ rfl; clear hK K
    refine Dwp.drawStep [] mixed tT rfl (by decide) fun K hK => ?_
    by_cases he : l[i] = m[i]
    · simp [drunT, touch, touchP, h0, h1, ty36, ty3, hi, hil, he]
      refine hK _ _ ?_ rfl; clear hK K
      refine Dwp.condF (by simp [eval, upd]) (Dwp.skip ?_)
      exact ⟨by simp [upd, hidx], by simp [upd, hlen2], by simp [upd, h0], by simp [upd, h1], take_eq_succ hil hi htk he⟩
    · simp [drunT, touch, touchP, h0, h1, ty36, ty3, hi, hil, he]
      refine hK _ _ ?_ rfl; clear hK K
      refine Dwp.condT (by simp [eval, upd, he]) ?_
      refine Dwp.step tT rfl fun K hK => ?_
      simp []
      refine hK _ _ (Dwp.ret ?_) rfl
      have : l ≠ m := fun e => he (by subst e; rfl)
      simp [Done, dresults, dres, frz, frz1, frz2, Round, Ex.then, upd, Enc.bool, this]
  · rintro a σ hidx hlen2 ⟨h0, h1, htk⟩
    have : l = m := by rwa [List.take_of_length_le (by omega), List.take_of_length_le (by omega)] at htk
    refine Dwp.step tT rfl fun K hK => ?_
    simp []
    refine hK _ _ (Dwp.ret ?_) rfl
    simp [Done, dresults, dres, frz, frz1, frz2, Ex.then, upd, Enc.bool, this]
theorem e107 : Go.FA.Good Tryz.prog (107, s107) := ⟨c107, Tryz.f107, _, Tryz.func107, rfl, by decide⟩
theorem call107 (T : Tab) (hT : T 107 = some s107) (l m : List Int) (hl : l.length ≤ 1048576) (hm : m.length ≤ 1048576) : dcall T 107 [Enc.ints.enc l, Enc.ints.enc m] = some (.lit (.bool (decide (l = m)))) :=
  dcall2 (A := Enc.ints) (B := Enc.ints) (C := Enc.bool) hT (if_pos ⟨hl, hm⟩)

def Enc.fn78 : Enc Unit where
  enc _ := .lit (.func (.func 78) #[] #[])
  dec d := match d with | .lit (.func (.func f) a b) => if f = 78 ∧ a = #[] ∧ b = #[] then some () else none | _ => none
  le d x h := by
    split at h
    · split at h
      · next e => obtain ⟨rfl, rfl, rfl⟩ := e; exact .refl _
      · cases h
    · cases h
  pure _ := rfl
  de _ := by simp
def s78 : Sp := sp (arg2 Enc.opd Enc.opd) Enc.bool (fun x => if x.1.fits ∧ x.2.fits then some (decide (x.1 = x.2)) else none)
abbrev T78 : Tab := tabOf [(75, s75), (106, s106), (107, s107)]
theorem t78 : TabOk Tryz.prog T78 := .cons e75 (.cons e106 (.cons e107 .nil))
set_option maxHeartbeats 2000000 in
theorem c78 : CallSound Tryz.prog 78 s78 := by
  refine CallSound.of_sp (T := T78) Tryz.func78 rfl (Nat.le_of_ble_eq_true rfl) fun E xx y hy => ?_
  obtain ⟨o, p⟩ := xx
  simp only [] at hy
  split at hy
  case isFalse => cases hy
  next hfit =>
  obtain ⟨⟨l1, l2, l3⟩, m1, m2, m3⟩ := hfit
  cases hy
  have g75 := call75 T78 rfl (Enc.strs.enc o.args) (Enc.strs.enc p.args) o.args p.args (Enc.strs.de _) (Enc.strs.de _) (by unfold lim; omega) (by unfold lim; omega)
  have g106 := call106 T78 rfl o.pieces p.pieces l2 m2
  have g107 := call107 T78 rfl o.strict p.strict l3 m3
  simp only [strsC, piesC, intsC] at g75 g106 g107
  have tT := t78
  generalize T78 = T at *
  have fin : ∀ (a : Nat → DV) (σ : St) (b : Bool), a 4 = .lit (.bool b) → decide (o = p) = b → Done Tryz.prog Tryz.f78.results Enc.bool (decide (o = p)) Ex.ret a σ := by
    intro a σ b h2 hne
    refine ⟨.inr rfl, .lit (.bool b), ?_, by rw [hne]; rfl⟩
    show dresults Tryz.prog σ a [ResultVar.tmp 4] = _
    simp [dresults, dres, h2]
  refine Dwp.step tT rfl fun K hK => ?_
  simp [init, arg2, EncR.and, EncR.one, Enc.opd, Enc.agg]
  refine hK _ _ ?_ rfl; clear hK K
  refine Dwp.step tT rfl fun K hK => ?_
  repeat (first
    | (refine Then.stepD rfl rfl (fun K1 hK1 => ?_); simp [Then1, Guarded, ty38, ty9, ty3, ty35, ty22, ty34, ty36, strsC, piesC, intsC]; refine hK1 _ _ ?_; clear hK1 K1)
    | (refine Then.stepG rfl rfl rfl (fun K1 hK1 => ?_); simp [Then1, Guarded, ty38, ty9, ty3, ty35, ty22, ty34, ty36, strsC, piesC, intsC]; refine hK1 _ _ ?_; clear hK1 K1)
    | (refine Then.stepN rfl rfl (fun K1 hK1 => ?_); simp [Then1, Guarded, ty38, ty9, ty3, ty35, ty22, ty34, ty36, strsC, piesC, intsC]; refine hK1 _ _ ?_; clear hK1 K1)
    | (refine Then.stepGN rfl rfl rfl (fun K1 hK1 => ?_); simp [Then1, Guarded, ty38, ty9, ty3, ty35, ty22, ty34, ty36, strsC, piesC, intsC]; refine hK1 _ _ ?_; clear hK1 K1))
  by_cases h1 : o.name = p.name
  case neg =>
    have hne : ¬ o = p := fun e => h1 (by rw [e])
    repeat (first
      | (refine Then.stepD rfl rfl (fun K1 hK1 => ?_); simp [Then1, Guarded, ty38, ty9, ty3, ty35, ty22, ty34, ty36, strsC, piesC, intsC, h1]; refine hK1 _ _ ?_; clear hK1 K1)
      | (refine Then.stepG rfl rfl rfl (fun K1 hK1 => ?_); simp [Then1, Guarded, ty38, ty9, ty3, ty35, ty22, ty34, ty36, strsC, piesC, intsC, h1]; refine hK1 _ _ ?_; clear hK1 K1)
      | (refine Then.stepN rfl rfl (fun K1 hK1 => ?_); simp [Then1, Guarded, ty38, ty9, ty3, ty35, ty22, ty34, ty36, strsC, piesC, intsC, h1]; refine hK1 _ _ ?_; clear hK1 K1)
      | (refine Then.stepGN rfl rfl rfl (fun K1 hK1 => ?_); simp [Then1, Guarded, ty38, ty9, ty3, ty35, ty22, ty34, ty36, strsC, piesC, intsC, h1]; refine hK1 _ _ ?_; clear hK1 K1))
    refine Then.done (hK _ _ (Dwp.ret ?_) rfl)
    exact fin _ _ false (by simp [upd]) (by simp [hne])
  repeat (first
    | (refine Then.stepD rfl rfl (fun K1 hK1 => ?_); simp [Then1, Guarded, ty38, ty9, ty3, ty35, ty22, ty34, ty36, strsC, piesC, intsC, h1, g75]; refine hK1 _ _ ?_; clear hK1 K1)
    | (refine Then.stepG rfl rfl rfl (fun K1 hK1 => ?_); simp [Then1, Guarded, ty38, ty9, ty3, ty35, ty22, ty34, ty36, strsC, piesC, intsC, h1, g75]; refine hK1 _ _ ?_; clear hK1 K1)
    | (refine Then.stepN rfl rfl (fun K1 hK1 => ?_); simp [Then1, Guarded, ty38, ty9, ty3, ty35, ty22, ty34, ty36, strsC, piesC, intsC, h1, g75]; refine hK1 _ _ ?_; clear hK1 K1)
    | (refine Then.stepGN rfl rfl rfl (fun K1 hK1 => ?_); simp [Then1, Guarded, ty38, ty9, ty3, ty35, ty22, ty34, ty36, strsC, piesC, intsC, h1, g75]; refine hK1 _ _ ?_; clear hK1 K1))
  by_cases h2 : o.args = p.args
  case neg =>
    have hne : ¬ o = p := fun e => h2 (by rw [e])
    repeat (first
      | (refine Then.stepD rfl rfl (fun K1 hK1 => ?_); simp [Then1, Guarded, ty38, ty9, ty3, ty35, ty22, ty34, ty36, strsC, piesC, intsC, h1, h2]; refine hK1 _ _ ?_; clear hK1 K1)
      | (refine Then.stepG rfl rfl rfl (fun K1 hK1 => ?_); simp [Then1, Guarded, ty38, ty9, ty3, ty35, ty22, ty34, ty36, strsC, piesC, intsC, h1, h2]; refine hK1 _ _ ?_; clear hK1 K1)
      | (refine Then.stepN rfl rfl (fun K1 hK1 => ?_); simp [Then1, Guarded, ty38, ty9, ty3, ty35, ty22, ty34, ty36, strsC, piesC, intsC, h1, h2]; refine hK1 _ _ ?_; clear hK1 K1)
      | (refine Then.stepGN rfl rfl rfl (fun K1 hK1 => ?_); simp [Then1, Guarded, ty38, ty9, ty3, ty35, ty22, ty34, ty36, strsC, piesC, intsC, h1, h2]; refine hK1 _ _ ?_; clear hK1 K1))
    refine Then.done (hK _ _ (Dwp.ret ?_) rfl)
    exact fin _ _ false (by simp [upd]) (by simp [hne])
  repeat (first
    | (refine Then.stepD rfl rfl (fun K1 hK1 => ?_); simp [Then1, Guarded, ty38, ty9, ty3, ty35, ty22, ty34, ty36, strsC, piesC, intsC, h1, h2]; refine hK1 _ _ ?_; clear hK1 K1)
    | (refine Then.stepG rfl rfl rfl (fun K1 hK1 => ?_); simp [Then1, Guarded, ty38, ty9, ty3, ty35, ty22, ty34, ty36, strsC, piesC, intsC, h1, h2]; refine hK1 _ _ ?_; clear hK1 K1)
    | (refine Then.stepN rfl rfl (fun K1 hK1 => ?_); simp [Then1, Guarded, ty38, ty9, ty3, ty35, ty22, ty34, ty36, strsC, piesC, intsC, h1, h2]; refine hK1 _ _ ?_; clear hK1 K1)
    | (refine Then.stepGN rfl rfl rfl (fun K1 hK1 => ?_); simp [Then1, Guarded, ty38, ty9, ty3, ty35, ty22, ty34, ty36, strsC, piesC, intsC, h1, h2]; refine hK1 _ _ ?_; clear hK1 K1))
  by_cases h3 : o.sort = p.sort
  case neg =>
    have hne : ¬ o = p := fun e => h3 (by rw [e])
    repeat (first
      | (refine Then.stepD rfl rfl (fun K1 hK1 => ?_); simp [Then1, Guarded, ty38, ty9, ty3, ty35, ty22, ty34, ty36, strsC, piesC, intsC, h1, h2, h3]; refine hK1 _ _ ?_; clear hK1 K1)
      | (refine Then.stepG rfl rfl rfl (fun K1 hK1 => ?_); simp [Then1, Guarded, ty38, ty9, ty3, ty35, ty22, ty34, ty36, strsC, piesC, intsC, h1, h2, h3]; refine hK1 _ _ ?_; clear hK1 K1)
      | (refine Then.stepN rfl rfl (fun K1 hK1 => ?_); simp [Then1, Guarded, ty38, ty9, ty3, ty35, ty22, ty34, ty36, strsC, piesC, intsC, h1, h2, h3]; refine hK1 _ _ ?_; clear hK1 K1)
      | (refine Then.stepGN rfl rfl rfl (fun K1 hK1 => ?_); simp [Then1, Guarded, ty38, ty9, ty3, ty35, ty22, ty34, ty36, strsC, piesC, intsC, h1, h2, h3]; refine hK1 _ _ ?_; clear hK1 K1))
    refine Then.done (hK _ _ (Dwp.ret ?_) rfl)
    exact fin _ _ false (by simp [upd]) (by simp [hne])
  repeat (first
    | (refine Then.stepD rfl rfl (fun K1 hK1 => ?_); simp [Then1, Guarded, ty38, ty9, ty3, ty35, ty22, ty34, ty36, strsC, piesC, intsC, h1, h2, h3, g106]; refine hK1 _ _ ?_; clear hK1 K1)
    | (refine Then.stepG rfl rfl rfl (fun K1 hK1 => ?_); simp [Then1, Guarded, ty38, ty9, ty3, ty35, ty22, ty34, ty36, strsC, piesC, intsC, h1, h2, h3, g106]; refine hK1 _ _ ?_; clear hK1 K1)
    | (refine Then.stepN rfl rfl (fun K1 hK1 => ?_); simp [Then1, Guarded, ty38, ty9, ty3, ty35, ty22, ty34, ty36, strsC, piesC, intsC, h1, h2, h3, g106]; refine hK1 _ _ ?_; clear hK1 K1)
    | (refine Then.stepGN rfl rfl rfl (fun K1 hK1 => ?_); simp [Then1, Guarded, ty38, ty9, ty3, ty35, ty22, ty34, ty36, strsC, piesC, intsC, h1, h2, h3, g106]; refine hK1 _ _ ?_; clear hK1 K1))
  by_cases h4 : o.pieces = p.pieces
  case neg =>
    have hne : ¬ o = p := fun e => h4 (by rw [e])
    repeat (first
      | (refine Then.stepD rfl rfl (fun K1 hK1 => ?_); simp [Then1, Guarded, ty38, ty9, ty3, ty35, ty22, ty34, ty36, strsC, piesC, intsC, h1, h2, h3, h4]; refine hK1 _ _ ?_; clear hK1 K1)
      | (refine Then.stepG rfl rfl rfl (fun K1 hK1 => ?_); simp [Then1, Guarded, ty38, ty9, ty3, ty35, ty22, ty34, ty36, strsC, piesC, intsC, h1, h2, h3, h4]; refine hK1 _ _ ?_; clear hK1 K1)
      | (refine Then.stepN rfl rfl (fun K1 hK1 => ?_); simp [Then1, Guarded, ty38, ty9, ty3, ty35, ty22, ty34, ty36, strsC, piesC, intsC, h1, h2, h3, h4]; refine hK1 _ _ ?_; clear hK1 K1)
      | (refine Then.stepGN rfl rfl rfl (fun K1 hK1 => ?_); simp [Then1, Guarded, ty38, ty9, ty3, ty35, ty22, ty34, ty36, strsC, piesC, intsC, h1, h2, h3, h4]; refine hK1 _ _ ?_; clear hK1 K1))
    refine Then.done (hK _ _ (Dwp.ret ?_) rfl)
    exact fin _ _ false (by simp [upd]) (by simp [hne])
  repeat (first
    | (refine Then.stepD rfl rfl (fun K1 hK1 => ?_); simp [Then1, Guarded, ty38, ty9, ty3, ty35, ty22, ty34, ty36, strsC, piesC, intsC, h1, h2, h3, h4]; refine hK1 _ _ ?_; clear hK1 K1)
    | (refine Then.stepG rfl rfl rfl (fun K1 hK1 => ?_); simp [Then1, Guarded, ty38, ty9, ty3, ty35, ty22, ty34, ty36, strsC, piesC, intsC, h1, h2, h3, h4]; refine hK1 _ _ ?_; clear hK1 K1)
    | (refine Then.stepN rfl rfl (fun K1 hK1 => ?_); simp [Then1, Guarded, ty38, ty9, ty3, ty35, ty22, ty34, ty36, strsC, piesC, intsC, h1, h2, h3, h4]; refine hK1 _ _ ?_; clear hK1 K1)
    | (refine Then.stepGN rfl rfl rfl (fun K1 hK1 => ?_); simp [Then1, Guarded, ty38, ty9, ty3, ty35, ty22, ty34, ty36, strsC, piesC, intsC, h1, h2, h3, h4]; refine hK1 _ _ ?_; clear hK1 K1))
  by_cases h5 : o.prec = p.prec
  case neg =>
    have hne : ¬ o = p := fun e => h5 (by rw [e])
    have h5n : (o.prec == p.prec) = false := by simpa using h5
    repeat (first
      | (refine Then.stepD rfl rfl (fun K1 hK1 => ?_); simp [Then1, Guarded, ty38, ty9, ty3, ty35, ty22, ty34, ty36, strsC, piesC, intsC, h1, h2, h3, h4, h5n]; refine hK1 _ _ ?_; clear hK1 K1)
      | (refine Then.stepG rfl rfl rfl (fun K1 hK1 => ?_); simp [Then1, Guarded, ty38, ty9, ty3, ty35, ty22, ty34, ty36, strsC, piesC, intsC, h1, h2, h3, h4, h5n]; refine hK1 _ _ ?_; clear hK1 K1)
      | (refine Then.stepN rfl rfl (fun K1 hK1 => ?_); simp [Then1, Guarded, ty38, ty9, ty3, ty35, ty22, ty34, ty36, strsC, piesC, intsC, h1, h2, h3, h4, h5n]; refine hK1 _ _ ?_; clear hK1 K1)
      | (refine Then.stepGN rfl rfl rfl (fun K1 hK1 => ?_); simp [Then1, Guarded, ty38, ty9, ty3, ty35, ty22, ty34, ty36, strsC, piesC, intsC, h1, h2, h3, h4, h5n]; refine hK1 _ _ ?_; clear hK1 K1))
    refine Then.done (hK _ _ (Dwp.ret ?_) rfl)
    exact fin _ _ false (by simp [upd]) (by simp [hne])
  have h5p : (o.prec == p.prec) = true := by simpa using h5
  repeat (first
    | (refine Then.stepD rfl rfl (fun K1 hK1 => ?_); simp [Then1, Guarded, ty38, ty9, ty3, ty35, ty22, ty34, ty36, strsC, piesC, intsC, h1, h2, h3, h4, h5p]; refine hK1 _ _ ?_; clear hK1 K1)
    | (refine Then.stepG rfl rfl rfl (fun K1 hK1 => ?_); simp [Then1, Guarded, ty38, ty9, ty3, ty35, ty22, ty34, ty36, strsC, piesC, intsC, h1, h2, h3, h4, h5p]; refine hK1 _ _ ?_; clear hK1 K1)
    | (refine Then.stepN rfl rfl (fun K1 hK1 => ?_); simp [Then1, Guarded, ty38, ty9, ty3, ty35, ty22, ty34, ty36, strsC, piesC, intsC, h1, h2, h3, h4, h5p]; refine hK1 _ _ ?_; clear hK1 K1)
    | (refine Then.stepGN rfl rfl rfl (fun K1 hK1 => ?_); simp [Then1, Guarded, ty38, ty9, ty3, ty35, ty22, ty34, ty36, strsC, piesC, intsC, h1, h2, h3, h4, h5p]; refine hK1 _ _ ?_; clear hK1 K1))
  by_cases h6 : o.assoc = p.assoc
  case neg =>
    have hne : ¬ o = p := fun e => h6 (by rw [e])
    have h6n : (o.assoc == p.assoc) = false := by simpa using h6
    repeat (first
      | (refine Then.stepD rfl rfl (fun K1 hK1 => ?_); simp [Then1, Guarded, ty38, ty9, ty3, ty35, ty22, ty34, ty36, strsC, piesC, intsC, h1, h2, h3, h4, h5p, h6n]; refine hK1 _ _ ?_; clear hK1 K1)
      | (refine Then.stepG rfl rfl rfl (fun K1 hK1 => ?_); simp [Then1, Guarded, ty38, ty9, ty3, ty35, ty22, ty34, ty36, strsC, piesC, intsC, h1, h2, h3, h4, h5p, h6n]; refine hK1 _ _ ?_; clear hK1 K1)
      | (refine Then.stepN rfl rfl (fun K1 hK1 => ?_); simp [Then1, Guarded, ty38, ty9, ty3, ty35, ty22, ty34, ty36, strsC, piesC, intsC, h1, h2, h3, h4, h5p, h6n]; refine hK1 _ _ ?_; clear hK1 K1)
      | (refine Then.stepGN rfl rfl rfl (fun K1 hK1 => ?_); simp [Then1, Guarded, ty38, ty9, ty3, ty35, ty22, ty34, ty36, strsC, piesC, intsC, h1, h2, h3, h4, h5p, h6n]; refine hK1 _ _ ?_; clear hK1 K1))
    refine Then.done (hK _ _ (Dwp.ret ?_) rfl)
    exact fin _ _ false (by simp [upd]) (by simp [hne])
  have h6p : (o.assoc == p.assoc) = true := by simpa using h6
  repeat (first
    | (refine Then.stepD rfl rfl (fun K1 hK1 => ?_); simp [Then1, Guarded, ty38, ty9, ty3, ty35, ty22, ty34, ty36, strsC, piesC, intsC, h1, h2, h3, h4, h5p, h6p, g107]; refine hK1 _ _ ?_; clear hK1 K1)
    | (refine Then.stepG rfl rfl rfl (fun K1 hK1 => ?_); simp [Then1, Guarded, ty38, ty9, ty3, ty35, ty22, ty34, ty36, strsC, piesC, intsC, h1, h2, h3, h4, h5p, h6p, g107]; refine hK1 _ _ ?_; clear hK1 K1)
    | (refine Then.stepN rfl rfl (fun K1 hK1 => ?_); simp [Then1, Guarded, ty38, ty9, ty3, ty35, ty22, ty34, ty36, strsC, piesC, intsC, h1, h2, h3, h4, h5p, h6p, g107]; refine hK1 _ _ ?_; clear hK1 K1)
    | (refine Then.stepGN rfl rfl rfl (fun K1 hK1 => ?_); simp [Then1, Guarded, ty38, ty9, ty3, ty35, ty22, ty34, ty36, strsC, piesC, intsC, h1, h2, h3, h4, h5p, h6p, g107]; refine hK1 _ _ ?_; clear hK1 K1))
  by_cases h7 : o.strict = p.strict
  case neg =>
    have hne : ¬ o = p := fun e => h7 (by rw [e])
    repeat (first
      | (refine Then.stepD rfl rfl (fun K1 hK1 => ?_); simp [Then1, Guarded, ty38, ty9, ty3, ty35, ty22, ty34, ty36, strsC, piesC, intsC, h1, h2, h3, h4, h5p, h6p, h7]; refine hK1 _ _ ?_; clear hK1 K1)
      | (refine Then.stepG rfl rfl rfl (fun K1 hK1 => ?_); simp [Then1, Guarded, ty38, ty9, ty3, ty35, ty22, ty34, ty36, strsC, piesC, intsC, h1, h2, h3, h4, h5p, h6p, h7]; refine hK1 _ _ ?_; clear hK1 K1)
      | (refine Then.stepN rfl rfl (fun K1 hK1 => ?_); simp [Then1, Guarded, ty38, ty9, ty3, ty35, ty22, ty34, ty36, strsC, piesC, intsC, h1, h2, h3, h4, h5p, h6p, h7]; refine hK1 _ _ ?_; clear hK1 K1)
      | (refine Then.stepGN rfl rfl rfl (fun K1 hK1 => ?_); simp [Then1, Guarded, ty38, ty9, ty3, ty35, ty22, ty34, ty36, strsC, piesC, intsC, h1, h2, h3, h4, h5p, h6p, h7]; refine hK1 _ _ ?_; clear hK1 K1))
    refine Then.done (hK _ _ (Dwp.ret ?_) rfl)
    exact fin _ _ false (by simp [upd, h7]) (by simp [hne])
  repeat (first
    | (refine Then.stepD rfl rfl (fun K1 hK1 => ?_); simp [Then1, Guarded, ty38, ty9, ty3, ty35, ty22, ty34, ty36, strsC, piesC, intsC, h1, h2, h3, h4, h5p, h6p, h7]; refine hK1 _ _ ?_; clear hK1 K1)
    | (refine Then.stepG rfl rfl rfl (fun K1 hK1 => ?_); simp [Then1, Guarded, ty38, ty9, ty3, ty35, ty22, ty34, ty36, strsC, piesC, intsC, h1, h2, h3, h4, h5p, h6p, h7]; refine hK1 _ _ ?_; clear hK1 K1)
    | (refine Then.stepN rfl rfl (fun K1 hK1 => ?_); simp [Then1, Guarded, ty38, ty9, ty3, ty35, ty22, ty34, ty36, strsC, piesC, intsC, h1, h2, h3, h4, h5p, h6p, h7]; refine hK1 _ _ ?_; clear hK1 K1)
    | (refine Then.stepGN rfl rfl rfl (fun K1 hK1 => ?_); simp [Then1, Guarded, ty38, ty9, ty3, ty35, ty22, ty34, ty36, strsC, piesC, intsC, h1, h2, h3, h4, h5p, h6p, h7]; refine hK1 _ _ ?_; clear hK1 K1))
  have he : o = p := by cases o; cases p; simp_all
  refine Then.done (hK _ _ (Dwp.ret ?_) rfl)
  exact fin _ _ true (by simp [upd, h7]) (by simp [he])
theorem e78 : Go.FA.Good Tryz.prog (78, s78) := ⟨c78, Tryz.f78, _, Tryz.func78, rfl, by decide⟩
theorem call78 (T : Tab) (hT : T 78 = some s78) (o p : OpD) (ho : o.fits) (hp : p.fits) : dcall T 78 [.agg (EncR.opd.enc o), .agg (EncR.opd.enc p)] = some (.lit (.bool (decide (o = p)))) :=
  dcall2 (A := Enc.opd) (B := Enc.opd) (C := Enc.bool) hT (if_pos ⟨ho, hp⟩)

def s77 : Sp := sp (arg3 Enc.ops Enc.ops Enc.fn78) Enc.bool (fun x => if x.1.length ≤ 1048576 ∧ x.2.1.length ≤ 1048576 ∧ (∀ o ∈ x.1, o.fits) ∧ (∀ o ∈ x.2.1, o.fits) then some (decide (x.1 = x.2.1)) else none)
abbrev T77 : Tab := tabOf [(78, s78)]
theorem t77 : TabOk Tryz.prog T77 := .cons e78 .nil
theorem c77 : CallSound Tryz.prog 77 s77 := by
  refine CallSound.of_sp (T := T77) Tryz.func77 rfl (Nat.le_of_ble_eq_true rfl) fun E xx y hy => ?_
  obtain ⟨l, m, u⟩ := xx
  simp only [] at hy
  split at hy
  case isFalse => cases hy
  next hlim =>
  obtain ⟨hl, hm, fl, fm⟩ := hlim
  cases hy
  have hl' : l.length ≤ 16777216 := by omega
  have g78 := call78 T77 rfl
  have tT := t77
  generalize T77 = T at *
  have setP : ∀ o, setAt noOpD 0 (EncR.opd.enc o) = EncR.opd.enc o := fun _ => rfl
  simp only [noOpD] at setP
  refine Dwp.step tT rfl fun K hK => ?_
  simp [init, arg3, EncR.and, EncR.one]
  refine hK _ _ ?_ rfl; clear hK K
  refine Dwp.seq ?_
  refine Dwp.step tT rfl fun K hK => ?_
  by_cases hlen : l.length = m.length
  case neg =>
    have hlen' : ((l.length : Int) != (m.length : Int)) = true := by simp; omega
    simp [init, ty24, opsC, hlen']
    refine hK _ _ ?_ rfl; clear hK K
    refine Dwp.condT (by simp [eval, upd]) ?_
    refine Dwp.step tT rfl fun K hK => ?_
    simp []
    refine hK _ _ (Dwp.ret ?_) rfl
    have : l ≠ m := fun e => hlen (by rw [e])
    simp [Done, dresults, dres, frz, frz1, frz2, Ex.then, upd, Enc.bool, this]
  simp [init, ty24, opsC, hlen]
  refine hK _ _ ?_ rfl; clear hK K
  refine Dwp.condF (by simp [eval, upd]) (Dwp.skip ?_)
  refine Dwp.seq ?_
  refine Dwp.step tT rfl fun K hK => ?_
  simp [init, ty24, opsC, hlen]
  refine hK _ _ ?_ rfl; clear hK K
  refine Dwp.range tT m.length (fun i a σ => a 1 = .slice 7 .none (m.map EncR.opd.enc) ∧ a 2 = .lit (.func (.func 78) #[] #[]) ∧ a 15 = .slice 7 .none (l.map EncR.opd.enc) ∧ l.take i = m.take i) ⟨rfl, rfl, rfl⟩ ⟨rfl, rfl, rfl⟩ ⟨rfl, rfl, rfl⟩ (by decide) (by decide) (by omega) (by simp [upd]) (by simp [upd]) ⟨by simp [upd, init, opsC], by simp [upd, init, Enc.fn78], by simp [upd, init, opsC], by simp⟩ ?_ ?_
  · rintro i a σ hi hidx hlen2 ⟨k1, k2, k15, htk⟩
    have hil : i < l.length := by omega
    obtain ⟨o, ho⟩ : ∃ o, o = l[i] := ⟨_, rfl⟩
    obtain ⟨p, hp⟩ : ∃ p, p = m[i] := ⟨_, rfl⟩
    have g := g78 o p (by rw [ho]; exact fl _ (List.getElem_mem hil)) (by rw [hp]; exact fm _ (List.getElem_mem hi))
    refine Dwp.step tT rfl fun K hK => ?_
    simp [hidx, k15, ty24, ty38, hil, ← ho, setP]
    refine hK _ _ ?_ rfl; clear hK K
    refine Dwp.step tT rfl fun K hK => ?_
    simp [k1, ty24, ty38, hi, ← hp, setP]
    refine hK _ _ ?_ rfl; clear hK K
    refine Dwp.step tT rfl fun K hK => ?_
    have hnn : ¬ (σ.n + 5 + 3 = σ.n + 3) := by omega
    have hnn2 : ¬ (σ.n + 3 = σ.n + 5 + 3) := by omega
    by_cases he : o = p
    · simp only [he, decide_true] at g
      simp [k2, ty38, g, he]
      refine hK _ _ ?_ rfl
      refine Dwp.condF (by simp [eval, upd]) (Dwp.skip ?_)
      exact ⟨by simp [upd, hidx], by simp [upd, hlen2], by simp [upd, k1], by simp [upd, k2], by simp [upd, k15], take_eq_succ hil hi htk (by rw [← ho, ← hp]; exact he)⟩
    · simp only [he, decide_false] at g
      simp [k2, ty38, g]
      refine hK _ _ ?_ rfl
      refine Dwp.condT (by simp [eval, upd]) ?_
      refine Dwp.step tT rfl fun K hK => ?_
      simp []
      refine hK _ _ (Dwp.ret ?_) rfl
      have : l ≠ m := fun e => he (by subst e; rw [ho, hp])
      simp [Done, dresults, dres, frz, frz1, frz2, Round, Ex.then, upd, Enc.bool, this]
  · rintro a σ hidx hlen2 ⟨k1, k2, k15, htk⟩
    have : l = m := by rwa [List.take_of_length_le (by omega), List.take_of_length_le (by omega)] at htk
    refine Dwp.step tT rfl fun K hK => ?_
    simp []
    refine hK _ _ (Dwp.ret ?_) rfl
    simp [Done, dresults, dres, frz, frz1, frz2, Ex.then, upd, Enc.bool, this]
theorem e77 : Go.FA.Good Tryz.prog (77, s77) := ⟨c77, Tryz.f77, _, Tryz.func77, rfl, by decide⟩
theorem call77 (T : Tab) (hT : T 77 = some s77) (l m : List OpD) (hl : l.length ≤ 1048576) (hm : m.length ≤ 1048576) (fl : ∀ o ∈ l, o.fits) (fm : ∀ o ∈ m, o.fits) : dcall T 77 [Enc.ops.enc l, Enc.ops.enc m, .lit (.func (.func 78) #[] #[])] = some (.lit (.bool (decide (l = m)))) :=
  dcall3 (A := Enc.ops) (B := Enc.ops) (C := Enc.fn78) (D := Enc.bool) (x := l) (y := m) (u := ()) hT (if_pos ⟨hl, hm, fl, fm⟩)
def s35 : Sp := sp (arg2 Enc.sigd Enc.sigd) Enc.bool (fun x => if x.1.ok ∧ x.2.ok then some (decide (x.1 = x.2)) else none)
abbrev T35 : Tab := tabOf [(75, s75), (76, s76), (77, s77)]
theorem t35 : TabOk Tryz.prog T35 := .cons e75 (.cons e76 (.cons e77 .nil))
set_option maxHeartbeats 2000000 in
theorem c35 : CallSound Tryz.prog 35 s35 := by
  refine CallSound.of_sp (T := T35) Tryz.func35 rfl (Nat.le_of_ble_eq_true rfl) fun E xx y hy => ?_
  obtain ⟨o, p⟩ := xx
  simp only [] at hy
  split at hy
  case isFalse => cases hy
  next hfit =>
  obtain ⟨ok1, ok2⟩ := hfit
  cases hy
  have g75a := call75 T35 rfl (Enc.strs.enc o.sorts) (Enc.strs.enc p.sorts) o.sorts p.sorts (Enc.strs.de _) (Enc.strs.de _) (by have := ok1.1; unfold lim; omega) (by have := ok2.1; unfold lim; omega)
  have g75b := call75 T35 rfl (Enc.strs.enc o.values) (Enc.strs.enc p.values) o.values p.values (Enc.strs.de _) (Enc.strs.de _) (by have := ok1.2.2.2.1; unfold lim; omega) (by have := ok2.2.2.2.1; unfold lim; omega)
  have g76 := call76 T35 rfl o.below p.below ok1.2.1 ok2.2.1
  have g77a := call77 T35 rfl o.ops p.ops (by have := ok1.2.2.1; omega) (by have := ok2.2.2.1; omega) ok1.fits.1 ok2.fits.1
  have g77b := call77 T35 rfl o.funs p.funs (by have := ok1.2.2.1; omega) (by have := ok2.2.2.1; omega) ok1.fits.2 ok2.fits.2
  simp only [strsC, belsC, opsC] at g75a g75b g76 g77a g77b
  have tT := t35
  generalize T35 = T at *
  have fin : ∀ (a : Nat → DV) (σ : St) (b : Bool), a 4 = .lit (.bool b) → decide (o = p) = b → Done Tryz.prog Tryz.f35.results Enc.bool (decide (o = p)) Ex.ret a σ := by
    intro a σ b h2 hne
    refine ⟨.inr rfl, .lit (.bool b), ?_, by rw [hne]; rfl⟩
    show dresults Tryz.prog σ a [ResultVar.tmp 4] = _
    simp [dresults, dres, h2]
  refine Dwp.step tT rfl fun K hK => ?_
  simp [init, arg2, EncR.and, EncR.one, Enc.sigd, Enc.agg]
  refine hK _ _ ?_ rfl; clear hK K
  refine Dwp.step tT rfl fun K hK => ?_
  repeat (first
    | (refine Then.stepD rfl rfl (fun K1 hK1 => ?_); simp [Then1, Guarded, ty26, ty22, ty23, ty24, strsC, belsC, opsC, g75a]; refine hK1 _ _ ?_; clear hK1 K1)
    | (refine Then.stepG rfl rfl rfl (fun K1 hK1 => ?_); simp [Then1, Guarded, ty26, ty22, ty23, ty24, strsC, belsC, opsC, g75a]; refine hK1 _ _ ?_; clear hK1 K1)
    | (refine Then.stepN rfl rfl (fun K1 hK1 => ?_); simp [Then1, Guarded, ty26, ty22, ty23, ty24, strsC, belsC, opsC, g75a]; refine hK1 _ _ ?_; clear hK1 K1)
    | (refine Then.stepGN rfl rfl rfl (fun K1 hK1 => ?_); simp [Then1, Guarded, ty26, ty22, ty23, ty24, strsC, belsC, opsC, g75a]; refine hK1 _ _ ?_; clear hK1 K1))
  by_cases h1 : o.sorts = p.sorts
  case neg =>
    have hne : ¬ o = p := fun e => h1 (by rw [e])
    repeat (first
      | (refine Then.stepD rfl rfl (fun K1 hK1 => ?_); simp [Then1, Guarded, ty26, ty22, ty23, ty24, strsC, belsC, opsC, h1]; refine hK1 _ _ ?_; clear hK1 K1)
      | (refine Then.stepG rfl rfl rfl (fun K1 hK1 => ?_); simp [Then1, Guarded, ty26, ty22, ty23, ty24, strsC, belsC, opsC, h1]; refine hK1 _ _ ?_; clear hK1 K1)
      | (refine Then.stepN rfl rfl (fun K1 hK1 => ?_); simp [Then1, Guarded, ty26, ty22, ty23, ty24, strsC, belsC, opsC, h1]; refine hK1 _ _ ?_; clear hK1 K1)
      | (refine Then.stepGN rfl rfl rfl (fun K1 hK1 => ?_); simp [Then1, Guarded, ty26, ty22, ty23, ty24, strsC, belsC, opsC, h1]; refine hK1 _ _ ?_; clear hK1 K1))
    refine Then.done (hK _ _ (Dwp.ret ?_) rfl)
    exact fin _ _ false (by simp [upd, h1]) (by simp [hne])
  repeat (first
    | (refine Then.stepD rfl rfl (fun K1 hK1 => ?_); simp [Then1, Guarded, ty26, ty22, ty23, ty24, strsC, belsC, opsC, h1, g76]; refine hK1 _ _ ?_; clear hK1 K1)
    | (refine Then.stepG rfl rfl rfl (fun K1 hK1 => ?_); simp [Then1, Guarded, ty26, ty22, ty23, ty24, strsC, belsC, opsC, h1, g76]; refine hK1 _ _ ?_; clear hK1 K1)
    | (refine Then.stepN rfl rfl (fun K1 hK1 => ?_); simp [Then1, Guarded, ty26, ty22, ty23, ty24, strsC, belsC, opsC, h1, g76]; refine hK1 _ _ ?_; clear hK1 K1)
    | (refine Then.stepGN rfl rfl rfl (fun K1 hK1 => ?_); simp [Then1, Guarded, ty26, ty22, ty23, ty24, strsC, belsC, opsC, h1, g76]; refine hK1 _ _ ?_; clear hK1 K1))
  by_cases h2 : o.below = p.below
  case neg =>
    have hne : ¬ o = p := fun e => h2 (by rw [e])
    repeat (first
      | (refine Then.stepD rfl rfl (fun K1 hK1 => ?_); simp [Then1, Guarded, ty26, ty22, ty23, ty24, strsC, belsC, opsC, h1, h2]; refine hK1 _ _ ?_; clear hK1 K1)
      | (refine Then.stepG rfl rfl rfl (fun K1 hK1 => ?_); simp [Then1, Guarded, ty26, ty22, ty23, ty24, strsC, belsC, opsC, h1, h2]; refine hK1 _ _ ?_; clear hK1 K1)
      | (refine Then.stepN rfl rfl (fun K1 hK1 => ?_); simp [Then1, Guarded, ty26, ty22, ty23, ty24, strsC, belsC, opsC, h1, h2]; refine hK1 _ _ ?_; clear hK1 K1)
      | (refine Then.stepGN rfl rfl rfl (fun K1 hK1 => ?_); simp [Then1, Guarded, ty26, ty22, ty23, ty24, strsC, belsC, opsC, h1, h2]; refine hK1 _ _ ?_; clear hK1 K1))
    refine Then.done (hK _ _ (Dwp.ret ?_) rfl)
    exact fin _ _ false (by simp [upd, h2]) (by simp [hne])
  repeat (first
    | (refine Then.stepD rfl rfl (fun K1 hK1 => ?_); simp [Then1, Guarded, ty26, ty22, ty23, ty24, strsC, belsC, opsC, h1, h2, g77a]; refine hK1 _ _ ?_; clear hK1 K1)
    | (refine Then.stepG rfl rfl rfl (fun K1 hK1 => ?_); simp [Then1, Guarded, ty26, ty22, ty23, ty24, strsC, belsC, opsC, h1, h2, g77a]; refine hK1 _ _ ?_; clear hK1 K1)
    | (refine Then.stepN rfl rfl (fun K1 hK1 => ?_); simp [Then1, Guarded, ty26, ty22, ty23, ty24, strsC, belsC, opsC, h1, h2, g77a]; refine hK1 _ _ ?_; clear hK1 K1)
    | (refine Then.stepGN rfl rfl rfl (fun K1 hK1 => ?_); simp [Then1, Guarded, ty26, ty22, ty23, ty24, strsC, belsC, opsC, h1, h2, g77a]; refine hK1 _ _ ?_; clear hK1 K1))
  by_cases h3 : o.ops = p.ops
  case neg =>
    have hne : ¬ o = p := fun e => h3 (by rw [e])
    repeat (first
      | (refine Then.stepD rfl rfl (fun K1 hK1 => ?_); simp [Then1, Guarded, ty26, ty22, ty23, ty24, strsC, belsC, opsC, h1, h2, h3]; refine hK1 _ _ ?_; clear hK1 K1)
      | (refine Then.stepG rfl rfl rfl (fun K1 hK1 => ?_); simp [Then1, Guarded, ty26, ty22, ty23, ty24, strsC, belsC, opsC, h1, h2, h3]; refine hK1 _ _ ?_; clear hK1 K1)
      | (refine Then.stepN rfl rfl (fun K1 hK1 => ?_); simp [Then1, Guarded, ty26, ty22, ty23, ty24, strsC, belsC, opsC, h1, h2, h3]; refine hK1 _ _ ?_; clear hK1 K1)
      | (refine Then.stepGN rfl rfl rfl (fun K1 hK1 => ?_); simp [Then1, Guarded, ty26, ty22, ty23, ty24, strsC, belsC, opsC, h1, h2, h3]; refine hK1 _ _ ?_; clear hK1 K1))
    refine Then.done (hK _ _ (Dwp.ret ?_) rfl)
    exact fin _ _ false (by simp [upd, h3]) (by simp [hne])
  repeat (first
    | (refine Then.stepD rfl rfl (fun K1 hK1 => ?_); simp [Then1, Guarded, ty26, ty22, ty23, ty24, strsC, belsC, opsC, h1, h2, h3, g77b]; refine hK1 _ _ ?_; clear hK1 K1)
    | (refine Then.stepG rfl rfl rfl (fun K1 hK1 => ?_); simp [Then1, Guarded, ty26, ty22, ty23, ty24, strsC, belsC, opsC, h1, h2, h3, g77b]; refine hK1 _ _ ?_; clear hK1 K1)
    | (refine Then.stepN rfl rfl (fun K1 hK1 => ?_); simp [Then1, Guarded, ty26, ty22, ty23, ty24, strsC, belsC, opsC, h1, h2, h3, g77b]; refine hK1 _ _ ?_; clear hK1 K1)
    | (refine Then.stepGN rfl rfl rfl (fun K1 hK1 => ?_); simp [Then1, Guarded, ty26, ty22, ty23, ty24, strsC, belsC, opsC, h1, h2, h3, g77b]; refine hK1 _ _ ?_; clear hK1 K1))
  by_cases h4 : o.funs = p.funs
  case neg =>
    have hne : ¬ o = p := fun e => h4 (by rw [e])
    repeat (first
      | (refine Then.stepD rfl rfl (fun K1 hK1 => ?_); simp [Then1, Guarded, ty26, ty22, ty23, ty24, strsC, belsC, opsC, h1, h2, h3, h4]; refine hK1 _ _ ?_; clear hK1 K1)
      | (refine Then.stepG rfl rfl rfl (fun K1 hK1 => ?_); simp [Then1, Guarded, ty26, ty22, ty23, ty24, strsC, belsC, opsC, h1, h2, h3, h4]; refine hK1 _ _ ?_; clear hK1 K1)
      | (refine Then.stepN rfl rfl (fun K1 hK1 => ?_); simp [Then1, Guarded, ty26, ty22, ty23, ty24, strsC, belsC, opsC, h1, h2, h3, h4]; refine hK1 _ _ ?_; clear hK1 K1)
      | (refine Then.stepGN rfl rfl rfl (fun K1 hK1 => ?_); simp [Then1, Guarded, ty26, ty22, ty23, ty24, strsC, belsC, opsC, h1, h2, h3, h4]; refine hK1 _ _ ?_; clear hK1 K1))
    refine Then.done (hK _ _ (Dwp.ret ?_) rfl)
    exact fin _ _ false (by simp [upd, h4]) (by simp [hne])
  repeat (first
    | (refine Then.stepD rfl rfl (fun K1 hK1 => ?_); simp [Then1, Guarded, ty26, ty22, ty23, ty24, strsC, belsC, opsC, h1, h2, h3, h4, g75b]; refine hK1 _ _ ?_; clear hK1 K1)
    | (refine Then.stepG rfl rfl rfl (fun K1 hK1 => ?_); simp [Then1, Guarded, ty26, ty22, ty23, ty24, strsC, belsC, opsC, h1, h2, h3, h4, g75b]; refine hK1 _ _ ?_; clear hK1 K1)
    | (refine Then.stepN rfl rfl (fun K1 hK1 => ?_); simp [Then1, Guarded, ty26, ty22, ty23, ty24, strsC, belsC, opsC, h1, h2, h3, h4, g75b]; refine hK1 _ _ ?_; clear hK1 K1)
    | (refine Then.stepGN rfl rfl rfl (fun K1 hK1 => ?_); simp [Then1, Guarded, ty26, ty22, ty23, ty24, strsC, belsC, opsC, h1, h2, h3, h4, g75b]; refine hK1 _ _ ?_; clear hK1 K1))
  by_cases h5 : o.values = p.values
  case neg =>
    have hne : ¬ o = p := fun e => h5 (by rw [e])
    repeat (first
      | (refine Then.stepD rfl rfl (fun K1 hK1 => ?_); simp [Then1, Guarded, ty26, ty22, ty23, ty24, strsC, belsC, opsC, h1, h2, h3, h4, h5]; refine hK1 _ _ ?_; clear hK1 K1)
      | (refine Then.stepG rfl rfl rfl (fun K1 hK1 => ?_); simp [Then1, Guarded, ty26, ty22, ty23, ty24, strsC, belsC, opsC, h1, h2, h3, h4, h5]; refine hK1 _ _ ?_; clear hK1 K1)
      | (refine Then.stepN rfl rfl (fun K1 hK1 => ?_); simp [Then1, Guarded, ty26, ty22, ty23, ty24, strsC, belsC, opsC, h1, h2, h3, h4, h5]; refine hK1 _ _ ?_; clear hK1 K1)
      | (refine Then.stepGN rfl rfl rfl (fun K1 hK1 => ?_); simp [Then1, Guarded, ty26, ty22, ty23, ty24, strsC, belsC, opsC, h1, h2, h3, h4, h5]; refine hK1 _ _ ?_; clear hK1 K1))
    refine Then.done (hK _ _ (Dwp.ret ?_) rfl)
    exact fin _ _ false (by simp [upd, h5]) (by simp [hne])
  have he : o = p := by cases o; cases p; simp_all
  refine Then.done (hK _ _ (Dwp.ret ?_) rfl)
  exact fin _ _ true (by simp [upd, h5]) (by simp [he])
theorem e35 : Go.FA.Good Tryz.prog (35, s35) := ⟨c35, Tryz.f35, _, Tryz.func35, rfl, by decide⟩
theorem call35 (T : Tab) (hT : T 35 = some s35) (s t : SigD) (h : s.ok) (h' : t.ok) : dcall T 35 [.agg (EncR.sigd.enc s), .agg (EncR.sigd.enc t)] = some (.lit (.bool (decide (s = t)))) :=
  dcall2 (A := Enc.sigd) (B := Enc.sigd) (C := Enc.bool) (x := s) (y := t) hT (if_pos ⟨h, h'⟩)
end Go.Proofs.Yt
namespace Go.Proofs.Yt
open Go Go.FA Go.Proofs
set_option linter.unusedVariables false
set_option linter.unusedSimpArgs false
set_option maxRecDepth 100000

def arg4 {α β γ δ : Type} (A : Enc α) (B : Enc β) (C : Enc γ) (D : Enc δ) : EncR (α × β × γ × δ) := (EncR.one A).and ((EncR.one B).and ((EncR.one C).and (EncR.one D)))
theorem dcall4 {α β γ δ ε : Type} {A : Enc α} {B : Enc β} {C : Enc γ} {D : Enc δ} {E : Enc ε} {g : α × β × γ × δ → Option ε} {T : Tab} {f : FuncId} {x : α} {y : β} {u : γ} {v : δ} {z : ε} (hT : T f = some (sp (arg4 A B C D) E g)) (hg : g (x, y, u, v) = some z) : dcall T f [A.enc x, B.enc y, C.enc u, D.enc v] = some (E.enc z) := by
  simp [dcall, hT, sp, arg4, EncR.and, EncR.one, A.de, B.de, C.de, D.de, hg]
/-- one name for another, and back -/
def swapF (x a b : ByteArray) : ByteArray := if x = a then b else if x = b then a else x
def s104 : Sp := sp (arg3 Enc.str Enc.str Enc.str) Enc.str (fun x => some (swapF x.1 x.2.1 x.2.2))
attribute [local simp] drunL drunO dwanted dopS own plainOf dop dput eval ofVal Then Ex.then Ex.inBlock upd dbin Tag.isNN nilTest intCmp dload dpart TyI.agg dfieldAddr dfield dindexAddr dindex dlen lenOk dlookup mapOf keyFits dmapUpdate dcallee dbuiltin dstore DV.cells dslice dboundOk dappend appTag rowsOf elemOk growLimit dbuildCells dbuildCells.go structOk fieldsOk dbuildRows goInt
theorem c104 : CallSound Tryz.prog 104 s104 := by
  refine CallSound.of_sp (T := tabOf []) Tryz.func104 rfl (Nat.le_of_ble_eq_true rfl) fun E xx y hy => ?_
  obtain ⟨x, u, v⟩ := xx
  simp only [Option.some.injEq] at hy
  subst hy
  have tT := tab0 (P := Tryz.prog)
  have fin : ∀ (a : Nat → DV) (σ : St) (z : ByteArray), a 6 = .lit (.string z) → swapF x u v = z → Done Tryz.prog Tryz.f104.results Enc.str (swapF x u v) Ex.ret a σ := by
    intro a σ z h2 hne
    refine ⟨.inr rfl, .lit (.string z), ?_, by rw [hne]; rfl⟩
    show dresults Tryz.prog σ a [ResultVar.tmp 6] = _
    simp [dresults, dres, h2]
  refine Dwp.step tT rfl fun K hK => ?_
  simp [init, arg3, EncR.and, EncR.one, Enc.str]
  refine hK _ _ ?_ rfl; clear hK K
  refine Dwp.seq ?_
  refine Dwp.step tT rfl fun K hK => ?_
  simp [init]
  refine hK _ _ ?_ rfl; clear hK K
  refine Dwp.block ?_
  refine Dwp.step tT rfl fun K hK => ?_
  by_cases h1 : x = u
  · simp [init, h1]
    refine hK _ _ ?_ rfl; clear hK K
    refine Dwp.condT (by simp [eval, upd]) ?_
    refine Dwp.step tT rfl fun K hK => ?_
    simp [init]
    refine hK _ _ (Dwp.ret ?_) rfl
    exact fin _ _ v (by simp [upd]) (by simp [swapF, h1])
  simp [init, h1]
  refine hK _ _ ?_ rfl; clear hK K
  refine Dwp.condF (by simp [eval, upd]) ?_
  refine Dwp.step tT rfl fun K hK => ?_
  by_cases h2 : x = v
  · simp [init, h2]
    refine hK _ _ ?_ rfl; clear hK K
    refine Dwp.condT (by simp [eval, upd]) ?_
    refine Dwp.step tT rfl fun K hK => ?_
    simp [init]
    refine hK _ _ (Dwp.ret ?_) rfl
    exact fin _ _ u (by simp [upd]) (by subst h2; simp [swapF, h1])
  simp [init, h2]
  refine hK _ _ ?_ rfl; clear hK K
  refine Dwp.condF (by simp [eval, upd]) (Dwp.skip ?_)
  simp only [Ex.then, Ex.inBlock, if_true]
  refine Dwp.step tT rfl fun K hK => ?_
  simp [init]
  refine hK _ _ (Dwp.ret ?_) rfl
  exact fin _ _ x (by simp [upd]) (by simp [swapF, h1, h2])
theorem e104 : Go.FA.Good Tryz.prog (104, s104) := ⟨c104, Tryz.f104, _, Tryz.func104, rfl, by decide⟩
theorem call104 (T : Tab) (hT : T 104 = some s104) (x u v : ByteArray) : dcall T 104 [.lit (.string x), .lit (.string u), .lit (.string v)] = some (.lit (.string (swapF x u v))) :=
  dcall3 (A := Enc.str) (B := Enc.str) (C := Enc.str) (D := Enc.str) (x := x) (y := u) (u := v) hT rfl
/-- an operation's name, its frame kept -/
def swapOp (x a b : ByteArray) : ByteArray := swapF (frameF x).1 a b ++ (frameF x).2
def s105 : Sp := sp (arg3 Enc.str Enc.str Enc.str) Enc.str (fun x => if x.1.size ≤ 1048576 ∧ x.2.1.size ≤ 1048576 ∧ x.2.2.size ≤ 1048576 then some (swapOp x.1 x.2.1 x.2.2) else none)
abbrev T105 : Tab := tabOf [(104, s104), (118, s118)]
theorem t105 : TabOk Tryz.prog T105 := .cons e104 (.cons e118 .nil)
theorem frame_sizes (s : ByteArray) : (frameF s).1.size ≤ s.size ∧ (frameF s).2.size ≤ s.size := by
  unfold frameF
  split
  · simp only [ByteArray.size_extract]; omega
  · exact ⟨Nat.le_refl _, Nat.zero_le _⟩
theorem c105 : CallSound Tryz.prog 105 s105 := by
  refine CallSound.of_sp (T := T105) Tryz.func105 rfl (Nat.le_of_ble_eq_true rfl) fun E xx y hy => ?_
  obtain ⟨x, u, v⟩ := xx
  simp only [] at hy
  split at hy
  case isFalse => cases hy
  next hh =>
  obtain ⟨l1, l2, l3⟩ := hh
  cases hy
  have g118 := call118 T105 rfl x (by unfold lim; omega)
  have g104 := call104 T105 rfl (frameF x).1 u v
  obtain ⟨z1, z2⟩ := frame_sizes x
  have z3 : (swapF (frameF x).1 u v).size ≤ 1048576 := by 
    unfold swapF
    split
    · exact l3
    · split
      · exact l2
      · omega
  have hadd : (swapF (frameF x).1 u v).size + (frameF x).2.size < 4611686018427387904 := by omega
  have tT := t105
  generalize T105 = T at *
  refine Dwp.step tT rfl fun K hK => ?_
  simp [init, arg3, EncR.and, EncR.one, Enc.str]
  refine hK _ _ ?_ rfl; clear hK K
  refine Dwp.step tT rfl fun K hK => ?_
  simp [init, g118]
  refine hK _ _ ?_ rfl; clear hK K
  refine Dwp.step tT rfl fun K hK => ?_
  simp [init, g104, hadd]
  refine hK _ _ (Dwp.ret ?_) rfl
  refine ⟨.inr rfl, .lit (.string (swapOp x u v)), ?_, rfl⟩
  show dresults Tryz.prog _ _ [ResultVar.tmp 6] = _
  simp [dresults, dres, upd, swapOp]
theorem e105 : Go.FA.Good Tryz.prog (105, s105) := ⟨c105, Tryz.f105, _, Tryz.func105, rfl, by decide⟩
theorem call105 (T : Tab) (hT : T 105 = some s105) (x u v : ByteArray) (h1 : x.size ≤ 1048576) (h2 : u.size ≤ 1048576) (h3 : v.size ≤ 1048576) : dcall T 105 [.lit (.string x), .lit (.string u), .lit (.string v)] = some (.lit (.string (swapOp x u v))) :=
  dcall3 (A := Enc.str) (B := Enc.str) (C := Enc.str) (D := Enc.str) (x := x) (y := u) (u := v) hT (if_pos ⟨h1, h2, h3⟩)
/-- a sort's new name -/
def sortF (s : SigD) (x a b : ByteArray) : ByteArray := if x ∈ s.sorts then swapF x a b else x
def s72 : Sp := sp (arg4 Enc.sigd Enc.str Enc.str Enc.str) Enc.str (fun x => if x.1.sorts.length ≤ 1048576 then some (sortF x.1 x.2.1 x.2.2.1 x.2.2.2) else none)
abbrev T72 : Tab := tabOf [(42, s42), (104, s104)]
theorem t72 : TabOk Tryz.prog T72 := .cons e42 (.cons e104 .nil)
theorem c72 : CallSound Tryz.prog 72 s72 := by
  refine CallSound.of_sp (T := T72) Tryz.func72 rfl (Nat.le_of_ble_eq_true rfl) fun E xx y hy => ?_
  obtain ⟨s, x, u, v⟩ := xx
  simp only [] at hy
  split at hy
  case isFalse => cases hy
  next hh =>
  cases hy
  have g42 := call42 T72 rfl s.sorts x hh .none
  have g104 := call104 T72 rfl x u v
  have tT := t72
  generalize T72 = T at *
  have fin : ∀ (a : Nat → DV) (σ : St) (z : ByteArray), a 8 = .lit (.string z) → sortF s x u v = z → Done Tryz.prog Tryz.f72.results Enc.str (sortF s x u v) Ex.ret a σ := by
    intro a σ z h2 hne
    refine ⟨.inr rfl, .lit (.string z), ?_, by rw [hne]; rfl⟩
    show dresults Tryz.prog σ a [ResultVar.tmp 8] = _
    simp [dresults, dres, h2]
  refine Dwp.step tT rfl fun K hK => ?_
  simp [init, arg4, arg3, EncR.and, EncR.one, Enc.str, Enc.sigd, Enc.agg]
  refine hK _ _ ?_ rfl; clear hK K
  refine Dwp.seq ?_
  refine Dwp.step tT rfl fun K hK => ?_
  by_cases h1 : x ∈ s.sorts
  · simp only [h1, decide_true] at g42
    simp [init, ty26, ty22, strsC, g42]
    refine hK _ _ ?_ rfl; clear hK K
    refine Dwp.condT (by simp [eval, upd]) ?_
    refine Dwp.step tT rfl fun K hK => ?_
    simp [init, g104]
    refine hK _ _ (Dwp.ret ?_) rfl
    exact fin _ _ _ (by simp [upd]; rfl) (by simp [sortF, h1])
  simp only [h1, decide_false] at g42
  simp [init, ty26, ty22, strsC, g42]
  refine hK _ _ ?_ rfl; clear hK K
  refine Dwp.condF (by simp [eval, upd]) (Dwp.skip ?_)
  refine Dwp.step tT rfl fun K hK => ?_
  simp [init]
  refine hK _ _ (Dwp.ret ?_) rfl
  exact fin _ _ x (by simp [upd]) (by simp [sortF, h1])
theorem e72 : Go.FA.Good Tryz.prog (72, s72) := ⟨c72, Tryz.f72, _, Tryz.func72, rfl, by decide⟩
theorem call72 (T : Tab) (hT : T 72 = some s72) (s : SigD) (x u v : ByteArray) (h : s.sorts.length ≤ 1048576) : dcall T 72 [.agg (EncR.sigd.enc s), .lit (.string x), .lit (.string u), .lit (.string v)] = some (.lit (.string (sortF s x u v))) :=
  dcall4 (A := Enc.sigd) (B := Enc.str) (C := Enc.str) (D := Enc.str) (E := Enc.str) (x := s) (y := x) (u := u) (v := v) hT (if_pos h)
end Go.Proofs.Yt
namespace Go.Proofs.Yt
open Go Go.FA Go.Proofs
set_option linter.unusedVariables false
set_option linter.unusedSimpArgs false
set_option maxRecDepth 100000

/-- a slice that grows: nothing yet, or ours, with a token of some kind -/
def AccP (p : Nat → Prop) (σ : St) (k : Nat) (rows : List (List DV)) (d : DV) : Prop := (rows = [] ∧ d = .lit (.slice none 0 0)) ∨ ∃ tk g, d = .slice k (.tok tk g) rows ∧ σ.toks tk = some g ∧ p tk
theorem AccP.mono {p q : Nat → Prop} {σ : St} {k : Nat} {rows : List (List DV)} {d : DV} (h : AccP p σ k rows d) (hq : ∀ t, p t → q t) : AccP q σ k rows d := by
  rcases h with h | ⟨tk, g, h1, h2, h3⟩
  · exact .inl h
  · exact .inr ⟨tk, g, h1, h2, hq _ h3⟩
theorem AccP.keep {p : Nat → Prop} {σ τ : St} {k : Nat} {rows : List (List DV)} {d : DV} (h : AccP p σ k rows d) (hq : ∀ t, p t → τ.toks t = σ.toks t) : AccP p τ k rows d := by
  rcases h with h | ⟨tk, g, h1, h2, h3⟩
  · exact .inl h
  · exact .inr ⟨tk, g, h1, by rw [hq _ h3]; exact h2, h3⟩
theorem AccP.dec {α : Type} {p : Nat → Prop} {σ : St} {A : EncR α} {rows : List (List DV)} {d : DV} {l : List α} (h : AccP p σ A.k rows d) (hl : decRows A rows = some l) : (Enc.slice A).dec d = some l := by
  rcases h with ⟨rfl, rfl⟩ | ⟨tk, g, rfl, _⟩
  · simp [decRows] at hl; subst hl; rfl
  · simp [Enc.slice, hl]
def pieF (s : SigD) (p : Pie) (a b : ByteArray) : Pie := ⟨p.text, sortF s p.sort a b⟩
def opF (s : SigD) (o : OpD) (a b : ByteArray) : OpD := ⟨swapOp o.name a b, o.args.map (sortF s · a b), sortF s o.sort a b, o.pieces.map (pieF s · a b), o.prec, o.assoc, o.strict⟩
theorem dec_opd {n t : ByteArray} {p q : Int} {A P S : DV} {l : List ByteArray} {m : List Pie} {z : List Int} (h1 : Enc.strs.dec A = some l) (h2 : Enc.pies.dec P = some m) (h3 : Enc.ints.dec S = some z) :
    EncR.opd.dec [.lit (.string n), A, .lit (.string t), P, .lit (.int .i64 p), .lit (.int .i64 q), S] = some ⟨n, l, t, m, p, q, z⟩ := by
  simp [EncR.opd, h1, h2, h3, Enc.str, Enc.i64, Enc.int]
def Base73 (s : SigD) (l : List OpD) (o : OpD) (u v : ByteArray) (i : Nat) (d9 : DV) (rows : List (List DV)) (n0 id : Nat) (a : Nat → DV) (τ : St) : Prop :=
  (a 2 = .lit (.string u) ∧ a 3 = .lit (.string v) ∧ a 4 = .row (EncR.sigd.enc s) 0 ∧ a 9 = d9 ∧ a 11 = .row (EncR.opd.enc o) 0 ∧ a 12 = .ptr id 0 ∧ a 17 = .slice 7 .none (l.map EncR.opd.enc) ∧ a 18 = .lit (.int .i64 l.length) ∧ a 19 = .lit (.int .i64 i)) ∧
  id < τ.n ∧ n0 ≤ τ.n ∧ AccP (· < n0) τ 7 rows d9
theorem Base73.next {s : SigD} {l : List OpD} {o : OpD} {u v : ByteArray} {i : Nat} {d9 : DV} {rows : List (List DV)} {n0 id : Nat} {a a' : Nat → DV} {τ τ' : St} (h : Base73 s l o u v i d9 rows n0 id a τ)
    (e : a' 2 = a 2 ∧ a' 3 = a 3 ∧ a' 4 = a 4 ∧ a' 9 = a 9 ∧ a' 11 = a 11 ∧ a' 12 = a 12 ∧ a' 17 = a 17 ∧ a' 18 = a 18 ∧ a' 19 = a 19) (hn : τ.n ≤ τ'.n) (ht : ∀ t, t < n0 → τ'.toks t = τ.toks t) : Base73 s l o u v i d9 rows n0 id a' τ' := by
  obtain ⟨⟨a1, a2, a3, a4, a5, a6, a7, a8, a9⟩, b1, b2, b3⟩ := h
  obtain ⟨e1, e2, e3, e4, e5, e6, e7, e8, e9⟩ := e
  exact ⟨⟨by rw [e1, a1], by rw [e2, a2], by rw [e3, a3], by rw [e4, a4], by rw [e5, a5], by rw [e6, a6], by rw [e7, a7], by rw [e8, a8], by rw [e9, a9]⟩, by omega, by omega, b3.keep ht⟩
def okOne (o : OpD) : Prop := o.fits ∧ o.name.size ≤ 1048576
instance (o : OpD) : Decidable (okOne o) := by unfold okOne; infer_instance
def s73 : Sp := sp (arg4 Enc.sigd Enc.ops Enc.str Enc.str) Enc.ops (fun x => if x.1.sorts.length ≤ 1048576 ∧ x.2.1.length ≤ 1048576 ∧ (∀ o ∈ x.2.1, okOne o) ∧ x.2.2.1.size ≤ 1048576 ∧ x.2.2.2.size ≤ 1048576 then some (x.2.1.map (opF x.1 · x.2.2.1 x.2.2.2)) else none)
abbrev T73 : Tab := tabOf [(72, s72), (105, s105)]
theorem t73 : TabOk Tryz.prog T73 := .cons e72 (.cons e105 .nil)
attribute [local simp] drunL drunO dwanted dopS own plainOf dop dput eval ofVal Then Ex.then Ex.inBlock upd dbin Tag.isNN nilTest intCmp dload dpart TyI.agg dfieldAddr dfield dindexAddr dindex dlen lenOk dlookup mapOf keyFits dmapUpdate dcallee dbuiltin dstore DV.cells dslice dboundOk dappend appTag rowsOf elemOk growLimit dbuildCells dbuildCells.go structOk fieldsOk dbuildRows goInt
set_option maxHeartbeats 2000000 in
theorem c73 : CallSound Tryz.prog 73 s73 := by
  refine CallSound.of_sp (T := T73) Tryz.func73 rfl (Nat.le_of_ble_eq_true rfl) fun E xx y hy => ?_
  obtain ⟨s, l, u, v⟩ := xx
  simp only [] at hy
  split at hy
  case isFalse => cases hy
  next hh =>
  obtain ⟨l1, l2, l3, l4, l5⟩ := hh
  cases hy
  have g72 := fun x => call72 T73 rfl s x u v l1
  have g105 := fun x h => call105 T73 rfl x u v h l4 l5
  have setP : ∀ o, setAt noOpD 0 (EncR.opd.enc o) = EncR.opd.enc o := fun _ => rfl
  have setN : ∀ a b c d e f g, setAt noOpD 0 [a, b, c, d, e, f, g] = [a, b, c, d, e, f, g] := fun _ _ _ _ _ _ _ => rfl
  simp only [noOpD] at setP setN
  have tT := t73
  generalize T73 = T at *
  refine Dwp.step tT rfl fun K hK => ?_
  simp [init, arg4, EncR.and, EncR.one, Enc.str, Enc.sigd, Enc.agg]
  refine hK _ _ ?_ rfl; clear hK K
  refine Dwp.step tT rfl fun K hK => ?_
  simp []
  refine hK _ _ ?_ rfl; clear hK K
  refine Dwp.seq ?_
  refine Dwp.step tT rfl fun K hK => ?_
  simp [init, ty24, opsC]
  refine hK _ _ ?_ rfl; clear hK K
  refine Dwp.range tT l.length (fun i a σ => a 2 = .lit (.string u) ∧ a 3 = .lit (.string v) ∧ a 4 = .row (EncR.sigd.enc s) 0 ∧ a 17 = .slice 7 .none (l.map EncR.opd.enc) ∧ ∃ rows, decRows EncR.opd rows = some ((l.take i).map (opF s · u v)) ∧ AccP (· < σ.n) σ 7 rows (a 9))
    ⟨rfl, rfl, rfl⟩ ⟨rfl, rfl, rfl⟩ ⟨rfl, rfl, rfl⟩ (by decide) (by decide) (by omega) (by simp [upd]) (by simp [upd]) ⟨by simp [upd, init], by simp [upd, init], by simp [upd], by simp [upd, init, opsC], [], by simp [decRows], .inl ⟨rfl, by simp [upd]⟩⟩ ?_ ?_
  · rintro i a σ hi hidx hlen ⟨k2, k3, k4, k17, rows, hdec, hacc⟩
    obtain ⟨o, ho⟩ : ∃ o, o = l[i] := ⟨_, rfl⟩
    obtain ⟨d9, h9⟩ : ∃ d, d = a 9 := ⟨_, rfl⟩
    have hok : okOne o := by rw [ho]; exact l3 _ (List.getElem_mem hi)
    obtain ⟨⟨f1, f2, f3⟩, f4⟩ := hok
    have g105o := g105 o.name f4
    refine Dwp.step tT rfl fun K hK => ?_
    simp [hidx, k17, ty24, ty38, hi, ← ho, setP]
    refine hK _ _ ?_ rfl; clear hK K
    refine Dwp.freeze (σ.n + 1 + 2) (o := .cells 38 (EncR.opd.enc o)) (fun t => if t = 11 then .row (EncR.opd.enc o) 0 else if t = 2 then .lit (.string u) else if t = 3 then .lit (.string v) else if t = 4 then .row (EncR.sigd.enc s) 0 else if t = 9 then d9 else if t = 17 then .slice 7 .none (l.map EncR.opd.enc) else if t = 18 then .lit (.int .i64 l.length) else if t = 19 then .lit (.int .i64 i) else .junk) (by simp [upd]) (fun t => ?_) ?_
    · by_cases h11 : t = 11
      · subst h11; simp [upd]; exact .box (t := 38) 0 (by simp [upd])
      by_cases h2 : t = 2
      · subst h2; simp [upd, k2]; exact .keep _
      by_cases h3 : t = 3
      · subst h3; simp [upd, k3]; exact .keep _
      by_cases h4 : t = 4
      · subst h4; simp [upd, k4]; exact .keep _
      by_cases h9' : t = 9
      · subst h9'; simp [upd, ← h9]; exact .keep _
      by_cases h17 : t = 17
      · subst h17; simp [upd, k17]; exact .keep _
      by_cases h18 : t = 18
      · subst h18; simp [upd, hlen]; exact .keep _
      by_cases h19 : t = 19
      · subst h19; simp [upd, hidx]; exact .keep _
      simp [h11, h2, h3, h4, h9', h17, h18, h19]; exact .junk _
    have hsl : o.strict.length ≤ 16777216 := by omega
    have cellsC : EncR.opd.enc o = [.lit (.string o.name), Enc.strs.enc o.args, .lit (.string o.sort), Enc.pies.enc o.pieces, .lit (.int .i64 o.prec), .lit (.int .i64 o.assoc), Enc.ints.enc o.strict] := rfl
    refine Dwp.drawStep [.none, .none, .none, .none, .none, .none, .none, .none, .none, .none, .none, .none, .none, .none, .none, .none, .none, .none, .tok, .none, .newobj, .wobj] mixed tT rfl (by decide) fun K hK => ?_
    simp [drunT, touch, touchP, ty38, ty9, ty26, ty3, ty35, ty36, intsC, cellsC, g105o, g72, setAt, ty22, ty34, hsl]
    refine hK _ _ ?_ rfl; clear hK K
    have hnm : ∀ τ : St, τ.n = σ.n + 1 + 4 + 22 → σ.n + 1 + 4 + 20 < τ.n := fun τ h => by omega
    obtain ⟨SD, hSD⟩ : ∃ d, d = DV.slice 1 (Tag.tok (σ.n + 1 + 4 + 18) 0) (List.map (fun n => [DV.lit (Value.int IntKind.i64 n)]) o.strict) := ⟨_, rfl⟩
    obtain ⟨N, hN⟩ : ∃ n, n = σ.n + 1 + 4 + 20 := ⟨_, rfl⟩
    rw [← hSD, ← hN]
    refine Dwp.seq ?_
    refine Dwp.step tT rfl fun K hK => ?_
    simp [ty38, ty22, strsC]
    refine hK _ _ ?_ rfl; clear hK K
    refine Dwp.range tT o.args.length (fun j a τ => Base73 s l o u v i d9 rows σ.n N a τ ∧ a 44 = .slice 1 .none (rows1 o.args) ∧
        ∃ A, τ.objs N = some (.cells 38 [.lit (.string (swapOp o.name u v)), A, .lit (.string (sortF s o.sort u v)), .lit (.slice none 0 0), .lit (.int .i64 o.prec), .lit (.int .i64 o.assoc), SD]) ∧ AccP (σ.n ≤ ·) τ 1 (rows1 ((o.args.take j).map (sortF s · u v))) A)
      ⟨rfl, rfl, rfl⟩ ⟨rfl, rfl, rfl⟩ ⟨rfl, rfl, rfl⟩ (by decide) (by decide) (by omega) (by simp [upd]) (by simp [upd])
      ⟨⟨by simp [upd, cellsC, strsC, intsC], by simp <;> omega, by simp <;> omega, by rw [h9]; exact hacc.keep fun t ht => by simp [upd]; omega⟩, by simp [upd], .lit (.slice none 0 0), by simp [upd, hN], .inl ⟨by simp, rfl⟩⟩ ?_ ?_
    · rintro j a1 τ hj hidx1 hlen1 ⟨hB, k44, A, hobj, hA⟩
      obtain ⟨x, hx⟩ : ∃ x, x = o.args[j] := ⟨_, rfl⟩
      obtain ⟨⟨b2, b3, b4, b9, b11, b12, b17, b18, b19⟩, bN, bn, bacc⟩ := id hB
      refine Dwp.step tT rfl fun K hK => ?_
      simp [hidx1, k44, ty22, ty9, hj, ← hx]
      refine hK _ _ ?_ rfl; clear hK K
      refine Dwp.draw [.none, .robj, .none, .none, .none, .none, .none, .none, .tok, .none, .wobj] mixed tT rfl (by decide) fun K hK => ?_
      obtain ⟨R, hR⟩ : ∃ R, R = rows1 ((o.args.take j).map (sortF s · u v)) := ⟨_, rfl⟩
      have hRl : R.length = j := by rw [hR]; simp; omega
      rw [← hR] at hA
      have fin := fun (a'' : Nat → DV) (τ'' : St) (A'' : DV) (h : a'' 46 = .lit (.int .i64 j) ∧ a'' 45 = .lit (.int .i64 o.args.length) ∧ a'' 44 = a1 44 ∧ Base73 s l o u v i d9 rows σ.n N a'' τ'' ∧ τ''.objs N = some (.cells 38 [.lit (.string (swapOp o.name u v)), A'', .lit (.string (sortF s o.sort u v)), .lit (.slice none 0 0), .lit (.int .i64 o.prec), .lit (.int .i64 o.assoc), SD]) ∧ AccP (σ.n ≤ ·) τ'' 1 (R ++ [[.lit (.string (sortF s x u v))]]) A'') hn => hK a'' τ'' ⟨h.1, h.2.1, h.2.2.2.1.next (by simp [upd]) (by have := hn; simp at this ⊢; omega) (by simp), by simp [upd, h.2.2.1, k44], A'', by simp [h.2.2.2.2.1], by
        have := h.2.2.2.2.2
        rw [hR] at this
        rw [List.take_succ_eq_append_getElem hj, ← hx]
        simpa [rows1, AccP] using this⟩ hn
      have g72x := g72 x
      have hfr : ∀ (k : Nat) (z : Option Nat), σ.n ≤ k → ∀ t, t < σ.n → upd τ.toks k z t = τ.toks t := fun k z h t ht => by simp only [upd]; rw [if_neg (by omega)]
      rcases hA with ⟨hr0, rfl⟩ | ⟨tk, g, rfl, htk, hp⟩
      · simp [drunT, touch, touchP, b2, b3, b4, b12, hobj, ty38, ty22, ty9, ty26, g72x, setAt]
        exact fin _ _ (.slice 1 (.tok (τ.n + 1 + 3 + 8) 0) [[.lit (.string (sortF s x u v))]]) ⟨by simp [upd, hidx1], by simp [upd, hlen1], by simp [upd], hB.next (by simp [upd]) (by simp <;> omega) (hfr _ _ (by omega)), by simp [upd], .inr ⟨τ.n + 1 + 3 + 8, 0, by rw [hr0]; rfl, by simp [upd], by simp <;> omega⟩⟩ rfl
      · have hgl : R.length ≤ 16777215 := by omega
        simp [drunT, touch, touchP, b2, b3, b4, b12, hobj, ty38, ty22, ty9, ty26, g72x, setAt, htk, hgl]
        exact fin _ _ (.slice 1 (.tok tk (g + 1)) (R ++ [[.lit (.string (sortF s x u v))]])) ⟨by simp [upd, hidx1], by simp [upd, hlen1], by simp [upd], hB.next (by simp [upd]) (by simp <;> omega) (hfr _ _ hp), by simp [upd], .inr ⟨tk, g + 1, rfl, by simp [upd], hp⟩⟩ rfl
    · rintro a1 τ hidx1 hlen1 ⟨hB, k44, A, hobj, hA⟩
      rw [List.take_length] at hA
      obtain ⟨⟨b2, b3, b4, b9, b11, b12, b17, b18, b19⟩, bN, bn, bacc⟩ := id hB
      have hAd : Enc.strs.dec A = some (o.args.map (sortF s · u v)) := hA.dec (A := EncR.one Enc.str) (decRows_enc (EncR.one Enc.str) _)
      clear hA
      refine Dwp.seq ?_
      refine Dwp.step tT rfl fun K hK => ?_
      simp [b11, cellsC, ty38, ty34, piesC]
      refine hK _ _ ?_ rfl; clear hK K
      refine Dwp.range tT o.pieces.length (fun j a τ => Base73 s l o u v i d9 rows σ.n N a τ ∧ a 62 = .slice 2 .none (o.pieces.map EncR.pie.enc) ∧
          ∃ P, τ.objs N = some (.cells 38 [.lit (.string (swapOp o.name u v)), A, .lit (.string (sortF s o.sort u v)), P, .lit (.int .i64 o.prec), .lit (.int .i64 o.assoc), SD]) ∧ AccP (σ.n ≤ ·) τ 2 (((o.pieces.take j).map (pieF s · u v)).map EncR.pie.enc) P)
        ⟨rfl, rfl, rfl⟩ ⟨rfl, rfl, rfl⟩ ⟨rfl, rfl, rfl⟩ (by decide) (by decide) (by omega) (by simp [upd]) (by simp [upd])
        ⟨hB.next (by simp [upd]) (by simp <;> omega) (by simp), by simp [upd], .lit (.slice none 0 0), by simp [upd, hobj], .inl ⟨by simp, rfl⟩⟩ ?_ ?_
      · rintro j a2 τ hj hidx2 hlen2 ⟨hB, k62, P, hobj, hP⟩
        obtain ⟨x, hx⟩ : ∃ x, x = o.pieces[j] := ⟨_, rfl⟩
        obtain ⟨⟨b2, b3, b4, b9, b11, b12, b17, b18, b19⟩, bN, bn, bacc⟩ := id hB
        have pieC : ∀ p : Pie, EncR.pie.enc p = [.lit (.string p.text), .lit (.string p.sort)] := fun _ => rfl
        have hNN : ¬ (N = τ.n + 1 + 2) := by omega
        refine Dwp.step tT rfl fun K hK => ?_
        simp [hidx2, k62, ty34, ty69, hj, ← hx, pieC, setAt]
        refine hK _ _ ?_ rfl; clear hK K
        refine Dwp.draw [.none, .robj, .none, .robj, .none, .none, .robj, .none, .none, .none, .none, .none, .tok, .none, .wobj] mixed tT rfl (by decide) fun K hK => ?_
        obtain ⟨R, hR⟩ : ∃ R, R = ((o.pieces.take j).map (pieF s · u v)).map EncR.pie.enc := ⟨_, rfl⟩
        have hRl : R.length = j := by rw [hR]; simp; omega
        rw [← hR] at hP
        have fin := fun (a'' : Nat → DV) (τ'' : St) (P'' : DV) (h : a'' 64 = .lit (.int .i64 j) ∧ a'' 63 = .lit (.int .i64 o.pieces.length) ∧ a'' 62 = a2 62 ∧ Base73 s l o u v i d9 rows σ.n N a'' τ'' ∧ τ''.objs N = some (.cells 38 [.lit (.string (swapOp o.name u v)), A, .lit (.string (sortF s o.sort u v)), P'', .lit (.int .i64 o.prec), .lit (.int .i64 o.assoc), SD]) ∧ AccP (σ.n ≤ ·) τ'' 2 (R ++ [[.lit (.string x.text), .lit (.string (sortF s x.sort u v))]]) P'') hn => hK a'' τ'' ⟨h.1, h.2.1, h.2.2.2.1.next (by simp [upd]) (by have := hn; simp at this ⊢; omega) (by simp), by simp [upd, h.2.2.1, k62], P'', by simp [h.2.2.2.2.1], by
          have := h.2.2.2.2.2
          rw [hR] at this
          rw [List.take_succ_eq_append_getElem hj, ← hx]
          simpa [AccP, pieC, pieF] using this⟩ hn
        have g72x := g72 x.sort
        have hfr : ∀ (k : Nat) (z : Option Nat), σ.n ≤ k → ∀ t, t < σ.n → upd τ.toks k z t = τ.toks t := fun k z h t ht => by simp only [upd]; rw [if_neg (by omega)]
        have hNN2 : ¬ (τ.n + 1 + 2 = N) := by omega
        rcases hP with ⟨hr0, rfl⟩ | ⟨tk, g, rfl, htk, hp⟩
        · simp [drunT, touch, touchP, b2, b3, b4, b12, hobj, ty38, ty34, ty69, ty9, ty26, g72x, setAt, hNN, hNN2]
          exact fin _ _ (.slice 2 (.tok (τ.n + 1 + 4 + 12) 0) [[.lit (.string x.text), .lit (.string (sortF s x.sort u v))]]) ⟨by simp [upd, hidx2], by simp [upd, hlen2], by simp [upd], hB.next (by simp [upd]) (by simp <;> omega) (hfr _ _ (by omega)), by simp [upd], .inr ⟨τ.n + 1 + 4 + 12, 0, by rw [hr0]; rfl, by simp [upd], by simp <;> omega⟩⟩ rfl
        · have hgl : R.length ≤ 16777215 := by omega
          simp [drunT, touch, touchP, b2, b3, b4, b12, hobj, ty38, ty34, ty69, ty9, ty26, g72x, setAt, htk, hgl, hNN, hNN2]
          exact fin _ _ (.slice 2 (.tok tk (g + 1)) (R ++ [[.lit (.string x.text), .lit (.string (sortF s x.sort u v))]])) ⟨by simp [upd, hidx2], by simp [upd, hlen2], by simp [upd], hB.next (by simp [upd]) (by simp <;> omega) (hfr _ _ hp), by simp [upd], .inr ⟨tk, g + 1, rfl, by simp [upd], hp⟩⟩ rfl
      · rintro a2 τ hidx2 hlen2 ⟨hB, k62, P, hobj, hP⟩
        rw [List.take_length] at hP
        obtain ⟨⟨b2, b3, b4, b9, b11, b12, b17, b18, b19⟩, bN, bn, bacc⟩ := id hB
        have hPd : Enc.pies.dec P = some (o.pieces.map (pieF s · u v)) := hP.dec (A := EncR.pie) (decRows_enc EncR.pie _)
        clear hP
        have hSd : Enc.ints.dec SD = some o.strict := by rw [hSD]; exact decRows_enc (EncR.one Enc.i64) o.strict
        have hd := dec_opd (n := swapOp o.name u v) (t := sortF s o.sort u v) (p := o.prec) (q := o.assoc) hAd hPd hSd
        have hdec2 := decRows_append EncR.opd rows [[.lit (.string (swapOp o.name u v)), A, .lit (.string (sortF s o.sort u v)), P, .lit (.int .i64 o.prec), .lit (.int .i64 o.assoc), SD]] _ [opF s o u v] hdec (by simp only [decRows, hd]; rfl)
        have hRl : rows.length = i := by have := decRows_length EncR.opd _ _ hdec; simp at this; omega
        refine Dwp.reg tT rfl fun K hK => ?_
        have fin := fun (a'' : Nat → DV) (τ'' : St) (h : a'' 19 = .lit (.int .i64 i) ∧ a'' 18 = .lit (.int .i64 l.length) ∧ a'' 2 = .lit (.string u) ∧ a'' 3 = .lit (.string v) ∧ a'' 4 = .row (EncR.sigd.enc s) 0 ∧ a'' 17 = .slice 7 .none (l.map EncR.opd.enc) ∧ AccP (· < τ.n + 1 + 5) τ'' 7 (rows ++ [[.lit (.string (swapOp o.name u v)), A, .lit (.string (sortF s o.sort u v)), P, .lit (.int .i64 o.prec), .lit (.int .i64 o.assoc), SD]]) (a'' 9)) hn => hK a'' τ'' ⟨h.1, h.2.1, by simp [upd, h.2.2.1], by simp [upd, h.2.2.2.1], by simp [upd, h.2.2.2.2.1], by simp [upd, h.2.2.2.2.2.1], _, by
          rw [List.take_succ_eq_append_getElem hi, ← ho, List.map_append]; exact hdec2, by
          have hq := h.2.2.2.2.2.2
          rcases hq with ⟨e, _⟩ | ⟨tk, g, e1, e2, e3⟩
          · simp at e
          · exact .inr ⟨tk, g, by simp [upd, e1], by simp [e2], by simp; omega⟩⟩ hn
        rcases bacc with ⟨hr0, hd9⟩ | ⟨tk, g, hd9, htk, hp⟩
        · simp [b9, hd9, b12, hobj, ty38, ty24]
          exact fin _ _ ⟨by simp [upd, hidx2, b19], by simp [upd, b18], by simp [upd, b2], by simp [upd, b3], by simp [upd, b4], by simp [upd, b17], .inr ⟨τ.n + 1 + 3, 0, by rw [hr0]; simp [upd], by simp [upd], by omega⟩⟩ rfl
        · have hgl : rows.length ≤ 16777215 := by omega
          simp [b9, hd9, b12, hobj, ty38, ty24, htk, hgl]
          exact fin _ _ ⟨by simp [upd, hidx2, b19], by simp [upd, b18], by simp [upd, b2], by simp [upd, b3], by simp [upd, b4], by simp [upd, b17], .inr ⟨tk, g + 1, by simp [upd], by simp [upd], by omega⟩⟩ rfl
  · rintro a σ hidx hlen ⟨k2, k3, k4, k17, rows, hdec, hacc⟩
    rw [List.take_length] at hdec
    refine Dwp.step tT rfl fun K hK => ?_
    simp []
    refine hK _ _ (Dwp.ret ?_) rfl
    refine ⟨.inr rfl, a 9, ?_, ?_⟩
    · show dresults Tryz.prog _ _ [ResultVar.tmp 8] = _
      simp [dresults, dres, upd]
    · have hd := hacc.dec (A := EncR.opd) hdec
      have hz : ∀ τ : St, frz τ (a 9) = a 9 := by
        intro τ
        rcases hacc with ⟨_, e⟩ | ⟨tk, g, e, _⟩ <;> rw [e] <;> rfl
      rw [hz]; exact hd
theorem e73 : Go.FA.Good Tryz.prog (73, s73) := ⟨c73, Tryz.f73, _, Tryz.func73, rfl, by decide⟩
theorem call73 (T : Tab) (hT : T 73 = some s73) (s : SigD) (l : List OpD) (u v : ByteArray) (h1 : s.sorts.length ≤ 1048576) (h2 : l.length ≤ 1048576) (h3 : ∀ o ∈ l, okOne o) (h4 : u.size ≤ 1048576) (h5 : v.size ≤ 1048576) : dcall T 73 [.agg (EncR.sigd.enc s), .slice 7 .none (l.map EncR.opd.enc), .lit (.string u), .lit (.string v)] = some (.slice 7 .none ((l.map (opF s · u v)).map EncR.opd.enc)) :=
  dcall4 (A := Enc.sigd) (B := Enc.ops) (C := Enc.str) (D := Enc.str) (E := Enc.ops) (x := s) (y := l) (u := u) (v := v) hT (if_pos ⟨h1, h2, h3, h4, h5⟩)
end Go.Proofs.Yt
namespace Go.Proofs.Yt
open Go Go.FA Go.Proofs
set_option linter.unusedVariables false
set_option linter.unusedSimpArgs false
set_option maxRecDepth 100000

theorem AccP.shape {p : Nat → Prop} {σ : St} {k : Nat} {rows : List (List DV)} {d : DV} (h : AccP p σ k rows d) : d = .lit (.slice none 0 0) ∨ ∃ tk g R, d = .slice k (.tok tk g) R := by
  rcases h with ⟨_, e⟩ | ⟨tk, g, e, _⟩
  · exact .inl e
  · exact .inr ⟨tk, g, _, e⟩
theorem dec_sig {A B C D F : DV} {a : List ByteArray} {b : List Bel} {c d : List OpD} {f : List ByteArray} (h1 : Enc.strs.dec A = some a) (h2 : Enc.bels.dec B = some b) (h3 : Enc.ops.dec C = some c) (h4 : Enc.ops.dec D = some d) (h5 : Enc.strs.dec F = some f) :
    EncR.sigd.dec [A, B, C, D, F] = some ⟨a, b, c, d, f⟩ := by
  simp [EncR.sigd, h1, h2, h3, h4, h5]
def belF (s : SigD) (x : Bel) (u v : ByteArray) : Bel := ⟨sortF s x.low u v, sortF s x.high u v⟩
def sigF (s : SigD) (u v : ByteArray) : SigD := ⟨s.sorts.map (sortF s · u v), s.below.map (belF s · u v), s.ops.map (opF s · u v), s.funs.map (opF s · u v), s.values.map (sortF s · u v)⟩
def ren2 (s : SigD) (u v : ByteArray) : SigD × Int := if (s.vld && isName u && isName v) = true then (if (sigF s u v).vld then (sigF s u v, 0) else (noSig, 14)) else (noSig, 2)
theorem call13d (T : Tab) (hT : T 13 = some s13) (d : DV) (s : SigD) (hd : Enc.sigd.dec d = some s) (h : s.ok2) (h1 : s.below.length ≤ 250) : dcall T 13 [d] = some (.lit (.bool s.vld)) := by
  simp [dcall, hT, s13, sp, arg1, EncR.one, hd, h, h1, Enc.bool]
def Base33 (s : SigD) (u v : ByteArray) (a : Nat → DV) (τ : St) : Prop :=
  (a 1 = .lit (.string u) ∧ a 2 = .lit (.string v) ∧ a 3 = .row (EncR.sigd.enc s) 0 ∧ a 6 = .ptr 1 0 ∧ a 8 = .ptr 16 0) ∧ 16 < τ.n ∧ τ.objs 1 = some (.cells 26 zsig)
theorem Base33.next {s : SigD} {u v : ByteArray} {a a' : Nat → DV} {τ τ' : St} (h : Base33 s u v a τ) (e : a' 1 = a 1 ∧ a' 2 = a 2 ∧ a' 3 = a 3 ∧ a' 6 = a 6 ∧ a' 8 = a 8) (hn : τ.n ≤ τ'.n) (ho : τ'.objs 1 = τ.objs 1) : Base33 s u v a' τ' := by
  obtain ⟨⟨a1, a2, a3, a4, a5⟩, b1, b2⟩ := h
  obtain ⟨e1, e2, e3, e4, e5⟩ := e
  exact ⟨⟨by rw [e1, a1], by rw [e2, a2], by rw [e3, a3], by rw [e4, a4], by rw [e5, a5]⟩, by omega, by rw [ho, b2]⟩
def s33 : Sp := sp (arg3 Enc.sigd Enc.str Enc.str) Enc.sigErr (fun x => if x.1.ok2 ∧ x.1.below.length ≤ 250 ∧ x.2.1.size ≤ 1048576 ∧ x.2.2.size ≤ 1048576 ∧ ((x.1.vld && isName x.2.1 && isName x.2.2) = true → (sigF x.1 x.2.1 x.2.2).ok2) then some (ren2 x.1 x.2.1 x.2.2) else none)
abbrev T33 : Tab := tabOf [(13, s13), (39, s39), (72, s72), (73, s73)]
theorem t33 : TabOk Tryz.prog T33 := .cons e13 (.cons e39 (.cons e72 (.cons e73 .nil)))
abbrev AnyTok : Nat → Prop := fun _ => True
attribute [local simp] drunL drunO dwanted dopS own plainOf dop dput eval ofVal Then Ex.then Ex.inBlock upd dbin Tag.isNN nilTest intCmp dload dpart TyI.agg dfieldAddr dfield dindexAddr dindex dlen lenOk dlookup mapOf keyFits dmapUpdate dcallee dbuiltin dstore DV.cells dslice dboundOk dappend appTag rowsOf elemOk growLimit dbuildCells dbuildCells.go structOk fieldsOk dbuildRows goInt
set_option maxHeartbeats 2000000 in
theorem c33 : CallSound Tryz.prog 33 s33 := by
  refine CallSound.of_sp (T := T33) Tryz.func33 rfl (Nat.le_of_ble_eq_true rfl) fun E xx y hy => ?_
  obtain ⟨s, u, v⟩ := xx
  simp only [] at hy
  split at hy
  case isFalse => cases hy
  next hh =>
  obtain ⟨hok, hbl, zu, zv, hok'⟩ := hh
  cases hy
  have g13 := call13 T33 rfl s hok hbl
  have g13d := fun d r => call13d T33 rfl d r
  have g39u := call39 T33 rfl u (by unfold lim; omega)
  have g39v := call39 T33 rfl v (by unfold lim; omega)
  have g72 := fun x => call72 T33 rfl s x u v hok.1.1
  have f1 : ∀ o ∈ s.ops, okOne o := fun o ho => ⟨hok.1.fits.1 o ho, (hok.1.2.2.2.2 o (.inl ho)).1⟩
  have f2 : ∀ o ∈ s.funs, okOne o := fun o ho => ⟨hok.1.fits.2 o ho, (hok.1.2.2.2.2 o (.inr ho)).1⟩
  have g73a := call73 T33 rfl s s.ops u v hok.1.1 (by have := hok.1.2.2.1; omega) f1 zu zv
  have g73b := call73 T33 rfl s s.funs u v hok.1.1 (by have := hok.1.2.2.1; omega) f2 zu zv
  have setS : ∀ l, setAt zsig 0 (EncR.sigd.enc l) = EncR.sigd.enc l := setSig
  have tT := t33
  generalize T33 = T at *
  have fin : ∀ (a : Nat → DV) (σ : St) (r : SigD) (e : Int) (cs : List DV), a 6 = .ptr 1 0 → a 7 = .lit (.int .i64 e) → σ.objs 1 = some (.cells 26 cs) → cs.length = 5 → EncR.sigd.dec cs = some r → frz σ (.tuple [.agg cs, .lit (.int .i64 e)]) = .tuple [.agg cs, .lit (.int .i64 e)] → ren2 s u v = (r, e) → Done Tryz.prog Tryz.f33.results Enc.sigErr (ren2 s u v) Ex.ret a σ := by
    intro a σ r e cs h6 h7 ho hcl hd hfr hne
    refine ⟨.inr rfl, .tuple [.agg cs, .lit (.int .i64 e)], ?_, ?_⟩
    · show dresults Tryz.prog σ a [ResultVar.cell 6 26, ResultVar.tmp 7] = _
      have ht : cs.take 5 = cs := List.take_of_length_le (by omega)
      simp [dresults, dres, h6, h7, ho, dload, dpart, TyI.agg, ty26, hcl, ht]
    · rw [hfr, hne]
      simp [Enc.sigErr, Enc.tup, arg2, EncR.and, EncR.one, Enc.sigd, Enc.agg, Enc.i64, Enc.int, hd]
  refine Dwp.step tT rfl fun K hK => ?_
  simp [init, arg3, EncR.and, EncR.one, Enc.sigd, Enc.agg, Enc.str, ty26]
  refine hK _ _ ?_ rfl; clear hK K
  refine Dwp.seq ?_
  refine Dwp.step tT rfl fun K hK => ?_
  have bad : ∀ a' σ', a' 27 = .lit (.bool true) → a' 6 = .ptr 1 0 → σ'.objs 1 = some (.cells 26 zsig) → σ'.n = 3 → (s.vld && isName u && isName v) = false → K a' σ' := by
    intro a' σ' h27 h6 ho hn hf
    refine hK _ _ ?_ hn
    refine Dwp.condT (by simp [eval, h27]) ?_
    clear hK K
    refine Dwp.step tT rfl fun K hK => ?_
    simp only [zsig] at ho
    simp [h6, ho, ty26, ty22, ty23, ty24, setAt]
    refine hK _ _ (Dwp.ret ?_) rfl
    exact fin _ _ noSig 2 _ (by simp [upd, h6]) (by simp [upd]) (by simp [upd]; rfl) rfl rfl rfl (by simp [ren2, hf])
  cases hv : s.vld with
  | false =>
    rw [hv] at g13
    simp [ty26, g13]
    exact bad _ _ (by simp [upd]) (by simp [upd, σ0]) (by simp [upd, zsig, σ0]) rfl (by simp [hv])
  | true =>
  rw [hv] at g13
  cases hu : isName u with
  | false =>
    rw [hu] at g39u
    simp [init, ty26, g13, g39u]
    exact bad _ _ (by simp [upd]) (by simp [upd, σ0]) (by simp [upd, zsig, σ0]) rfl (by simp [hu])
  | true =>
  rw [hu] at g39u
  cases hw : isName v with
  | false =>
    rw [hw] at g39v
    simp [init, ty26, g13, g39u, g39v]
    exact bad _ _ (by simp [upd]) (by simp [upd, σ0]) (by simp [upd, zsig, σ0]) rfl (by simp [hw])
  | true =>
  rw [hw] at g39v
  simp [init, ty26, g13, g39u, g39v]
  refine hK _ _ ?_ rfl
  clear bad hK K
  refine Dwp.condF (by simp [eval, upd]) (Dwp.skip ?_)
  refine Dwp.step tT rfl fun K hK => ?_
  simp [ty26, σ0]
  refine hK _ _ ?_ rfl; clear hK K
  refine Dwp.seq ?_
  refine Dwp.step tT rfl fun K hK => ?_
  simp [ty26, ty22, strsC, σ0]
  refine hK _ _ ?_ rfl; clear hK K
  refine Dwp.range tT s.sorts.length (fun j a τ => Base33 s u v a τ ∧ a 30 = .slice 1 .none (rows1 s.sorts) ∧
      ∃ A, τ.objs 16 = some (.cells 26 [A, .lit (.slice none 0 0), .lit (.slice none 0 0), .lit (.slice none 0 0), .lit (.slice none 0 0)]) ∧ AccP AnyTok τ 1 (rows1 ((s.sorts.take j).map (sortF s · u v))) A)
    ⟨rfl, rfl, rfl⟩ ⟨rfl, rfl, rfl⟩ ⟨rfl, rfl, rfl⟩ (by decide) (by decide) (by have := hok.1.1; omega) (by simp [upd]) (by simp [upd])
    ⟨⟨by simp [upd, init], by simp, by simp [upd, zsig]⟩, by simp [upd], .lit (.slice none 0 0), by simp [upd], .inl ⟨by simp, rfl⟩⟩ ?_ ?_
  · rintro j a τ hj hidx hlen ⟨hB, k30, A, hobj, hA⟩
    obtain ⟨x, hx⟩ : ∃ x, x = s.sorts[j] := ⟨_, rfl⟩
    obtain ⟨⟨b1, b2, b3, b6, b8⟩, bn, bo⟩ := id hB
    refine Dwp.step tT rfl fun K hK => ?_
    simp [hidx, k30, ty22, ty9, hj, ← hx]
    refine hK _ _ ?_ rfl; clear hK K
    refine Dwp.draw [.none, .robj, .none, .none, .none, .none, .none, .none, .tok, .none, .wobj] mixed tT rfl (by decide) fun K hK => ?_
    obtain ⟨R, hR⟩ : ∃ R, R = rows1 ((s.sorts.take j).map (sortF s · u v)) := ⟨_, rfl⟩
    have hRl : R.length = j := by rw [hR]; simp; omega
    rw [← hR] at hA
    have fin := fun (a'' : Nat → DV) (τ'' : St) (A'' : DV) (h : a'' 32 = .lit (.int .i64 j) ∧ a'' 31 = .lit (.int .i64 s.sorts.length) ∧ a'' 30 = a 30 ∧ Base33 s u v a'' τ'' ∧ τ''.objs 16 = some (.cells 26 [A'', .lit (.slice none 0 0), .lit (.slice none 0 0), .lit (.slice none 0 0), .lit (.slice none 0 0)]) ∧ AccP AnyTok τ'' 1 (R ++ [[.lit (.string (sortF s x u v))]]) A'') hn => hK a'' τ'' ⟨h.1, h.2.1, h.2.2.2.1.next (by simp [upd]) (by have := hn; simp at this ⊢; omega) (by simp), by simp [upd, h.2.2.1, k30], A'', by simp [h.2.2.2.2.1], by
      have := h.2.2.2.2.2
      rw [hR] at this
      rw [List.take_succ_eq_append_getElem hj, ← hx]
      simpa [rows1, AccP] using this⟩ hn
    have g72x := g72 x
    have hjl : s.sorts.length ≤ 1048576 := hok.1.1
    rcases hA with ⟨hr0, rfl⟩ | ⟨tk, g, rfl, htk, hp⟩
    · simp [drunT, touch, touchP, b1, b2, b3, b8, hobj, ty22, ty9, ty26, g72x, setAt]
      exact fin _ _ (.slice 1 (.tok (τ.n + 1 + 3 + 8) 0) [[.lit (.string (sortF s x u v))]]) ⟨by simp [upd, hidx], by simp [upd, hlen], by simp [upd], hB.next (by simp [upd]) (by simp <;> omega) (by simp [upd]), by simp [upd], .inr ⟨τ.n + 1 + 3 + 8, 0, by rw [hr0]; rfl, by simp [upd], trivial⟩⟩ rfl
    · have hgl : R.length ≤ 16777215 := by omega
      simp [drunT, touch, touchP, b1, b2, b3, b8, hobj, ty22, ty9, ty26, g72x, setAt, htk, hgl]
      exact fin _ _ (.slice 1 (.tok tk (g + 1)) (R ++ [[.lit (.string (sortF s x u v))]])) ⟨by simp [upd, hidx], by simp [upd, hlen], by simp [upd], hB.next (by simp [upd]) (by simp <;> omega) (by simp [upd]), by simp [upd], .inr ⟨tk, g + 1, rfl, by simp [upd], trivial⟩⟩ rfl
  · rintro a σ hidx hlen ⟨hB, k30, A, hobj, hA⟩
    rw [List.take_length] at hA
    obtain ⟨⟨b1, b2, b3, b6, b8⟩, bn, bo⟩ := id hB
    have hAd : Enc.strs.dec A = some (s.sorts.map (sortF s · u v)) := hA.dec (A := EncR.one Enc.str) (decRows_enc (EncR.one Enc.str) _)
    have hAf : A = .lit (.slice none 0 0) ∨ ∃ tk g R, A = .slice 1 (.tok tk g) R := hA.shape
    clear hA
    refine Dwp.seq ?_
    refine Dwp.step tT rfl fun K hK => ?_
    simp [b3, ty26, ty23, belsC]
    refine hK _ _ ?_ rfl; clear hK K
    have belC : ∀ p : Bel, EncR.bel.enc p = [.lit (.string p.low), .lit (.string p.high)] := fun _ => rfl
    refine Dwp.range tT s.below.length (fun j a τ => Base33 s u v a τ ∧ a 48 = .slice 2 .none (s.below.map EncR.bel.enc) ∧
        ∃ B, τ.objs 16 = some (.cells 26 [A, B, .lit (.slice none 0 0), .lit (.slice none 0 0), .lit (.slice none 0 0)]) ∧ AccP AnyTok τ 2 (((s.below.take j).map (belF s · u v)).map EncR.bel.enc) B)
      ⟨rfl, rfl, rfl⟩ ⟨rfl, rfl, rfl⟩ ⟨rfl, rfl, rfl⟩ (by decide) (by decide) (by omega) (by simp [upd]) (by simp [upd])
      ⟨hB.next (by simp [upd]) (by simp <;> omega) (by simp), by simp [upd], .lit (.slice none 0 0), by simp [upd, hobj], .inl ⟨by simp, rfl⟩⟩ ?_ ?_
    · rintro j a τ hj hidx hlen ⟨hB, k48, B, hobj, hA⟩
      obtain ⟨x, hx⟩ : ∃ x, x = s.below[j] := ⟨_, rfl⟩
      obtain ⟨⟨b1, b2, b3, b6, b8⟩, bn, bo⟩ := id hB
      have hNN : ¬ (16 = τ.n + 1 + 2) := by omega
      have hNN2 : ¬ (τ.n + 1 + 2 = 16) := by omega
      have hN1 : ¬ (1 = τ.n + 1 + 2) := by omega
      refine Dwp.step tT rfl fun K hK => ?_
      simp [hidx, k48, ty23, ty78, hj, ← hx, belC, setAt]
      refine hK _ _ ?_ rfl; clear hK K
      refine Dwp.draw [.none, .robj, .none, .none, .robj, .none, .none, .none, .none, .none, .robj, .none, .none, .none, .none, .none, .tok, .none, .wobj] mixed tT rfl (by decide) fun K hK => ?_
      obtain ⟨R, hR⟩ : ∃ R, R = ((s.below.take j).map (belF s · u v)).map EncR.bel.enc := ⟨_, rfl⟩
      have hRl : R.length = j := by rw [hR]; simp; omega
      rw [← hR] at hA
      have fin := fun (a'' : Nat → DV) (τ'' : St) (B'' : DV) (h : a'' 50 = .lit (.int .i64 j) ∧ a'' 49 = .lit (.int .i64 s.below.length) ∧ a'' 48 = a 48 ∧ Base33 s u v a'' τ'' ∧ τ''.objs 16 = some (.cells 26 [A, B'', .lit (.slice none 0 0), .lit (.slice none 0 0), .lit (.slice none 0 0)]) ∧ AccP AnyTok τ'' 2 (R ++ [[.lit (.string (sortF s x.low u v)), .lit (.string (sortF s x.high u v))]]) B'') hn => hK a'' τ'' ⟨h.1, h.2.1, h.2.2.2.1.next (by simp [upd]) (by have := hn; simp at this ⊢; omega) (by simp), by simp [upd, h.2.2.1, k48], B'', by simp [h.2.2.2.2.1], by
        have := h.2.2.2.2.2
        rw [hR] at this
        rw [List.take_succ_eq_append_getElem hj, ← hx]
        simpa [AccP, belC, belF] using this⟩ hn
      have g72x := g72 x.low
      have g72y := g72 x.high
      rcases hA with ⟨hr0, rfl⟩ | ⟨tk, g, rfl, htk, hp⟩
      · simp [drunT, touch, touchP, b1, b2, b3, b8, hobj, ty23, ty78, ty9, ty26, g72x, g72y, setAt, hNN, hNN2, hN1]
        exact fin _ _ (.slice 2 (.tok (τ.n + 1 + 4 + 16) 0) [[.lit (.string (sortF s x.low u v)), .lit (.string (sortF s x.high u v))]]) ⟨by simp [upd, hidx], by simp [upd, hlen], by simp [upd], hB.next (by simp [upd]) (by simp <;> omega) (by simp [upd, hN1]), by simp [upd], .inr ⟨τ.n + 1 + 4 + 16, 0, by rw [hr0]; rfl, by simp [upd], trivial⟩⟩ rfl
      · have hgl : R.length ≤ 16777215 := by omega
        simp [drunT, touch, touchP, b1, b2, b3, b8, hobj, ty23, ty78, ty9, ty26, g72x, g72y, setAt, htk, hgl, hNN, hNN2, hN1]
        exact fin _ _ (.slice 2 (.tok tk (g + 1)) (R ++ [[.lit (.string (sortF s x.low u v)), .lit (.string (sortF s x.high u v))]])) ⟨by simp [upd, hidx], by simp [upd, hlen], by simp [upd], hB.next (by simp [upd]) (by simp <;> omega) (by simp [upd, hN1]), by simp [upd], .inr ⟨tk, g + 1, rfl, by simp [upd], trivial⟩⟩ rfl
    rintro a σ hidx hlen ⟨hB, k48, B, hobj, hA⟩
    rw [List.take_length] at hA
    obtain ⟨⟨b1, b2, b3, b6, b8⟩, bn, bo⟩ := id hB
    have hBd : Enc.bels.dec B = some (s.below.map (belF s · u v)) := hA.dec (A := EncR.bel) (decRows_enc EncR.bel _)
    have hBf : B = .lit (.slice none 0 0) ∨ ∃ tk g R, B = .slice 2 (.tok tk g) R := hA.shape
    clear hA
    refine Dwp.seq ?_
    refine Dwp.step tT rfl fun K hK => ?_
    simp [b3, ty26, ty22, strsC]
    refine hK _ _ ?_ rfl; clear hK K
    refine Dwp.range tT s.values.length (fun j a τ => Base33 s u v a τ ∧ a 74 = .slice 1 .none (rows1 s.values) ∧
        ∃ F, τ.objs 16 = some (.cells 26 [A, B, .lit (.slice none 0 0), .lit (.slice none 0 0), F]) ∧ AccP AnyTok τ 1 (rows1 ((s.values.take j).map (sortF s · u v))) F)
      ⟨rfl, rfl, rfl⟩ ⟨rfl, rfl, rfl⟩ ⟨rfl, rfl, rfl⟩ (by decide) (by decide) (by have := hok.1.2.2.2.1; omega) (by simp [upd]) (by simp [upd])
      ⟨hB.next (by simp [upd]) (by simp <;> omega) (by simp), by simp [upd], .lit (.slice none 0 0), by simp [upd, hobj], .inl ⟨by simp, rfl⟩⟩ ?_ ?_
    · rintro j a τ hj hidx hlen ⟨hB, k74, F, hobj, hA⟩
      obtain ⟨x, hx⟩ : ∃ x, x = s.values[j] := ⟨_, rfl⟩
      obtain ⟨⟨b1, b2, b3, b6, b8⟩, bn, bo⟩ := id hB
      refine Dwp.step tT rfl fun K hK => ?_
      simp [hidx, k74, ty22, ty9, hj, ← hx]
      refine hK _ _ ?_ rfl; clear hK K
      refine Dwp.draw [.none, .robj, .none, .none, .none, .none, .none, .none, .tok, .none, .wobj] mixed tT rfl (by decide) fun K hK => ?_
      obtain ⟨R, hR⟩ : ∃ R, R = rows1 ((s.values.take j).map (sortF s · u v)) := ⟨_, rfl⟩
      have hRl : R.length = j := by rw [hR]; simp; omega
      rw [← hR] at hA
      have fin := fun (a'' : Nat → DV) (τ'' : St) (F'' : DV) (h : a'' 76 = .lit (.int .i64 j) ∧ a'' 75 = .lit (.int .i64 s.values.length) ∧ a'' 74 = a 74 ∧ Base33 s u v a'' τ'' ∧ τ''.objs 16 = some (.cells 26 [A, B, .lit (.slice none 0 0), .lit (.slice none 0 0), F'']) ∧ AccP AnyTok τ'' 1 (R ++ [[.lit (.string (sortF s x u v))]]) F'') hn => hK a'' τ'' ⟨h.1, h.2.1, h.2.2.2.1.next (by simp [upd]) (by have := hn; simp at this ⊢; omega) (by simp), by simp [upd, h.2.2.1, k74], F'', by simp [h.2.2.2.2.1], by
        have := h.2.2.2.2.2
        rw [hR] at this
        rw [List.take_succ_eq_append_getElem hj, ← hx]
        simpa [rows1, AccP] using this⟩ hn
      have g72x := g72 x
      have hjl : s.values.length ≤ 1048576 := hok.1.2.2.2.1
      rcases hA with ⟨hr0, rfl⟩ | ⟨tk, g, rfl, htk, hp⟩
      · simp [drunT, touch, touchP, b1, b2, b3, b8, hobj, ty22, ty9, ty26, g72x, setAt]
        exact fin _ _ (.slice 1 (.tok (τ.n + 1 + 3 + 8) 0) [[.lit (.string (sortF s x u v))]]) ⟨by simp [upd, hidx], by simp [upd, hlen], by simp [upd], hB.next (by simp [upd]) (by simp <;> omega) (by simp [upd]), by simp [upd], .inr ⟨τ.n + 1 + 3 + 8, 0, by rw [hr0]; rfl, by simp [upd], trivial⟩⟩ rfl
      · have hgl : R.length ≤ 16777215 := by omega
        simp [drunT, touch, touchP, b1, b2, b3, b8, hobj, ty22, ty9, ty26, g72x, setAt, htk, hgl]
        exact fin _ _ (.slice 1 (.tok tk (g + 1)) (R ++ [[.lit (.string (sortF s x u v))]])) ⟨by simp [upd, hidx], by simp [upd, hlen], by simp [upd], hB.next (by simp [upd]) (by simp <;> omega) (by simp [upd]), by simp [upd], .inr ⟨tk, g + 1, rfl, by simp [upd], trivial⟩⟩ rfl
    rintro a σ hidx hlen ⟨hB, k74, F, hobj, hA⟩
    rw [List.take_length] at hA
    obtain ⟨⟨b1, b2, b3, b6, b8⟩, bn, bo⟩ := id hB
    have hFd : Enc.strs.dec F = some (s.values.map (sortF s · u v)) := hA.dec (A := EncR.one Enc.str) (decRows_enc (EncR.one Enc.str) _)
    have hFf : F = .lit (.slice none 0 0) ∨ ∃ tk g R, F = .slice 1 (.tok tk g) R := hA.shape
    clear hA
    have hok2 := hok' (by simp [hv, hu, hw])
    have hd := dec_sig hAd hBd (Enc.ops.de (s.ops.map (opF s · u v))) (Enc.ops.de (s.funs.map (opF s · u v))) hFd
    simp only [opsC] at hd
    have g13x := g13d (.agg [A, B, .slice 7 .none ((s.ops.map (opF s · u v)).map EncR.opd.enc), .slice 7 .none ((s.funs.map (opF s · u v)).map EncR.opd.enc), F]) (sigF s u v) hd hok2 (by simp [sigF]; exact hbl)
    generalize hOd : (s.ops.map (opF s · u v)).map EncR.opd.enc = OD at *
    generalize hFu : (s.funs.map (opF s · u v)).map EncR.opd.enc = FD at *
    refine Dwp.step tT rfl fun K hK => ?_
    simp [b1, b2, b3, b8, hobj, ty26, ty24, opsC, g73a, setAt]
    refine hK _ _ ?_ rfl; clear hK K
    refine Dwp.step tT rfl fun K hK => ?_
    simp [b1, b2, b3, b8, hobj, ty26, ty24, opsC, g73b, setAt]
    refine hK _ _ ?_ rfl; clear hK K
    refine Dwp.seq ?_
    refine Dwp.step tT rfl fun K hK => ?_
    simp only [zsig] at bo
    have hren : ren2 s u v = (if (sigF s u v).vld then (sigF s u v, 0) else (noSig, 14)) := by unfold ren2; rw [if_pos (by simp [hv, hu, hw])]
    cases hr : (sigF s u v).vld with
    | false =>
      rw [hr] at g13x hren
      simp [b8, ty26, g13x]
      refine hK _ _ ?_ rfl; clear hK K
      refine Dwp.condT (by simp [eval, upd]) ?_
      refine Dwp.step tT rfl fun K hK => ?_
      simp [b6, bo, ty26, ty22, ty23, ty24, setAt]
      refine hK _ _ (Dwp.ret ?_) rfl
      exact fin _ _ noSig 14 _ (by simp [upd, b6]) (by simp [upd]) (by simp [upd]; rfl) rfl rfl rfl (by simpa using hren)
    | true =>
      rw [hr] at g13x hren
      simp [b8, ty26, g13x]
      refine hK _ _ ?_ rfl; clear hK K
      refine Dwp.condF (by simp [eval, upd]) (Dwp.skip ?_)
      refine Dwp.step tT rfl fun K hK => ?_
      simp [b6, b8, bo, ty26, setAt]
      refine hK _ _ (Dwp.ret ?_) rfl
      have hfz : ∀ τ : St, frz τ (.tuple [.agg [A, B, .slice 7 .none OD, .slice 7 .none FD, F], .lit (.int .i64 0)]) = .tuple [.agg [A, B, .slice 7 .none OD, .slice 7 .none FD, F], .lit (.int .i64 0)] := by
        intro τ
        rcases hAf with e | ⟨_, _, _, e⟩ <;> rcases hBf with e' | ⟨_, _, _, e'⟩ <;> rcases hFf with e'' | ⟨_, _, _, e''⟩ <;> subst e <;> subst e' <;> subst e'' <;> rfl
      exact fin _ _ (sigF s u v) 0 [A, B, .slice 7 .none OD, .slice 7 .none FD, F] (by simp [upd, b6]) (by simp [upd]) (by simp [upd]) rfl hd (hfz _) (by simpa using hren)
theorem e33 : Go.FA.Good Tryz.prog (33, s33) := ⟨c33, Tryz.f33, _, Tryz.func33, rfl, by decide⟩
end Go.Proofs.Yt
namespace Go.Proofs.Yt
open Go Go.FA Go.Proofs
set_option linter.unusedVariables false
set_option linter.unusedSimpArgs false
set_option maxRecDepth 100000

/-- a name and its frame -/
theorem frame_parts (x : ByteArray) : (frameF x).1.data.toList ++ (frameF x).2.data.toList = x.data.toList ∧ ((frameF x).2.data.toList = [] ∨ (frameF x).2.data.toList.head? = some 39) := by
  unfold frameF
  split
  · next hf =>
    have hs : x.size = x.data.toList.length := by simp
    have h3 : 3 ≤ x.size ∧ byteAt x (x.size - 2) = 39 := by
      unfold frameB at hf
      simp only [Bool.and_eq_true, decide_eq_true_eq, beq_iff_eq] at hf
      exact ⟨hf.1.1.1, hf.1.1.2⟩
    obtain ⟨h3, h39⟩ := h3
    have hlt : x.size - 2 < x.size := by omega
    rw [byteAt_get hlt] at h39
    simp only [extract_list]
    refine ⟨?_, .inr ?_⟩
    · rw [List.drop_zero, List.take_of_length_le (by omega : x.data.toList.length ≤ x.size), List.take_append_drop]
    · rw [List.take_of_length_le (by omega : x.data.toList.length ≤ x.size), List.head?_drop]
      have hg : x.data.toList[x.size - 2]? = some x[x.size - 2] := by
        rw [Array.getElem?_toList]
        exact Array.getElem?_eq_getElem _
      rw [hg]
      congr 1
      have : x[x.size - 2].toNat = 39 := by omega
      exact UInt8.toNat_inj.1 (by simpa using this)
  · simp
theorem swap_name (s : SigD) (u v x : ByteArray) : (renOf s u v).name x = swapF x u v := rfl
theorem swapOp_eq (s : SigD) (u v : ByteArray) {x : ByteArray} (h : okOp x = true ∨ isName x = true) : swapOp x u v = (renOf s u v).opName x := by
  have hn : noMark (frameF x).1 := by
    rcases h with h | h
    · exact name_noMark (by rw [frame_ok]; exact h)
    · intro b hb
      have hx := name_noMark h
      exact hx b (by rw [← (frame_parts x).1]; exact List.mem_append_left _ hb)
  obtain ⟨h1, h2⟩ := frame_parts x
  have hw := while_append hn h2
  rw [h1] at hw
  have hc : (cutMark x).1 = (frameF x).1 := ba_ext (by rw [cut_list, hw])
  have hd : x.data.toList.dropWhile (· != 39) = (frameF x).2.data.toList := by
    rw [← takeWhile_dropWhile_len, hw, ← h1, List.drop_left]
  refine ba_ext ?_
  rw [opName_list, hc, hd, swap_name]
  unfold swapOp
  rw [ba_append]
theorem sortF_phi {s : SigD} (h : s.ok) (hv : s.vld = true) (u v x : ByteArray) : sortF s x u v = phi s u v x := by
  rw [phi_eq h hv]; rfl
theorem opF_eq {s : SigD} (h : s.ok) (hv : s.vld = true) (u v : ByteArray) {o : OpD} (hn : okOp o.name = true ∨ isName o.name = true) : opF s o u v = (renOf s u v).op o := by
  have hs : (sortF s · u v) = phi s u v := funext fun x => sortF_phi h hv u v x
  have hp : (pieF s · u v) = (renOf s u v).piece := funext fun p => by
    show Pie.mk p.text (sortF s p.sort u v) = Pie.mk p.text (phi s u v p.sort)
    rw [sortF_phi h hv]
  unfold opF Ren.op
  rw [swapOp_eq s u v hn, hp, sortF_phi h hv]
  have : (sortF s · u v) = (renOf s u v).sort := hs
  rw [this]
  rfl
theorem sigF_ren {s : SigD} (h : s.ok) (hv : s.vld = true) (u v : ByteArray) : sigF s u v = ren s u v := by
  have hf := vld_facts h hv
  have hs : (sortF s · u v) = (renOf s u v).sort := funext fun x => sortF_phi h hv u v x
  have hb : (belF s · u v) = (renOf s u v).below := funext fun x => by
    show Bel.mk (sortF s x.low u v) (sortF s x.high u v) = Bel.mk (phi s u v x.low) (phi s u v x.high)
    rw [sortF_phi h hv, sortF_phi h hv]
  have ho : s.ops.map (opF s · u v) = s.ops.map (renOf s u v).op := List.map_congr_left fun o ho => opF_eq h hv u v (.inl (badOp_facts (hf.2.2.2.2.2.2.2.1 o ho)).1)
  have hg : s.funs.map (opF s · u v) = s.funs.map (renOf s u v).op := List.map_congr_left fun o ho => opF_eq h hv u v (.inr (badFun_facts (hf.2.2.2.2.2.2.2.2.1 o ho)).1)
  show SigD.mk _ _ _ _ _ = SigD.mk _ _ _ _ _
  rw [hs, hb, ho, hg]
theorem rename_eq {s : SigD} (h : s.ok) (u v : ByteArray) : renameF s u v = some (ren2 s u v) := by
  unfold renameF ren2
  rw [openF_some s h [] (by simp)]
  cases hv : s.vld with
  | false => simp
  | true =>
    simp only [List.all_nil, if_true]
    by_cases hn : isName u && isName v
    · have hn' : names2 u v := by unfold names2; simpa using hn
      rw [if_pos hn, if_pos (ren_sigOk h hn')]
      have hf := validF_some (ren s u v) (ren_ok h hv hn')
      rw [sigF_ren h hv]
      have h1 : (true && isName u && isName v) = true := by simpa using hn
      rw [if_pos h1]
      have hd : Ren.sig ⟨newBook s, u, v⟩ s = ren s u v := rfl
      rw [hd, hf]
      cases (ren s u v).vld <;> rfl
    · rw [if_neg hn]
      have h1 : ¬ (true && isName u && isName v) = true := by simpa using hn
      rw [if_neg h1]
theorem phi_small {s : SigD} (h : s.ok) (hv : s.vld = true) {u v : ByteArray} (hn : names2 u v) {x : ByteArray} (hx : x ∈ s.sorts) : (phi s u v x).size ≤ 1048576 := by
  rw [← sortF_phi h hv]
  have h1 := isName_size hn.1
  have h2 := isName_size hn.2
  have h3 := isName_size ((sorts_facts h hv).1 x hx)
  unfold sortF swapF
  rw [if_pos hx]
  split
  · omega
  · split <;> omega
theorem ren_ok2 {s : SigD} (h : s.ok2) (hv : s.vld = true) {u v : ByteArray} (hn : names2 u v) : (ren s u v).ok2 := by
  refine ⟨ren_ok h.1 hv hn, fun x hx => ?_, fun o ho p hp => ?_⟩
  · rw [ren_sorts] at hx
    obtain ⟨y, hy, rfl⟩ := List.mem_map.1 hx
    exact phi_small h.1 hv hn hy
  · have ho' : o ∈ s.ops.map (renOf s u v).op := ho
    obtain ⟨q, hq, rfl⟩ := List.mem_map.1 ho'
    have hp' : p ∈ q.pieces.map (renOf s u v).piece := hp
    obtain ⟨r, hr, rfl⟩ := List.mem_map.1 hp'
    exact h.2.2 q hq r hr
theorem call32' (T : Tab) (hT : T 32 = some s32) {s : SigD} (h : s.ok) (u v : ByteArray) : dcall T 32 [.agg (EncR.sigd.enc s), .lit (.string u), .lit (.string v)] = some (.tuple [.agg (EncR.sigd.enc (ren2 s u v).1), .lit (.int .i64 (ren2 s u v).2)]) := call32 T hT s u v (rename_eq h u v)
theorem call33 (T : Tab) (hT : T 33 = some s33) {s : SigD} (h : s.ok2) (hb : s.below.length ≤ 250) (u v : ByteArray) (h1 : u.size ≤ 1048576) (h2 : v.size ≤ 1048576) : dcall T 33 [.agg (EncR.sigd.enc s), .lit (.string u), .lit (.string v)] = some (.tuple [.agg (EncR.sigd.enc (ren2 s u v).1), .lit (.int .i64 (ren2 s u v).2)]) := by
  have h3 := dcall3 (T := T) (A := Enc.sigd) (B := Enc.str) (C := Enc.str) (D := Enc.sigErr) (x := s) (y := u) (u := v) hT (if_pos ⟨h, hb, h1, h2, fun q => by
    simp only [Bool.and_eq_true] at q
    show (sigF s u v).ok2
    rw [sigF_ren h.1 q.1.1]; exact ren_ok2 h q.1.1 ⟨q.1.2, q.2⟩⟩)
  exact h3
theorem ren2_ok {s : SigD} (h : s.ok) (u v : ByteArray) : (ren2 s u v).1.ok := by
  unfold ren2
  have h0 : noSig.ok := by decide
  split
  · next q =>
    simp only [Bool.and_eq_true] at q
    rw [sigF_ren h q.1.1]
    split
    · exact ren_ok h q.1.1 ⟨q.1.2, q.2⟩
    · exact h0
  · exact h0
end Go.Proofs.Yt
namespace Go.FA
open Go.RowKit Go.ChangeShapes
set_option linter.unusedVariables false
set_option linter.unusedSimpArgs false
section
variable {H : Type} {K : Bulk H} {enc : TypeId × Value → H} {P : Program} {W : World}
/-- two of a kind, one cell each -/
theorem Rd.array2 {α : Type} {t e : TypeId} {A : Enc α} {sz : α → Nat} (ht : P.underlying t = some (.array 2 e)) (h : Rd K enc P W e (EncR.one A) sz) (he : P.cellsOf e = 1) (hk : P.cellsOf t = 2) :
    Rd K enc P W t ((EncR.one A).and (EncR.one A)) (fun x => sz x.1 + sz x.2 + 1) := by
  intro fuel cs x hx
  obtain ⟨xs, m, _, rfl, hcl, hxl, hel⟩ := DataW.trod_array ht hx
  rw [hk] at hcl
  rw [he] at hel
  match cs, hcl, xs, hxl with
  | [c1, c2], _, [x1, x2], _ =>
    obtain ⟨y, q1, q2, q3⟩ := h m [c1] x1 (by simpa using hel 0 (by omega))
    obtain ⟨z, r1, r2, r3⟩ := h m [c2] x2 (by simpa using hel 1 (by omega))
    refine ⟨(y, z), ?_, ?_, ?_⟩
    · exact LRel_cat (a := (EncR.one A).enc y) (x := [c1]) q1 r1
    · intro v hv
      simp only [List.mem_cons, List.not_mem_nil, or_false] at hv
      rcases hv with rfl | rfl
      · exact q2 _ (by simp)
      · exact r2 _ (by simp)
    · have k1 := K.agg [x1.1, x2.1]
      have k2 := K.cons x1.1 [x2.1]
      have k3 := K.cons x2.1 []
      simp only [List.map_cons, List.map_nil]
      omega
theorem ARd1.arr {α : Type} {n : Nat} {t e : TypeId} {A : EncR α} {sz : α → Nat} (ht : P.underlying t = some (.array n e)) (h : Rd K enc P W t A sz) : ARd1 K enc P W t (Enc.agg A) sz := by
  intro base v d ps hok hd
  obtain ⟨fuel, hf⟩ := hd
  obtain ⟨y, q1, q2, q3⟩ := h fuel _ _ hf
  simp only [Value.okWide, ht] at hok
  obtain ⟨cs, rfl, _⟩ := hok
  refine ⟨y, ?_, q3⟩
  simp only [Enc.agg, VRel]
  exact ⟨cs.toList, by simp, by simpa [Value.cells] using q1, by simpa [Value.cells] using q2⟩
end
end Go.FA
namespace Go.FA
open Go.RowKit
set_option linter.unusedVariables false
set_option linter.unusedSimpArgs false
variable {P : Program} {T : Tab} {ops : Array Oper} {n0 i : Nat} {o : Oper} {rest : List Oper} {a : Nat → DV} {σ : St} {K : (Nat → DV) → St → Prop} {ts : List Touch}
theorem Then.doneT (h : K a σ) : Then (drunT P T ops n0 i ts [] a σ) K := h
theorem Then.stepTD {t : Tmp} (hg : o.guard = none) (hd : o.dst = some t) (ht : touch a o.op = ts.headD .none)
    (h : ∀ K1 : DV → St → Prop, (∀ d σ', Then (drunT P T ops n0 (i + 1) ts.tail rest (upd a t d) σ') K → K1 d σ') → Then1 (dop P T (n0 + i) a σ o.op) K1) : Then (drunT P T ops n0 i ts (o :: rest) a σ) K := by
  have h1 := h _ (fun _ _ h => h)
  unfold Then1 at h1
  simp only [drunT, hg, dwanted]
  rw [if_pos ht]
  split at h1
  · next d σ' he => rw [he]; simp only [dput, hd]; exact h1
  · exact h1.elim
theorem Then.stepTG {t u : Tmp} {j : Nat} {want : Bool} (hg : o.guard = some (j, want)) (hj : (ops[j]?).bind (·.dst) = some u) (hd : o.dst = some t) (hb : a u = .lit (.bool want)) (ht : touch a o.op = ts.headD .none)
    (h : ∀ K1 : DV → St → Prop, (∀ d σ', Then (drunT P T ops n0 (i + 1) ts.tail rest (upd a t d) σ') K → K1 d σ') → Then1 (dop P T (n0 + i) a σ o.op) K1) : Then (drunT P T ops n0 i ts (o :: rest) a σ) K := by
  have h1 := h _ (fun _ _ h => h)
  unfold Then1 at h1
  simp only [drunT, hg, dwanted, hj, hb, beq_self_eq_true]
  rw [if_pos ht]
  split at h1
  · next d σ' he => rw [he]; simp only [dput, hd]; exact h1
  · exact h1.elim
end Go.FA
namespace Go.Proofs.Yt
open Go Go.FA Go.Proofs
set_option linter.unusedVariables false
set_option linter.unusedSimpArgs false
set_option maxRecDepth 100000

def EncR.pair : EncR (ByteArray × ByteArray) := (EncR.one Enc.str).and (EncR.one Enc.str)
def Enc.pair : Enc (ByteArray × ByteArray) := Enc.agg EncR.pair
def okPair (p : ByteArray × ByteArray) : Prop := p.1.size ≤ 1048576 ∧ p.2.size ≤ 1048576
instance (p : ByteArray × ByteArray) : Decidable (okPair p) := by unfold okPair; infer_instance
def s6 : Sp := sp (arg3 Enc.sigd Enc.sigd Enc.pair) Enc.bool (fun x => if x.1.ok2 ∧ x.2.1.ok2 ∧ okPair x.2.2 then some true else none)
abbrev T6 : Tab := tabOf [(10, s10), (11, s11), (32, s32), (33, s33), (34, s34), (35, s35), (36, s36), (37, s37), (38, s38), (39, s39)]
theorem t6 : TabOk Tryz.prog T6 := .cons e10 (.cons e11 (.cons e32 (.cons e33 (.cons e34 (.cons e35 (.cons e36 (.cons e37 (.cons e38 (.cons e39 .nil)))))))))
attribute [local simp] drunL drunO dwanted dopS own plainOf dop dput eval ofVal Then Ex.then Ex.inBlock upd dbin Tag.isNN nilTest intCmp dload dpart TyI.agg dfieldAddr dfield dindexAddr dindex dlen lenOk dlookup mapOf keyFits dmapUpdate dcallee dbuiltin dstore DV.cells dslice dboundOk dappend appTag rowsOf elemOk growLimit dbuildCells dbuildCells.go structOk fieldsOk dbuildRows goInt
set_option maxHeartbeats 2000000 in
theorem c6 : CallSound Tryz.prog 6 s6 := by
  refine CallSound.of_sp (T := T6) Tryz.func6 rfl (Nat.le_of_ble_eq_true rfl) fun E xx y hy => ?_
  obtain ⟨s, t, p⟩ := xx
  simp only [] at hy
  split at hy
  case isFalse => cases hy
  next hh =>
  obtain ⟨ok1, ok2, zu, zv⟩ := hh
  cases hy
  obtain ⟨u, v⟩ := p
  simp only [] at zu zv
  have g10 := call10 T6 rfl ok1.1
  have g10t := call10 T6 rfl ok2.1
  have g11 := call11 T6 rfl
  have g32 := call32' T6 rfl ok1.1 u v
  have g33 := fun h => call33 T6 rfl ok1 h u v zu zv
  have g34r := call34 T6 rfl (ren2 s u v).1 (ren2 s u v).1 (ren2_ok ok1.1 u v) (ren2_ok ok1.1 u v)
  have g34 := call34 T6 rfl s t ok1.1 ok2.1
  have g35 := call35 T6 rfl s t ok1.1 ok2.1
  have g35s := call35 T6 rfl s s ok1.1 ok1.1
  have g36 := call36 T6 rfl u
  have g37 := call37 T6 rfl u
  have g38 := call38 T6 rfl u
  have g39 := call39 T6 rfl u (by unfold lim; omega)
  simp only [decide_true] at g34r g35s
  have setS := setSig
  simp only [zsig] at setS
  have tT := t6
  generalize T6 = T at *
  have fin : ∀ (a : Nat → DV) (σ : St), a 6 = .lit (.bool true) → Done Tryz.prog Tryz.f6.results Enc.bool true Ex.ret a σ := by
    intro a σ h2
    refine ⟨.inr rfl, .lit (.bool true), ?_, rfl⟩
    show dresults Tryz.prog σ a [ResultVar.tmp 6] = _
    simp [dresults, dres, h2]
  refine Dwp.step tT rfl fun K hK => ?_
  simp [init, arg3, EncR.and, EncR.one, Enc.sigd, Enc.agg, Enc.str, Enc.pair, EncR.pair]
  refine hK _ _ ?_ rfl; clear hK K
  refine Dwp.seq ?_
  refine Dwp.step tT rfl fun K hK => ?_
  have no : ∀ a' σ', a' 20 = .lit (.bool true) → σ'.n = 4 → K a' σ' := by
    intro a' σ' h20 hn
    refine hK _ _ ?_ hn
    clear hK K
    refine Dwp.condT (by simp [eval, h20]) ?_
    refine Dwp.step tT rfl fun K hK => ?_
    simp [g11]
    refine hK _ _ (Dwp.ret ?_) rfl
    exact fin _ _ (by simp [upd])
  by_cases hf : few s = true
  case neg =>
    have hf' : few s = false := by simpa using hf
    simp [ty26, g10, hf']
    exact no _ _ (by simp [upd]) rfl
  by_cases hft : few t = true
  case neg =>
    have hf' : few t = false := by simpa using hft
    simp [ty26, g10, g10t, hf, hf']
    exact no _ _ (by simp [upd]) rfl
  have hbl : s.below.length ≤ 250 := by unfold few at hf; simp only [Bool.and_eq_true, decide_eq_true_eq] at hf; omega
  have g33 := g33 hbl
  simp [ty26, g10, g10t, hf, hft]
  refine hK _ _ ?_ rfl
  clear no hK K
  refine Dwp.condF (by simp [eval, upd]) (Dwp.skip ?_)
  refine Dwp.drawStep [.none, .none, .none, .none, .none, .none] mixed tT rfl (by decide) fun K hK => ?_
  simp [drunT, touch, touchP, ty46, ty9]
  refine hK _ _ ?_ rfl; clear hK K
  generalize hr : ren2 s u v = r at *
  refine Dwp.step tT rfl fun K hK => ?_
  simp [ty26, σ0, g32, setS]
  refine hK _ _ ?_ rfl; clear hK K
  refine Dwp.step tT rfl fun K hK => ?_
  simp [ty26, σ0, g33, setS]
  refine hK _ _ ?_ rfl; clear hK K
  refine Dwp.drawStep [.robj, .robj] mixed tT rfl (by decide) fun K hK => ?_
  have gl : ∀ x : Bool, (x == x) = true := fun x => by simp
  repeat (first
    | (refine Then.stepTD rfl rfl (by simp [touch, touchP, eval, upd]) (fun K1 hK1 => ?_); simp [Then1, dop, eval, ofVal, upd, dload, dpart, TyI.agg, dcallee, dbin, intCmp, ty26, g34r, g35, g34, g35s, g36, g37, g38, g39, g11, gl]; refine hK1 _ _ ?_; clear hK1 K1)
    | (refine Then.stepTG rfl rfl rfl (by simp [upd]) (by simp [touch, touchP, eval, upd]) (fun K1 hK1 => ?_); simp [Then1, dop, eval, ofVal, upd, dload, dpart, TyI.agg, dcallee, dbin, intCmp, ty26, g34r, g35, g34, g35s, g36, g37, g38, g39, g11, gl]; refine hK1 _ _ ?_; clear hK1 K1))
  refine Then.doneT (hK _ _ (Dwp.ret ?_) rfl)
  exact fin _ _ (by simp [upd])
theorem e6 : Go.FA.Good Tryz.prog (6, s6) := ⟨c6, Tryz.f6, _, Tryz.func6, rfl, by decide⟩
section
open Go.RowKit Go.ChangeShapes YtboifamdcpelfaaGreat
variable {H : Type} {enc : TypeId × Value → H} {W : World}
theorem argPair : ARd1 (blk H) enc Tryz.prog W 46 Enc.pair (fun x => szS x.1 + szS x.2 + 1) :=
  ARd1.arr (under_of_ty ty46) (Rd.array2 (under_of_ty ty46) rdStr (by rw [cells_of_ty ty9]) (by rw [cells_of_ty ty46]))
theorem readable46 : Tryz.prog.readableRec 46 = true := by kernel_rfl
theorem types46 : 46 < Tryz.prog.types.size := of_decide_eq_true (by kernel_rfl)
end
end Go.Proofs.Yt
namespace Go.Proofs.Yt
open Go Go.FA Go.Proofs
set_option linter.unusedVariables false
set_option linter.unusedSimpArgs false
theorem sig_ok2 {s : SigD} (h : szSig s ≤ 1048576) : s.ok2 := by
  unfold szSig at h
  simp only [szL] at h
  refine ⟨sig_ok (by unfold szSig; simp only [szL]; exact h), fun x hx => ?_, fun o ho p hp => ?_⟩
  · have h0 : x.size + 1 ≤ (s.sorts.map szS).sum := mem_le (sz := szS) hx
    omega
  · have h1 := mem_le (sz := szOp) ho
    have h2 := mem_le (sz := szPie) hp
    have e1 : (o.pieces.map szPie).sum ≤ szOp o := by unfold szOp szL; omega
    have e2 : p.text.size ≤ szPie p := by unfold szPie szS; omega
    omega
end Go.Proofs.Yt
