/- Contracts of functions of the program, by a machine over abstract values; part 10. No condition beyond those of each theorem. -/
import Derived.Test.YtfpejlbfdpeofaaGreatDoorSm8
set_option linter.unusedVariables false
set_option linter.unusedSimpArgs false
namespace Go.Proofs.Yt
open Go Go.FA Go.Proofs Go.RowKit
set_option maxRecDepth 100000
abbrev Fl5 := Bool × Bool × Bool × Bool × Bool
def Qb6 (f : Fl5) : Tm → Bool
  | .mk _ n t s ks r => (f.1 || decide (n = 0)) && ((f.2.1 || decide (t = ⟨#[]⟩)) && ((f.2.2.1 || decide (s = ⟨#[]⟩)) && ((f.2.2.2.1 || ks.isEmpty) && (f.2.2.2.2 || r.isEmpty))))
def argTF : Ql (Tm × Fl5) := (Ql.one Enc.tm).and ((Ql.one Enc.bool).and ((Ql.one Enc.bool).and ((Ql.one Enc.bool).and ((Ql.one Enc.bool).and (Ql.one Enc.bool)))))
def usedF (f : Fl5) : Bool := f = (true, false, false, false, false) || f = (false, true, false, false, false) || f = (false, true, false, true, false) || f = (false, true, true, false, false) || f = (false, false, false, true, true)
def s232 : Sp := sp argTF Enc.bool (fun x => if usedF x.2 = true then some (Qb6 x.2 x.1) else none)
theorem QkA (T : Tab) (hT : T 232 = some s232) (t : Tm) (f : Fl5) (h : usedF f = true) : dcall T 232 [.agg t.cells, .lit (.bool f.1), .lit (.bool f.2.1), .lit (.bool f.2.2.1), .lit (.bool f.2.2.2.1), .lit (.bool f.2.2.2.2)] = some (.lit (.bool (Qb6 f t))) := by
  simp [dcall, hT, s232, sp, argTF, Ql.and, Ql.one, Enc.tm, Enc.agg, Ql.tm, Tm.dec_cells, Enc.bool, h]
theorem QkM {α : Type} (l : List α) : ((l.length : Int) == 0) = l.isEmpty := by cases l <;> simp; omega
theorem len_nil {α : Type} {l : List α} (h : l ≠ []) : ((l.length : Int) == 0) = false := by cases l <;> simp_all; omega
set_option maxHeartbeats 4000000 in
theorem c232 : Qb Tryz.prog 232 s232 := by
  refine Qb.of_sp (T := Qf []) Tryz.func232 rfl (Nat.le_of_ble_eq_true rfl) fun E xx y hy => ?_
  obtain ⟨⟨k, nn, x, s, ks, r⟩, f⟩ := xx
  simp only [] at hy
  split at hy
  case isFalse => cases hy
  next hu =>
  cases hy
  have tT := Q9 (P := Tryz.prog)
  generalize Qf [] = T at *
  have fin : ∀ (b : Bool) (a : Nat → DV) (σ : St), a 12 = .lit (.bool b) → Qb6 f (.mk k nn x s ks r) = b → Q3 Tryz.prog Tryz.f232.results Enc.bool (Qb6 f (.mk k nn x s ks r)) Ex.ret a σ := by
    intro b a σ h2 hb
    refine ⟨.inr rfl, .lit (.bool b), ?_, by simp [hb, Q3, Qh, QW, frz, Q2, Q0, Enc.bool]⟩
    show Qh Tryz.prog σ a [ResultVar.tmp 12] = _
    simp [Qh, QW, h2]
  simp only [usedF, Bool.or_eq_true, decide_eq_true_eq] at hu
  rcases hu with (((rfl | rfl) | rfl) | rfl) | rfl <;> (
    simp only [argTF, Ql.and, Ql.one, tmC, QG]
    refine Dwp.step tT rfl fun K hK => ?_
    simp [QF, QZ, Qo, QJ, own, Qm, dop, QN, eval, Qr, Qn, Ex.then, Ex.inBlock, upd, QV, Tag.isNN, Qp, intCmp, Qv, Qx, TyI.agg, Qa, Qu, Qg, Qs, QX, QA, QD, mapOf, QQ, QC, Qq, Qi, Qj, QI, DV.cells, Qt, Qk, QE, QK, rowsOf, QL, Qd, Qe, Qe.go, Qz, QB, Qc, goInt, init, QG, Enc.bool]
    refine hK _ _ ?_ rfl; clear hK K
    refine Dwp.step tT rfl fun K hK => ?_
    repeat' ((first | refine Qn.stepD rfl rfl ?_ | refine Qn.stepG rfl rfl rfl ?_ | refine Qn.stepN rfl rfl ?_ | refine Qn.stepGN rfl rfl rfl ?_); intro K1 hK1; simp [*, QO, Qw, QJ, dop, eval, Qr, upd, Qa, Qu, Qv, Qx, TyI.agg, Qg, Qs, Qi, Qj, QA, QX, goInt, QV, intCmp, Qp, Tag.isNN, Qc, DV.cells, Qd, Qt, Qk, init, QaB, ty3, ty9, Qak, Q5, QkM]; (first | (refine hK1 _ _ ?_; clear hK1 K1) | (split <;> (rename_i hsp; (try simp only [beq_iff_eq, beq_eq_false_iff_ne, ne_eq, decide_eq_true_eq, decide_eq_false_iff_not] at hsp); (try (first | have hsq := Int.not_le.2 hsp | have hsq := Int.not_lt.2 hsp | have hsq := Int.not_le.1 hsp | have hsq := Int.not_lt.1 hsp)); (try subst hsp); (try simp only [hsp])) <;> (refine hK1 _ _ ?_; clear hK1 K1))))
    all_goals refine Qn.done (hK _ _ (Dwp.ret ?_) rfl)
    all_goals refine fin _ _ _ (by simp [upd, *]; rfl) ?_
    all_goals simp [Qb6, *])
theorem e232 : Go.FA.Good Tryz.prog (232, s232) := ⟨c232, Tryz.f232, _, Tryz.func232, rfl, by decide⟩
end Go.Proofs.Yt
namespace Go.Proofs.Yt
open Go Go.FA Go.Proofs
set_option maxRecDepth 100000
section
attribute [local simp] QF QZ Qo QJ own Qm dop QN eval Qr Qn Ex.then Ex.inBlock upd QV Tag.isNN Qp intCmp Qv Qx TyI.agg Qa Qu Qg Qs QX QA QD mapOf QQ QC Qq Qi Qj QI DV.cells Qt Qk QE QK rowsOf QL Qd Qe Qe.go Qz QB Qc goInt
def s180 : Sp := sp (QM (Enc.int .u8)) Enc.bool (fun c => some (letter c))
theorem c180 : Qb Tryz.prog 180 s180 := by
  refine Qb.of_sp (T := Qf []) Tryz.func180 rfl (Nat.le_of_ble_eq_true rfl) fun E c y hy => ?_
  simp at hy; subst hy
  refine Dwp.step Q9 rfl fun K hK => ?_
  simp [dcall, Qf, setAt]
  refine hK _ _ ?_ rfl; clear hK K
  refine Dwp.step Q9 rfl fun K hK => ?_
  by_cases h1 : 97 ≤ c <;> by_cases h2 : c ≤ 122 <;> by_cases h3 : 65 ≤ c <;> by_cases h4 : c ≤ 90 <;>
    simp [dcall, Qf, setAt, init, QM, QR, Q6, Ql.one, Ql.and, Enc.bool, Enc.int, Enc.str, Enc.strs, Enc.slice, Enc.agg, Enc.tup, Enc.err, Enc.fn, h1, h2, h3, h4] <;> refine hK _ _ (Dwp.ret ?_) rfl <;> simp [Q3, Qh, QW, frz, Q2, Q0, init, QM, QR, Q6, Ql.one, Ql.and, Enc.bool, Enc.int, Enc.str, Enc.strs, Enc.slice, Enc.agg, Enc.tup, Enc.err, Enc.fn, upd, letter, h1, h2, h3, h4]
theorem e180 : Go.FA.Good Tryz.prog (180, s180) := ⟨c180, Tryz.f180, _, Tryz.func180, rfl, by decide⟩
def QdE (c : Int) : Bool := decide (48 ≤ c) && decide (c ≤ 57)
def s181 : Sp := sp (QM (Enc.int .u8)) Enc.bool (fun c => some (QdE c))
theorem c181 : Qb Tryz.prog 181 s181 := by
  refine Qb.of_sp (T := Qf []) Tryz.func181 rfl (Nat.le_of_ble_eq_true rfl) fun E c y hy => ?_
  simp at hy; subst hy
  refine Dwp.step Q9 rfl fun K hK => ?_
  simp [dcall, Qf, setAt]
  refine hK _ _ ?_ rfl; clear hK K
  refine Dwp.step Q9 rfl fun K hK => ?_
  by_cases h1 : 48 ≤ c <;> by_cases h2 : c ≤ 57 <;>
    simp [dcall, Qf, setAt, init, QM, QR, Q6, Ql.one, Ql.and, Enc.bool, Enc.int, Enc.str, Enc.strs, Enc.slice, Enc.agg, Enc.tup, Enc.err, Enc.fn, h1, h2] <;> refine hK _ _ (Dwp.ret ?_) rfl <;> simp [Q3, Qh, QW, frz, Q2, Q0, init, QM, QR, Q6, Ql.one, Ql.and, Enc.bool, Enc.int, Enc.str, Enc.strs, Enc.slice, Enc.agg, Enc.tup, Enc.err, Enc.fn, upd, QdE, h1, h2]
theorem e181 : Go.FA.Good Tryz.prog (181, s181) := ⟨c181, Tryz.f181, _, Tryz.func181, rfl, by decide⟩
theorem call180 (T : Tab) (hT : T 180 = some s180) (c : Int) : dcall T 180 [.lit (.int .u8 c)] = some (.lit (.bool (letter c))) :=
  Qad (A := Enc.int .u8) (B := Enc.bool) hT rfl
theorem call181 (T : Tab) (hT : T 181 = some s181) (c : Int) : dcall T 181 [.lit (.int .u8 c)] = some (.lit (.bool (QdE c))) :=
  Qad (A := Enc.int .u8) (B := Enc.bool) hT rfl
def okAt (s : ByteArray) (j : Nat) : Prop := ∃ h : j < s.size, (letter (s[j].toNat : Int) || (decide (j ≠ 0) && (QdE (s[j].toNat : Int) || (s[j].toNat : Int) == 95))) = true
theorem Qfr (c : Int) : Qbo c = (letter c || (QdE c || c == 95)) := by unfold Qbo QdE; simp [Bool.or_assoc]
theorem Qc9 (s : ByteArray) : QU s = true ↔ 1 ≤ s.size ∧ s.size ≤ 40 ∧ ∀ j, j < s.size → okAt s j := by
  unfold QU Qgf
  have hsz : s.size = s.data.toList.length := by simp
  have hget : ∀ j (h : j < s.size), s.data.toList[j]'(by omega) = s[j] := fun j h => rfl
  simp only [Bool.and_eq_true, decide_eq_true_eq, List.all_eq_true]
  cases hl : s.data.toList with
  | nil =>
    rw [hl] at hsz
    simp only [List.length_nil] at hsz
    simp [hsz]
  | cons c r =>
    have hpos : 0 < s.size := by rw [hsz, hl]; simp
    have hc : s[0] = c := by rw [← hget 0 hpos]; simp [hl]
    constructor
    · rintro ⟨⟨h1, h2⟩, h3⟩
      refine ⟨hpos, h1, fun j hj => ⟨hj, ?_⟩⟩
      by_cases h0 : j = 0
      · subst h0
        have h2' : letter (c.toNat : Int) = true := h2
        rw [hc, h2']; simp
      · have hm : s[j] ∈ c :: r := by rw [← hl, ← hget j hj]; exact List.getElem_mem _
        have := h3 _ hm
        rw [Qfr] at this
        simpa [h0] using this
    · rintro ⟨h1, h2, h3⟩
      refine ⟨⟨h2, ?_⟩, fun b hb => ?_⟩
      · obtain ⟨h, h4⟩ := h3 0 hpos
        rw [hc] at h4; simpa using h4
      · obtain ⟨j, hj, rfl⟩ := List.getElem_of_mem (hl ▸ hb : b ∈ s.data.toList)
        have hj' : j < s.size := by omega
        obtain ⟨_, h4⟩ := h3 j hj'
        rw [Qfr, hget j hj']
        rw [Bool.or_eq_true] at h4 ⊢
        rcases h4 with q | q
        · exact .inl q
        · simp only [Bool.and_eq_true] at q; exact .inr q.2
def s107 : Sp := sp (QM Enc.str) Enc.bool (fun s => if s.size ≤ lim then some (QU s) else none)
abbrev T39 : Tab := Qf [(180, s180), (181, s181)]
theorem t39 : QH Tryz.prog T39 := .cons e180 (.cons e181 .nil)
theorem c107 : Qb Tryz.prog 107 s107 := by
  refine Qb.of_sp (T := T39) Tryz.func107 rfl (Nat.le_of_ble_eq_true rfl) fun E s y hy => ?_
  split at hy
  case isFalse => cases hy
  next hlim =>
  cases hy
  unfold lim at hlim
  have g83 := call180 T39 rfl
  have g84 := call181 T39 rfl
  have tT := t39
  generalize T39 = T at *
  refine Dwp.step tT rfl fun K hK => ?_
  simp [init, QM, Ql.one, Enc.str]
  refine hK _ _ ?_ rfl; clear hK K
  refine Dwp.seq ?_
  refine Dwp.step tT rfl fun K hK => ?_
  simp [init, ty9]
  refine hK _ _ ?_ rfl; clear hK K
  refine Dwp.range tT s.size (fun i a σ => a 0 = .lit (.string s) ∧ ∀ j, j < i → okAt s j) ⟨rfl, rfl, rfl⟩ ⟨rfl, rfl, rfl⟩ ⟨rfl, rfl, rfl⟩ (by decide) (by decide) (by omega) (by simp [upd]) (by simp [upd]) (by simp [upd, init]) ?_ ?_
  · rintro i a σ hi hidx hlen ⟨h0, hok⟩
    refine Dwp.step tT rfl fun K hK => ?_
    simp [hidx]
    refine hK _ _ ?_ rfl; clear hK K
    have hb := bget s i hi
    obtain ⟨c, hc⟩ : ∃ c : Int, c = (s[i].toNat : Int) := ⟨_, rfl⟩
    have hdef : okAt s i ↔ (letter c || (decide (i ≠ 0) && (QdE c || c == 95))) = true := by
      rw [hc]; exact ⟨fun ⟨_, q⟩ => q, fun q => ⟨hi, q⟩⟩
    refine Dwp.step tT rfl fun K hK => ?_
    have good : ∀ a' σ', (a' 30 = .lit (.bool false) ∧ a' 0 = .lit (.string s) ∧ a' 5 = .lit (.int .i64 s.size) ∧ a' 6 = .lit (.int .i64 i)) → okAt s i → σ'.n = σ.n + 1 + 2 → K a' σ' := by
      rintro a' σ' ⟨h30, h0, h5, h6⟩ ho hn
      refine hK _ _ ?_ hn
      refine Dwp.condF (by simp [eval, h30]) (Dwp.skip ?_)
      refine ⟨h6, h5, by simp [upd, h0], fun j hj => ?_⟩
      rcases Nat.lt_succ_iff_lt_or_eq.1 hj with q | rfl
      · exact hok j q
      · exact ho
    have bad : ∀ a' σ', a' 30 = .lit (.bool true) → ¬ okAt s i → σ'.n = σ.n + 1 + 2 → K a' σ' := by
      intro a' σ' h30 ho hn
      refine hK _ _ ?_ hn
      refine Dwp.condT (by simp [eval, h30]) ?_
      refine Dwp.step tT rfl fun K hK => ?_
      simp
      refine hK _ _ (Dwp.ret ?_) rfl
      have hf : QU s = false := by
        cases q : QU s with
        | false => rfl
        | true => exact absurd (((Qc9 s).1 q).2.2 i hi) ho
      simp [Q3, Qh, QW, frz, Q2, Q0, Qjs, Ex.then, upd, Enc.bool, hf]
    rw [hc] at hdef
    clear hc
    by_cases q1 : letter (s[i].toNat : Int) = true
    · simp [h0, hidx, ty9, hb, g83, q1]
      exact good _ _ (by simp [upd, h0, hidx, hlen]) (hdef.2 (by simp [q1])) rfl
    · have q1' : letter (s[i].toNat : Int) = false := by simpa using q1
      by_cases q2 : i = 0
      · subst q2
        simp [h0, hidx, ty9, hb, g83, q1']
        exact bad _ _ (by simp [upd]) (fun q => by have := hdef.1 q; simp [q1'] at this) rfl
      · have q2' : ((i : Int) == 0) = false := by simp; omega
        by_cases q3 : QdE (s[i].toNat : Int) = true
        · simp [h0, hidx, ty9, hb, g83, g84, q1', q2', q3]
          exact good _ _ (by simp [upd, h0, hidx, hlen]) (hdef.2 (by simp [q3, q2])) rfl
        · have q3' : QdE (s[i].toNat : Int) = false := by simpa using q3
          by_cases q4 : (s[i].toNat : Int) = 95
          · have q4' : ((s[i].toNat : Int) != 95) = false := by simpa using q4
            simp [h0, hidx, ty9, hb, g83, g84, q1', q2', q3', q4']
            exact good _ _ (by simp [upd, h0, hidx, hlen]) (hdef.2 (by simp [q2, q4])) rfl
          · have q4' : ((s[i].toNat : Int) != 95) = true := by simpa using q4
            simp [h0, hidx, ty9, hb, g83, g84, q1', q2', q3', q4']
            exact bad _ _ (by simp [upd]) (fun q => by have := hdef.1 q; simp [q1', q3', q4] at this) rfl
  · rintro a σ hidx hlen ⟨h0, hok⟩
    have hi := Qc9 s
    refine Dwp.step tT rfl fun K hK => ?_
    by_cases q1 : 1 ≤ s.size
    · by_cases q2 : s.size ≤ 40
      · have : QU s = true := hi.2 ⟨q1, q2, hok⟩
        have q1' : (1 : Int) ≤ (s.size : Int) := by omega
        have q2' : (s.size : Int) ≤ 40 := by omega
        simp [h0, ty9, q1', q2']
        refine hK _ _ (Dwp.ret ?_) rfl
        simp [Q3, Qh, QW, frz, Q2, Q0, Ex.then, upd, Enc.bool, this]
      · have : QU s = false := by
          cases q : QU s with
          | false => rfl
          | true => exact absurd (hi.1 q).2.1 q2
        have q1' : (1 : Int) ≤ (s.size : Int) := by omega
        have q2' : ¬ (s.size : Int) ≤ 40 := by omega
        simp [h0, ty9, q1', q2']
        refine hK _ _ (Dwp.ret ?_) rfl
        simp [Q3, Qh, QW, frz, Q2, Q0, Ex.then, upd, Enc.bool, this]
    · have : QU s = false := by
        cases q : QU s with
        | false => rfl
        | true => exact absurd (hi.1 q).1 q1
      have q1' : ¬ (1 : Int) ≤ (s.size : Int) := by omega
      simp [h0, ty9, q1']
      refine hK _ _ (Dwp.ret ?_) rfl
      simp [Q3, Qh, QW, frz, Q2, Q0, Ex.then, upd, Enc.bool, this]
theorem e107 : Go.FA.Good Tryz.prog (107, s107) := ⟨c107, Tryz.f107, _, Tryz.func107, rfl, by decide⟩
theorem Qe3 (T : Tab) (hT : T 107 = some s107) (s : ByteArray) (h : s.size ≤ lim) : dcall T 107 [.lit (.string s)] = some (.lit (.bool (QU s))) :=
  Qad (A := Enc.str) (B := Enc.bool) hT (if_pos h)
end
end Go.Proofs.Yt
namespace Go.Proofs.Yt
open Go Go.FA Go.Proofs Go.RowKit
set_option maxRecDepth 100000
section
attribute [local simp] QF QZ Qo QJ own Qm dop QN eval Qr Qn Ex.then Ex.inBlock upd QV Tag.isNN Qp intCmp Qv Qx TyI.agg Qa Qu Qg Qs QX QA QD mapOf QQ QC Qq Qi Qj QI DV.cells Qt Qk QE QK rowsOf QL Qd Qe Qe.go Qz QB Qc goInt
def Qb2 (so : ByteArray) : List Tm → Bool
  | [] => true
  | [v] => decide (v.kind = 6) && (QU v.text && (decide (v.sort = so) && Qb6 (false, true, true, false, false) v))
  | _ => false
open Classical in
noncomputable def s236 : Sp := sp (QR Enc.tm Enc.str) Enc.bool (fun x => if okT x.1 then some (Qb2 x.2 x.1.rest) else none)
set_option maxHeartbeats 4000000 in
theorem c236 : Qb Tryz.prog 236 s236 := by
  refine Qb.of_sp (T := Qf [(107, s107), (232, s232)]) Tryz.func236 rfl (Nat.le_of_ble_eq_true rfl) fun E xx y hy => ?_
  obtain ⟨⟨k, nn, x, s, ks, r⟩, so⟩ := xx
  simp only [] at hy
  split at hy
  case isFalse => cases hy
  next hok =>
  cases hy
  have tT : QH Tryz.prog (Qf [(107, s107), (232, s232)]) := .cons e107 (.cons e232 .nil)
  have g1 := fun (b : ByteArray) (h : b.size ≤ lim) => Qe3 (Qf [(107, s107), (232, s232)]) rfl b h
  have g2 := fun (t : Tm) => QkA (Qf [(107, s107), (232, s232)]) rfl t (false, true, true, false, false) rfl
  generalize Qf [(107, s107), (232, s232)] = T at *
  rw [okT] at hok
  obtain ⟨_, _, _, _, _, okr⟩ := hok
  simp only [Tm.rest]
  have fin : ∀ (b : Bool) (a : Nat → DV) (σ : St), a 4 = .lit (.bool b) → Qb2 so r = b → Q3 Tryz.prog Tryz.f236.results Enc.bool (Qb2 so r) Ex.ret a σ := by
    intro b a σ h2 hb
    refine ⟨.inr rfl, .lit (.bool b), ?_, by simp [hb, Q3, Qh, QW, frz, Q2, Q0, Enc.bool]⟩
    show Qh Tryz.prog σ a [ResultVar.tmp 4] = _
    simp [Qh, QW, h2]
  simp only [QR, Ql.and, Ql.one, tmC, QG]
  refine Dwp.step tT rfl fun K hK => ?_
  simp [init, QG, Enc.str]
  refine hK _ _ ?_ rfl; clear hK K
  refine Dwp.seq ?_
  refine Dwp.step tT rfl fun K hK => ?_
  cases r with
  | nil =>
    simp [init, Qak, Q5, ty3]
    refine hK _ _ ?_ rfl; clear hK K
    refine Dwp.condT (by simp [eval, upd]) ?_
    refine Dwp.step tT rfl fun K hK => ?_
    simp
    refine hK _ _ (Dwp.ret ?_) rfl
    refine fin true _ _ ?_ ?_
    · simp [upd]
    · simp [Qb2]
  | cons v rs =>
  rw [QfS] at okr
  have hne : ((((v :: rs).length : Nat) : Int) == 0) = false := len_nil (by simp)
  have hne2 : (((rs.length : Int) + 1) == 0) = false := by simp; omega
  have hne3 : ¬ ((rs.length : Int) + 1 = 0) := by omega
  simp [init, Qak, Q5, ty3, hne, hne2, hne3]
  refine hK _ _ ?_ rfl; clear hK K
  refine Dwp.condF (by simp [eval, upd]) (Dwp.skip ?_)
  obtain ⟨vk, vn, vx, vs, vks, vr⟩ := v
  have okv := okr.1
  rw [okT] at okv
  have g1 := g1 vx okv.1
  have g2 := g2 (.mk vk vn vx vs vks vr)
  simp only [QG] at g2
  refine Dwp.step tT rfl fun K hK => ?_
  simp [init, Qak, Q5, ty3, setT, QG, setAt]
  refine hK _ _ ?_ rfl; clear hK K
  refine Dwp.step tT rfl fun K hK => ?_
  repeat ((first | refine Qn.stepD rfl rfl ?_ | refine Qn.stepG rfl rfl rfl ?_ | refine Qn.stepN rfl rfl ?_ | refine Qn.stepGN rfl rfl rfl ?_); intro K1 hK1; simp [QO, Qw, QJ, dop, eval, Qr, upd, Qa, Qu, Qv, Qx, TyI.agg, Qg, Qs, Qi, Qj, QA, QX, goInt, QV, intCmp, Qp, Tag.isNN, Qc, DV.cells, Qd, Qt, Qk, init, QaB, ty3, ty9, Qak, Q5, QG]; refine hK1 _ _ ?_; clear hK1 K1)
  by_cases h1 : rs = []
  case neg =>
    have h1n : (((rs.length : Int) + 1) == 1) = false := by cases rs <;> simp_all; omega
    repeat ((first | refine Qn.stepD rfl rfl ?_ | refine Qn.stepG rfl rfl rfl ?_ | refine Qn.stepN rfl rfl ?_ | refine Qn.stepGN rfl rfl rfl ?_); intro K1 hK1; simp [QO, Qw, QJ, dop, eval, Qr, upd, Qa, Qu, Qv, Qx, TyI.agg, Qg, Qs, Qi, Qj, QA, QX, goInt, QV, intCmp, Qp, Tag.isNN, Qc, DV.cells, Qd, Qt, Qk, init, QaB, ty3, ty9, Qak, Q5, QG, h1n]; refine hK1 _ _ ?_; clear hK1 K1)
    refine Qn.done (hK _ _ (Dwp.ret ?_) rfl)
    refine fin false _ _ ?_ ?_
    · simp [upd, h1n]
    · cases rs <;> simp_all [Qb2]
  subst h1
  repeat ((first | refine Qn.stepD rfl rfl ?_ | refine Qn.stepG rfl rfl rfl ?_ | refine Qn.stepN rfl rfl ?_ | refine Qn.stepGN rfl rfl rfl ?_); intro K1 hK1; simp [QO, Qw, QJ, dop, eval, Qr, upd, Qa, Qu, Qv, Qx, TyI.agg, Qg, Qs, Qi, Qj, QA, QX, goInt, QV, intCmp, Qp, Tag.isNN, Qc, DV.cells, Qd, Qt, Qk, init, QaB, ty3, ty9, Qak, Q5, QG]; refine hK1 _ _ ?_; clear hK1 K1)
  by_cases h2 : vk = 6
  case neg =>
    have h2n : (vk == 6) = false := by simpa using h2
    repeat ((first | refine Qn.stepD rfl rfl ?_ | refine Qn.stepG rfl rfl rfl ?_ | refine Qn.stepN rfl rfl ?_ | refine Qn.stepGN rfl rfl rfl ?_); intro K1 hK1; simp [QO, Qw, QJ, dop, eval, Qr, upd, Qa, Qu, Qv, Qx, TyI.agg, Qg, Qs, Qi, Qj, QA, QX, goInt, QV, intCmp, Qp, Tag.isNN, Qc, DV.cells, Qd, Qt, Qk, init, QaB, ty3, ty9, Qak, Q5, QG, h2n]; refine hK1 _ _ ?_; clear hK1 K1)
    refine Qn.done (hK _ _ (Dwp.ret ?_) rfl)
    refine fin false _ _ ?_ ?_
    · simp [upd, h2n]
    · simp [Qb2, Tm.kind, h2]
  subst h2
  repeat ((first | refine Qn.stepD rfl rfl ?_ | refine Qn.stepG rfl rfl rfl ?_ | refine Qn.stepN rfl rfl ?_ | refine Qn.stepGN rfl rfl rfl ?_); intro K1 hK1; simp [QO, Qw, QJ, dop, eval, Qr, upd, Qa, Qu, Qv, Qx, TyI.agg, Qg, Qs, Qi, Qj, QA, QX, goInt, QV, intCmp, Qp, Tag.isNN, Qc, DV.cells, Qd, Qt, Qk, init, QaB, ty3, ty9, Qak, Q5, QG, Qm, g1]; refine hK1 _ _ ?_; clear hK1 K1)
  by_cases h3 : QU vx = true
  case neg =>
    have h3n : QU vx = false := by simpa using h3
    rw [h3n] at g1
    repeat ((first | refine Qn.stepD rfl rfl ?_ | refine Qn.stepG rfl rfl rfl ?_ | refine Qn.stepN rfl rfl ?_ | refine Qn.stepGN rfl rfl rfl ?_); intro K1 hK1; simp [QO, Qw, QJ, dop, eval, Qr, upd, Qa, Qu, Qv, Qx, TyI.agg, Qg, Qs, Qi, Qj, QA, QX, goInt, QV, intCmp, Qp, Tag.isNN, Qc, DV.cells, Qd, Qt, Qk, init, QaB, ty3, ty9, Qak, Q5, QG, Qm, g1, h3n]; refine hK1 _ _ ?_; clear hK1 K1)
    refine Qn.done (hK _ _ (Dwp.ret ?_) rfl)
    refine fin false _ _ ?_ ?_
    · simp [upd, h3n]
    · simp [Qb2, Tm.kind, Tm.text, h3n]
  repeat ((first | refine Qn.stepD rfl rfl ?_ | refine Qn.stepG rfl rfl rfl ?_ | refine Qn.stepN rfl rfl ?_ | refine Qn.stepGN rfl rfl rfl ?_); intro K1 hK1; simp [QO, Qw, QJ, dop, eval, Qr, upd, Qa, Qu, Qv, Qx, TyI.agg, Qg, Qs, Qi, Qj, QA, QX, goInt, QV, intCmp, Qp, Tag.isNN, Qc, DV.cells, Qd, Qt, Qk, init, QaB, ty3, ty9, Qak, Q5, QG, Qm, g1, h3]; refine hK1 _ _ ?_; clear hK1 K1)
  by_cases h4 : vs = so
  case neg =>
    repeat ((first | refine Qn.stepD rfl rfl ?_ | refine Qn.stepG rfl rfl rfl ?_ | refine Qn.stepN rfl rfl ?_ | refine Qn.stepGN rfl rfl rfl ?_); intro K1 hK1; simp [QO, Qw, QJ, dop, eval, Qr, upd, Qa, Qu, Qv, Qx, TyI.agg, Qg, Qs, Qi, Qj, QA, QX, goInt, QV, intCmp, Qp, Tag.isNN, Qc, DV.cells, Qd, Qt, Qk, init, QaB, ty3, ty9, Qak, Q5, QG, Qm, g1, h3, h4]; refine hK1 _ _ ?_; clear hK1 K1)
    refine Qn.done (hK _ _ (Dwp.ret ?_) rfl)
    refine fin false _ _ ?_ ?_
    · simp [upd, h4]
    · simp [Qb2, Tm.kind, Tm.text, Tm.sort, h3, h4]
  subst h4
  repeat ((first | refine Qn.stepD rfl rfl ?_ | refine Qn.stepG rfl rfl rfl ?_ | refine Qn.stepN rfl rfl ?_ | refine Qn.stepGN rfl rfl rfl ?_); intro K1 hK1; simp [QO, Qw, QJ, dop, eval, Qr, upd, Qa, Qu, Qv, Qx, TyI.agg, Qg, Qs, Qi, Qj, QA, QX, goInt, QV, intCmp, Qp, Tag.isNN, Qc, DV.cells, Qd, Qt, Qk, init, QaB, ty3, ty9, Qak, Q5, QG, Qm, g1, h3, g2]; refine hK1 _ _ ?_; clear hK1 K1)
  refine Qn.done (hK _ _ (Dwp.ret ?_) rfl)
  refine fin (Qb6 (false, true, true, false, false) (.mk 6 vn vx vs vks vr)) _ _ ?_ ?_
  · simp [upd]
  · simp [Qb2, Tm.kind, Tm.text, Tm.sort, h3]
theorem e236 : Go.FA.Good Tryz.prog (236, s236) := ⟨c236, Tryz.f236, _, Tryz.func236, rfl, by decide⟩
end
def Qgs (s : ByteArray) : Int := if h : 0 < s.size then (s[0].toNat : Int) else 0
def idB (s : ByteArray) : Bool := QU s && (decide (97 ≤ Qgs s) && (decide (Qgs s ≤ 122) && (!decide (s = ⟨#[116, 114, 117, 101]⟩) && !decide (s = ⟨#[102, 97, 108, 115, 101]⟩))))
def s234 : Sp := sp (QM Enc.str) Enc.bool (fun s => if s.size ≤ lim then some (idB s) else none)
theorem Qgk {s : ByteArray} (h : QU s = true) : 0 < s.size := ((Qc9 s).1 h).1
set_option maxHeartbeats 2000000 in
theorem c234 : Qb Tryz.prog 234 s234 := by
  refine Qb.of_sp (T := Qf [(107, s107)]) Tryz.func234 rfl (Nat.le_of_ble_eq_true rfl) fun E s y hy => ?_
  split at hy
  case isFalse => cases hy
  next hlim =>
  cases hy
  have tT : QH Tryz.prog (Qf [(107, s107)]) := .cons e107 .nil
  have g := Qe3 (Qf [(107, s107)]) rfl s hlim
  generalize Qf [(107, s107)] = T at *
  unfold lim at hlim
  have fin : ∀ (b : Bool) (a : Nat → DV) (σ : St), a 2 = .lit (.bool b) → idB s = b → Q3 Tryz.prog Tryz.f234.results Enc.bool (idB s) Ex.ret a σ := by
    intro b a σ h2 hb
    refine ⟨.inr rfl, .lit (.bool b), ?_, by simp [hb, Q3, Qh, QW, frz, Q2, Q0, Enc.bool]⟩
    show Qh Tryz.prog σ a [ResultVar.tmp 2] = _
    simp [Qh, QW, h2]
  refine Dwp.step tT rfl fun K hK => ?_
  simp [QF, QZ, Qo, QJ, own, Qm, dop, QN, eval, Qr, Qn, Ex.then, Ex.inBlock, upd, QV, Tag.isNN, Qp, intCmp, Qv, Qx, TyI.agg, Qa, Qu, Qg, Qs, QX, QA, QD, mapOf, QQ, QC, Qq, Qi, Qj, QI, DV.cells, Qt, Qk, QE, QK, rowsOf, QL, Qd, Qe, Qe.go, Qz, QB, Qc, goInt, init, QM, Ql.one, Enc.str]
  refine hK _ _ ?_ rfl; clear hK K
  refine Dwp.step tT rfl fun K hK => ?_
  by_cases h1 : QU s = true
  case neg =>
    have h1n : QU s = false := by simpa using h1
    rw [h1n] at g
    repeat ((first | refine Qn.stepD rfl rfl ?_ | refine Qn.stepG rfl rfl rfl ?_ | refine Qn.stepN rfl rfl ?_ | refine Qn.stepGN rfl rfl rfl ?_); intro K1 hK1; simp [QO, Qw, QJ, dop, eval, Qr, upd, Qa, Qu, Qv, Qx, TyI.agg, Qg, Qs, Qi, Qj, QA, QX, goInt, QV, intCmp, Qp, Tag.isNN, Qc, DV.cells, Qd, Qt, Qk, init, ty9, Qm, g]; refine hK1 _ _ ?_; clear hK1 K1)
    refine Qn.done (hK _ _ (Dwp.ret ?_) rfl)
    refine fin false _ _ ?_ ?_
    · simp [upd]
    · simp [idB, h1n]
  have hpos := Qgk h1
  have hb := bget s 0 hpos
  have hf : Qgs s = (s[0].toNat : Int) := by simp [Qgs, hpos]
  obtain ⟨c, hc⟩ : ∃ c : Int, c = (s[0].toNat : Int) := ⟨_, rfl⟩
  rw [← hc] at hf
  rw [h1] at g
  repeat ((first | refine Qn.stepD rfl rfl ?_ | refine Qn.stepG rfl rfl rfl ?_ | refine Qn.stepN rfl rfl ?_ | refine Qn.stepGN rfl rfl rfl ?_); intro K1 hK1; simp [QO, Qw, QJ, dop, eval, Qr, upd, Qa, Qu, Qv, Qx, TyI.agg, Qg, Qs, Qi, Qj, QA, QX, goInt, QV, intCmp, Qp, Tag.isNN, Qc, DV.cells, Qd, Qt, Qk, init, ty9, Qm, g, hpos, hb, ← hc]; refine hK1 _ _ ?_; clear hK1 K1)
  by_cases h2 : 97 ≤ c
  case neg =>
    repeat ((first | refine Qn.stepD rfl rfl ?_ | refine Qn.stepG rfl rfl rfl ?_ | refine Qn.stepN rfl rfl ?_ | refine Qn.stepGN rfl rfl rfl ?_); intro K1 hK1; simp [QO, Qw, QJ, dop, eval, Qr, upd, Qa, Qu, Qv, Qx, TyI.agg, Qg, Qs, Qi, Qj, QA, QX, goInt, QV, intCmp, Qp, Tag.isNN, Qc, DV.cells, Qd, Qt, Qk, init, ty9, Qm, g, hpos, hb, ← hc, h2]; refine hK1 _ _ ?_; clear hK1 K1)
    refine Qn.done (hK _ _ (Dwp.ret ?_) rfl)
    refine fin false _ _ ?_ ?_
    · simp [upd, h2]
    · simp [idB, h1, hf, h2]
  repeat ((first | refine Qn.stepD rfl rfl ?_ | refine Qn.stepG rfl rfl rfl ?_ | refine Qn.stepN rfl rfl ?_ | refine Qn.stepGN rfl rfl rfl ?_); intro K1 hK1; simp [QO, Qw, QJ, dop, eval, Qr, upd, Qa, Qu, Qv, Qx, TyI.agg, Qg, Qs, Qi, Qj, QA, QX, goInt, QV, intCmp, Qp, Tag.isNN, Qc, DV.cells, Qd, Qt, Qk, init, ty9, Qm, g, hpos, hb, ← hc, h2]; refine hK1 _ _ ?_; clear hK1 K1)
  by_cases h3 : c ≤ 122
  case neg =>
    repeat ((first | refine Qn.stepD rfl rfl ?_ | refine Qn.stepG rfl rfl rfl ?_ | refine Qn.stepN rfl rfl ?_ | refine Qn.stepGN rfl rfl rfl ?_); intro K1 hK1; simp [QO, Qw, QJ, dop, eval, Qr, upd, Qa, Qu, Qv, Qx, TyI.agg, Qg, Qs, Qi, Qj, QA, QX, goInt, QV, intCmp, Qp, Tag.isNN, Qc, DV.cells, Qd, Qt, Qk, init, ty9, Qm, g, hpos, hb, ← hc, h2, h3]; refine hK1 _ _ ?_; clear hK1 K1)
    refine Qn.done (hK _ _ (Dwp.ret ?_) rfl)
    refine fin false _ _ ?_ ?_
    · simp [upd, h3]
    · simp [idB, h1, hf, h2, h3]
  repeat ((first | refine Qn.stepD rfl rfl ?_ | refine Qn.stepG rfl rfl rfl ?_ | refine Qn.stepN rfl rfl ?_ | refine Qn.stepGN rfl rfl rfl ?_); intro K1 hK1; simp [QO, Qw, QJ, dop, eval, Qr, upd, Qa, Qu, Qv, Qx, TyI.agg, Qg, Qs, Qi, Qj, QA, QX, goInt, QV, intCmp, Qp, Tag.isNN, Qc, DV.cells, Qd, Qt, Qk, init, ty9, Qm, g, hpos, hb, ← hc, h2, h3]; refine hK1 _ _ ?_; clear hK1 K1)
  by_cases h4 : s = ⟨#[116, 114, 117, 101]⟩
  case pos =>
    have h4d : decide (s = ⟨#[116, 114, 117, 101]⟩) = true := by simpa using h4
    repeat ((first | refine Qn.stepD rfl rfl ?_ | refine Qn.stepG rfl rfl rfl ?_ | refine Qn.stepN rfl rfl ?_ | refine Qn.stepGN rfl rfl rfl ?_); intro K1 hK1; simp [QO, Qw, QJ, dop, eval, Qr, upd, Qa, Qu, Qv, Qx, TyI.agg, Qg, Qs, Qi, Qj, QA, QX, goInt, QV, intCmp, Qp, Tag.isNN, Qc, DV.cells, Qd, Qt, Qk, init, ty9, Qm, h4d]; refine hK1 _ _ ?_; clear hK1 K1)
    refine Qn.done (hK _ _ (Dwp.ret ?_) rfl)
    refine fin false _ _ ?_ ?_
    · simp [upd, h4d]
    · simp [idB, h4d]
  have h4d : decide (s = ⟨#[116, 114, 117, 101]⟩) = false := by simpa using h4
  repeat ((first | refine Qn.stepD rfl rfl ?_ | refine Qn.stepG rfl rfl rfl ?_ | refine Qn.stepN rfl rfl ?_ | refine Qn.stepGN rfl rfl rfl ?_); intro K1 hK1; simp [QO, Qw, QJ, dop, eval, Qr, upd, Qa, Qu, Qv, Qx, TyI.agg, Qg, Qs, Qi, Qj, QA, QX, goInt, QV, intCmp, Qp, Tag.isNN, Qc, DV.cells, Qd, Qt, Qk, init, ty9, Qm, h4d, h4]; refine hK1 _ _ ?_; clear hK1 K1)
  refine Qn.done (hK _ _ (Dwp.ret ?_) rfl)
  refine fin (!decide (s = ⟨#[102, 97, 108, 115, 101]⟩)) _ _ ?_ ?_
  · simp [upd, h4d, h4]
  · simp [idB, h4d, h4, h1, hf, h2, h3]
theorem e234 : Go.FA.Good Tryz.prog (234, s234) := ⟨c234, Tryz.f234, _, Tryz.func234, rfl, by decide⟩
theorem call234 (T : Tab) (hT : T 234 = some s234) (s : ByteArray) (h : s.size ≤ lim) : dcall T 234 [.lit (.string s)] = some (.lit (.bool (idB s))) :=
  Qad (A := Enc.str) (B := Enc.bool) hT (if_pos h)
section
attribute [local simp] QF QZ Qo QJ own Qm dop QN eval Qr Qn Ex.then Ex.inBlock upd QV Tag.isNN Qp intCmp Qv Qx TyI.agg Qa Qu Qg Qs QX QA QD mapOf QQ QC Qq Qi Qj QI DV.cells Qt Qk QE QK rowsOf QL Qd Qe Qe.go Qz QB Qc goInt
theorem list_getY {s : ByteArray} {j : Nat} (h : j < s.size) : s.data.toList[j]'(by simpa using h) = s[j] := rfl
theorem QdZ (p : Int → Bool) (s : ByteArray) : Qgf p s = true ↔ ∀ j, (h : j < s.size) → p (s[j].toNat : Int) = true := by
  unfold Qgf
  rw [List.all_eq_true]
  constructor
  · intro h j hj
    exact h _ (by rw [← list_getY hj]; exact List.getElem_mem _)
  · intro h b hb
    obtain ⟨j, hj, rfl⟩ := List.getElem_of_mem hb
    have hj' : j < s.size := by simpa using hj
    exact h j hj'
def QaG (c : Int) : Bool := !(decide (c < 32) || (decide (126 < c) || (c == 34 || c == 92)))
def QkE (s : ByteArray) (j : Nat) : Prop := ∃ h : j < s.size, QaG (s[j].toNat : Int) = true
def QcA (s : ByteArray) : Bool := Qgf QaG s && decide (s.size ≤ 200)
def s233 : Sp := sp (QM Enc.str) Enc.bool (fun s => if s.size ≤ lim then some (QcA s) else none)
set_option maxHeartbeats 2000000 in
theorem c233 : Qb Tryz.prog 233 s233 := by
  refine Qb.of_sp (T := Qf []) Tryz.func233 rfl (Nat.le_of_ble_eq_true rfl) fun E s y hy => ?_
  split at hy
  case isFalse => cases hy
  next hlim =>
  cases hy
  unfold lim at hlim
  have tT := Q9 (P := Tryz.prog)
  generalize Qf [] = T at *
  refine Dwp.step tT rfl fun K hK => ?_
  simp [init, QM, Ql.one, Enc.str]
  refine hK _ _ ?_ rfl; clear hK K
  refine Dwp.seq ?_
  refine Dwp.step tT rfl fun K hK => ?_
  simp [init, ty9]
  refine hK _ _ ?_ rfl; clear hK K
  refine Dwp.range tT s.size (fun i a σ => a 0 = .lit (.string s) ∧ ∀ j, j < i → QkE s j) ⟨rfl, rfl, rfl⟩ ⟨rfl, rfl, rfl⟩ ⟨rfl, rfl, rfl⟩ (by decide) (by decide) (by omega) (by simp [upd]) (by simp [upd]) (by simp [upd, init]) ?_ ?_
  · rintro i a σ hi hidx hlen ⟨h0, hok⟩
    refine Dwp.step tT rfl fun K hK => ?_
    simp [hidx]
    refine hK _ _ ?_ rfl; clear hK K
    have hb := bget s i hi
    obtain ⟨c, hc⟩ : ∃ c : Int, c = (s[i].toNat : Int) := ⟨_, rfl⟩
    have hdef : QkE s i ↔ QaG c = true := by
      rw [hc]; exact ⟨fun ⟨_, q⟩ => q, fun q => ⟨hi, q⟩⟩
    refine Dwp.step tT rfl fun K hK => ?_
    have good : ∀ a' σ', (a' 30 = .lit (.bool false) ∧ a' 0 = .lit (.string s) ∧ a' 5 = .lit (.int .i64 s.size) ∧ a' 6 = .lit (.int .i64 i)) → QaG c = true → σ'.n = σ.n + 1 + 2 → K a' σ' := by
      rintro a' σ' ⟨h30, h0, h5, h6⟩ ho hn
      refine hK _ _ ?_ hn
      refine Dwp.condF (by simp [eval, h30]) (Dwp.skip ?_)
      refine ⟨h6, h5, by simp [upd, h0], fun j hj => ?_⟩
      rcases Nat.lt_succ_iff_lt_or_eq.1 hj with q | rfl
      · exact hok j q
      · exact hdef.2 ho
    have bad : ∀ a' σ', a' 30 = .lit (.bool true) → QaG c = false → σ'.n = σ.n + 1 + 2 → K a' σ' := by
      intro a' σ' h30 ho hn
      refine hK _ _ ?_ hn
      refine Dwp.condT (by simp [eval, h30]) ?_
      refine Dwp.step tT rfl fun K hK => ?_
      simp
      refine hK _ _ (Dwp.ret ?_) rfl
      have hf : Qgf QaG s = false := by
        cases q : Qgf QaG s with
        | false => rfl
        | true => have := (QdZ QaG s).1 q i hi; rw [← hc, ho] at this; cases this
      simp [Q3, Qh, QW, frz, Q2, Q0, Qjs, Ex.then, upd, Enc.bool, QcA, hf]
    repeat ((first | refine Qn.stepD rfl rfl ?_ | refine Qn.stepG rfl rfl rfl ?_ | refine Qn.stepN rfl rfl ?_ | refine Qn.stepGN rfl rfl rfl ?_); intro K1 hK1; simp [QO, Qw, QJ, dop, eval, Qr, upd, Qa, Qu, Qv, Qx, TyI.agg, Qg, Qs, Qi, Qj, QA, QX, goInt, QV, intCmp, Qp, Tag.isNN, Qc, DV.cells, Qd, Qt, Qk, h0, hidx, ty9, hi, hb, ← hc]; refine hK1 _ _ ?_; clear hK1 K1)
    by_cases q1 : c < 32
    case pos =>
      repeat ((first | refine Qn.stepD rfl rfl ?_ | refine Qn.stepG rfl rfl rfl ?_ | refine Qn.stepN rfl rfl ?_ | refine Qn.stepGN rfl rfl rfl ?_); intro K1 hK1; simp [QO, Qw, QJ, dop, eval, Qr, upd, Qa, Qu, Qv, Qx, TyI.agg, Qg, Qs, Qi, Qj, QA, QX, goInt, QV, intCmp, Qp, Tag.isNN, Qc, DV.cells, Qd, Qt, Qk, h0, hidx, ty9, hi, hb, ← hc, q1]; refine hK1 _ _ ?_; clear hK1 K1)
      exact Qn.done (bad _ _ (by simp [upd, q1]) (by simp [QaG, q1]) rfl)
    repeat ((first | refine Qn.stepD rfl rfl ?_ | refine Qn.stepG rfl rfl rfl ?_ | refine Qn.stepN rfl rfl ?_ | refine Qn.stepGN rfl rfl rfl ?_); intro K1 hK1; simp [QO, Qw, QJ, dop, eval, Qr, upd, Qa, Qu, Qv, Qx, TyI.agg, Qg, Qs, Qi, Qj, QA, QX, goInt, QV, intCmp, Qp, Tag.isNN, Qc, DV.cells, Qd, Qt, Qk, h0, hidx, ty9, hi, hb, ← hc, q1]; refine hK1 _ _ ?_; clear hK1 K1)
    by_cases q2 : 126 < c
    case pos =>
      repeat ((first | refine Qn.stepD rfl rfl ?_ | refine Qn.stepG rfl rfl rfl ?_ | refine Qn.stepN rfl rfl ?_ | refine Qn.stepGN rfl rfl rfl ?_); intro K1 hK1; simp [QO, Qw, QJ, dop, eval, Qr, upd, Qa, Qu, Qv, Qx, TyI.agg, Qg, Qs, Qi, Qj, QA, QX, goInt, QV, intCmp, Qp, Tag.isNN, Qc, DV.cells, Qd, Qt, Qk, h0, hidx, ty9, hi, hb, ← hc, q1, q2]; refine hK1 _ _ ?_; clear hK1 K1)
      exact Qn.done (bad _ _ (by simp [upd, q2]) (by simp [QaG, q2]) rfl)
    repeat ((first | refine Qn.stepD rfl rfl ?_ | refine Qn.stepG rfl rfl rfl ?_ | refine Qn.stepN rfl rfl ?_ | refine Qn.stepGN rfl rfl rfl ?_); intro K1 hK1; simp [QO, Qw, QJ, dop, eval, Qr, upd, Qa, Qu, Qv, Qx, TyI.agg, Qg, Qs, Qi, Qj, QA, QX, goInt, QV, intCmp, Qp, Tag.isNN, Qc, DV.cells, Qd, Qt, Qk, h0, hidx, ty9, hi, hb, ← hc, q1, q2]; refine hK1 _ _ ?_; clear hK1 K1)
    by_cases q3 : c = 34
    case pos =>
      have q3t : (c == 34) = true := by simpa using q3
      repeat ((first | refine Qn.stepD rfl rfl ?_ | refine Qn.stepG rfl rfl rfl ?_ | refine Qn.stepN rfl rfl ?_ | refine Qn.stepGN rfl rfl rfl ?_); intro K1 hK1; simp [QO, Qw, QJ, dop, eval, Qr, upd, Qa, Qu, Qv, Qx, TyI.agg, Qg, Qs, Qi, Qj, QA, QX, goInt, QV, intCmp, Qp, Tag.isNN, Qc, DV.cells, Qd, Qt, Qk, h0, hidx, ty9, hi, hb, ← hc, q3t]; refine hK1 _ _ ?_; clear hK1 K1)
      exact Qn.done (bad _ _ (by simp [upd, q3t]) (by simp [QaG, q3]) rfl)
    have q3f : (c == 34) = false := by simpa using q3
    repeat ((first | refine Qn.stepD rfl rfl ?_ | refine Qn.stepG rfl rfl rfl ?_ | refine Qn.stepN rfl rfl ?_ | refine Qn.stepGN rfl rfl rfl ?_); intro K1 hK1; simp [QO, Qw, QJ, dop, eval, Qr, upd, Qa, Qu, Qv, Qx, TyI.agg, Qg, Qs, Qi, Qj, QA, QX, goInt, QV, intCmp, Qp, Tag.isNN, Qc, DV.cells, Qd, Qt, Qk, h0, hidx, ty9, hi, hb, ← hc, q3f]; refine hK1 _ _ ?_; clear hK1 K1)
    by_cases q4 : c = 92
    case pos =>
      have q4t : (c == 92) = true := by simpa using q4
      exact Qn.done (bad _ _ (by simp [upd, q4t]) (by simp [QaG, q4]) rfl)
    have q4f : (c == 92) = false := by simpa using q4
    exact Qn.done (good _ _ (by simp [upd, q4f, h0, hidx, hlen]) (by simp [QaG, q1, q2, q3, q4] <;> omega) rfl)
  · rintro a σ hidx hlen ⟨h0, hok⟩
    have hall : Qgf QaG s = true := (QdZ QaG s).2 fun j h => (hok j h).2
    refine Dwp.step tT rfl fun K hK => ?_
    simp [h0, ty9, ty3]
    refine hK _ _ (Dwp.ret ?_) rfl
    simp [Q3, Qh, QW, frz, Q2, Q0, Ex.then, upd, Enc.bool, QcA, hall]
    try omega
theorem e233 : Go.FA.Good Tryz.prog (233, s233) := ⟨c233, Tryz.f233, _, Tryz.func233, rfl, by decide⟩
theorem call233 (T : Tab) (hT : T 233 = some s233) (s : ByteArray) (h : s.size ≤ lim) : dcall T 233 [.lit (.string s)] = some (.lit (.bool (QcA s))) :=
  Qad (A := Enc.str) (B := Enc.bool) hT (if_pos h)
end
end Go.Proofs.Yt
















namespace Go.Proofs.Yt
open Go Go.FA Go.Proofs
set_option maxRecDepth 100000
theorem ba_ext {s t : ByteArray} (h : s.data.toList = t.data.toList) : s = t := ByteArray.ext (Array.ext' h)
theorem QaA : ∀ l : List UInt8, (Lib.indexByte l 39 = -1 ∧ l.takeWhile (· != 39) = l) ∨ (∃ i : Nat, Lib.indexByte l 39 = i ∧ i < l.length ∧ l.takeWhile (· != 39) = l.take i)
  | [] => .inl ⟨rfl, rfl⟩
  | b :: l => by
    simp only [Lib.indexByte]
    by_cases h : b = 39
    · right; exact ⟨0, by simp [h], by simp, by simp [h]⟩
    · have hb : (b != 39) = true := by simpa using h
      rcases QaA l with ⟨e1, e2⟩ | ⟨i, e1, e2, e3⟩
      · left; simp [h, e1, hb, e2]
      · right
        refine ⟨i + 1, ?_, by simp; omega, by simp [hb, e3]⟩
        have : ¬ (i : Int) = -1 := by omega
        simp [h, e1, this]
theorem QaD (s : ByteArray) (i j : Nat) : (s.extract i j).data.toList = (s.data.toList.take j).drop i := by
  simp [ByteArray.data_extract, List.extract_eq_take_drop, List.drop_take]
theorem QgS (s : ByteArray) : (Qai s).1.data.toList = s.data.toList.takeWhile (· != 39) := by
  unfold Qai mark
  rcases QaA s.data.toList with ⟨e1, e2⟩ | ⟨i, e1, e2, e3⟩
  · rw [e1, e2]; simp
  · rw [e1, e3]
    simp only [Int.natCast_nonneg, if_true, Int.toNat_natCast]
    rw [QaD]; simp
theorem Qa9 (l : List UInt8) : l.drop (l.takeWhile (· != 39)).length = l.dropWhile (· != 39) := by
  have h : (l.takeWhile (· != 39) ++ l.dropWhile (· != 39)).drop (l.takeWhile (· != 39)).length = l.dropWhile (· != 39) := List.drop_left
  rwa [List.takeWhile_append_dropWhile] at h
def noMark (s : ByteArray) : Prop := ∀ b ∈ s.data.toList, b ≠ 39
theorem Qe7 {s : ByteArray} (h : QU s = true) : noMark s := by
  unfold QU Qgf at h
  simp only [Bool.and_eq_true, List.all_eq_true] at h
  intro b hb e
  have := h.2 b hb
  subst e
  simp [Qbo, letter] at this
theorem QeA {x d : List UInt8} (hx : ∀ b ∈ x, b ≠ 39) (hd : d = [] ∨ d.head? = some 39) : (x ++ d).takeWhile (· != 39) = x := by
  induction x with
  | nil =>
    rcases hd with rfl | hd
    · rfl
    · cases d with
      | nil => rfl
      | cons c d => simp at hd; subst hd; simp
  | cons c x ih =>
    have hc : (c != 39) = true := by simpa using hx c (by simp)
    simp only [List.cons_append, List.takeWhile_cons, hc, if_true]
    rw [ih fun b hb => hx b (by simp [hb])]
theorem drop_head (l : List UInt8) : l.dropWhile (· != 39) = [] ∨ (l.dropWhile (· != 39)).head? = some 39 := by
  induction l with
  | nil => exact .inl rfl
  | cons c l ih =>
    by_cases h : c = 39
    · right; simp [h]
    · have hc : (c != 39) = true := by simpa using h
      simp only [List.dropWhile_cons, hc, if_true]; exact ih
end Go.Proofs.Yt
namespace Go.Proofs.Yt
open Go Go.FA Go.Proofs
set_option maxRecDepth 100000
section
variable (s : SigD) (a b : ByteArray)
variable {s a b}
theorem Qa1 {x : ByteArray} (h : QU x = true) : x.size ≤ 40 := by
  unfold QU at h; simp only [Bool.and_eq_true, decide_eq_true_eq] at h; exact h.1.1
theorem okOp_rest {x : ByteArray} (h : QeQ x = true) : (x.data.toList.dropWhile (· != 39)).length ≤ 2 ∧ (Qai x).1.size ≤ 40 := by
  unfold QeQ at h
  simp only [Bool.and_eq_true, Bool.or_eq_true, Bool.not_eq_true'] at h
  obtain ⟨h1, h2⟩ := h
  refine ⟨?_, Qa1 h1⟩
  rw [← Qa9]
  rcases QaA x.data.toList with ⟨e1, e2⟩ | ⟨i, e1, e2, e3⟩
  · rw [e2]; simp
  · have hm : mark x = (i : Int) := e1
    have hc : Qai x = (x.extract 0 i, x.extract (i + 1) x.size, true) := by
      unfold Qai; rw [hm]; simp
    rw [hc] at h2
    simp only [Bool.true_eq_false, false_or] at h2
    unfold digit at h2
    split at h2
    · next c hl =>
      rw [QaD] at hl
      have hlen := congrArg List.length hl
      rw [e3]
      simp only [List.length_drop, List.length_take, List.length_cons, List.length_nil] at hlen ⊢
      have : x.size = x.data.toList.length := by simp
      omega
    · cases h2
end
end Go.Proofs.Yt



namespace Go.Proofs.Yt
open Go Go.FA Go.Proofs
set_option maxRecDepth 100000
section
attribute [local simp] QF QZ Qo QJ own Qm dop QN eval Qr Qn Ex.then Ex.inBlock upd QV Tag.isNN Qp intCmp Qv Qx TyI.agg Qa Qu Qg Qs QX QA QD mapOf QQ QC Qq Qi Qj QI DV.cells Qt Qk QE QK rowsOf QL Qd Qe Qe.go Qz QB Qc goInt
def byteAt (s : ByteArray) (j : Nat) : Int := ((s[j]?).map fun c => (c.toNat : Int)).getD 0
theorem QbJ {s : ByteArray} {j : Nat} (h : j < s.size) : byteAt s j = (s[j].toNat : Int) := by unfold byteAt; rw [bget s j h]; rfl
def QcJ (s : ByteArray) : Bool := decide (3 ≤ s.size) && (byteAt s (s.size - 2) == 39) && decide (49 ≤ byteAt s (s.size - 1)) && decide (byteAt s (s.size - 1) ≤ 56)
def QbB (s : ByteArray) : ByteArray × ByteArray := if QcJ s then (s.extract 0 (s.size - 2), s.extract (s.size - 2) s.size) else (s, ⟨#[]⟩)
def Enc.str2 : Enc (ByteArray × ByteArray) := Enc.tup (QR Enc.str Enc.str)
def s266 : Sp := sp (QM Enc.str) Enc.str2 (fun s => if s.size ≤ lim then some (QbB s) else none)
theorem c266 : Qb Tryz.prog 266 s266 := by
  refine Qb.of_sp (T := Qf []) Tryz.func266 rfl (Nat.le_of_ble_eq_true rfl) fun E s y hy => ?_
  split at hy
  case isFalse => cases hy
  next hl =>
  cases hy
  unfold lim at hl
  have tT := Q9 (P := Tryz.prog)
  refine Dwp.step tT rfl fun K hK => ?_
  simp [init, QM, Ql.one, Enc.str]
  refine hK _ _ ?_ rfl; clear hK K
  refine Dwp.step tT rfl fun K hK => ?_
  simp [init, ty9]
  refine hK _ _ ?_ rfl; clear hK K
  refine Dwp.seq ?_
  refine Dwp.step tT rfl fun K hK => ?_
  have no : ∀ a' σ', a' 29 = .lit (.bool false) → a' 0 = .lit (.string s) → QcJ s = false → σ'.n = σ0.n + 2 + 3 → K a' σ' := by
    intro a' σ' h29 h0 hf hn
    refine hK _ _ ?_ hn
    refine Dwp.condF (by simp [eval, h29]) (Dwp.skip ?_)
    refine Dwp.step tT rfl fun K hK => ?_
    simp [h0]
    refine hK _ _ (Dwp.ret ?_) rfl
    simp [Q3, Qh, QW, frz, Q2, Q0, upd, Enc.str2, Enc.tup, QR, Ql.and, Ql.one, Enc.str, QbB, hf]
  by_cases q1 : 3 ≤ s.size
  case neg =>
    have q1' : ¬ (3 : Int) ≤ (s.size : Int) := by omega
    simp [init, ty9, q1']
    exact no _ _ (by simp [upd]) (by simp [upd, init]) (by simp [QcJ, q1]) rfl
  have q1' : (3 : Int) ≤ (s.size : Int) := by omega
  have w2 : IntKind.i64.wrap ((s.size : Int) - 2) = ((s.size - 2 : Nat) : Int) := by rw [wrap_small (n := (s.size : Int) - 2) (by omega) (by omega)]; omega
  have w1 : IntKind.i64.wrap ((s.size : Int) - 1) = ((s.size - 1 : Nat) : Int) := by rw [wrap_small (n := (s.size : Int) - 1) (by omega) (by omega)]; omega
  have l2 : s.size - 2 < s.size := by omega
  have l1 : s.size - 1 < s.size := by omega
  have b2 := bget s (s.size - 2) l2
  have b1 := bget s (s.size - 1) l1
  have y2 := QbJ l2
  have y1 := QbJ l1
  by_cases q2 : byteAt s (s.size - 2) = 39
  case neg =>
    have q2' : ((s[s.size - 2].toNat : Int) == 39) = false := by rw [← y2]; simpa using q2
    simp [init, ty9, q1', w2, b2, q2']
    exact no _ _ (by simp [upd]) (by simp [upd, init]) (by simp [QcJ, q2]) rfl
  have q2' : ((s[s.size - 2].toNat : Int) == 39) = true := by rw [← y2]; simpa using q2
  by_cases q3 : 49 ≤ byteAt s (s.size - 1)
  case neg =>
    have q3' : ¬ (49 : Int) ≤ (s[s.size - 1].toNat : Int) := by rw [← y1]; exact q3
    simp [init, ty9, q1', w2, w1, b2, b1, q2', q3']
    exact no _ _ (by simp [upd]) (by simp [upd, init]) (by simp [QcJ, q3]) rfl
  have q3' : (49 : Int) ≤ (s[s.size - 1].toNat : Int) := by rw [← y1]; exact q3
  by_cases q4 : byteAt s (s.size - 1) ≤ 56
  case neg =>
    have q4' : ¬ (s[s.size - 1].toNat : Int) ≤ 56 := by rw [← y1]; exact q4
    simp [init, ty9, q1', w2, w1, b2, b1, q2', q3', q4']
    exact no _ _ (by simp [upd]) (by simp [upd, init]) (by simp [QcJ, q4]) rfl
  have q4' : (s[s.size - 1].toNat : Int) ≤ 56 := by rw [← y1]; exact q4
  have hf : QcJ s = true := by simp [QcJ, q1, q2, q3, q4]
  simp [init, ty9, q1', w2, w1, b2, b1, q2', q3', q4']
  refine hK _ _ ?_ rfl
  refine Dwp.condT (by simp [eval, upd]) ?_
  refine Dwp.drawStep [] mixed tT rfl (by decide) fun K hK => ?_
  have l2' : s.size - 2 ≤ s.size := by omega
  have l2i : ((s.size - 2 : Nat) : Int) ≤ (s.size : Int) := by omega
  simp [QbI, touch, QaO, init, ty9, w2, l2', l2i]
  refine hK _ _ (Dwp.ret ?_) rfl
  simp [Q3, Qh, QW, frz, Q2, Q0, Ex.then, upd, Enc.str2, Enc.tup, QR, Ql.and, Ql.one, Enc.str, QbB, hf]
theorem e266 : Go.FA.Good Tryz.prog (266, s266) := ⟨c266, Tryz.f266, _, Tryz.func266, rfl, by decide⟩
theorem call266 (T : Tab) (hT : T 266 = some s266) (s : ByteArray) (h : s.size ≤ lim) : dcall T 266 [.lit (.string s)] = some (.tuple [.lit (.string (QbB s).1), .lit (.string (QbB s).2)]) :=
  Qad (A := Enc.str) (B := Enc.str2) hT (if_pos h)
theorem QeO {s : ByteArray} {j : Nat} (h : j < s.size) : s.data.toList[j]'(by simpa using h) = s[j] := rfl
theorem frame_ok (s : ByteArray) : QU (QbB s).1 = QeQ s := by
  have hsz : s.size = s.data.toList.length := by simp
  by_cases hf : QcJ s = true
  · have hf' := hf
    unfold QcJ at hf
    simp only [Bool.and_eq_true, decide_eq_true_eq, beq_iff_eq] at hf
    obtain ⟨⟨⟨h3, h39⟩, h49⟩, h56⟩ := hf
    obtain ⟨p, hp⟩ : ∃ p, p = s.data.toList.take (s.size - 2) := ⟨_, rfl⟩
    have l2 : s.size - 2 < s.size := by omega
    have l1 : s.size - 1 < s.size := by omega
    rw [QbJ l2] at h39
    rw [QbJ l1] at h49 h56
    have hc39 : s[s.size - 2] = 39 := by
      have : s[s.size - 2].toNat = 39 := by omega
      exact UInt8.toNat_inj.1 this
    have hsplit : s.data.toList = p ++ [39, s[s.size - 1]] := by
      have e1 : s.data.toList = s.data.toList.take (s.size - 2) ++ s.data.toList.drop (s.size - 2) := (List.take_append_drop _ _).symm
      have e2 : s.data.toList.drop (s.size - 2) = [39, s[s.size - 1]] := by
        rw [List.drop_eq_getElem_cons (by omega), List.drop_eq_getElem_cons (by omega), List.drop_of_length_le (by omega)]
        rw [QeO l2, hc39]
        congr 2
        have : s.size - 2 + 1 = s.size - 1 := by omega
        simp only [this]; exact QeO l1
      rw [e2, ← hp] at e1; exact e1
    have hfr : (QbB s).1.data.toList = p := by
      unfold QbB; rw [if_pos hf']
      simp only [QaD, List.drop_zero]; exact hp.symm
    by_cases hm : ∀ b ∈ p, b ≠ 39
    · -- the first mark is this one
      have hcut : (Qai s).1.data.toList = p := by
        rw [QgS, hsplit]; exact QeA hm (.inr rfl)
      have heq : (QbB s).1 = (Qai s).1 := ba_ext (by rw [hfr, hcut])
      unfold QeQ
      rw [heq]
      have hd : digit (Qai s).2.1 = true := by
        have hmark : mark s = (p.length : Int) := by
          unfold mark
          rcases QaA s.data.toList with ⟨e1, e2⟩ | ⟨i, e1, e2, e3⟩
          · rw [← QgS, hcut, hsplit] at e2
            have := congrArg List.length e2; simp at this
          · rw [e1]
            rw [← QgS, hcut] at e3
            have := congrArg List.length e3
            rw [List.length_take] at this; omega
        unfold Qai
        rw [hmark]
        simp only [Int.natCast_nonneg, if_true, Int.toNat_natCast]
        unfold digit
        rw [QaD, hsplit]
        have : s.size = p.length + 2 := by rw [hsz, hsplit]; simp
        rw [List.take_of_length_le (by simp [this])]
        have e : (p ++ [39, s[s.size - 1]]).drop (p.length + 1) = [s[s.size - 1]] := by
          rw [List.drop_append]; simp
        rw [e]
        simp only [Bool.and_eq_true, decide_eq_true_eq]
        exact ⟨h49, h56⟩
      rw [hd]; simp
    · have h1 : QU (QbB s).1 = false := by
        cases q : QU (QbB s).1 with
        | false => rfl
        | true =>
          have := Qe7 q
          unfold noMark at this
          rw [hfr] at this; exact absurd this hm
      rw [h1]
      -- an earlier mark: what stands behind it is longer than a digit
      cases q : QeQ s with
      | false => rfl
      | true =>
        exfalso
        have h2 := (okOp_rest q).1
        have hm' : ∃ b ∈ p, b = 39 := by
          apply Classical.byContradiction; intro hno
          exact hm fun b hb e => hno ⟨b, hb, e⟩
        obtain ⟨b, hb, rfl⟩ := hm'
        have hlen : ∀ (x d : List UInt8), 39 ∈ x → d.length < ((x ++ d).dropWhile (· != 39)).length := by
          intro x d hx
          induction x with
          | nil => cases hx
          | cons c x ih =>
            by_cases hc : c = 39
            · subst hc; simp; omega
            · have hcb : (c != 39) = true := by simpa using hc
              simp only [List.cons_append, List.dropWhile_cons, hcb, if_true]
              rcases List.mem_cons.1 hx with e | e
              · exact absurd e.symm hc
              · exact ih e
        have := hlen p [39, s[s.size - 1]] hb
        rw [← hsplit] at this
        simp at this h2; omega
  · have hff : (QbB s).1 = s := by unfold QbB; rw [if_neg hf]
    rw [hff]
    cases q : QU s with
    | true =>
      have hn := Qe7 q
      have hw := QeA (x := s.data.toList) (d := []) hn (.inl rfl)
      rw [List.append_nil] at hw
      have hmark : mark s = -1 := by
        unfold mark
        rcases QaA s.data.toList with ⟨e1, e2⟩ | ⟨i, e1, e2, e3⟩
        · exact e1
        · rw [hw] at e3
          have := congrArg List.length e3
          rw [List.length_take] at this; omega
      unfold QeQ Qai
      rw [hmark]
      simp [q]
    | false =>
      symm
      cases hq : QeQ s with
      | false => rfl
      | true =>
        exfalso
        have hq2 := hq
        unfold QeQ at hq2
        simp only [Bool.and_eq_true, Bool.or_eq_true, Bool.not_eq_true'] at hq2
        obtain ⟨h1, h2⟩ := hq2
        rcases QaA s.data.toList with ⟨e1, e2⟩ | ⟨i, e1, e2, e3⟩
        · have hm : mark s = -1 := e1
          have hc : Qai s = (s, ⟨#[]⟩, false) := by unfold Qai; rw [hm]; simp
          rw [hc, q] at h1; cases h1
        · have hm : mark s = (i : Int) := e1
          have hc : Qai s = (s.extract 0 i, s.extract (i + 1) s.size, true) := by unfold Qai; rw [hm]; simp
          rw [hc] at h1 h2
          simp only [Bool.true_eq_false, false_or] at h2
          unfold digit at h2
          split at h2
          · next c hl =>
            rw [QaD] at hl
            have hlen := congrArg List.length hl
            simp only [List.length_drop, List.length_take, List.length_cons, List.length_nil] at hlen
            have hn1 : s.size = i + 2 := by omega
            have hi1 := (Qc9 _).1 h1
            have hsi : (s.extract 0 i).size = i := by simp [ByteArray.size_extract]; omega
            have hipos : 1 ≤ i := by have h11 : 1 ≤ (s.extract 0 i).size := hi1.1; omega
            apply hf
            unfold QcJ
            have l2 : s.size - 2 < s.size := by omega
            have l1 : s.size - 1 < s.size := by omega
            rw [QbJ l2, QbJ l1]
            have e2' : s[s.size - 2] = 39 := by
              have hd := drop_head s.data.toList
              rw [← Qa9, e3, List.length_take, Nat.min_eq_left (by omega)] at hd
              rcases hd with hd | hd
              · have := congrArg List.length hd; simp at this; omega
              · rw [List.drop_eq_getElem_cons (by omega)] at hd
                simp only [List.head?_cons, Option.some.injEq] at hd
                rw [← hd, ← QeO l2]
                congr 1; omega
            have e1' : s[s.size - 1] = c := by
              have hc2 : (s.data.toList.drop (i + 1))[0]? = some c := by
                rw [List.take_of_length_le (by omega)] at hl; rw [hl]; rfl
              rw [List.getElem?_drop, Nat.add_zero, List.getElem?_eq_getElem (by omega)] at hc2
              simp only [Option.some.injEq] at hc2
              rw [← hc2, ← QeO l1]
              congr 1; omega
            rw [e2', e1']
            simp only [Bool.and_eq_true, decide_eq_true_eq] at h2
            simp only [Bool.and_eq_true, decide_eq_true_eq, beq_iff_eq]
            exact ⟨⟨⟨by omega, rfl⟩, h2.1⟩, h2.2⟩
          · cases h2
def s235 : Sp := sp (QM Enc.str) Enc.bool (fun s => if s.size ≤ lim then some (QeQ s) else none)
abbrev T90 : Tab := Qf [(266, s266), (107, s107)]
theorem t90 : QH Tryz.prog T90 := .cons e266 (.cons e107 .nil)
theorem c235 : Qb Tryz.prog 235 s235 := by
  refine Qb.of_sp (T := T90) Tryz.func235 rfl (Nat.le_of_ble_eq_true rfl) fun E s y hy => ?_
  split at hy
  case isFalse => cases hy
  next hl =>
  cases hy
  have hl1 : s.size ≤ lim := hl
  have hl2 : (QbB s).1.size ≤ lim := by
    unfold QbB; split
    · simp only [ByteArray.size_extract]; omega
    · exact hl1
  have g1 := call266 T90 rfl s hl1
  have g2 := Qe3 T90 rfl (QbB s).1 hl2
  rw [frame_ok] at g2
  have tT := t90
  generalize T90 = T at *
  refine Dwp.step tT rfl fun K hK => ?_
  simp [init, QM, Ql.one, Enc.str]
  refine hK _ _ ?_ rfl; clear hK K
  refine Dwp.step tT rfl fun K hK => ?_
  simp [init, g1]
  refine hK _ _ ?_ rfl; clear hK K
  refine Dwp.step tT rfl fun K hK => ?_
  simp [g2]
  refine hK _ _ (Dwp.ret ?_) rfl
  simp [Q3, Qh, QW, frz, Q2, Q0, upd, Enc.bool]
theorem e235 : Go.FA.Good Tryz.prog (235, s235) := ⟨c235, Tryz.f235, _, Tryz.func235, rfl, by decide⟩
theorem call235 (T : Tab) (hT : T 235 = some s235) (s : ByteArray) (h : s.size ≤ lim) : dcall T 235 [.lit (.string s)] = some (.lit (.bool (QeQ s))) :=
  Qad (A := Enc.str) (B := Enc.bool) hT (if_pos h)
end
end Go.Proofs.Yt
