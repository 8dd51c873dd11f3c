/- Contracts of functions of the program, by a machine over abstract values; part 19. No condition beyond those of each theorem. -/
import Derived.Test.YtfpejlbfdpeofaaGreatDoorSm17
set_option linter.unusedVariables false
set_option linter.unusedSimpArgs false
namespace Go.Proofs.Yt
open Go Go.FA Go.Proofs Go.RowKit
set_option maxRecDepth 100000
mutual
def QkT : Tm → Bool
  | .mk k n x s ks r => Qbl (.mk k n x s ks r) && QfR ks
def QfR : List Tm → Bool
  | [] => true
  | t :: l => QkT t && QfR l
end
mutual
def QdI : Tm → Nat
  | .mk k n x s ks r => 1 + r.length + QbN ks
def QbN : List Tm → Nat
  | [] => 0
  | t :: l => QdI t + QbN l
end
mutual
def Qfv : Tm → Int
  | .mk k n x s ks r => 1 + mxI (r.length : Int) (Qbu ks)
def Qbu : List Tm → Int
  | [] => 0
  | t :: l => mxI (Qfv t) (Qbu l)
end
theorem Qi4 (a b : Int) : (a ≤ mxI a b ∧ b ≤ mxI a b) ∧ (mxI a b = a ∨ mxI a b = b) := by unfold mxI; split <;> omega
mutual
theorem highR_pos : ∀ t : Tm, 1 ≤ Qfv t
  | .mk k n x s ks r => by have := Qel ks; have := Qi4 (r.length : Int) (Qbu ks); simp only [Qfv]; omega
theorem Qel : ∀ l : List Tm, 0 ≤ Qbu l
  | [] => by simp [Qbu]
  | t :: l => by have := highR_pos t; have := Qel l; have := Qi4 (Qfv t) (Qbu l); simp only [Qbu]; omega
end
theorem restT_len {so : ByteArray} : ∀ {r : List Tm}, Qb2 so r = true → r.length ≤ 1
  | [], _ => by simp
  | [_], _ => by simp
  | _ :: _ :: _, h => by simp [Qb2] at h
theorem Qcs {α : Type} {r : List α} (h : r.isEmpty = true) : r.length = 0 := by cases r <;> simp_all
theorem Qh0 {k n : Int} {x s : ByteArray} {ks r : List Tm} (h : Qbl (.mk k n x s ks r) = true) : r.length ≤ 1 := by
  simp only [Qbl, Qb6] at h
  repeat' split at h
  all_goals (try simp only [Bool.and_eq_true, Bool.or_eq_true, Bool.false_or, Bool.true_or] at h)
  all_goals first
    | exact restT_len h.1
    | (have := Qcs h.2.2.2.2.2.2; omega)
    | (have := Qcs h.2.2.2.2.2; omega)
    | (have := Qcs h.2.2.2.2; omega)
    | (have := Qcs h.2.2.2; omega)
    | (simp at h; done)
    | (simp at h; simp [h]; done)
mutual
theorem formT : ∀ (t : Tm) (d l : Int), 0 ≤ l →
    ((QkT t = true ∧ (QdI t : Int) ≤ l ∧ Qfv t ≤ d) → Qbv t d l = (true, l - QdI t)) ∧ (¬ (QkT t = true ∧ (QdI t : Int) ≤ l ∧ Qfv t ≤ d) → (Qbv t d l).1 = false)
  | .mk k n x s ks r, d, l, h0 => by
    rw [Qbv]
    simp only [QkT, QdI, Qfv]
    have hh := Qel ks
    have hm := Qi4 (r.length : Int) (Qbu ks)
    by_cases hc : l - (1 + (r.length : Int)) < 0 ∨ d < 1 ∨ (0 < r.length ∧ d < 2) ∨ Qbl (.mk k n x s ks r) = false
    · rw [if_pos hc]
      refine ⟨fun hg => absurd hc ?_, fun _ => rfl⟩
      obtain ⟨q1, q2, q3⟩ := hg
      simp only [Bool.and_eq_true] at q1
      have := Qh0 q1.1
      simp only [q1.1, Bool.true_eq_false, or_false]
      omega
    · rw [if_neg hc]
      have hn : Qbl (.mk k n x s ks r) = true := by
        cases q : Qbl (.mk k n x s ks r) with
        | true => rfl
        | false => exact absurd (.inr (.inr (.inr q))) hc
      have hl := Qh0 hn
      obtain ⟨g1, g2⟩ := Qlm ks (d - 1) (l - (1 + (r.length : Int))) (by omega)
      by_cases hk : QfR ks = true ∧ (QbN ks : Int) ≤ l - (1 + (r.length : Int)) ∧ Qbu ks ≤ d - 1
      · rw [g1 hk]
        refine ⟨fun _ => by simp only [Prod.mk.injEq, true_and]; omega, fun hg => absurd ?_ hg⟩
        refine ⟨by simp [hn, hk.1], by omega, ?_⟩
        have : ¬ (0 < r.length ∧ d < 2) := fun h => hc (.inr (.inr (.inl h)))
        have : ¬ d < 1 := fun h => hc (.inr (.inl h))
        omega
      · refine ⟨fun hg => absurd ?_ hk, fun _ => g2 hk (by have : ¬ d < 1 := fun h => hc (.inr (.inl h)); omega)⟩
        obtain ⟨q1, q2, q3⟩ := hg
        simp only [Bool.and_eq_true] at q1
        exact ⟨q1.2, by omega, by omega⟩
theorem Qlm : ∀ (t : List Tm) (d l : Int), 0 ≤ l →
    ((QfR t = true ∧ (QbN t : Int) ≤ l ∧ Qbu t ≤ d) → QaN t d l = (true, l - QbN t)) ∧ (¬ (QfR t = true ∧ (QbN t : Int) ≤ l ∧ Qbu t ≤ d) → 0 ≤ d → (QaN t d l).1 = false)
  | [], d, l, h0 => by
    simp only [QaN, QfR, QbN, Qbu]
    refine ⟨fun _ => by simp, fun hg hd => absurd ⟨trivial, by omega, hd⟩ hg⟩
  | t :: ts, d, l, h0 => by
    simp only [QaN, QfR, QbN, Qbu]
    have hm := Qi4 (Qfv t) (Qbu ts)
    obtain ⟨g1, g2⟩ := formT t d l h0
    by_cases hk : QkT t = true ∧ (QdI t : Int) ≤ l ∧ Qfv t ≤ d
    · rw [g1 hk]
      simp only [if_true]
      obtain ⟨r1, r2⟩ := Qlm ts d (l - QdI t) (by omega)
      constructor
      · intro hg
        obtain ⟨q1, q2, q3⟩ := hg
        simp only [Bool.and_eq_true] at q1
        rw [r1 ⟨q1.2, by omega, by omega⟩]
        simp only [Prod.mk.injEq, true_and]; omega
      · intro hg hd
        refine r2 (fun hgr => hg ?_) hd
        exact ⟨by simp [hk.1, hgr.1], by omega, by omega⟩
    · have hf := g2 hk
      rw [hf]
      simp only [Bool.false_eq_true, if_false]
      refine ⟨fun hg => absurd ?_ hk, fun _ _ => trivial⟩
      obtain ⟨q1, q2, q3⟩ := hg
      simp only [Bool.and_eq_true] at q1
      exact ⟨q1.1, by omega, by omega⟩
end
theorem noName1 : QU ⟨#[95]⟩ = false := by decide
theorem noName2 : QU ⟨#[36]⟩ = false := by decide
theorem unn_name {x : ByteArray} (h : QU x = true) : Qh7 x = false := by
  have h1 : x ≠ ⟨#[95]⟩ := fun e => by rw [e, noName1] at h; cases h
  have h2 : x ≠ ⟨#[36]⟩ := fun e => by rw [e, noName2] at h; cases h
  simp [Qh7, h1, h2]
theorem QiL (so : ByteArray) (hso : QU so = true) : ∀ r : List Tm, Qb2 so r = (Qb5 so r && QaZ r)
  | [] => by simp [Qb2, Qb5, QaZ]
  | [v] => by
    obtain ⟨vk, vn, vx, vs, vks, vr⟩ := v
    simp only [Qb2, Qb5, QaZ, Qgo, Tm.kind, Tm.text, Tm.sort, Bool.and_true]
    by_cases h1 : vk = 6
    · subst h1
      by_cases h2 : QU vx = true
      · by_cases h3 : vs = so
        · subst h3
          have hu := unn_name h2
          cases vks <;> cases vr <;> simp [Qb6, Qar, Qkv, hu, h2, hso, QeJ, QaZ]
        · simp [h3]
      · simp [h2]
    · simp [h1]
  | _ :: _ :: _ => by simp [Qb2, Qb5]
theorem rest_siz {so : ByteArray} : ∀ {r : List Tm}, Qb2 so r = true → QaI r = r.length ∧ Qa8 r = r.length
  | [], _ => by simp [QaI, Qa8]
  | [v], h => by
    obtain ⟨vk, vn, vx, vs, vks, vr⟩ := v
    simp only [Qb2, Tm.kind, Tm.text, Tm.sort, Bool.and_eq_true, Qb6] at h
    obtain ⟨_, _, _, _, _, _, h5, h6⟩ := h
    cases vks with
    | nil => cases vr with
      | nil => simp [QaI, tsz, Qa8, QeS, mxI]
      | cons _ _ => simp at h6
    | cons _ _ => simp at h5
  | _ :: _ :: _, h => by simp [Qb2] at h
theorem nameList : QU ⟨#[76, 105, 115, 116]⟩ = true := by decide
theorem nameMap : QU ⟨#[77, 97, 112]⟩ = true := by decide
theorem emp_all (r : List Tm) : (r.isEmpty && QaZ r) = r.isEmpty := by cases r <;> simp [QaZ]
theorem node_rel (k n : Int) (x s : ByteArray) (ks r : List Tm) : Qbl (.mk k n x s ks r) = (Qar (.mk k n x s ks r) && QaZ r) := by
  simp only [Qbl, Qar, Qb6, QeJ, QiL _ nameList, QiL _ nameMap, Qkv]
  have he := emp_all r
  generalize hb : r.isEmpty = b at *
  generalize QaZ r = c at *
  generalize Qb5 ⟨#[76, 105, 115, 116]⟩ r = u
  generalize Qb5 ⟨#[77, 97, 112]⟩ r = v
  generalize ks.isEmpty = w
  generalize decide (ks.length ≤ 8) = w8
  generalize decide (ks.length % 2 = 0) = w2
  generalize QcA x = tb
  generalize idB x = ib
  generalize QeQ x = ob
  generalize QU x = nb
  generalize QU s = ns
  have hu : Qh7 x = decide (x = ⟨#[95]⟩ ∨ x = ⟨#[36]⟩) := by simp [Qh7, Bool.decide_or]
  rw [hu]
  clear hu
  by_cases hk1 : k = 1
  · simp only [hk1, if_true, Int.reduceEq, if_false]
    generalize decide (-2147483647 ≤ n) = q0
    generalize decide (n ≤ 2147483647) = q1
    generalize decide (n = 1) = q2
    generalize decide (n = 0) = q3
    generalize decide (x = ⟨#[]⟩) = q4
    generalize decide (s = ⟨#[]⟩) = q5
    clear hk1
    cases c
    · have hbf : b = false := by simpa using he.symm
      simp [hbf]
    · simp [Bool.and_assoc, Bool.and_comm, Bool.and_left_comm]
  by_cases hk2 : k = 2
  · simp only [hk2, if_true, Int.reduceEq, if_false]
    generalize decide (-2147483647 ≤ n) = q0
    generalize decide (n ≤ 2147483647) = q1
    generalize decide (n = 1) = q2
    generalize decide (n = 0) = q3
    generalize decide (x = ⟨#[]⟩) = q4
    generalize decide (s = ⟨#[]⟩) = q5
    clear hk2
    cases c
    · have hbf : b = false := by simpa using he.symm
      simp [hbf]
    · simp [Bool.and_assoc, Bool.and_comm, Bool.and_left_comm]
  by_cases hk3 : k = 3
  · simp only [hk3, if_true, Int.reduceEq, if_false]
    generalize decide (-2147483647 ≤ n) = q0
    generalize decide (n ≤ 2147483647) = q1
    generalize decide (n = 1) = q2
    generalize decide (n = 0) = q3
    generalize decide (x = ⟨#[]⟩) = q4
    generalize decide (s = ⟨#[]⟩) = q5
    clear hk3
    cases c
    · have hbf : b = false := by simpa using he.symm
      simp [hbf]
    · simp [Bool.and_assoc, Bool.and_comm, Bool.and_left_comm]
  by_cases hk4 : k = 4
  · simp only [hk4, if_true, Int.reduceEq, if_false]
    generalize decide (-2147483647 ≤ n) = q0
    generalize decide (n ≤ 2147483647) = q1
    generalize decide (n = 1) = q2
    generalize decide (n = 0) = q3
    generalize decide (x = ⟨#[]⟩) = q4
    generalize decide (s = ⟨#[]⟩) = q5
    clear hk4
    cases c
    · have hbf : b = false := by simpa using he.symm
      simp [hbf]
    · simp [Bool.and_assoc, Bool.and_comm, Bool.and_left_comm]
  by_cases hk5 : k = 5
  · simp only [hk5, if_true, Int.reduceEq, if_false]
    generalize decide (-2147483647 ≤ n) = q0
    generalize decide (n ≤ 2147483647) = q1
    generalize decide (n = 1) = q2
    generalize decide (n = 0) = q3
    generalize decide (x = ⟨#[]⟩) = q4
    generalize decide (s = ⟨#[]⟩) = q5
    clear hk5
    cases c
    · have hbf : b = false := by simpa using he.symm
      simp [hbf]
    · simp [Bool.and_assoc, Bool.and_comm, Bool.and_left_comm]
  by_cases hk6 : k = 6
  · simp only [hk6, if_true, Int.reduceEq, if_false]
    by_cases hx : x = ⟨#[95]⟩ ∨ x = ⟨#[36]⟩
    · simp only [hx, decide_true, if_true]
      generalize decide (s = ⟨#[65, 110, 121]⟩) = q1
      generalize decide (n = 0) = q2
      cases c
      · have hbf : b = false := by simpa using he.symm
        simp [hbf]
      · cases q1 <;> cases q2 <;> cases w <;> cases b <;> rfl
    · simp only [hx, decide_false, if_false, Bool.false_eq_true]
      generalize decide (n = 0) = q2
      cases c
      · have hbf : b = false := by simpa using he.symm
        simp [hbf]
      · cases nb <;> cases ns <;> cases q2 <;> cases w <;> cases b <;> rfl
  by_cases hk7 : k = 7
  · simp only [hk7, if_true, Int.reduceEq, if_false]
    generalize decide (-2147483647 ≤ n) = q0
    generalize decide (n ≤ 2147483647) = q1
    generalize decide (n = 1) = q2
    generalize decide (n = 0) = q3
    generalize decide (x = ⟨#[]⟩) = q4
    generalize decide (s = ⟨#[]⟩) = q5
    clear hk7
    cases c
    · have hbf : b = false := by simpa using he.symm
      simp [hbf]
    · simp [Bool.and_assoc, Bool.and_comm, Bool.and_left_comm]
  by_cases hk8 : k = 8
  · simp only [hk8, if_true, Int.reduceEq, if_false]
    generalize decide (-2147483647 ≤ n) = q0
    generalize decide (n ≤ 2147483647) = q1
    generalize decide (n = 1) = q2
    generalize decide (n = 0) = q3
    generalize decide (x = ⟨#[]⟩) = q4
    generalize decide (s = ⟨#[]⟩) = q5
    clear hk8
    cases c
    · have hbf : b = false := by simpa using he.symm
      simp [hbf]
    · simp [Bool.and_assoc, Bool.and_comm, Bool.and_left_comm]
  simp only [hk1, hk2, hk3, hk4, hk5, hk6, hk7, hk8, if_false, Bool.false_and]
section
attribute [local simp] QF QZ Qo QJ own Qm dop QN eval Qr Qn Ex.then Ex.inBlock upd QV Tag.isNN Qp intCmp Qv Qx TyI.agg Qa Qu Qg Qs QX QA QD mapOf QQ QC Qq Qi Qj QI DV.cells Qt Qk QE QK rowsOf QL Qd Qe Qe.go Qz QB Qc goInt
mutual
theorem Qiq : ∀ t : Tm, QkT t = Qgo t
  | .mk k n x s ks r => by simp only [QkT, Qgo, node_rel, QiK ks]; cases Qar (.mk k n x s ks r) <;> cases QaZ r <;> cases QaZ ks <;> rfl
theorem QiK : ∀ l : List Tm, QfR l = QaZ l
  | [] => rfl
  | t :: l => by simp only [QfR, QaZ, Qiq t, QiK l]
end
theorem nodeR_rest {k n : Int} {x s : ByteArray} {ks r : List Tm} (h : Qbl (.mk k n x s ks r) = true) : QaI r = r.length ∧ Qa8 r = r.length := by
  have hnil : r.isEmpty = true → QaI r = r.length ∧ Qa8 r = r.length := by
    intro he
    cases r with
    | nil => simp [QaI, Qa8]
    | cons _ _ => simp at he
  simp only [Qbl, Qb6] at h
  repeat' split at h
  all_goals (try simp only [Bool.and_eq_true, Bool.or_eq_true, Bool.false_or, Bool.true_or] at h)
  all_goals first
    | exact rest_siz h.1
    | exact hnil h.2.2.2.2.2.2
    | exact hnil h.2.2.2.2.2
    | exact hnil h.2.2.2.2
    | exact hnil h.2.2.2
    | (simp at h; done)
    | (simp at h; refine hnil ?_; simp [h]; done)
mutual
theorem Qii : ∀ t : Tm, QkT t = true → QdI t = tsz t ∧ Qfv t = QeS t
  | .mk k n x s ks r, h => by
    simp only [QkT, Bool.and_eq_true] at h
    obtain ⟨h1, h2⟩ := nodeR_rest h.1
    obtain ⟨h3, h4⟩ := Qi6 ks h.2
    simp only [QdI, tsz, Qfv, QeS, h1, h2, h3, h4]
    refine ⟨by omega, ?_⟩
    unfold mxI; (repeat' split) <;> omega
theorem Qi6 : ∀ l : List Tm, QfR l = true → QbN l = QaI l ∧ Qbu l = Qa8 l
  | [], _ => by simp [QbN, QaI, Qbu, Qa8]
  | t :: l, h => by
    simp only [QfR, Bool.and_eq_true] at h
    obtain ⟨h1, h2⟩ := Qii t h.1
    obtain ⟨h3, h4⟩ := Qi6 l h.2
    simp only [QbN, QaI, Qbu, Qa8, h1, h2, h3, h4, and_self]
end
theorem form_valid (t : Tm) : (Qbv t 60 2000).1 = Qas t := by
  obtain ⟨h1, h2⟩ := formT t 60 2000 (by omega)
  cases hv : Qas t with
  | true =>
    simp only [Qas, Bool.and_eq_true, decide_eq_true_eq] at hv
    rw [← Qiq] at hv
    obtain ⟨q1, q2⟩ := Qii t hv.1
    rw [h1 ⟨hv.1, by omega, by omega⟩]
  | false =>
    refine h2 fun ⟨g1, g2, g3⟩ => ?_
    obtain ⟨q1, q2⟩ := Qii t g1
    have : Qas t = true := by
      simp only [Qas, Bool.and_eq_true, decide_eq_true_eq]
      exact ⟨by rw [← Qiq]; exact g1, by omega, by omega⟩
    rw [this] at hv; cases hv
theorem f77All : ∀ n, H77 n := fun n => Nat.strongRecOn n fun n ih => h77 n e126 ih
open Classical in
noncomputable def sT24 : Sp := sp (QM Enc.tm) Enc.bool (fun t => if okT t ∧ tsz t ≤ tlim then some (Qas t) else none)
theorem c24 : Qb Tryz.prog 24 sT24 := by
  refine Qb.of_sp (T := Qf []) Tryz.func24 rfl (Nat.le_of_ble_eq_true rfl) fun E t y hy => ?_
  split at hy
  case isFalse => cases hy
  next hlim =>
  obtain ⟨hok, hl⟩ := hlim
  cases hy
  have tT := Q9 (P := Tryz.prog)
  generalize Qf [] = T at *
  have hcall := fun id σ hi ho => f77All (tsz t) t 60 2000 id σ (Nat.le_refl _) hl hok (by omega) (by omega) (by omega) (by omega) hi ho
  refine Dwp.step tT rfl fun K hK => ?_
  simp [init, QM, Ql.one, Enc.tm, Enc.agg, Ql.tm, Tm.cells_len, QT]
  refine hK _ _ ?_ rfl; clear hK K
  refine Dwp.step tT rfl fun K hK => ?_
  simp [init, ty3, setAt]
  refine hK _ _ ?_ rfl; clear hK K
  refine Dwp.stepH fun K hK => ?_
  show Rg _ _ _ _ K ([0] ++ (1 :: ([2] ++ []))) _ _
  refine Rg.run tT rfl _ _ _ ?_
  simp [Q4, QaC, Qam, init, Q5, Tm.cells_len, QT]
  refine Rg.call (xs := [.agg t.cells, .lit (.int .i64 60), .ptr (σ0.n + 2) 0]) rfl rfl rfl rfl (by simp [Qi, eval, upd, init, Qr]) (hcall _ _ (by show σ0.n + 2 < σ0.n + 2 + 2; omega) (by simp [upd])) ?_
  rintro e τ ⟨rfl, _, _⟩
  show Rg _ _ _ _ K ([2] ++ []) _ _
  refine Rg.run tT rfl _ _ _ ?_
  simp [Q4, QaC, Qam]
  refine Rg.nil (hK _ _ (Dwp.ret ?_))
  refine QaE Tryz.func24 rfl _ ?_
  simp [upd, form_valid]
theorem e24 : Go.FA.Good Tryz.prog (24, sT24) := ⟨c24, Tryz.f24, _, Tryz.func24, rfl, by decide⟩
open Classical in
theorem QiH (T : Tab) (hT : T 24 = some sT24) (t : Tm) (h : okT t) (h2 : tsz t ≤ tlim) : dcall T 24 [.agg t.cells] = some (.lit (.bool (Qas t))) :=
  Qad (A := Enc.tm) (B := Enc.bool) hT (if_pos ⟨h, h2⟩)
end
end Go.Proofs.Yt

