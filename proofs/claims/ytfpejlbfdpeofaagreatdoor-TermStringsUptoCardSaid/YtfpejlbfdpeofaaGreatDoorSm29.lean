/- Contracts of functions of the program, by a machine over abstract values; part 30. No condition beyond those of each theorem. -/
import Derived.Test.YtfpejlbfdpeofaaGreatDoorSm28
import Derived.Lib.ItoaLen
set_option linter.unusedVariables false
set_option linter.unusedSimpArgs false
namespace Go.Proofs.Yt
open Go Go.FA Go.Proofs Go.RowKit
set_option linter.unusedSimpArgs false
theorem swN_name {a b x : ByteArray} (ha : Q3 a = true) (hb : Q3 b = true) (h : Q3 x = true) : Q3 (swN a b x) = true := by
  unfold swN
  split
  · exact hb
  · split
    · exact ha
    · exact h
theorem QhY : ∀ u : List UInt8, (∀ b ∈ u, b ≠ 39) → Lib.indexByte u 39 = -1
  | [], _ => rfl
  | b :: l, h => by
    have h1 : b ≠ 39 := h b (by simp)
    have ih := QhY l fun x hx => h x (by simp [hx])
    simp [Lib.indexByte, h1, ih]
theorem Qjn : ∀ (u c : List UInt8), (∀ b ∈ u, b ≠ 39) → Lib.indexByte (u ++ 39 :: c) 39 = (u.length : Int)
  | [], c, _ => by simp [Lib.indexByte]
  | b :: l, c, h => by
    have h1 : b ≠ 39 := h b (by simp)
    have ih := Qjn l c fun x hx => h x (by simp [hx])
    have : ¬ (l.length : Int) = -1 := by omega
    simp [Lib.indexByte, h1, ih, this]
theorem Qgw : ∀ l : List UInt8, (∀ b ∈ l, b ≠ 39) ∨ ∃ u c, l = u ++ 39 :: c ∧ ∀ b ∈ u, b ≠ 39
  | [] => .inl (by simp)
  | b :: l => by
    by_cases h : b = 39
    · exact .inr ⟨[], l, by simp [h], by simp⟩
    · rcases Qgw l with h1 | ⟨u, c, rfl, hu⟩
      · exact .inl (by simpa [h] using h1)
      · exact .inr ⟨b :: u, c, rfl, by simpa [h] using hu⟩
theorem QgT {s : ByteArray} (h : ∀ b ∈ s.data.toList, b ≠ 39) : Qds s = (s, ⟨#[]⟩) := by
  simp [Qds, mark, QhY _ h]
theorem QfL {u c : ByteArray} {l : List UInt8} (h : ∀ b ∈ u.data.toList, b ≠ 39) (hc : c.data.toList = 39 :: l) : Qds (u ++ c) = (u, c) := by
  have e : mark (u ++ c) = (u.size : Int) := by
    simp only [mark, ByteArray.data_append, Array.toList_append, hc]
    rw [Qjn _ _ h]; rfl
  have h0 : (0 : Int) ≤ (u.size : Int) := by omega
  simp only [Qds, e, h0, if_true, Int.toNat_natCast]
  rw [ByteArray.extract_append_eq_left rfl, ByteArray.extract_append_eq_right rfl (by simp)]
theorem QfC (s : ByteArray) : (Qds s = (s, ⟨#[]⟩) ∧ ∀ b ∈ s.data.toList, b ≠ 39) ∨ ∃ (u c : ByteArray) (l : List UInt8), s = u ++ c ∧ (∀ b ∈ u.data.toList, b ≠ 39) ∧ c.data.toList = 39 :: l := by
  rcases Qgw s.data.toList with h | ⟨u, c, hs, hu⟩
  · exact .inl ⟨QgT h, h⟩
  · refine .inr ⟨⟨u.toArray⟩, ⟨(39 :: c).toArray⟩, c, ?_, by simpa using hu, by simp⟩
    apply ByteArray.ext
    rw [ByteArray.data_append, ← Array.toList_inj, hs]
    simp
theorem name_mark {x : ByteArray} (h : Q3 x = true) : ∀ b ∈ x.data.toList, b ≠ 39 := by
  intro b hb
  simp only [Q3, Bool.and_eq_true, Qgl, List.all_eq_true] at h
  rintro rfl
  exact absurd (h.2 _ hb) (by decide)
theorem Qg4 {a b x : ByteArray} (ha : Q3 a = true) (hb : Q3 b = true) (hx : Q3 (Qds x).1 = true) :
    Qds (swN a b (Qds x).1 ++ (Qds x).2) = (swN a b (Qds x).1, (Qds x).2) ∧ (Qds x).1 ++ (Qds x).2 = x := by
  have hm := name_mark (swN_name ha hb hx)
  rcases QfC x with ⟨e, h⟩ | ⟨u, c, l, rfl, hu, hc⟩
  · rw [e] at hm ⊢
    have e2 : ∀ y : ByteArray, y ++ (⟨#[]⟩ : ByteArray) = y := fun y => ByteArray.append_empty
    simp only [e2]
    exact ⟨QgT hm, trivial⟩
  · rw [QfL hu hc] at hm ⊢
    exact ⟨QfL hm hc, rfl⟩
end Go.Proofs.Yt


namespace Go.Proofs.Yt
open Go Go.FA Go.Proofs Go.RowKit
set_option linter.unusedSimpArgs false
theorem tailOk_size {c : ByteArray} (h : QcT c = true) : c.size ≤ 2 := by
  unfold QcT at h
  split at h
  · next he =>
    have e : c.size = c.data.toList.length := by simp
    rw [e, he]
    exact Nat.le_refl 2
  · cases h
end Go.Proofs.Yt
namespace Go.Proofs.Yt
open Go Go.FA Go.Proofs Go.RowKit
set_option linter.unusedSimpArgs false
set_option maxRecDepth 100000
theorem QiG : ∀ n, H97 n
  | 0 => fun t id s σ h => absurd h.1 (by have := Qhr t; omega)
  | n + 1 => h97 n (QiG n)
theorem okOp_size {x : ByteArray} (h : Qh7 x = true) : x.size ≤ 42 := by
  rw [Qf9] at h
  simp only [Bool.and_eq_true, Bool.or_eq_true, decide_eq_true_eq] at h
  obtain ⟨h4, h6⟩ := h
  have h7 := Qbs h4
  have h8 : (Qds x).2.size ≤ 2 := by
    rcases h6 with h6 | h6
    · rw [h6]; exact Nat.zero_le _
    · exact tailOk_size h6
  have e := (Qg4 h4 h4 h4).2
  rw [← e, ByteArray.size_append]; omega
theorem unn_size {x : ByteArray} (h : Qhq x = true) : x.size ≤ 1 := by
  simp [Qhq] at h
  rcases h with rfl | rfl <;> decide
theorem wrV_size {x s : ByteArray} (h : Qjy x s = true) : (wrV x s).size ≤ 81 := by
  unfold Qjy at h
  unfold wrV
  split
  · next hu => have := unn_size hu; omega
  · next hu =>
    rw [if_neg hu] at h
    simp only [Bool.and_eq_true] at h
    have h1 := Qbs h.1
    have h2 := Qbs h.2
    have e : (⟨#[58]⟩ : ByteArray).size = 1 := rfl
    simp only [ByteArray.size_append, e]; omega
theorem sepK_size (mp : Bool) (i : Nat) : (Qed mp i).size ≤ 4 := by
  unfold Qed
  repeat' split
  all_goals decide
theorem QhO {ne : Bool} {so : ByteArray} {r : List Tm} (h : QcG so r = true) : (wrR ne r).size ≤ 43 := by
  match r, h with
  | [], _ => show (⟨#[]⟩ : ByteArray).size ≤ 43; decide
  | [.mk k n x s ks q], h =>
    simp only [QcG, Bool.and_eq_true, decide_eq_true_eq] at h
    have h1 : (Tm.mk k n x s ks q).text.size ≤ 40 := Qbs h.2.1
    have h2 : (if ne = true then ⟨#[32]⟩ else ⟨#[]⟩ : ByteArray).size ≤ 1 := by split <;> decide
    have e : (⟨#[124, 32]⟩ : ByteArray).size = 2 := rfl
    have e0 : (⟨#[]⟩ : ByteArray).size = 0 := rfl
    simp only [wrR, Qea, ByteArray.size_append, e, e0]; omega
theorem text_size {x : ByteArray} (h : Qc1 x = true) : x.size ≤ 200 := by
  simp [Qc1] at h
  exact h.2
mutual
theorem Qic : ∀ t : Tm, Qd5 t = true → (wrT t).size + 4 ≤ 300 * tsz t
  | .mk k n x s ks r, h => by
    simp only [Qd5, Bool.and_eq_true] at h
    have h1 := QeB false ks 0 h.2.1
    have h1' := QeB true ks 0 h.2.1
    have hn := h.1
    rw [QaK]
    simp only [tsz]
    have e1 : ∀ c : UInt8, (⟨#[c]⟩ : ByteArray).size = 1 := fun _ => rfl
    simp only [Qas] at hn
    split
    · next hk =>
      rw [if_pos hk] at hn
      simp only [Bool.and_eq_true, decide_eq_true_eq] at hn
      have := Lib.itoa_length_le n (by omega) (by omega)
      have e : (⟨(Lib.itoa n).toArray⟩ : ByteArray).size = (Lib.itoa n).length := by show (Lib.itoa n).toArray.size = _; simp
      rw [e]; omega
    · next hk =>
      rw [if_neg hk] at hn
      split
      · have : (if n = 1 then ⟨#[116, 114, 117, 101]⟩ else ⟨#[102, 97, 108, 115, 101]⟩ : ByteArray).size ≤ 5 := by split <;> decide
        omega
      · next hk =>
        rw [if_neg hk] at hn
        split
        · next hk =>
          rw [if_pos hk] at hn
          simp only [Bool.and_eq_true] at hn
          have := text_size hn.2.1
          simp only [ByteArray.size_append, e1]; omega
        · next hk =>
          rw [if_neg hk] at hn
          split
          · next hk =>
            rw [if_pos hk] at hn
            simp only [Bool.and_eq_true, idB] at hn
            have := Qbs hn.2.1.1
            simp only [ByteArray.size_append, e1]; omega
          · next hk =>
            rw [if_neg hk] at hn
            split
            · next hk =>
              rw [if_pos hk] at hn
              simp only [Bool.and_eq_true] at hn
              have := okOp_size hn.2.1
              simp only [ByteArray.size_append, e1]; omega
            · next hk =>
              rw [if_neg hk] at hn
              split
              · next hk =>
                rw [if_pos hk] at hn
                simp only [Bool.and_eq_true] at hn
                have := wrV_size hn.2.1
                omega
              · next hk =>
                rw [if_neg hk] at hn
                split
                · next hk =>
                  rw [if_pos hk] at hn
                  simp only [Bool.and_eq_true] at hn
                  have := QhO (ne := decide (0 < ks.length)) hn.2.2.2
                  simp only [ByteArray.size_append, e1]; omega
                · next hk =>
                  rw [if_neg hk] at hn
                  split
                  · next hk =>
                    rw [if_pos hk] at hn
                    simp only [Bool.and_eq_true] at hn
                    have := QhO (ne := decide (0 < ks.length)) hn.2.2.2.2
                    simp only [ByteArray.size_append, e1]; omega
                  · next hk =>
                    rw [if_neg hk] at hn
                    cases hn
theorem QeB (mp : Bool) : ∀ (l : List Tm) (i : Nat), Qa1 l = true → (Qbb mp i l).size ≤ 300 * Qc8 l
  | [], i, _ => Nat.zero_le _
  | t :: l, i, h => by
    simp only [Qa1, Bool.and_eq_true] at h
    have h1 := Qic t h.1
    have h2 := QeB mp l (i + 1) h.2
    have h3 := sepK_size mp i
    simp only [Qbb, ByteArray.size_append, Qc8]; omega
end
theorem h98 (id : Nat) (s : ByteArray) (σ : St) (hw : Wr id s σ) : HC Tryz.prog 98 [.ptr id 0] σ (fun d σ' => d = .lit (.int .i64 s.size) ∧ Wr id s σ' ∧ Fr id σ σ') := by
  obtain ⟨hid, p, x, ho, hp, hx⟩ := hw
  have tT := Q7 (P := Tryz.prog)
  refine HC.of_body (T := QF []) Tryz.func98 rfl (by decide) (Nat.le_of_ble_eq_true rfl) fun E => ?_
  generalize QF [] = T at *
  refine Dwp.step tT rfl fun K hK => ?_
  simp [QB, QE, Ql, QK, own, Qm, dop, QJ, eval, Qy, QG, Ex.then, Ex.inBlock, upd, QL, Tag.isNN, Qn, intCmp, Qz, QA, TyI.agg, Qb, Qs, Qd, Qr, QM, QC, Qp, mapOf, Qx, Qo, Qe, Qk, Qg, Qu, DV.cells, Qt, Qh, Qq, Qv, rowsOf, Qw, Qf, Qa, Qa.go, Qi, Qj, Qc, goInt, init]
  refine hK _ _ ?_ rfl; clear hK K
  refine Dwp.step tT rfl fun K hK => ?_
  rcases hx with ⟨rfl, rfl⟩ | ⟨bid, hb, rfl, hob⟩
  · simp [QB, QE, Ql, QK, own, Qm, dop, QJ, eval, Qy, QG, Ex.then, Ex.inBlock, upd, QL, Tag.isNN, Qn, intCmp, Qz, QA, TyI.agg, Qb, Qs, Qd, Qr, QM, QC, Qp, mapOf, Qx, Qo, Qe, Qk, Qg, Qu, DV.cells, Qt, Qh, Qq, Qv, rowsOf, Qw, Qf, Qa, Qa.go, Qi, Qj, Qc, goInt, init, QiZ, Qhp, Qa9, Q9, ho]
    refine hK _ _ (Dwp.ret ?_) rfl
    refine ⟨.inr rfl, .lit (.int .i64 0), by show QH Tryz.prog _ _ [ResultVar.tmp 2] = _; simp [QH, QX, upd], rfl, ?_, ?_⟩
    · exact ⟨by simp only []; omega, _, _, ho, hp, .inl ⟨rfl, rfl⟩⟩
    · exact .n _ (by first | omega | (simp only []; omega)) (.refl _ _)
  · simp [QB, QE, Ql, QK, own, Qm, dop, QJ, eval, Qy, QG, Ex.then, Ex.inBlock, upd, QL, Tag.isNN, Qn, intCmp, Qz, QA, TyI.agg, Qb, Qs, Qd, Qr, QM, QC, Qp, mapOf, Qx, Qo, Qe, Qk, Qg, Qu, DV.cells, Qt, Qh, Qq, Qv, rowsOf, Qw, Qf, Qa, Qa.go, Qi, Qj, Qc, goInt, init, QiZ, Qhp, Qa9, Q9, ho]
    refine hK _ _ (Dwp.ret ?_) rfl
    refine ⟨.inr rfl, .lit (.int .i64 s.size), by show QH Tryz.prog _ _ [ResultVar.tmp 2] = _; simp [QH, QX, upd], rfl, ?_, ?_⟩
    · exact ⟨by simp only []; omega, _, _, ho, hp, .inr ⟨bid, by simp only []; omega, rfl, hob⟩⟩
    · exact .n _ (by first | omega | (simp only []; omega)) (.refl _ _)
end Go.Proofs.Yt
namespace Go.Proofs.Yt
open Go Go.FA Go.Proofs Go.RowKit
set_option linter.unusedSimpArgs false
abbrev bl (s : ByteArray) : List UInt8 := s.data.toList
theorem Qby (a b : ByteArray) : bl (a ++ b) = bl a ++ bl b := by simp [bl]
theorem Qd7 {a b : ByteArray} (h : bl a = bl b) : a = b := by
  apply ByteArray.ext; exact Array.toList_inj.1 h
def Qel (c : UInt8) : Bool := Qa4 (c.toNat : Int)
def Qhz (c : UInt8) : Bool := decide (48 ≤ c.toNat) && decide (c.toNat ≤ 57)
def Qhm (c : UInt8) : Bool := c == 44 || (c == 32 || (c == 41 || (c == 93 || (c == 125 || c == 124))))
def stop : List UInt8 → Prop
  | [] => True
  | c :: _ => Qhm c = true
def Qii : List UInt8 → Prop
  | [] => False
  | c :: t => c = 41 ∨ c = 93 ∨ c = 125 ∨ c = 124 ∨ (c = 32 ∧ ∃ t', t = 124 :: t')
theorem QdU {c : UInt8} (h : Qhm c = true) : c = 44 ∨ c = 32 ∨ c = 41 ∨ c = 93 ∨ c = 125 ∨ c = 124 := by
  simpa [Qhm] using h
theorem stop_nb {c : UInt8} (h : Qhm c = true) : Qel c = false := by
  rcases QdU h with rfl | rfl | rfl | rfl | rfl | rfl <;> decide
theorem stop_dg {c : UInt8} (h : Qhm c = true) : Qhz c = false := by
  rcases QdU h with rfl | rfl | rfl | rfl | rfl | rfl <;> decide
theorem end_stop {l : List UInt8} (h : Qii l) : stop l := by
  match l, h with
  | c :: t, h =>
    simp only [Qii] at h
    show Qhm c = true
    rcases h with rfl | rfl | rfl | rfl | ⟨rfl, _⟩ <;> decide
def Qhe (p : UInt8 → Bool) : List UInt8 → Prop
  | [] => True
  | c :: _ => p c = false
theorem Qdi {l : List UInt8} (h : stop l) : Qhe Qel l := by
  match l, h with
  | [], _ => trivial
  | c :: t, h => exact stop_nb h
theorem QgH {l : List UInt8} (h : stop l) : Qhe Qhz l := by
  match l, h with
  | [], _ => trivial
  | c :: t, h => exact stop_dg h
theorem Qau (p : UInt8 → Bool) : ∀ (a b u v : List UInt8), (∀ c ∈ a, p c = true) → (∀ c ∈ b, p c = true) → Qhe p u → Qhe p v → a ++ u = b ++ v → a = b ∧ u = v
  | [], [], u, v, _, _, _, _, h => ⟨rfl, h⟩
  | [], y :: b, u, v, _, hb, hu, _, h => by
    simp only [List.nil_append, List.cons_append] at h
    subst h
    have := hb y (by simp)
    simp only [Qhe] at hu
    rw [this] at hu; cases hu
  | x :: a, [], u, v, ha, _, _, hv, h => by
    simp only [List.nil_append, List.cons_append] at h
    subst h
    have := ha x (by simp)
    simp only [Qhe] at hv
    rw [this] at hv; cases hv
  | x :: a, y :: b, u, v, ha, hb, hu, hv, h => by
    simp only [List.cons_append, List.cons.injEq] at h
    obtain ⟨rfl, h⟩ := h
    obtain ⟨rfl, h2⟩ := Qau p a b u v (fun c hc => ha c (by simp [hc])) (fun c hc => hb c (by simp [hc])) hu hv h
    exact ⟨rfl, h2⟩
theorem QhW : ∀ (a u : List UInt8), (∀ c ∈ a, Qel c = true) → Qhe Qel u → (a ++ u).dropWhile Qel = u
  | [], [], _, _ => rfl
  | [], c :: u, _, hu => by
    simp only [Qhe] at hu
    simp [List.dropWhile, hu]
  | x :: a, u, ha, hu => by
    have := ha x (by simp)
    simp only [List.cons_append, List.dropWhile, this]
    exact QhW a u (fun c hc => ha c (by simp [hc])) hu
theorem Qax {x : ByteArray} (h : Q3 x = true) : ∀ c ∈ bl x, Qel c = true := by
  intro c hc
  simp only [Q3, Bool.and_eq_true, Qgl, List.all_eq_true] at h
  exact h.2 c hc
theorem name_head {x : ByteArray} (h : Q3 x = true) : ∃ c t, bl x = c :: t ∧ letter (c.toNat : Int) = true := by
  simp only [Q3, Bool.and_eq_true] at h
  have h2 := h.1.2
  split at h2
  · next c t e => exact ⟨c, t, e, h2⟩
  · cases h2
def Qen (l : List UInt8) : Nat := match l.dropWhile Qel with
  | c :: _ => if c = 58 then 6 else if c = 40 ∨ c = 39 then 5 else 2
  | [] => 2
def key (l : List UInt8) : Nat := match l with
  | [] => 0
  | c :: t => if c = 34 then 3 else if c = 39 then 4 else if c = 91 then 7 else if c = 123 then 8 else if c = 95 ∨ c = 36 then 60 else if Qhz c = true ∨ c = 45 then 1 else Qen (c :: t)
theorem key_letter {c : UInt8} {t : List UInt8} (h : letter (c.toNat : Int) = true) : key (c :: t) = Qen (c :: t) := by
  have h34 : c ≠ 34 := by rintro rfl; exact absurd h (by decide)
  have h39 : c ≠ 39 := by rintro rfl; exact absurd h (by decide)
  have h91 : c ≠ 91 := by rintro rfl; exact absurd h (by decide)
  have h123 : c ≠ 123 := by rintro rfl; exact absurd h (by decide)
  have h95 : c ≠ 95 := by rintro rfl; exact absurd h (by decide)
  have h36 : c ≠ 36 := by rintro rfl; exact absurd h (by decide)
  have h45 : c ≠ 45 := by rintro rfl; exact absurd h (by decide)
  have hd : Qhz c = false := by
    simp only [letter, Bool.or_eq_true, Bool.and_eq_true, decide_eq_true_eq] at h
    simp only [Qhz, Bool.and_eq_false_iff, decide_eq_false_iff_not]
    omega
  simp [key, h34, h39, h91, h123, h95, h36, h45, hd]
theorem Qgi {x : ByteArray} (h : Q3 x = true) {u : List UInt8} (hu : Qhe Qel u) : key (bl x ++ u) = (match u with | c :: _ => if c = 58 then 6 else if c = 40 ∨ c = 39 then 5 else 2 | [] => 2) := by
  obtain ⟨c, t, e, hc⟩ := name_head h
  have hd := QhW (bl x) u (Qax h) hu
  rw [e] at hd ⊢
  rw [List.cons_append, key_letter hc, ← List.cons_append]
  unfold Qen
  rw [hd]
  cases u <;> rfl
theorem QhC (u : Nat) (hu : ¬ u < 10) : Lib.decDigits u = Lib.decDigits (u / 10) ++ [UInt8.ofNat (48 + u % 10)] := by
  rw [Lib.decDigits, dif_neg hu]
theorem Qg8 : ∀ u : Nat, ∀ c ∈ Lib.decDigits u, Qhz c = true := by
  intro u
  induction u using Nat.strongRecOn with
  | _ u ih =>
    intro c hc
    rw [Lib.decDigits] at hc
    split at hc
    · next h =>
      simp only [List.mem_singleton] at hc
      subst hc
      have : (UInt8.ofNat (48 + u)).toNat = 48 + u := by simp [UInt8.toNat_ofNat']; omega
      simp [Qhz, this]; omega
    · next h =>
      rcases List.mem_append.1 hc with hc | hc
      · exact ih (u / 10) (by omega) c hc
      · simp only [List.mem_singleton] at hc
        subst hc
        have : (UInt8.ofNat (48 + u % 10)).toNat = 48 + u % 10 := by simp [UInt8.toNat_ofNat']; omega
        simp [Qhz, this]; omega
theorem Qji : ∀ u v : Nat, Lib.decDigits u = Lib.decDigits v → u = v := by
  intro u
  induction u using Nat.strongRecOn with
  | _ u ih =>
    intro v h
    have hl := congrArg List.length h
    rw [Lib.decDigits_length, Lib.decDigits_length] at hl
    have hofn : ∀ a b : Nat, a < 10 → b < 10 → UInt8.ofNat (48 + a) = UInt8.ofNat (48 + b) → a = b := by
      intro a b ha hb he
      have := congrArg UInt8.toNat he
      simp [UInt8.toNat_ofNat'] at this
      omega
    by_cases hu : u < 10
    · have hv : v < 10 := by
        rcases Nat.lt_or_ge v 10 with q | q
        · exact q
        · rw [Lib.nDigits_small hu, Lib.nDigits_big (by omega)] at hl
          have := Lib.nDigits_pos (v / 10); omega
      rw [Lib.decDigits_one hu, Lib.decDigits_one hv] at h
      simp only [List.cons.injEq, and_true] at h
      exact hofn u v hu hv h
    · have hv : ¬ v < 10 := by
        intro q
        rw [Lib.nDigits_small q, Lib.nDigits_big hu] at hl
        have := Lib.nDigits_pos (u / 10); omega
      rw [QhC u hu, QhC v hv] at h
      have h2 := List.append_inj' h rfl
      have h3 := ih (u / 10) (by omega) (v / 10) h2.1
      have h4 := h2.2
      simp only [List.cons.injEq, and_true] at h4
      have h5 := hofn (u % 10) (v % 10) (by omega) (by omega) h4
      omega
theorem QfP (u : Nat) : ∃ c t, Lib.decDigits u = c :: t ∧ Qhz c = true := by
  have h := Qg8 u
  cases e : Lib.decDigits u with
  | nil => have := Lib.decDigits_length u; rw [e] at this; have := Lib.nDigits_pos u; simp at *; omega
  | cons c t => rw [e] at h; exact ⟨c, t, rfl, h c (by simp)⟩
theorem itoa_split {n m : Int} {u v : List UInt8} (hu : Qhe Qhz u) (hv : Qhe Qhz v) (h : Lib.itoa n ++ u = Lib.itoa m ++ v) : n = m ∧ u = v := by
  unfold Lib.itoa at h
  obtain ⟨c, t, e, hc⟩ := QfP n.toNat
  obtain ⟨c', t', e', hc'⟩ := QfP m.toNat
  split at h
  · split at h
    · simp only [List.cons_append, List.cons.injEq, true_and] at h
      obtain ⟨h1, h2⟩ := Qau Qhz _ _ _ _ (Qg8 _) (Qg8 _) hu hv h
      have := Qji _ _ h1
      exact ⟨by omega, h2⟩
    · rw [e'] at h
      simp only [List.cons_append, List.cons.injEq] at h
      rw [← h.1] at hc'; exact absurd hc' (by decide)
  · split at h
    · rw [e] at h
      simp only [List.cons_append, List.cons.injEq] at h
      rw [h.1] at hc; exact absurd hc (by decide)
    · obtain ⟨h1, h2⟩ := Qau Qhz _ _ _ _ (Qg8 _) (Qg8 _) hu hv h
      have := Qji _ _ h1
      exact ⟨by omega, h2⟩
theorem Qkc {c : UInt8} {t : List UInt8} (h : Qhz c = true ∨ c = 45) : key (c :: t) = 1 := by
  have hn : ∀ d : UInt8, Qhz d = false → d ≠ 45 → c ≠ d := by
    rintro d h1 h2 rfl
    rcases h with h | h
    · rw [h1] at h; cases h
    · exact h2 h
  have h34 := hn 34 (by decide) (by decide)
  have h39 := hn 39 (by decide) (by decide)
  have h91 := hn 91 (by decide) (by decide)
  have h123 := hn 123 (by decide) (by decide)
  have h95 := hn 95 (by decide) (by decide)
  have h36 := hn 36 (by decide) (by decide)
  simp [key, h34, h39, h91, h123, h95, h36, h]
theorem key_itoa (n : Int) (u : List UInt8) : key (Lib.itoa n ++ u) = 1 := by
  unfold Lib.itoa
  split
  · exact Qkc (.inr rfl)
  · obtain ⟨c, t, e, hc⟩ := QfP n.toNat
    rw [e]
    exact Qkc (.inl hc)
end Go.Proofs.Yt

namespace Go.Proofs.Yt
open Go Go.FA Go.Proofs Go.RowKit
set_option linter.unusedSimpArgs false
set_option maxRecDepth 100000
def fitT (t : Tm) : Prop := okT t ∧ tsz t ≤ tlim
def textF (t : Tm) : ByteArray × Int := if QbA t = true then (if (wrT t).size ≤ 20000 then (wrT t, 0) else (⟨#[]⟩, 3)) else (⟨#[]⟩, 2)
open Classical in
noncomputable def sT43 : Sp := sp (QS Enc.tm) Enc.strErr (fun t => if fitT t then some (textF t) else none)
theorem Qj5 (t : Tm) (h : Qd5 t = true) : (wrT t).size ≠ 0 := by
  obtain ⟨k, n, x, s, ks, r⟩ := t
  simp only [Qd5, Bool.and_eq_true] at h
  have hn := h.1
  have e1 : ∀ c : UInt8, (⟨#[c]⟩ : ByteArray).size = 1 := fun _ => rfl
  simp only [Qas] at hn
  rw [QaK]
  repeat' split
  all_goals simp only [ByteArray.size_append, e1, ne_eq]
  all_goals try omega
  · show ¬ (Lib.itoa n).toArray.size = 0
    have := Qje n
    simp [this]
  · decide
  · decide
  all_goals simp [*] at hn
  have := Qka hn.2.1
  unfold wrV; split
  · exact this
  · simp only [ByteArray.size_append]; omega
set_option maxHeartbeats 4000000 in
theorem cT43 : QD Tryz.prog 43 sT43 := by
  refine QD.of_sp (T := QF [(23, s23)]) Tryz.func43 rfl (Nat.le_of_ble_eq_true rfl) fun E t y hy => ?_
  split at hy
  case isFalse => cases hy
  next hlim =>
  obtain ⟨hok, hl⟩ := hlim
  cases hy
  have tT : QP Tryz.prog (QF [(23, s23)]) := .cons e23 .nil
  have g := call23 (QF [(23, s23)]) rfl t hok hl
  generalize QF [(23, s23)] = T at *
  refine Dwp.step tT rfl fun K hK => ?_
  simp [QB, QE, Ql, QK, own, Qm, dop, QJ, eval, Qy, QG, Ex.then, Ex.inBlock, upd, QL, Tag.isNN, Qn, intCmp, Qz, QA, TyI.agg, Qb, Qs, Qd, Qr, QM, QC, Qp, mapOf, Qx, Qo, Qe, Qk, Qg, Qu, DV.cells, Qt, Qh, Qq, Qv, rowsOf, Qw, Qf, Qa, Qa.go, Qi, Qj, Qc, goInt, init, QS, QI.one, Enc.tm, Enc.agg, QI.tm, Tm.cells_len, Qah]
  refine hK _ _ ?_ rfl; clear hK K
  refine Dwp.seq ?_
  refine Dwp.step tT rfl fun K hK => ?_
  simp [QB, QE, Ql, QK, own, Qm, dop, QJ, eval, Qy, QG, Ex.then, Ex.inBlock, upd, QL, Tag.isNN, Qn, intCmp, Qz, QA, TyI.agg, Qb, Qs, Qd, Qr, QM, QC, Qp, mapOf, Qx, Qo, Qe, Qk, Qg, Qu, DV.cells, Qt, Qh, Qq, Qv, rowsOf, Qw, Qf, Qa, Qa.go, Qi, Qj, Qc, goInt, init, Qar, Tm.cells_len, Qah, g]
  refine hK _ _ ?_ rfl; clear hK K
  rcases hv : QbA t with _ | _
  · refine Dwp.condT (by simp [eval, upd, hv]) ?_
    refine Dwp.step tT rfl fun K hK => ?_
    simp [QB, QE, Ql, QK, own, Qm, dop, QJ, eval, Qy, QG, Ex.then, Ex.inBlock, upd, QL, Tag.isNN, Qn, intCmp, Qz, QA, TyI.agg, Qb, Qs, Qd, Qr, QM, QC, Qp, mapOf, Qx, Qo, Qe, Qk, Qg, Qu, DV.cells, Qt, Qh, Qq, Qv, rowsOf, Qw, Qf, Qa, Qa.go, Qi, Qj, Qc, goInt]
    refine hK _ _ (Dwp.ret ?_) rfl
    have hf : textF t = (⟨#[]⟩, 2) := by simp [textF, hv]
    rw [hf]
    simp [Q4, QH, QX, frz, Q0, QY, Ex.then, upd, Enc.strErr, Enc.tup, QR, QI.and, QI.one, Enc.str, Enc.i64, Enc.int]
  refine Dwp.condF (by simp [eval, upd, hv]) (Dwp.skip ?_)
  show Dwp _ _ _ _ _ _ _ _
  have hv2 := hv
  simp only [QbA, Bool.and_eq_true, decide_eq_true_eq] at hv2
  have hsz := Qic t hv2.1
  have hne := Qj5 t hv2.1
  refine Dwp.step tT rfl fun K hK => ?_
  simp [QB, QE, Ql, QK, own, Qm, dop, QJ, eval, Qy, QG, Ex.then, Ex.inBlock, upd, QL, Tag.isNN, Qn, intCmp, Qz, QA, TyI.agg, Qb, Qs, Qd, Qr, QM, QC, Qp, mapOf, Qx, Qo, Qe, Qk, Qg, Qu, DV.cells, Qt, Qh, Qq, Qv, rowsOf, Qw, Qf, Qa, Qa.go, Qi, Qj, Qc, goInt, Qbu]
  refine hK _ _ ?_ rfl
  clear hK K
  have hw0 : Wr (σ0.n + 6) ⟨#[]⟩ { n := σ0.n + 3 + 3 + 1, objs := upd σ0.objs (σ0.n + 6) (some (.cells 110 [.lit (.pointer none), .lit (.slice none 0 0)])), toks := σ0.toks } :=
    ⟨by simp only []; omega, .lit (.pointer none), .lit (.slice none 0 0), by simp [upd], .inl rfl, .inl ⟨rfl, rfl⟩⟩
  have hb0 : (⟨#[]⟩ : ByteArray).size + (wrT t).size ≤ 16777216 := by
    have e0 : (⟨#[]⟩ : ByteArray).size = 0 := rfl
    rw [e0]; omega
  generalize σ0.n + 6 = id at *
  refine Dwp.stepH fun K hK => ?_
  show Rg _ _ _ _ K ([0] ++ (1 :: [])) _ _
  refine Rg.run tT rfl _ _ _ ?_
  simp [Qac, Qa5, Qay, QB, QE, Ql, QK, own, Qm, dop, QJ, eval, Qy, QG, Ex.then, Ex.inBlock, upd, QL, Tag.isNN, Qn, intCmp, Qz, QA, TyI.agg, Qb, Qs, Qd, Qr, QM, QC, Qp, mapOf, Qx, Qo, Qe, Qk, Qg, Qu, DV.cells, Qt, Qh, Qq, Qv, rowsOf, Qw, Qf, Qa, Qa.go, Qi, Qj, Qc, goInt, Q9, init, Qar, Tm.cells_len, Qah]
  refine Rg.call (xs := [.ptr id 0, .agg t.cells]) rfl rfl rfl rfl (by rfl) (QiG tlim t id ⟨#[]⟩ _ ⟨hl, hl, hv2.1, hok⟩ (hw0.n _ (by first | omega | (simp only []; omega))) hb0) ?_
  rintro d σ1 ⟨gw1, gf1⟩
  rw [show (⟨#[]⟩ ++ wrT t : ByteArray) = wrT t from ByteArray.empty_append] at gw1
  refine Rg.nil (hK _ _ ?_)
  clear hK K
  refine Dwp.seq ?_
  refine Dwp.stepH fun K hK => ?_
  show Rg _ _ _ _ K ([0] ++ (1 :: ([2] ++ []))) _ _
  refine Rg.run tT rfl _ _ _ ?_
  simp [Qac, Qa5, Qay, QB, QE, Ql, QK, own, Qm, dop, QJ, eval, Qy, QG, Ex.then, Ex.inBlock, upd, QL, Tag.isNN, Qn, intCmp, Qz, QA, TyI.agg, Qb, Qs, Qd, Qr, QM, QC, Qp, mapOf, Qx, Qo, Qe, Qk, Qg, Qu, DV.cells, Qt, Qh, Qq, Qv, rowsOf, Qw, Qf, Qa, Qa.go, Qi, Qj, Qc, goInt, Q9, init, Qbu, Qa9]
  refine Rg.call (xs := [.ptr id 0]) rfl rfl rfl rfl (by rfl) (h98 id (wrT t) _ (gw1.n _ (by first | omega | (simp only []; omega)))) ?_
  rintro d σ2 ⟨rfl, gw2, gf2⟩
  show Rg _ _ _ _ K ([2] ++ []) _ _
  refine Rg.run tT rfl _ _ _ ?_
  simp [Qac, Qa5, Qay, QB, QE, Ql, QK, own, Qm, dop, QJ, eval, Qy, QG, Ex.then, Ex.inBlock, upd, QL, Tag.isNN, Qn, intCmp, Qz, QA, TyI.agg, Qb, Qs, Qd, Qr, QM, QC, Qp, mapOf, Qx, Qo, Qe, Qk, Qg, Qu, DV.cells, Qt, Qh, Qq, Qv, rowsOf, Qw, Qf, Qa, Qa.go, Qi, Qj, Qc, goInt, Q9, init, ty3]
  refine Rg.nil (hK _ _ ?_)
  clear hK K
  by_cases h2 : (wrT t).size ≤ 20000
  case neg =>
    have hd : decide (20000 < (wrT t).size) = true := decide_eq_true (by omega)
    refine Dwp.condT (by simp [eval, upd, hd]; try omega) ?_
    refine Dwp.step tT rfl fun K hK => ?_
    simp [QB, QE, Ql, QK, own, Qm, dop, QJ, eval, Qy, QG, Ex.then, Ex.inBlock, upd, QL, Tag.isNN, Qn, intCmp, Qz, QA, TyI.agg, Qb, Qs, Qd, Qr, QM, QC, Qp, mapOf, Qx, Qo, Qe, Qk, Qg, Qu, DV.cells, Qt, Qh, Qq, Qv, rowsOf, Qw, Qf, Qa, Qa.go, Qi, Qj, Qc, goInt]
    refine hK _ _ (Dwp.ret ?_) rfl
    have hf : textF t = (⟨#[]⟩, 3) := by simp [textF, hv, h2]
    rw [hf]
    simp [Q4, QH, QX, frz, Q0, QY, Ex.then, upd, Enc.strErr, Enc.tup, QR, QI.and, QI.one, Enc.str, Enc.i64, Enc.int]
  have hd : decide (20000 < (wrT t).size) = false := decide_eq_false (by omega)
  refine Dwp.condF (by simp [eval, upd, hd]; try omega) (Dwp.skip ?_)
  show Dwp _ _ _ _ _ _ _ _
  have hf : textF t = (wrT t, 0) := by simp [textF, hv, h2]
  rw [hf]
  generalize wrT t = s at *
  obtain ⟨hid, p, x, ho, hp, hx⟩ := gw2
  rcases hx with ⟨_, rfl⟩ | ⟨bid, hb, rfl, hob⟩
  · exact absurd rfl hne
  refine Dwp.stepH fun K hK => ?_
  show Rg _ _ _ _ K ([0] ++ (1 :: ([2, 3] ++ []))) _ _
  refine Rg.run tT rfl _ _ _ ?_
  simp [Qac, Qa5, Qay, QB, QE, Ql, QK, own, Qm, dop, QJ, eval, Qy, QG, Ex.then, Ex.inBlock, upd, QL, Tag.isNN, Qn, intCmp, Qz, QA, TyI.agg, Qb, Qs, Qd, Qr, QM, QC, Qp, mapOf, Qx, Qo, Qe, Qk, Qg, Qu, DV.cells, Qt, Qh, Qq, Qv, rowsOf, Qw, Qf, Qa, Qa.go, Qi, Qj, Qc, goInt, Q9, init, Qbu, Qa9]
  refine Rg.reset (f := 99) (x := .tmp 13) (tys := #[108]) (r := .string s) E.2 rfl rfl rfl rfl ⟨Tryz.f99, _, Tryz.func99, rfl, by decide⟩ ?_ ?_
  · intro C w v hs hv
    simp only [eval, QJ, upd] at hv
    exact Qe9 (id := id) (bid := bid) (p := p) (by simpa using ho) (by simpa using hob) hne (by omega) C w v hs (by simpa using hv)
  · show Rg _ _ _ _ K ([2, 3] ++ []) _ _
    refine Rg.run tT rfl _ _ _ ?_
    simp [Qac, Qa5, Qay, QB, QE, Ql, QK, own, Qm, dop, QJ, eval, Qy, QG, Ex.then, Ex.inBlock, upd, QL, Tag.isNN, Qn, intCmp, Qz, QA, TyI.agg, Qb, Qs, Qd, Qr, QM, QC, Qp, mapOf, Qx, Qo, Qe, Qk, Qg, Qu, DV.cells, Qt, Qh, Qq, Qv, rowsOf, Qw, Qf, Qa, Qa.go, Qi, Qj, Qc, goInt]
    refine Rg.nil (hK _ _ (Dwp.ret ?_))
    refine ⟨.inr rfl, .tuple [.lit (.string s), .lit (.int .i64 0)], ?_, ?_⟩
    · show QH Tryz.prog _ _ [.tmp 2, .tmp 3] = _
      simp [QH, QX, QJ, upd]
    · simp [Enc.strErr, Enc.tup, QR, QI.and, QI.one, Enc.str, Enc.i64, Enc.int, frz, QY, Q0]
theorem eT43 : Go.FA.Good Tryz.prog (43, sT43) := ⟨cT43, Tryz.f43, _, Tryz.func43, rfl, by decide⟩
end Go.Proofs.Yt
namespace Go.Proofs.Yt
open Go Go.FA Go.Proofs Go.RowKit
set_option linter.unusedSimpArgs false
theorem bl1 (c : UInt8) : bl ⟨#[c]⟩ = [c] := rfl
theorem bl0 : bl ⟨#[]⟩ = [] := rfl
theorem QfW {x : ByteArray} (h : Qh7 x = true) : ∃ c1 c2 : ByteArray, x = c1 ++ c2 ∧ Q3 c1 = true ∧ (c2 = ⟨#[]⟩ ∨ ∃ d, bl c2 = [39, d]) := by
  rw [Qf9] at h
  simp only [Bool.and_eq_true, Bool.or_eq_true, decide_eq_true_eq] at h
  obtain ⟨h4, h6⟩ := h
  refine ⟨(Qds x).1, (Qds x).2, ((Qg4 h4 h4 h4).2).symm, h4, ?_⟩
  rcases h6 with h6 | h6
  · exact .inl h6
  · rcases QfC x with ⟨e, _⟩ | ⟨u, c, l, e, hu, hc⟩
    · rw [e] at h6
      have h7 : QcT ⟨#[]⟩ = true := h6
      exact absurd h7 (by decide)
    · have e2 : (Qds x).2 = c := by rw [e, QfL hu hc]
      rw [e2] at h6 ⊢
      unfold QcT at h6
      split at h6
      · next a d he =>
        have he' : bl c = [a, d] := he
        have hc' : bl c = 39 :: l := hc
        rw [he'] at hc'
        simp only [List.cons.injEq] at hc'
        exact .inr ⟨d, by rw [he', hc'.1]⟩
      · cases h6
theorem Qez {x : ByteArray} (h : Qhq x = true) : x = ⟨#[95]⟩ ∨ x = ⟨#[36]⟩ := by simpa [Qhq] using h
def strAny : ByteArray := ⟨#[65, 110, 121]⟩
def strList : ByteArray := ⟨#[76, 105, 115, 116]⟩
def QhZ : ByteArray := ⟨#[77, 97, 112]⟩
theorem wr1 (n : Int) (x s : ByteArray) (ks r : List Tm) : bl (wrT (.mk 1 n x s ks r)) = Lib.itoa n := by rw [QaK]; simp [bl]
theorem wr2 (n : Int) (x s : ByteArray) (ks r : List Tm) : bl (wrT (.mk 2 n x s ks r)) = if n = 1 then [116, 114, 117, 101] else [102, 97, 108, 115, 101] := by rw [QaK]; simp; split <;> rfl
theorem wr3 (n : Int) (x s : ByteArray) (ks r : List Tm) : bl (wrT (.mk 3 n x s ks r)) = 34 :: (bl x ++ [34]) := by rw [QaK]; simp [bl]
theorem wr4 (n : Int) (x s : ByteArray) (ks r : List Tm) : bl (wrT (.mk 4 n x s ks r)) = 39 :: bl x := by rw [QaK]; simp [bl]
theorem wr5 (n : Int) (x s : ByteArray) (ks r : List Tm) : bl (wrT (.mk 5 n x s ks r)) = bl x ++ (40 :: (bl (Qbb false 0 ks) ++ [41])) := by rw [QaK]; simp [bl]
theorem wr6 (n : Int) (x s : ByteArray) (ks r : List Tm) : bl (wrT (.mk 6 n x s ks r)) = if Qhq x = true then bl x else bl x ++ (58 :: bl s) := by rw [QaK]; simp [wrV]; split <;> simp [bl]
theorem wr7 (n : Int) (x s : ByteArray) (ks r : List Tm) : bl (wrT (.mk 7 n x s ks r)) = 91 :: (bl (Qbb false 0 ks) ++ (bl (wrR (decide (0 < ks.length)) r) ++ [93])) := by rw [QaK]; simp [bl]
theorem wr8 (n : Int) (x s : ByteArray) (ks r : List Tm) : bl (wrT (.mk 8 n x s ks r)) = 123 :: (bl (Qbb true 0 ks) ++ (bl (wrR (decide (0 < ks.length)) r) ++ [125])) := by rw [QaK]; simp [bl]
theorem QiS (l : List UInt8) : Qhe Qel (40 :: l) := by show Qel 40 = false; decide
theorem Qiy (l : List UInt8) : Qhe Qel (39 :: l) := by show Qel 39 = false; decide
theorem off58 (l : List UInt8) : Qhe Qel (58 :: l) := by show Qel 58 = false; decide
theorem forms (t : Tm) (h : Qd5 t = true) (u : List UInt8) (hu : stop u) :
    (key (bl (wrT t) ++ u) = 1 ∧ ∃ n, t = .mk 1 n ⟨#[]⟩ ⟨#[]⟩ [] []) ∨
    (key (bl (wrT t) ++ u) = 2 ∧ ∃ n, (n = 0 ∨ n = 1) ∧ t = .mk 2 n ⟨#[]⟩ ⟨#[]⟩ [] []) ∨
    (key (bl (wrT t) ++ u) = 3 ∧ ∃ x, Qc1 x = true ∧ t = .mk 3 0 x ⟨#[]⟩ [] []) ∨
    (key (bl (wrT t) ++ u) = 4 ∧ ∃ x, Q3 x = true ∧ t = .mk 4 0 x ⟨#[]⟩ [] []) ∨
    (key (bl (wrT t) ++ u) = 5 ∧ ∃ x ks, Qh7 x = true ∧ Qa1 ks = true ∧ t = .mk 5 0 x ⟨#[]⟩ ks []) ∨
    (key (bl (wrT t) ++ u) = 60 ∧ ∃ x, Qhq x = true ∧ t = .mk 6 0 x strAny [] []) ∨
    (key (bl (wrT t) ++ u) = 6 ∧ ∃ x s, Q3 x = true ∧ Q3 s = true ∧ Qhq x = false ∧ t = .mk 6 0 x s [] []) ∨
    (key (bl (wrT t) ++ u) = 7 ∧ ∃ ks r, QcG strList r = true ∧ Qa1 r = true ∧ Qa1 ks = true ∧ t = .mk 7 0 ⟨#[]⟩ ⟨#[]⟩ ks r) ∨
    (key (bl (wrT t) ++ u) = 8 ∧ ∃ ks r, QcG QhZ r = true ∧ Qa1 r = true ∧ Qa1 ks = true ∧ t = .mk 8 0 ⟨#[]⟩ ⟨#[]⟩ ks r) := by
  obtain ⟨k, n, x, s, ks, r⟩ := t
  simp only [Qd5, Bool.and_eq_true] at h
  obtain ⟨hn, hks, hr⟩ := h
  by_cases h1 : k = 1
  · subst h1
    simp [Qas] at hn
    obtain ⟨_, _, rfl, rfl, hl⟩ := hn
    obtain ⟨rfl, rfl⟩ := QbY hl
    exact .inl ⟨by rw [wr1]; exact key_itoa n u, n, rfl⟩
  by_cases h2 : k = 2
  · subst h2
    simp [Qas] at hn
    obtain ⟨hv, rfl, rfl, hl⟩ := hn
    obtain ⟨rfl, rfl⟩ := QbY hl
    refine .inr (.inl ⟨?_, n, hv, rfl⟩)
    rw [wr2]
    have key2 : ∀ w : ByteArray, Q3 w = true → key (bl w ++ u) = 2 := by
      intro w hw
      rw [Qgi hw (Qdi hu)]
      cases u with
      | nil => rfl
      | cons c t =>
        have := QdU (show Qhm c = true from hu)
        rcases this with rfl | rfl | rfl | rfl | rfl | rfl <;> rfl
    split
    · exact key2 ⟨#[116, 114, 117, 101]⟩ (by decide)
    · exact key2 ⟨#[102, 97, 108, 115, 101]⟩ (by decide)
  by_cases h3 : k = 3
  · subst h3
    simp [Qas] at hn
    obtain ⟨rfl, hv, rfl, hl⟩ := hn
    obtain ⟨rfl, rfl⟩ := QbY hl
    exact .inr (.inr (.inl ⟨by rw [wr3]; rfl, x, hv, rfl⟩))
  by_cases h4 : k = 4
  · subst h4
    simp [Qas] at hn
    obtain ⟨rfl, hv, rfl, hl⟩ := hn
    obtain ⟨rfl, rfl⟩ := QbY hl
    simp only [idB, Bool.and_eq_true] at hv
    exact .inr (.inr (.inr (.inl ⟨by rw [wr4]; rfl, x, hv.1, rfl⟩)))
  by_cases h5 : k = 5
  · subst h5
    simp [Qas] at hn
    obtain ⟨rfl, hv, rfl, hl, rfl⟩ := hn
    refine .inr (.inr (.inr (.inr (.inl ⟨?_, x, ks, hv, hks, rfl⟩))))
    obtain ⟨c1, c2, rfl, hc1, hc2⟩ := QfW hv
    rw [wr5, Qby]
    rcases hc2 with rfl | ⟨d, e⟩
    · simp only [bl0, List.append_nil, List.append_assoc, List.cons_append]
      rw [Qgi hc1 (QiS _)]; rfl
    · simp only [e, List.append_assoc, List.cons_append]
      rw [Qgi hc1 (Qiy _)]; rfl
  by_cases h6 : k = 6
  · subst h6
    simp [Qas] at hn
    obtain ⟨rfl, hv, hl⟩ := hn
    obtain ⟨rfl, rfl⟩ := QbY hl
    unfold Qjy at hv
    rw [wr6]
    rcases hun : Qhq x with _ | _
    · simp [hun] at hv
      refine .inr (.inr (.inr (.inr (.inr (.inr (.inl ⟨?_, x, s, hv.1, hv.2, hun, rfl⟩))))))
      simp only [Bool.false_eq_true, if_false, List.append_assoc, List.cons_append]
      rw [Qgi hv.1 (off58 _)]; rfl
    · simp [hun] at hv
      subst hv
      refine .inr (.inr (.inr (.inr (.inr (.inl ⟨?_, x, hun, rfl⟩)))))
      rcases Qez hun with rfl | rfl <;> rfl
  by_cases h7 : k = 7
  · subst h7
    simp [Qas] at hn
    obtain ⟨rfl, rfl, rfl, hl⟩ := hn
    exact .inr (.inr (.inr (.inr (.inr (.inr (.inr (.inl ⟨by rw [wr7]; rfl, ks, r, hl, hr, hks, rfl⟩)))))))
  by_cases h8 : k = 8
  · subst h8
    simp [Qas] at hn
    obtain ⟨rfl, rfl, rfl, _, hl⟩ := hn
    exact .inr (.inr (.inr (.inr (.inr (.inr (.inr (.inr ⟨by rw [wr8]; rfl, ks, r, hl, hr, hks, rfl⟩)))))))
  simp [Qas, h1, h2, h3, h4, h5, h6, h7, h8] at hn
theorem Qf6 {so : ByteArray} {ne : Bool} {r : List Tm} {c : UInt8} {u : List UInt8} (hr : QcG so r = true) (hc : c = 93 ∨ c = 125) : Qii (bl (wrR ne r) ++ (c :: u)) := by
  match r, hr with
  | [], _ =>
    show c = 41 ∨ _
    rcases hc with rfl | rfl
    · exact .inr (.inl rfl)
    · exact .inr (.inr (.inl rfl))
  | [.mk k n x s ks q], h =>
    cases ne
    · simp only [wrR, Qea, Qby, Bool.false_eq_true, if_false, bl0, List.nil_append]
      exact .inr (.inr (.inr (.inl rfl)))
    · simp only [wrR, Qea, Qby, if_true]
      exact .inr (.inr (.inr (.inr ⟨rfl, _, rfl⟩)))
theorem Qjs {so : ByteArray} {ne : Bool} {r r' : List Tm} {c : UInt8} {u v : List UInt8} (hr : QcG so r = true) (hr' : QcG so r' = true) (ha : Qa1 r = true) (ha' : Qa1 r' = true) (hc : c = 93 ∨ c = 125)
    (h : bl (wrR ne r) ++ (c :: u) = bl (wrR ne r') ++ (c :: v)) : r = r' ∧ u = v := by
  have hsep : ∀ w : List UInt8, bl (if ne = true then ⟨#[32]⟩ else ⟨#[]⟩) ++ ([124, 32] ++ w) ≠ c :: u ∧ bl (if ne = true then ⟨#[32]⟩ else ⟨#[]⟩) ++ ([124, 32] ++ w) ≠ c :: v := by
    intro w
    cases ne <;> rcases hc with rfl | rfl <;> simp [bl]
  match r, r', hr, hr' with
  | [], [], _, _ =>
    simp only [wrR, Qea, bl0, List.nil_append, List.cons.injEq, true_and] at h
    exact ⟨rfl, h⟩
  | [], [.mk k n x s ks q], _, _ =>
    exfalso
    simp only [wrR, Qea, Qby, bl0, List.nil_append, List.append_nil, List.append_assoc] at h
    exact (hsep _).1 h.symm
  | [.mk k n x s ks q], [], _, _ =>
    exfalso
    simp only [wrR, Qea, Qby, bl0, List.nil_append, List.append_nil, List.append_assoc] at h
    exact (hsep _).2 h
  | [.mk k n x s ks q], [.mk k' n' x' s' ks' q'], hr, hr' =>
    simp only [QcG, Bool.and_eq_true, decide_eq_true_eq] at hr hr'
    obtain ⟨q1, q2, q3⟩ := hr
    obtain ⟨p1, p2, p3⟩ := hr'
    have q4 : k = 6 := q1
    have p4 : k' = 6 := p1
    have q5 : Q3 x = true := q2
    have p5 : Q3 x' = true := p2
    have q6 : s = so := q3
    have p6 : s' = so := p3
    clear q1 q2 q3 p1 p2 p3
    subst q4 p4
    rw [q6] at ha ⊢
    rw [p6] at ha' ⊢
    clear q6 p6
    simp only [Qa1, Qd5, Bool.and_eq_true] at ha ha'
    have hn := ha.1.1
    have hn' := ha'.1.1
    simp [Qas] at hn hn'
    obtain ⟨rfl, _, hl⟩ := hn
    obtain ⟨rfl, _, hl'⟩ := hn'
    obtain ⟨rfl, rfl⟩ := QbY hl
    obtain ⟨rfl, rfl⟩ := QbY hl'
    simp only [wrR, Qea, Qby, bl0, List.append_nil, List.append_assoc, List.append_cancel_left_eq, Tm.text] at h
    have hoff : ∀ w : List UInt8, Qhe Qel (c :: w) := fun w => by rcases hc with rfl | rfl <;> (show Qel _ = false; decide)
    obtain ⟨e1, e2⟩ := Qau Qel _ _ _ _ (Qax q5) (Qax p5) (hoff u) (hoff v) h
    have hxx : x = x' := Qd7 e1
    simp only [List.cons.injEq, true_and] at e2
    exact ⟨by rw [hxx], e2⟩
theorem QiQ {x : ByteArray} (h : Qc1 x = true) : ∀ c ∈ bl x, (c != 34) = true := by
  intro c hc
  simp only [Qc1, Bool.and_eq_true, Qgl, List.all_eq_true] at h
  have := h.1 c hc
  simp only [Qa6, Bool.not_eq_true', Bool.or_eq_false_iff] at this
  have h34 : (c.toNat : Int) ≠ 34 := by simpa using this.2.2.1
  have : c ≠ 34 := by rintro rfl; exact h34 rfl
  simpa using this
theorem Qj6 (l : List UInt8) : Qhe (fun c => c != 34) (34 :: l) := rfl
set_option maxHeartbeats 4000000 in
theorem wr_step {k n : Int} {x s : ByteArray} {ks r : List Tm} (ha : Qd5 (.mk k n x s ks r) = true)
    (ih : ∀ (ks' : List Tm) (mp : Bool) (i : Nat) (U V : List UInt8), Qa1 ks' = true → Qii U → Qii V → bl (Qbb mp i ks) ++ U = bl (Qbb mp i ks') ++ V → ks = ks' ∧ U = V)
    (b : Tm) (u v : List UInt8) (hb : Qd5 b = true) (hu : stop u) (hv : stop v) (h : bl (wrT (.mk k n x s ks r)) ++ u = bl (wrT b) ++ v) : Tm.mk k n x s ks r = b ∧ u = v := by
  have fa := forms _ ha u hu
  have fb := forms b hb v hv
  rw [h] at fa
  rcases fa with ⟨ka, fa⟩ | ⟨ka, fa⟩ | ⟨ka, fa⟩ | ⟨ka, fa⟩ | ⟨ka, fa⟩ | ⟨ka, fa⟩ | ⟨ka, fa⟩ | ⟨ka, fa⟩ | ⟨ka, fa⟩ <;>
  rcases fb with ⟨kb, fb⟩ | ⟨kb, fb⟩ | ⟨kb, fb⟩ | ⟨kb, fb⟩ | ⟨kb, fb⟩ | ⟨kb, fb⟩ | ⟨kb, fb⟩ | ⟨kb, fb⟩ | ⟨kb, fb⟩ <;>
  first
    | exact absurd (ka.symm.trans kb) (by decide)
    | clear ka kb
  · obtain ⟨n1, e1⟩ := fa
    obtain ⟨n2, rfl⟩ := fb
    rw [e1, wr1, wr1] at h
    obtain ⟨rfl, h2⟩ := itoa_split (QgH hu) (QgH hv) h
    exact ⟨e1, h2⟩
  · obtain ⟨n1, hn1, e1⟩ := fa
    obtain ⟨n2, hn2, rfl⟩ := fb
    rw [e1, wr2, wr2] at h
    rcases hn1 with rfl | rfl <;> rcases hn2 with rfl | rfl <;> simp at h
    · exact ⟨e1, h⟩
    · exact ⟨e1, h⟩
  · obtain ⟨x1, hx1, e1⟩ := fa
    obtain ⟨x2, hx2, rfl⟩ := fb
    rw [e1, wr3, wr3] at h
    simp only [List.cons_append, List.append_assoc, List.nil_append, List.cons.injEq, true_and] at h
    obtain ⟨e2, e3⟩ := Qau (fun c => c != 34) _ _ _ _ (QiQ hx1) (QiQ hx2) (Qj6 _) (Qj6 _) h
    simp only [List.cons.injEq, true_and] at e3
    rw [e1, Qd7 e2]
    exact ⟨rfl, e3⟩
  · obtain ⟨x1, hx1, e1⟩ := fa
    obtain ⟨x2, hx2, rfl⟩ := fb
    rw [e1, wr4, wr4] at h
    simp only [List.cons_append, List.cons.injEq, true_and] at h
    obtain ⟨e2, e3⟩ := Qau Qel _ _ _ _ (Qax hx1) (Qax hx2) (Qdi hu) (Qdi hv) h
    rw [e1, Qd7 e2]
    exact ⟨rfl, e3⟩
  · obtain ⟨x1, k1, hx1, hk1, e1⟩ := fa
    obtain ⟨x2, k2, hx2, hk2, rfl⟩ := fb
    have ek : ks = k1 := by injection e1
    rw [e1, wr5, wr5] at h
    rw [ek] at ih
    obtain ⟨c1, c2, rfl, hc1, hc2⟩ := QfW hx1
    obtain ⟨d1, d2, rfl, hd1, hd2⟩ := QfW hx2
    have kid : bl (Qbb false 0 k1) ++ (41 :: u) = bl (Qbb false 0 k2) ++ (41 :: v) → k1 = k2 ∧ u = v := fun q => by
      obtain ⟨q1, q2⟩ := ih k2 false 0 (41 :: u) (41 :: v) hk2 (.inl rfl) (.inl rfl) q
      simp only [List.cons.injEq, true_and] at q2
      exact ⟨q1, q2⟩
    rcases hc2 with rfl | ⟨c, ec⟩ <;> rcases hd2 with rfl | ⟨d, ed⟩
    · simp only [Qby, bl0, List.append_nil, List.append_assoc, List.cons_append, List.nil_append] at h
      obtain ⟨e2, e3⟩ := Qau Qel _ _ _ _ (Qax hc1) (Qax hd1) (QiS _) (QiS _) h
      simp only [List.cons.injEq, true_and] at e3
      obtain ⟨rfl, e4⟩ := kid e3
      rw [e1, Qd7 e2]
      exact ⟨rfl, e4⟩
    · exfalso
      simp only [Qby, bl0, ed, List.append_nil, List.append_assoc, List.cons_append, List.nil_append] at h
      obtain ⟨e2, e3⟩ := Qau Qel _ _ _ _ (Qax hc1) (Qax hd1) (QiS _) (Qiy _) h
      simp at e3
    · exfalso
      simp only [Qby, bl0, ec, List.append_nil, List.append_assoc, List.cons_append, List.nil_append] at h
      obtain ⟨e2, e3⟩ := Qau Qel _ _ _ _ (Qax hc1) (Qax hd1) (Qiy _) (QiS _) h
      simp at e3
    · simp only [Qby, ec, ed, List.append_assoc, List.cons_append, List.nil_append] at h
      obtain ⟨e2, e3⟩ := Qau Qel _ _ _ _ (Qax hc1) (Qax hd1) (Qiy _) (Qiy _) h
      simp only [List.cons.injEq, true_and] at e3
      obtain ⟨rfl, e4⟩ := kid e3.2
      have e5 : c2 = d2 := Qd7 (by rw [ec, ed, e3.1])
      rw [e1, Qd7 e2, e5]
      exact ⟨rfl, e4⟩
  · obtain ⟨x1, hx1, e1⟩ := fa
    obtain ⟨x2, hx2, rfl⟩ := fb
    rw [e1, wr6, wr6, if_pos hx1, if_pos hx2] at h
    rcases Qez hx1 with rfl | rfl <;> rcases Qez hx2 with rfl | rfl <;> simp [bl1] at h
    · exact ⟨e1, h⟩
    · exact ⟨e1, h⟩
  · obtain ⟨x1, s1, hx1, hs1, hu1, e1⟩ := fa
    obtain ⟨x2, s2, hx2, hs2, hu2, rfl⟩ := fb
    rw [e1, wr6, wr6, if_neg (by rw [hu1]; decide), if_neg (by rw [hu2]; decide)] at h
    simp only [List.cons_append, List.append_assoc] at h
    obtain ⟨e2, e3⟩ := Qau Qel _ _ _ _ (Qax hx1) (Qax hx2) (off58 _) (off58 _) h
    simp only [List.cons.injEq, true_and] at e3
    obtain ⟨e4, e5⟩ := Qau Qel _ _ _ _ (Qax hs1) (Qax hs2) (Qdi hu) (Qdi hv) e3
    rw [e1, Qd7 e2, Qd7 e4]
    exact ⟨rfl, e5⟩
  · obtain ⟨k1, r1, hr1, har1, hk1, e1⟩ := fa
    obtain ⟨k2, r2, hr2, har2, hk2, rfl⟩ := fb
    have ek : ks = k1 := by injection e1
    rw [e1, wr7, wr7] at h
    rw [ek] at ih
    simp only [List.cons_append, List.append_assoc, List.nil_append, List.cons.injEq, true_and] at h
    obtain ⟨rfl, e3⟩ := ih k2 false 0 _ _ hk2 (Qf6 hr1 (.inl rfl)) (Qf6 hr2 (.inl rfl)) h
    obtain ⟨rfl, e4⟩ := Qjs hr1 hr2 har1 har2 (.inl rfl) e3
    exact ⟨e1, e4⟩
  · obtain ⟨k1, r1, hr1, har1, hk1, e1⟩ := fa
    obtain ⟨k2, r2, hr2, har2, hk2, rfl⟩ := fb
    have ek : ks = k1 := by injection e1
    rw [e1, wr8, wr8] at h
    rw [ek] at ih
    simp only [List.cons_append, List.append_assoc, List.nil_append, List.cons.injEq, true_and] at h
    obtain ⟨rfl, e3⟩ := ih k2 true 0 _ _ hk2 (Qf6 hr1 (.inr rfl)) (Qf6 hr2 (.inr rfl)) h
    obtain ⟨rfl, e4⟩ := Qjs hr1 hr2 har1 har2 (.inr rfl) e3
    exact ⟨e1, e4⟩
theorem wr_head {t : Tm} (h : Qd5 t = true) (z : List UInt8) : ¬ Qii (bl (wrT t) ++ z) := by
  have hf := forms t h [] trivial
  rw [List.append_nil] at hf
  intro he
  have hne := Qj5 t h
  cases e : bl (wrT t) with
  | nil =>
    have : (wrT t).size = (bl (wrT t)).length := by simp [bl]
    rw [e] at this
    exact hne this
  | cons c l =>
    rw [e] at he hf
    simp only [List.cons_append, Qii] at he
    have hc : c = 41 ∨ c = 93 ∨ c = 125 ∨ c = 124 ∨ c = 32 := by
      rcases he with h | h | h | h | ⟨h, _⟩
      · exact .inl h
      · exact .inr (.inl h)
      · exact .inr (.inr (.inl h))
      · exact .inr (.inr (.inr (.inl h)))
      · exact .inr (.inr (.inr (.inr h)))
    have hk : key (c :: l) = 2 := by
      rcases hc with rfl | rfl | rfl | rfl | rfl <;> rfl
    rw [hk] at hf
    rcases hf with ⟨q, _⟩ | ⟨_, n, _, rfl⟩ | ⟨q, _⟩ | ⟨q, _⟩ | ⟨q, _⟩ | ⟨q, _⟩ | ⟨q, _⟩ | ⟨q, _⟩ | ⟨q, _⟩
    · cases q
    · rw [wr2] at e
      split at e <;> simp only [List.cons.injEq] at e <;> (rw [← e.1] at hc; revert hc; decide)
    all_goals cases q
theorem Qj7 {mp : Bool} {i : Nat} {t : Tm} {U z : List UInt8} (hU : Qii U) (ht : Qd5 t = true) : U ≠ bl (Qed mp i) ++ (bl (wrT t) ++ z) := by
  rintro rfl
  unfold Qed at hU
  split at hU
  · simp only [bl0, List.nil_append] at hU
    exact wr_head ht z hU
  · split at hU
    · simp [bl, Qii] at hU
    · simp [bl, Qii] at hU
theorem QgQ {mp : Bool} {i : Nat} {l : List Tm} {U : List UInt8} (hU : Qii U) : stop (bl (Qbb mp (i + 1) l) ++ U) := by
  cases l with
  | nil => simp only [Qbb, bl0, List.nil_append]; exact end_stop hU
  | cons t l =>
    simp only [Qbb, Qby, Qed, Nat.add_one_ne_zero, if_false]
    split <;> rfl
mutual
theorem QjR : ∀ a : Tm, Qd5 a = true → ∀ (b : Tm) (u v : List UInt8), Qd5 b = true → stop u → stop v → bl (wrT a) ++ u = bl (wrT b) ++ v → a = b ∧ u = v
  | .mk k n x s ks r, ha, b, u, v, hb, hu, hv, h => by
    have hks : Qa1 ks = true := by
      have := ha
      simp only [Qd5, Bool.and_eq_true] at this
      exact this.2.1
    exact wr_step ha (fun ks' mp i U V h1 h2 h3 h4 => QiF ks hks ks' mp i U V h1 h2 h3 h4) b u v hb hu hv h
theorem QiF : ∀ ks : List Tm, Qa1 ks = true → ∀ (ks' : List Tm) (mp : Bool) (i : Nat) (U V : List UInt8), Qa1 ks' = true → Qii U → Qii V → bl (Qbb mp i ks) ++ U = bl (Qbb mp i ks') ++ V → ks = ks' ∧ U = V
  | [], _, [], mp, i, U, V, _, _, _, h => by
    simp only [Qbb, bl0, List.nil_append] at h
    exact ⟨rfl, h⟩
  | [], _, t' :: l', mp, i, U, V, hb, hU, hV, h => by
    exfalso
    simp only [Qa1, Bool.and_eq_true] at hb
    simp only [Qbb, bl0, List.nil_append, Qby, List.append_assoc] at h
    exact Qj7 hU hb.1 h
  | t :: l, ha, [], mp, i, U, V, hb, hU, hV, h => by
    exfalso
    simp only [Qa1, Bool.and_eq_true] at ha
    simp only [Qbb, bl0, List.nil_append, Qby, List.append_assoc] at h
    exact Qj7 hV ha.1 h.symm
  | t :: l, ha, t' :: l', mp, i, U, V, hb, hU, hV, h => by
    simp only [Qa1, Bool.and_eq_true] at ha hb
    simp only [Qbb, Qby, List.append_assoc, List.append_cancel_left_eq] at h
    obtain ⟨h1, h2⟩ := QjR t ha.1 t' _ _ hb.1 (QgQ hU) (QgQ hV) h
    obtain ⟨h3, h4⟩ := QiF l ha.2 l' mp (i + 1) U V hb.2 hU hV h2
    exact ⟨by rw [h1, h3], h4⟩
end
theorem wrT_inj {a b : Tm} (ha : Qd5 a = true) (hb : Qd5 b = true) (h : wrT a = wrT b) : a = b :=
  (QjR a ha b [] [] hb trivial trivial (by rw [h])).1
end Go.Proofs.Yt
namespace Go.Proofs.Yt
open Go Go.FA Go.Proofs Go.RowKit
set_option linter.unusedSimpArgs false
set_option maxRecDepth 100000
open Classical in
theorem Qi1 (T : Tab) (hT : T 43 = some sT43) (t : Tm) (h : fitT t) : dcall T 43 [.agg t.cells] = some (.tuple [.lit (.string (textF t).1), .lit (.int .i64 (textF t).2)]) :=
  QaN (A := Enc.tm) (B := Enc.strErr) hT (if_pos h)
theorem Qem (t : Tm) : (∃ s e, textF t = (s, e) ∧ (e = 2 ∨ e = 3)) ∨ (textF t = (wrT t, 0) ∧ Qd5 t = true) := by
  unfold textF
  split
  · next hv =>
    simp only [QbA, Bool.and_eq_true] at hv
    split
    · exact .inr ⟨rfl, hv.1⟩
    · exact .inl ⟨_, _, rfl, .inr rfl⟩
  · exact .inl ⟨_, _, rfl, .inl rfl⟩
open Classical in
noncomputable def sT9 : Sp := sp (QR Enc.tm Enc.tm) Enc.bool (fun x => if fitT x.1 ∧ fitT x.2 then some true else none)
noncomputable abbrev TL9 : Tab := QF [(21, s21), (22, s22x), (35, s35 tlim), (43, sT43)]
theorem tabL9 : QP Tryz.prog TL9 := .cons e21 (.cons e22x (.cons e35 (.cons eT43 .nil)))
set_option maxHeartbeats 8000000 in
theorem cL9 : QD Tryz.prog 9 sT9 := by
  refine QD.of_sp (T := TL9) Tryz.func9 rfl (Nat.le_of_ble_eq_true rfl) fun E xx y hy => ?_
  obtain ⟨t, u⟩ := xx
  simp only [] at hy
  split at hy
  case isFalse => cases hy
  next hlim =>
  obtain ⟨h1, h2⟩ := hlim
  cases hy
  have tT := tabL9
  have g1 := QjW TL9 rfl t h1.1
  have g2 := QjW TL9 rfl u h2.1
  have g3 := call22 TL9 rfl
  have g4 := Qi1 TL9 rfl t h1
  have g5 := Qi1 TL9 rfl u h2
  have g6 := Qj8 TL9 rfl t u h1.2 h1.2 h2.2
  generalize TL9 = T at *
  clear h1 h2
  refine Dwp.step tT rfl fun K hK => ?_
  simp [QB, QE, Ql, QK, own, Qm, dop, QJ, eval, Qy, QG, Ex.then, Ex.inBlock, upd, QL, Tag.isNN, Qn, intCmp, Qz, QA, TyI.agg, Qb, Qs, Qd, Qr, QM, QC, Qp, mapOf, Qx, Qo, Qe, Qk, Qg, Qu, DV.cells, Qt, Qh, Qq, Qv, rowsOf, Qw, Qf, Qa, Qa.go, Qi, Qj, Qc, goInt, init, QR, QI.one, QI.and, Enc.tm, Enc.agg, QI.tm, Tm.cells_len, Qah]
  refine hK _ _ ?_ rfl; clear hK K
  refine Dwp.seq ?_
  refine Dwp.step tT rfl fun K hK => ?_
  have bad : ∀ a' σ', a' 18 = .lit (.bool true) → σ'.n = σ0.n + 3 → K a' σ' := by
    intro a' σ' h13 hn
    refine hK _ _ ?_ hn
    refine Dwp.condT (by simp [eval, h13]) ?_
    refine Dwp.step tT rfl fun K hK => ?_
    simp [QB, QE, Ql, QK, own, Qm, dop, QJ, eval, Qy, QG, Ex.then, Ex.inBlock, upd, QL, Tag.isNN, Qn, intCmp, Qz, QA, TyI.agg, Qb, Qs, Qd, Qr, QM, QC, Qp, mapOf, Qx, Qo, Qe, Qk, Qg, Qu, DV.cells, Qt, Qh, Qq, Qv, rowsOf, Qw, Qf, Qa, Qa.go, Qi, Qj, Qc, goInt, g3]
    refine hK _ _ (Dwp.ret ?_) rfl
    exact QaR Tryz.func9 rfl _ (by simp [upd])
  generalize decide (0 ≤ Qat [t] 2600 0) = b1 at *
  generalize decide (0 ≤ Qat [u] 2600 0) = b2 at *
  cases b1
  ·
    repeat' ((first | refine QG.stepD rfl rfl ?_ | refine QG.stepG rfl rfl rfl ?_ | refine QG.stepN rfl rfl ?_ | refine QG.stepGN rfl rfl rfl ?_); intro K1 hK1; simp [*, QW, QO, QK, dop, eval, Qy, upd, Qb, Qs, Qz, QA, TyI.agg, Qd, Qr, Qk, Qg, QC, QM, goInt, QL, intCmp, Qn, Tag.isNN, Qc, DV.cells, Qf, Qt, Qh, init, Qbp, ty3, ty9, QaL, Qar, Qm, Tm.cells_len, Qah]; (first | (refine hK1 _ _ ?_; clear hK1 K1) | (split <;> (rename_i hsp; (try simp only [beq_iff_eq, beq_eq_false_iff_ne, ne_eq, decide_eq_true_eq, decide_eq_false_iff_not] at hsp); (try (first | have hsq := Int.not_le.2 hsp | have hsq := Int.not_lt.2 hsp | have hsq := Int.not_le.1 hsp | have hsq := Int.not_lt.1 hsp)); (try subst hsp); (try simp only [hsp])) <;> (refine hK1 _ _ ?_; clear hK1 K1))))
    exact QG.done (bad _ _ (by simp [upd]) rfl)
  cases b2
  ·
    repeat' ((first | refine QG.stepD rfl rfl ?_ | refine QG.stepG rfl rfl rfl ?_ | refine QG.stepN rfl rfl ?_ | refine QG.stepGN rfl rfl rfl ?_); intro K1 hK1; simp [*, QW, QO, QK, dop, eval, Qy, upd, Qb, Qs, Qz, QA, TyI.agg, Qd, Qr, Qk, Qg, QC, QM, goInt, QL, intCmp, Qn, Tag.isNN, Qc, DV.cells, Qf, Qt, Qh, init, Qbp, ty3, ty9, QaL, Qar, Qm, Tm.cells_len, Qah]; (first | (refine hK1 _ _ ?_; clear hK1 K1) | (split <;> (rename_i hsp; (try simp only [beq_iff_eq, beq_eq_false_iff_ne, ne_eq, decide_eq_true_eq, decide_eq_false_iff_not] at hsp); (try (first | have hsq := Int.not_le.2 hsp | have hsq := Int.not_lt.2 hsp | have hsq := Int.not_le.1 hsp | have hsq := Int.not_lt.1 hsp)); (try subst hsp); (try simp only [hsp])) <;> (refine hK1 _ _ ?_; clear hK1 K1))))
    exact QG.done (bad _ _ (by simp [upd]) rfl)
  clear bad
  repeat' ((first | refine QG.stepD rfl rfl ?_ | refine QG.stepG rfl rfl rfl ?_ | refine QG.stepN rfl rfl ?_ | refine QG.stepGN rfl rfl rfl ?_); intro K1 hK1; simp [*, QW, QO, QK, dop, eval, Qy, upd, Qb, Qs, Qz, QA, TyI.agg, Qd, Qr, Qk, Qg, QC, QM, goInt, QL, intCmp, Qn, Tag.isNN, Qc, DV.cells, Qf, Qt, Qh, init, Qbp, ty3, ty9, QaL, Qar, Qm, Tm.cells_len, Qah]; (first | (refine hK1 _ _ ?_; clear hK1 K1) | (split <;> (rename_i hsp; (try simp only [beq_iff_eq, beq_eq_false_iff_ne, ne_eq, decide_eq_true_eq, decide_eq_false_iff_not] at hsp); (try (first | have hsq := Int.not_le.2 hsp | have hsq := Int.not_lt.2 hsp | have hsq := Int.not_le.1 hsp | have hsq := Int.not_lt.1 hsp)); (try subst hsp); (try simp only [hsp])) <;> (refine hK1 _ _ ?_; clear hK1 K1))))
  refine QG.done (hK _ _ ?_ rfl)
  refine Dwp.condF (by simp [eval, upd]) (Dwp.skip ?_)
  refine Dwp.step tT rfl fun K hK => ?_
  simp [QB, QE, Ql, QK, own, Qm, dop, QJ, eval, Qy, QG, Ex.then, Ex.inBlock, upd, QL, Tag.isNN, Qn, intCmp, Qz, QA, TyI.agg, Qb, Qs, Qd, Qr, QM, QC, Qp, mapOf, Qx, Qo, Qe, Qk, Qg, Qu, DV.cells, Qt, Qh, Qq, Qv, rowsOf, Qw, Qf, Qa, Qa.go, Qi, Qj, Qc, goInt, init, Qar, Tm.cells_len, Qah, g4]
  refine hK _ _ ?_ rfl; clear hK K
  refine Dwp.step tT rfl fun K hK => ?_
  simp [QB, QE, Ql, QK, own, Qm, dop, QJ, eval, Qy, QG, Ex.then, Ex.inBlock, upd, QL, Tag.isNN, Qn, intCmp, Qz, QA, TyI.agg, Qb, Qs, Qd, Qr, QM, QC, Qp, mapOf, Qx, Qo, Qe, Qk, Qg, Qu, DV.cells, Qt, Qh, Qq, Qv, rowsOf, Qw, Qf, Qa, Qa.go, Qi, Qj, Qc, goInt, init, Qar, Tm.cells_len, Qah, g5]
  refine hK _ _ ?_ rfl; clear hK K
  clear g4 g5
  refine Dwp.seq ?_
  rcases Qem t with ⟨s1, e1, hf1, he1⟩ | ⟨hf1, ha1⟩
  · rw [hf1]
    clear hf1
    have hne : ¬ e1 = 0 := by omega
    refine Dwp.step tT rfl fun K hK => ?_
    repeat' ((first | refine QG.stepD rfl rfl ?_ | refine QG.stepG rfl rfl rfl ?_ | refine QG.stepN rfl rfl ?_ | refine QG.stepGN rfl rfl rfl ?_); intro K1 hK1; simp [*, QW, QO, QK, dop, eval, Qy, upd, Qb, Qs, Qz, QA, TyI.agg, Qd, Qr, Qk, Qg, QC, QM, goInt, QL, intCmp, Qn, Tag.isNN, Qc, DV.cells, Qf, Qt, Qh, init, Qm, hne]; (first | (refine hK1 _ _ ?_; clear hK1 K1) | (split <;> (rename_i hsp; (try simp only [beq_iff_eq, beq_eq_false_iff_ne, ne_eq, decide_eq_true_eq, decide_eq_false_iff_not] at hsp); (try (first | have hsq := Int.not_le.2 hsp | have hsq := Int.not_lt.2 hsp | have hsq := Int.not_le.1 hsp | have hsq := Int.not_lt.1 hsp)); (try subst hsp); (try simp only [hsp])) <;> (refine hK1 _ _ ?_; clear hK1 K1))))
    refine QG.done (hK _ _ ?_ rfl)
    refine Dwp.condT (by simp [eval, upd]) ?_
    refine Dwp.step tT rfl fun K hK => ?_
    simp [QB, QE, Ql, QK, own, Qm, dop, QJ, eval, Qy, QG, Ex.then, Ex.inBlock, upd, QL, Tag.isNN, Qn, intCmp, Qz, QA, TyI.agg, Qb, Qs, Qd, Qr, QM, QC, Qp, mapOf, Qx, Qo, Qe, Qk, Qg, Qu, DV.cells, Qt, Qh, Qq, Qv, rowsOf, Qw, Qf, Qa, Qa.go, Qi, Qj, Qc, goInt, g3]
    refine hK _ _ (Dwp.ret ?_) rfl
    exact QaR Tryz.func9 rfl _ (by simp [upd])
  rw [hf1]
  rcases Qem u with ⟨s2, e2, hf2, he2⟩ | ⟨hf2, ha2⟩
  · rw [hf2]
    clear hf2
    have hne : ¬ e2 = 0 := by omega
    refine Dwp.step tT rfl fun K hK => ?_
    repeat' ((first | refine QG.stepD rfl rfl ?_ | refine QG.stepG rfl rfl rfl ?_ | refine QG.stepN rfl rfl ?_ | refine QG.stepGN rfl rfl rfl ?_); intro K1 hK1; simp [*, QW, QO, QK, dop, eval, Qy, upd, Qb, Qs, Qz, QA, TyI.agg, Qd, Qr, Qk, Qg, QC, QM, goInt, QL, intCmp, Qn, Tag.isNN, Qc, DV.cells, Qf, Qt, Qh, init, Qm, hne]; (first | (refine hK1 _ _ ?_; clear hK1 K1) | (split <;> (rename_i hsp; (try simp only [beq_iff_eq, beq_eq_false_iff_ne, ne_eq, decide_eq_true_eq, decide_eq_false_iff_not] at hsp); (try (first | have hsq := Int.not_le.2 hsp | have hsq := Int.not_lt.2 hsp | have hsq := Int.not_le.1 hsp | have hsq := Int.not_lt.1 hsp)); (try subst hsp); (try simp only [hsp])) <;> (refine hK1 _ _ ?_; clear hK1 K1))))
    refine QG.done (hK _ _ ?_ rfl)
    refine Dwp.condT (by simp [eval, upd, hne]) ?_
    refine Dwp.step tT rfl fun K hK => ?_
    simp [QB, QE, Ql, QK, own, Qm, dop, QJ, eval, Qy, QG, Ex.then, Ex.inBlock, upd, QL, Tag.isNN, Qn, intCmp, Qz, QA, TyI.agg, Qb, Qs, Qd, Qr, QM, QC, Qp, mapOf, Qx, Qo, Qe, Qk, Qg, Qu, DV.cells, Qt, Qh, Qq, Qv, rowsOf, Qw, Qf, Qa, Qa.go, Qi, Qj, Qc, goInt, g3]
    refine hK _ _ (Dwp.ret ?_) rfl
    exact QaR Tryz.func9 rfl _ (by simp [upd])
  rw [hf2]
  have hsame : decide (wrT t = wrT u) = Qfd t u := by
    by_cases h : t = u
    · rw [h, Qey]; simp
    · rw [QaY h]
      exact decide_eq_false fun e => h (wrT_inj ha1 ha2 e)
  refine Dwp.step tT rfl fun K hK => ?_
  repeat' ((first | refine QG.stepD rfl rfl ?_ | refine QG.stepG rfl rfl rfl ?_ | refine QG.stepN rfl rfl ?_ | refine QG.stepGN rfl rfl rfl ?_); intro K1 hK1; simp [*, QW, QO, QK, dop, eval, Qy, upd, Qb, Qs, Qz, QA, TyI.agg, Qd, Qr, Qk, Qg, QC, QM, goInt, QL, intCmp, Qn, Tag.isNN, Qc, DV.cells, Qf, Qt, Qh, init, Qm]; (first | (refine hK1 _ _ ?_; clear hK1 K1) | (split <;> (rename_i hsp; (try simp only [beq_iff_eq, beq_eq_false_iff_ne, ne_eq, decide_eq_true_eq, decide_eq_false_iff_not] at hsp); (try (first | have hsq := Int.not_le.2 hsp | have hsq := Int.not_lt.2 hsp | have hsq := Int.not_le.1 hsp | have hsq := Int.not_lt.1 hsp)); (try subst hsp); (try simp only [hsp])) <;> (refine hK1 _ _ ?_; clear hK1 K1))))
  refine QG.done (hK _ _ ?_ rfl)
  refine Dwp.condF (by simp [eval, upd]) (Dwp.skip ?_)
  show Dwp _ _ _ _ _ _ _ _
  generalize wrT t = s1 at *
  generalize wrT u = s2 at *
  generalize Qfd t u = bs at *
  refine Dwp.step tT rfl fun K hK => ?_
  repeat' ((first | refine QG.stepD rfl rfl ?_ | refine QG.stepG rfl rfl rfl ?_ | refine QG.stepN rfl rfl ?_ | refine QG.stepGN rfl rfl rfl ?_); intro K1 hK1; simp [*, QW, QO, QK, dop, eval, Qy, upd, Qb, Qs, Qz, QA, TyI.agg, Qd, Qr, Qk, Qg, QC, QM, goInt, QL, intCmp, Qn, Tag.isNN, Qc, DV.cells, Qf, Qt, Qh, init, ty9, ty4, Qar, Qm, Tm.cells_len, Qah, hsame]; (first | (refine hK1 _ _ ?_; clear hK1 K1) | (split <;> (rename_i hsp; (try simp only [beq_iff_eq, beq_eq_false_iff_ne, ne_eq, decide_eq_true_eq, decide_eq_false_iff_not] at hsp); (try (first | have hsq := Int.not_le.2 hsp | have hsq := Int.not_lt.2 hsp | have hsq := Int.not_le.1 hsp | have hsq := Int.not_lt.1 hsp)); (try subst hsp); (try simp only [hsp])) <;> (refine hK1 _ _ ?_; clear hK1 K1))))
  refine QG.done (hK _ _ (Dwp.ret ?_) rfl)
  exact QaR Tryz.func9 rfl _ (by simp [upd])
end Go.Proofs.Yt
