/- Contracts of functions of the program, by a machine over abstract values; part 32. No condition beyond those of each theorem. -/
import Derived.Test.YtfpejlbfdpeofaaGreatDoorSm30
import Derived.Lib.ItoaLen
set_option linter.unusedVariables false
set_option linter.unusedSimpArgs false
namespace Go.Proofs.Yt
open Go Go.FA Go.Proofs Go.RowKit
theorem swN_name {a b x : ByteArray} (ha : QU a = true) (hb : QU b = true) (h : QU x = true) : QU (swN a b x) = true := by
  unfold swN
  split
  · exact hb
  · split
    · exact ha
    · exact h
theorem Qi7 : ∀ u : List UInt8, (∀ b ∈ u, b ≠ 39) → Lib.indexByte u 39 = -1
  | [], _ => rfl
  | b :: l, h => by
    have h1 : b ≠ 39 := h b (by simp)
    have ih := Qi7 l fun x hx => h x (by simp [hx])
    simp [Lib.indexByte, h1, ih]
theorem QkD : ∀ (u c : List UInt8), (∀ b ∈ u, b ≠ 39) → Lib.indexByte (u ++ 39 :: c) 39 = (u.length : Int)
  | [], c, _ => by simp [Lib.indexByte]
  | b :: l, c, h => by
    have h1 : b ≠ 39 := h b (by simp)
    have ih := QkD l c fun x hx => h x (by simp [hx])
    have : ¬ (l.length : Int) = -1 := by omega
    simp [Lib.indexByte, h1, ih, this]
theorem Qhg : ∀ l : List UInt8, (∀ b ∈ l, b ≠ 39) ∨ ∃ u c, l = u ++ 39 :: c ∧ ∀ b ∈ u, b ≠ 39
  | [] => .inl (by simp)
  | b :: l => by
    by_cases h : b = 39
    · exact .inr ⟨[], l, by simp [h], by simp⟩
    · rcases Qhg l with h1 | ⟨u, c, rfl, hu⟩
      · exact .inl (by simpa [h] using h1)
      · exact .inr ⟨b :: u, c, rfl, by simpa [h] using hu⟩
theorem QhD {s : ByteArray} (h : ∀ b ∈ s.data.toList, b ≠ 39) : Qev s = (s, ⟨#[]⟩) := by
  simp [Qev, mark, Qi7 _ h]
theorem QiP {u c : ByteArray} {l : List UInt8} (h : ∀ b ∈ u.data.toList, b ≠ 39) (hc : c.data.toList = 39 :: l) : Qev (u ++ c) = (u, c) := by
  have e : mark (u ++ c) = (u.size : Int) := by
    simp only [mark, ByteArray.data_append, Array.toList_append, hc]
    rw [QkD _ _ h]; rfl
  have h0 : (0 : Int) ≤ (u.size : Int) := by omega
  simp only [Qev, e, h0, if_true, Int.toNat_natCast]
  rw [ByteArray.extract_append_eq_left rfl, ByteArray.extract_append_eq_right rfl (by simp)]
theorem cutF_split (s : ByteArray) : (Qev s = (s, ⟨#[]⟩) ∧ ∀ b ∈ s.data.toList, b ≠ 39) ∨ ∃ (u c : ByteArray) (l : List UInt8), s = u ++ c ∧ (∀ b ∈ u.data.toList, b ≠ 39) ∧ c.data.toList = 39 :: l := by
  rcases Qhg s.data.toList with h | ⟨u, c, hs, hu⟩
  · exact .inl ⟨QhD h, h⟩
  · refine .inr ⟨⟨u.toArray⟩, ⟨(39 :: c).toArray⟩, c, ?_, by simpa using hu, by simp⟩
    apply ByteArray.ext
    rw [ByteArray.data_append, ← Array.toList_inj, hs]
    simp
theorem name_mark {x : ByteArray} (h : QU x = true) : ∀ b ∈ x.data.toList, b ≠ 39 := by
  intro b hb
  simp only [QU, Bool.and_eq_true, Qgf, List.all_eq_true] at h
  rintro rfl
  exact absurd (h.2 _ hb) (by decide)
theorem cut_twice {a b x : ByteArray} (ha : QU a = true) (hb : QU b = true) (hx : QU (Qev x).1 = true) :
    Qev (swN a b (Qev x).1 ++ (Qev x).2) = (swN a b (Qev x).1, (Qev x).2) ∧ (Qev x).1 ++ (Qev x).2 = x := by
  have hm := name_mark (swN_name ha hb hx)
  rcases cutF_split x with ⟨e, h⟩ | ⟨u, c, l, rfl, hu, hc⟩
  · rw [e] at hm ⊢
    have e2 : ∀ y : ByteArray, y ++ (⟨#[]⟩ : ByteArray) = y := fun y => ByteArray.append_empty
    simp only [e2]
    exact ⟨QhD hm, trivial⟩
  · rw [QiP hu hc] at hm ⊢
    exact ⟨QiP hm hc, rfl⟩
end Go.Proofs.Yt


namespace Go.Proofs.Yt
open Go Go.FA Go.Proofs Go.RowKit
theorem tailOk_size {c : ByteArray} (h : QeE c = true) : c.size ≤ 2 := by
  unfold QeE at h
  split at h
  · next he =>
    have e : c.size = c.data.toList.length := by simp
    rw [e, he]
    exact Nat.le_refl 2
  · cases h
open Classical in
theorem call37 (T : Tab) (hT : T 37 = some sT37) (t : Tm) (h : okT t ∧ tsz t ≤ tlim) : dcall T 37 [.agg t.cells] = some (.tuple [.lit (.int .i64 (QbU t).1), .lit (.int .i64 (QbU t).2.2)]) :=
  Qad (A := Enc.tm) (B := Enc.sz2) hT (if_pos h)
open Classical in
theorem call39 (T : Tab) (hT : T 39 = some sT39) (t : Tm) (h : okT t ∧ tsz t ≤ tlim) : dcall T 39 [.agg t.cells] = some (.tuple [.lit (.int .i64 (QbU t).2.1), .lit (.int .i64 (QbU t).2.2)]) :=
  Qad (A := Enc.tm) (B := Enc.sz2) hT (if_pos h)
end Go.Proofs.Yt
namespace Go.Proofs.Yt
open Go Go.FA Go.Proofs Go.RowKit
set_option maxRecDepth 100000
section
attribute [local simp] QF QZ Qo QJ own Qm dop QN eval Qr Qn Ex.then Ex.inBlock upd QV Tag.isNN Qp intCmp Qv Qx TyI.agg Qa Qu Qg Qs QX QA QD mapOf QQ QC Qq Qi Qj QI DV.cells Qt Qk QE QK rowsOf QL Qd Qe Qe.go Qz QB Qc goInt
theorem QjU : ∀ n, H97 n
  | 0 => fun t id s σ h => absurd h.1 (by have := Qeg t; omega)
  | n + 1 => h97 n (QjU n)
theorem okOp_size {x : ByteArray} (h : QeQ x = true) : x.size ≤ 42 := by
  rw [Qjb] at h
  simp only [Bool.and_eq_true, Bool.or_eq_true, decide_eq_true_eq] at h
  obtain ⟨h4, h6⟩ := h
  have h7 := Qa1 h4
  have h8 : (Qev x).2.size ≤ 2 := by
    rcases h6 with h6 | h6
    · rw [h6]; exact Nat.zero_le _
    · exact tailOk_size h6
  have e := (cut_twice h4 h4 h4).2
  rw [← e, ByteArray.size_append]; omega
theorem unn_size {x : ByteArray} (h : Qh7 x = true) : x.size ≤ 1 := by
  simp [Qh7] at h
  rcases h with rfl | rfl <;> decide
theorem wrV_size {x s : ByteArray} (h : Qkv x s = true) : (wrV x s).size ≤ 81 := by
  unfold Qkv at h
  unfold wrV
  split
  · next hu => have := unn_size hu; omega
  · next hu =>
    rw [if_neg hu] at h
    simp only [Bool.and_eq_true] at h
    have h1 := Qa1 h.1
    have h2 := Qa1 h.2
    have e : (⟨#[58]⟩ : ByteArray).size = 1 := rfl
    simp only [ByteArray.size_append, e]; omega
theorem QhP (mp : Bool) (i : Nat) : (Qc4 mp i).size ≤ 4 := by
  unfold Qc4
  repeat' split
  all_goals decide
theorem QeN {ne : Bool} {so : ByteArray} {r : List Tm} (h : Qb5 so r = true) : (wrR ne r).size ≤ 43 := by
  match r, h with
  | [], _ => show (⟨#[]⟩ : ByteArray).size ≤ 43; decide
  | [.mk k n x s ks q], h =>
    simp only [Qb5, Bool.and_eq_true, decide_eq_true_eq] at h
    have h1 : (Tm.mk k n x s ks q).text.size ≤ 40 := Qa1 h.2.1
    have h2 : (if ne = true then ⟨#[32]⟩ else ⟨#[]⟩ : ByteArray).size ≤ 1 := by split <;> decide
    have e : (⟨#[124, 32]⟩ : ByteArray).size = 2 := rfl
    have e0 : (⟨#[]⟩ : ByteArray).size = 0 := rfl
    simp only [wrR, QfW, ByteArray.size_append, e, e0]; omega
theorem text_size {x : ByteArray} (h : QcA x = true) : x.size ≤ 200 := by
  simp [QcA] at h
  exact h.2
mutual
theorem QiD : ∀ t : Tm, Qgo t = true → (wrT t).size + 4 ≤ 300 * tsz t
  | .mk k n x s ks r, h => by
    simp only [Qgo, Bool.and_eq_true] at h
    have h1 := QdX false ks 0 h.2.1
    have h1' := QdX true ks 0 h.2.1
    have hn := h.1
    rw [Qa5]
    simp only [tsz]
    have e1 : ∀ c : UInt8, (⟨#[c]⟩ : ByteArray).size = 1 := fun _ => rfl
    simp only [Qar] at hn
    split
    · next hk =>
      rw [if_pos hk] at hn
      simp only [Bool.and_eq_true, decide_eq_true_eq] at hn
      have := Lib.itoa_length_le n (by omega) (by omega)
      have e : (⟨(Lib.itoa n).toArray⟩ : ByteArray).size = (Lib.itoa n).length := by show (Lib.itoa n).toArray.size = _; simp
      rw [e]; omega
    · next hk =>
      rw [if_neg hk] at hn
      split
      · have : (if n = 1 then ⟨#[116, 114, 117, 101]⟩ else ⟨#[102, 97, 108, 115, 101]⟩ : ByteArray).size ≤ 5 := by split <;> decide
        omega
      · next hk =>
        rw [if_neg hk] at hn
        split
        · next hk =>
          rw [if_pos hk] at hn
          simp only [Bool.and_eq_true] at hn
          have := text_size hn.2.1
          simp only [ByteArray.size_append, e1]; omega
        · next hk =>
          rw [if_neg hk] at hn
          split
          · next hk =>
            rw [if_pos hk] at hn
            simp only [Bool.and_eq_true, idB] at hn
            have := Qa1 hn.2.1.1
            simp only [ByteArray.size_append, e1]; omega
          · next hk =>
            rw [if_neg hk] at hn
            split
            · next hk =>
              rw [if_pos hk] at hn
              simp only [Bool.and_eq_true] at hn
              have := okOp_size hn.2.1
              simp only [ByteArray.size_append, e1]; omega
            · next hk =>
              rw [if_neg hk] at hn
              split
              · next hk =>
                rw [if_pos hk] at hn
                simp only [Bool.and_eq_true] at hn
                have := wrV_size hn.2.1
                omega
              · next hk =>
                rw [if_neg hk] at hn
                split
                · next hk =>
                  rw [if_pos hk] at hn
                  simp only [Bool.and_eq_true] at hn
                  have := QeN (ne := decide (0 < ks.length)) hn.2.2.2
                  simp only [ByteArray.size_append, e1]; omega
                · next hk =>
                  rw [if_neg hk] at hn
                  split
                  · next hk =>
                    rw [if_pos hk] at hn
                    simp only [Bool.and_eq_true] at hn
                    have := QeN (ne := decide (0 < ks.length)) hn.2.2.2.2
                    simp only [ByteArray.size_append, e1]; omega
                  · next hk =>
                    rw [if_neg hk] at hn
                    cases hn
theorem QdX (mp : Bool) : ∀ (l : List Tm) (i : Nat), QaZ l = true → (Qbc mp i l).size ≤ 300 * QaI l
  | [], i, _ => Nat.zero_le _
  | t :: l, i, h => by
    simp only [QaZ, Bool.and_eq_true] at h
    have h1 := QiD t h.1
    have h2 := QdX mp l (i + 1) h.2
    have h3 := QhP mp i
    simp only [Qbc, ByteArray.size_append, QaI]; omega
end
theorem h98 (id : Nat) (s : ByteArray) (σ : St) (hw : Wr id s σ) : HC Tryz.prog 98 [.ptr id 0] σ (fun d σ' => d = .lit (.int .i64 s.size) ∧ Wr id s σ' ∧ Fr id σ σ') := by
  obtain ⟨hid, p, x, ho, hp, hx⟩ := hw
  have tT := Q9 (P := Tryz.prog)
  refine HC.of_body (T := Qf []) Tryz.func98 rfl (by decide) (Nat.le_of_ble_eq_true rfl) fun E => ?_
  generalize Qf [] = T at *
  refine Dwp.step tT rfl fun K hK => ?_
  simp [init]
  refine hK _ _ ?_ rfl; clear hK K
  refine Dwp.step tT rfl fun K hK => ?_
  rcases hx with ⟨rfl, rfl⟩ | ⟨bid, hb, rfl, hob⟩
  · simp [init, Qkz, Qin, Qbr, Qab, ho]
    refine hK _ _ (Dwp.ret ?_) rfl
    refine ⟨.inr rfl, .lit (.int .i64 0), by show Qh Tryz.prog _ _ [ResultVar.tmp 2] = _; simp [Qh, QW, upd], rfl, ?_, ?_⟩
    · exact ⟨by simp only []; omega, _, _, ho, hp, .inl ⟨rfl, rfl⟩⟩
    · exact .n _ (by first | omega | (simp only []; omega)) (.refl _ _)
  · simp [init, Qkz, Qin, Qbr, Qab, ho]
    refine hK _ _ (Dwp.ret ?_) rfl
    refine ⟨.inr rfl, .lit (.int .i64 s.size), by show Qh Tryz.prog _ _ [ResultVar.tmp 2] = _; simp [Qh, QW, upd], rfl, ?_, ?_⟩
    · exact ⟨by simp only []; omega, _, _, ho, hp, .inr ⟨bid, by simp only []; omega, rfl, hob⟩⟩
    · exact .n _ (by first | omega | (simp only []; omega)) (.refl _ _)
end
end Go.Proofs.Yt


namespace Go.Proofs.Yt
open Go Go.FA Go.Proofs Go.RowKit
set_option maxRecDepth 100000
section
attribute [local simp] QF QZ Qo QJ own Qm dop QN eval Qr Qn Ex.then Ex.inBlock upd QV Tag.isNN Qp intCmp Qv Qx TyI.agg Qa Qu Qg Qs QX QA QD mapOf QQ QC Qq Qi Qj QI DV.cells Qt Qk QE QK rowsOf QL Qd Qe Qe.go Qz QB Qc goInt
theorem QiM (u : Nat) (hu : ¬ u < 10) : Lib.decDigits u = Lib.decDigits (u / 10) ++ [UInt8.ofNat (48 + u % 10)] := by
  rw [Lib.decDigits, dif_neg hu]
def Qbz (n : Int) : ByteArray := ⟨(Lib.itoa n).toArray⟩
theorem Qhl {a b : List UInt8} {n m k : Int} (hn : Lib.itoa n = a) (hm : Lib.itoa m = b) (hk : Lib.itoa k = a ++ b) : Qbz n ++ Qbz m = Qbz k := by
  apply ByteArray.ext
  apply Array.toList_inj.1
  simp [Qbz, hn, hm, hk]
theorem itoa_pos {n : Int} (h : 10 ≤ n) : Qbz (n.tdiv 10) ++ Qbz (n.tmod 10) = Qbz n := by
  obtain ⟨u, rfl⟩ := Int.eq_ofNat_of_zero_le (show 0 ≤ n by omega)
  have e1 : (Int.tdiv (u : Int) 10) = ((u / 10 : Nat) : Int) := rfl
  have e2 : (Int.tmod (u : Int) 10) = ((u % 10 : Nat) : Int) := rfl
  rw [e1, e2]
  have hnn : ∀ v : Nat, Lib.itoa (v : Int) = Lib.decDigits v := fun v => by unfold Lib.itoa; rw [if_neg (by omega)]; simp
  refine Qhl (hnn _) (hnn _) ?_
  rw [hnn, QiM u (by omega), Lib.decDigits_one (show u % 10 < 10 by omega)]
theorem itoa_negs {n : Int} (h : n ≤ -10) : Qbz (n.tdiv 10) ++ Qbz (-(n.tmod 10)) = Qbz n := by
  obtain ⟨u, hu⟩ := Int.eq_ofNat_of_zero_le (show 0 ≤ -n by omega)
  obtain rfl : n = -(u : Int) := by omega
  have e1 : (Int.tdiv (-(u : Int)) 10) = -((u / 10 : Nat) : Int) := by rw [Int.neg_tdiv]; rfl
  have e2 : -(Int.tmod (-(u : Int)) 10) = ((u % 10 : Nat) : Int) := by rw [Int.neg_tmod, Int.neg_neg]; rfl
  rw [e1, e2]
  have hnn : ∀ v : Nat, Lib.itoa (v : Int) = Lib.decDigits v := fun v => by unfold Lib.itoa; rw [if_neg (by omega)]; simp
  have hng : ∀ v : Nat, 1 ≤ v → Lib.itoa (-(v : Int)) = 45 :: Lib.decDigits v := fun v hv => by unfold Lib.itoa; rw [if_pos (by omega)]; simp
  refine Qhl (hng _ (by omega)) (hnn _) ?_
  rw [hng _ (by omega), QiM u (by omega), Lib.decDigits_one (show u % 10 < 10 by omega)]
  rfl
theorem itoa_minus {n : Int} (h : n < 0) : (⟨#[45]⟩ ++ Qbz (-n) : ByteArray) = Qbz n := by
  apply ByteArray.ext
  apply Array.toList_inj.1
  simp only [Qbz, ByteArray.data_append, Array.toList_append]
  have e1 : Lib.itoa (-n) = Lib.decDigits n.natAbs := by unfold Lib.itoa; rw [if_neg (by omega)]; congr 1; omega
  have e2 : Lib.itoa n = 45 :: Lib.decDigits n.natAbs := by unfold Lib.itoa; rw [if_pos h]
  rw [e1, e2]; rfl
theorem QaJ (u : Nat) (h : u < 10) : Qbz (u : Int) = ⟨#[UInt8.ofNat (48 + u)]⟩ := by
  have e : Lib.itoa (u : Int) = Lib.decDigits u := by unfold Lib.itoa; rw [if_neg (by omega)]; simp
  unfold Qbz
  rw [e, Lib.decDigits_one h]
def Qjx (n : Int) : Nat := 2 * n.natAbs + (if n < 0 then 1 else 0)
def Qdd (k : Nat) : Sp := sp (QM Enc.i64) Enc.str (fun n => if Qjx n < k ∧ -2147483648 ≤ n ∧ n ≤ 2147483648 then some (Qbz n) else none)
theorem Qke {k : Nat} (T : Tab) (hT : T 169 = some (Qdd k)) (n : Int) (h : Qjx n < k ∧ -2147483648 ≤ n ∧ n ≤ 2147483648) : dcall T 169 [.lit (.int .i64 n)] = some (.lit (.string (Qbz n))) :=
  Qad (A := Enc.i64) (B := Enc.str) hT (if_pos h)
theorem Qck (n : Int) (h0 : -2147483648 ≤ n) (h1 : n ≤ 2147483648) : (Qbz n).size ≤ 21 := by
  have := Lib.itoa_length_le n (by omega) (by omega)
  have e : (Qbz n).size = (Lib.itoa n).length := by show (Lib.itoa n).toArray.size = _; simp
  omega
set_option maxHeartbeats 4000000 in
theorem c169 (k : Nat) (ih : Qb Tryz.prog 169 (Qdd k)) : Qb Tryz.prog 169 (Qdd (k + 1)) := by
  refine Qb.of_sp (T := Qf [(169, Qdd k)]) Tryz.func169 rfl (Nat.le_of_ble_eq_true rfl) fun E n y hy => ?_
  split at hy
  case isFalse => cases hy
  next hlim =>
  obtain ⟨hm, h0, h1⟩ := hlim
  cases hy
  have tT : QH Tryz.prog (Qf [(169, Qdd k)]) := .cons ⟨ih, Tryz.f169, _, Tryz.func169, rfl, by decide⟩ .nil
  have g := Qke (Qf [(169, Qdd k)]) rfl
  generalize Qf [(169, Qdd k)] = T at *
  have hw : ∀ m : Int, -4611686018427387904 ≤ m → m < 4611686018427387904 → IntKind.i64.wrap m = m := fun m a b => QaY a b
  refine Dwp.step tT rfl fun K hK => ?_
  simp [init, QM, Ql.one, Enc.i64, Enc.int]
  refine hK _ _ ?_ rfl; clear hK K
  refine Dwp.seq ?_
  refine Dwp.step tT rfl fun K hK => ?_
  by_cases ha : n ≤ -10
  · simp [init, ha]
    refine hK _ _ ?_ rfl; clear hK K
    refine Dwp.condT (by simp [eval, upd]) ?_
    have e1 : n.tdiv 10 = -((-n).toNat / 10 : Nat) := by
      obtain ⟨u, hu⟩ := Int.eq_ofNat_of_zero_le (show 0 ≤ -n by omega)
      obtain rfl : n = -(u : Int) := by omega
      rw [Int.neg_tdiv]; simp
    have e2 : -(n.tmod 10) = (((-n).toNat % 10 : Nat) : Int) := by
      obtain ⟨u, hu⟩ := Int.eq_ofNat_of_zero_le (show 0 ≤ -n by omega)
      obtain rfl : n = -(u : Int) := by omega
      rw [Int.neg_tmod, Int.neg_neg]; simp; rfl
    have m1 : Qjx (n.tdiv 10) < k := by unfold Qjx at hm ⊢; rw [e1]; split <;> split at hm <;> omega
    have m2 : Qjx (-(n.tmod 10)) < k := by unfold Qjx at hm ⊢; rw [e2]; split <;> split at hm <;> omega
    have g1 := g (n.tdiv 10) ⟨m1, by omega, by omega⟩
    have g2 := g (-(n.tmod 10)) ⟨m2, by omega, by omega⟩
    have w1 := hw (n.tdiv 10) (by omega) (by omega)
    have w2 := hw (n.tmod 10) (by omega) (by omega)
    have w3 := hw (-(n.tmod 10)) (by omega) (by omega)
    have s1 := Qck (n.tdiv 10) (by omega) (by omega)
    have s2 := Qck (-(n.tmod 10)) (by omega) (by omega)
    have hcat : (Qbz (n.tdiv 10)).size + (Qbz (-(n.tmod 10))).size < 4611686018427387904 := by omega
    refine Dwp.step tT rfl fun K hK => ?_
    simp [init, ty3, ty9, Qdx, g1, g2, w1, w2, w3, hcat]
    refine hK _ _ (Dwp.ret ?_) rfl
    rw [← itoa_negs ha]
    exact QaU Tryz.func169 rfl _ (by simp [upd])
  · simp [init, ha]
    refine hK _ _ ?_ rfl; clear hK K
    refine Dwp.condF (by simp [eval, upd]) (Dwp.skip ?_)
    show Dwp _ _ _ _ _ _ _ _
    refine Dwp.seq ?_
    refine Dwp.step tT rfl fun K hK => ?_
    by_cases hb : n < 0
    · simp [init, hb]
      refine hK _ _ ?_ rfl; clear hK K
      refine Dwp.condT (by simp [eval, upd]) ?_
      have m1 : Qjx (-n) < k := by unfold Qjx at hm ⊢; split <;> split at hm <;> omega
      have g1 := g (-n) ⟨m1, by omega, by omega⟩
      have w1 := hw (-n) (by omega) (by omega)
      have s1 := Qck (-n) (by omega) (by omega)
      have e45 : (⟨#[45]⟩ : ByteArray).size = 1 := rfl
      have hcat : (⟨#[45]⟩ : ByteArray).size + (Qbz (-n)).size < 4611686018427387904 := by omega
      refine Dwp.step tT rfl fun K hK => ?_
      simp [init, ty3, ty9, g1, w1, hcat]
      refine hK _ _ (Dwp.ret ?_) rfl
      rw [← itoa_minus hb]
      exact QaU Tryz.func169 rfl _ (by simp [upd])
    · simp [init, hb]
      refine hK _ _ ?_ rfl; clear hK K
      refine Dwp.condF (by simp [eval, upd]) (Dwp.skip ?_)
      show Dwp _ _ _ _ _ _ _ _
      refine Dwp.seq ?_
      refine Dwp.step tT rfl fun K hK => ?_
      by_cases hc : n < 10
      · simp [init, hc]
        refine hK _ _ ?_ rfl; clear hK K
        refine Dwp.condT (by simp [eval, upd]) ?_
        refine Dwp.step tT rfl fun K hK => ?_
        have hn : n = 0 ∨ n = 1 ∨ n = 2 ∨ n = 3 ∨ n = 4 ∨ n = 5 ∨ n = 6 ∨ n = 7 ∨ n = 8 ∨ n = 9 := by omega
        rcases hn with rfl | rfl | rfl | rfl | rfl | rfl | rfl | rfl | rfl | rfl
        all_goals
          simp [init, ty3, ty9]
          refine hK _ _ (Dwp.ret ?_) rfl
          refine QaU Tryz.func169 rfl _ ?_
          simp [upd]
          first
            | exact Eq.trans (b := ⟨#[48]⟩) rfl (QaJ 0 (by decide)).symm
            | exact Eq.trans (b := ⟨#[49]⟩) rfl (QaJ 1 (by decide)).symm
            | exact Eq.trans (b := ⟨#[50]⟩) rfl (QaJ 2 (by decide)).symm
            | exact Eq.trans (b := ⟨#[51]⟩) rfl (QaJ 3 (by decide)).symm
            | exact Eq.trans (b := ⟨#[52]⟩) rfl (QaJ 4 (by decide)).symm
            | exact Eq.trans (b := ⟨#[53]⟩) rfl (QaJ 5 (by decide)).symm
            | exact Eq.trans (b := ⟨#[54]⟩) rfl (QaJ 6 (by decide)).symm
            | exact Eq.trans (b := ⟨#[55]⟩) rfl (QaJ 7 (by decide)).symm
            | exact Eq.trans (b := ⟨#[56]⟩) rfl (QaJ 8 (by decide)).symm
            | exact Eq.trans (b := ⟨#[57]⟩) rfl (QaJ 9 (by decide)).symm
      · simp [init, hc]
        refine hK _ _ ?_ rfl; clear hK K
        refine Dwp.condF (by simp [eval, upd]) (Dwp.skip ?_)
        show Dwp _ _ _ _ _ _ _ _
        have e1 : n.tdiv 10 = (n.toNat / 10 : Nat) := by
          obtain ⟨u, rfl⟩ := Int.eq_ofNat_of_zero_le (show 0 ≤ n by omega)
          rfl
        have e2 : n.tmod 10 = ((n.toNat % 10 : Nat) : Int) := by
          obtain ⟨u, rfl⟩ := Int.eq_ofNat_of_zero_le (show 0 ≤ n by omega)
          rfl
        have m1 : Qjx (n.tdiv 10) < k := by unfold Qjx at hm ⊢; rw [e1]; split <;> split at hm <;> omega
        have m2 : Qjx (n.tmod 10) < k := by unfold Qjx at hm ⊢; rw [e2]; split <;> split at hm <;> omega
        have g1 := g (n.tdiv 10) ⟨m1, by omega, by omega⟩
        have g2 := g (n.tmod 10) ⟨m2, by omega, by omega⟩
        have w1 := hw (n.tdiv 10) (by omega) (by omega)
        have w2 := hw (n.tmod 10) (by omega) (by omega)
        have s1 := Qck (n.tdiv 10) (by omega) (by omega)
        have s2 := Qck (n.tmod 10) (by omega) (by omega)
        have hcat : (Qbz (n.tdiv 10)).size + (Qbz (n.tmod 10)).size < 4611686018427387904 := by omega
        refine Dwp.step tT rfl fun K hK => ?_
        simp [init, ty3, ty9, Qdx, g1, g2, w1, w2, hcat]
        refine hK _ _ (Dwp.ret ?_) rfl
        rw [← itoa_pos (by omega : 10 ≤ n)]
        exact QaU Tryz.func169 rfl _ (by simp [upd])
theorem Qiw : ∀ k : Nat, Qb Tryz.prog 169 (Qdd k)
  | 0 => by
    refine Qb.of_sp (T := Qf []) Tryz.func169 rfl (Nat.le_of_ble_eq_true rfl) fun E xx y hy => ?_
    split at hy
    case isFalse => cases hy
    next hlim => exact absurd hlim.1 (by omega)
  | k + 1 => c169 k (Qiw k)
theorem e169 (k : Nat) : Go.FA.Good Tryz.prog (169, Qdd k) := ⟨Qiw k, Tryz.f169, _, Tryz.func169, rfl, by decide⟩
def QfY (r : List Tm) (empty : Bool) : ByteArray := match r with
  | [] => ⟨#[]⟩
  | v :: _ => if empty = true then ⟨#[124, 32]⟩ ++ v.text else ⟨#[32, 124, 32]⟩ ++ v.text
def sT171 : Sp := sp (QR Enc.tms Enc.bool) Enc.str (fun x => if x.1.length ≤ 1048576 ∧ (∀ v ∈ x.1, v.text.size ≤ lim) then some (QfY x.1 x.2) else none)
end
end Go.Proofs.Yt
