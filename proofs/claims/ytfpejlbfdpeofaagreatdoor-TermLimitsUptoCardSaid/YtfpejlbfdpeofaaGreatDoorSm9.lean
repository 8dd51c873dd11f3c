/- Contracts of functions of the program, by a machine over abstract values; part 10. No condition beyond those of each theorem. -/
import Derived.Test.YtfpejlbfdpeofaaGreatDoorSm8
import Derived.Deep.DeepHandedRow
set_option linter.unusedVariables false
set_option linter.unusedSimpArgs false
namespace Go.Proofs.Yt
open Go Go.FA Go.Proofs Go.RowKit Go.Proofs.Y
set_option maxRecDepth 1000000
set_option linter.unusedSimpArgs false
noncomputable def body43 : Code := match Tryz.f43.body with
  | some c => c
  | none => .skip
def spine : Code → List Code
  | .seq a b => a :: spine b
  | c => [c]
noncomputable def QjI : List Code := (spine body43).take 5
theorem body43_eq : Tryz.f43.body = some (Qjc QjI (.seq (.region 7 (opsOf 43 7) false) .ret)) := by kernel_rfl
def QdU : List DV → List UInt8 → Bool
  | [], [] => true
  | .lit (.int .u8 k) :: ds, b :: bs => (match k with | .ofNat m => Nat.beq m b.toNat | _ => false) && QdU ds bs
  | _, _ => false
theorem Qed : ∀ {ds : List DV} {bs : List UInt8}, QdU ds bs = true → ds = bs.map fun b => .lit (.int .u8 b.toNat)
  | [], [], _ => rfl
  | d :: ds, b :: bs, h => by
    unfold QdU at h
    split at h
    · next heq => cases heq
    · next k ds' b' bs' h1 h2 =>
      cases h1; cases h2
      simp only [Bool.and_eq_true] at h
      obtain ⟨h1, h2⟩ := h
      split at h1
      · next m => rw [Nat.eq_of_beq_eq_true h1, Qed h2]; rfl
      · simp at h1
    · simp at h
  | [], _ :: _, h => by simp [QdU] at h
  | _ :: _, [], h => by simp [QdU] at h
def wrote (l : List UInt8) (r : Option (Tr DV × EvS)) : Bool := match r with
  | some (r, s) => match rg r 4 with
    | .ptr id 0 => match s.h.get id with
      | some (.cells t [_, .live bid 1 0 n]) => match s.h.get bid with
        | some (.buf u bs) => Nat.beq t 110 && Nat.beq u 5 && Nat.beq n l.length && QdU bs l && Nat.beq 4 4
        | _ => false
      | _ => false
    | _ => false
  | none => false
theorem wrote_spec {l : List UInt8} {q : Option (Tr DV × EvS)} (h : wrote l q = true) : ∃ r s id bid p, q = some (r, s) ∧ rg r 4 = .ptr id 0 ∧ s.st.objs id = some (.cells 110 [p, .live bid 1 0 l.length]) ∧ s.st.objs bid = some (.buf 5 (l.map fun b => .lit (.int .u8 b.toNat))) := by
  unfold wrote at h
  split at h
  · next r s =>
    split at h
    · next id h4 =>
      split at h
      · next t p bid n h1 =>
        split at h
        · next u bs h2 =>
          simp only [Bool.and_eq_true] at h
          obtain ⟨⟨⟨⟨e1, e2⟩, e3⟩, e4⟩, _⟩ := h
          have e1 := Nat.eq_of_beq_eq_true e1; have e2 := Nat.eq_of_beq_eq_true e2; have e3 := Nat.eq_of_beq_eq_true e3
          subst e1 e2 e3
          rw [Qed e4] at h2
          exact ⟨r, s, id, bid, p, rfl, h4, h1, h2⟩
        · simp at h
      · simp at h
    · simp at h
  · simp at h
theorem text_end (E : Qh6) {σ : St} {a : Nat → DV} {id bid : Nat} {p : DV} {s : ByteArray} (ha : a 4 = .ptr id 0) (h1 : σ.objs id = some (.cells 110 [p, .live bid 1 0 s.size])) (h2 : σ.objs bid = some (.buf 5 (bytesD s))) (h0 : s.size ≠ 0) (h63 : s.size ≤ 9223372036854775807) :
    Dwp Tryz.prog T7 E.1 Tryz.f43.ntmps (.seq (.region 7 (opsOf 43 7) false) .ret) (QZ Tryz.prog Tryz.f43.results Enc.strErr (s, 0)) a σ := by
  have hd : Q5 Tryz.f43.ntmps (opsOf 43 7) = true := by kernel_rfl
  have o0 : ((opsOf 43 7)[0]?).map (fun o => (o.op, o.dst, o.guard)) = some (.fieldAddr 110 (.tmp 4) 0, some 13, .none) := by kernel_rfl
  have o1 : ((opsOf 43 7)[1]?).map (fun o => (o.op, o.dst, o.guard)) = some (.call ⟨.value (.func 99), #[.tmp 13], #[108]⟩, some 14, .none) := by kernel_rfl
  have o2 : ((opsOf 43 7)[2]?).map (fun o => (o.op, o.dst, o.guard)) = some (.assign (.tmp 14), some 2, .none) := by kernel_rfl
  have o3 : ((opsOf 43 7)[3]?).map (fun o => (o.op, o.dst, o.guard)) = some (.assign (.const (.int .i64 0)), some 3, .none) := by kernel_rfl
  obtain ⟨p0, q0, e0⟩ := Option.map_eq_some_iff.1 o0
  obtain ⟨p1, q1, e1⟩ := Option.map_eq_some_iff.1 o1
  obtain ⟨p2, q2, e2⟩ := Option.map_eq_some_iff.1 o2
  obtain ⟨p3, q3, e3⟩ := Option.map_eq_some_iff.1 o3
  simp only [Prod.mk.injEq] at e0 e1 e2 e3
  refine Dwp.stepH fun K hK => ?_
  have hsz : List.range (opsOf 43 7).size = [0, 1, 2, 3] := by kernel_rfl
  rw [hsz]
  refine Rg.op0 (d := .ptr id 0) (σ1 := σ) (id := 0) T7ok hd q0 (by rw [e0.2.2]; rfl) (by rw [e0.1]; rfl) (by rw [e0.1]; simp [dop, Qb, ty110, ty108, eval, ha]) rfl ?_
  rw [e0.2.1]
  refine Rg.reset (f := 99) (x := .tmp 13) (tys := #[108]) (r := .string s) E.2 hd q1 (by rw [e1.2.2]; rfl) e1.1 ⟨Tryz.f99, _, Tryz.func99, rfl, by decide⟩ ?_ ?_
  · intro C w v hs hv
    simp only [eval, QJ, upd] at hv
    exact string_call h1 h2 h0 h63 C w v hs (by simpa using hv)
  · rw [e1.2.1]
    refine Rg.op0 (d := .lit (.string s)) (σ1 := { n := σ.n, objs := fun _ => none, toks := fun _ => none }) (id := 0) T7ok hd q2 (by rw [e2.2.2]; rfl) (by rw [e2.1]; rfl) (by rw [e2.1]; simp [dop, eval, QJ, upd]) rfl ?_
    rw [e2.2.1]
    refine Rg.op0 (d := .lit (.int .i64 0)) (σ1 := { n := σ.n, objs := fun _ => none, toks := fun _ => none }) (id := 0) T7ok hd q3 (by rw [e3.2.2]; rfl) (by rw [e3.1]; rfl) (by rw [e3.1]; simp [dop, eval, Qy]) rfl ?_
    rw [e3.2.1]
    refine Rg.nil (hK _ _ (Dwp.ret ?_))
    refine ⟨.inr rfl, .tuple [.lit (.string s), .lit (.int .i64 0)], ?_, ?_⟩
    · show QH Tryz.prog _ _ [.tmp 2, .tmp 3] = _
      simp [QH, QV, QJ, upd]
    · simp [Enc.strErr, Enc.tup, QS, QM.and, QM.one, Enc.str, Enc.i64, Enc.int, frz, QW, QX]
def beqB (a b : ByteArray) : Bool := decide (a.data.toList = b.data.toList)
theorem QeD {a b : ByteArray} (h : beqB a b = true) : a = b := by
  have := of_decide_eq_true h
  cases a; cases b; simp only [ByteArray.mk.injEq]; exact Array.ext' this
mutual
def Qem : Tm → Tm → Bool
  | .mk k n t s ks r, .mk k' n' t' s' ks' r' => decide (k = k') && decide (n = n') && beqB t t' && beqB s s' && Qbw ks ks' && Qbw r r'
def Qbw : List Tm → List Tm → Bool
  | [], [] => true
  | x :: xs, y :: ys => Qem x y && Qbw xs ys
  | _, _ => false
end
mutual
theorem Qb4 : ∀ (x y : Tm), Qem x y = true → x = y
  | .mk k n t s ks r, .mk k' n' t' s' ks' r', h => by
    simp only [Qem, Bool.and_eq_true, decide_eq_true_eq] at h
    obtain ⟨⟨⟨⟨⟨rfl, rfl⟩, h1⟩, h2⟩, h3⟩, h4⟩ := h
    rw [QeD h1, QeD h2, Qb1 _ _ h3, Qb1 _ _ h4]
theorem Qb1 : ∀ (xs ys : List Tm), Qbw xs ys = true → xs = ys
  | [], [], _ => rfl
  | x :: xs, y :: ys, h => by
    simp only [Qbw, Bool.and_eq_true] at h
    rw [Qb4 x y h.1, Qb1 xs ys h.2]
  | [], _ :: _, h => by simp [Qbw] at h
  | _ :: _, [], h => by simp [Qbw] at h
end
def Qje (k n : Int) (t s : List UInt8) : Tm := .mk k n ⟨t.toArray⟩ ⟨s.toArray⟩ [] []
def t0T : Tm := .mk 5 0 ⟨#[112, 108, 117, 115]⟩ ⟨#[]⟩ [Qje 6 0 [88] [73, 110, 116], .mk 7 0 ⟨#[]⟩ ⟨#[]⟩ [Qje 1 (-1) [] []] [Qje 6 0 [76] [76, 105, 115, 116]]] []
def t0S : List UInt8 := [112, 108, 117, 115, 40, 88, 58, 73, 110, 116, 44, 32, 91, 45, 49, 32, 124, 32, 76, 93, 41]
theorem wrote0 : wrote t0S (QiR (M7 43) QjI (Qg8 0 [.agg t0T.cells] .leaf) ⟨0, .leaf, .leaf⟩) = true := by kernel_rfl
theorem pre43_ok : QjG Tryz.f43.ntmps QjI = true := by kernel_rfl
def s43 : Sp := sp (QM.one Enc.tm) Enc.strErr (fun t => if Qem t t0T then some (⟨t0S.toArray⟩, 0) else none)
theorem c43 : QC Tryz.prog 43 s43 := by
  refine QC.of_sp (T := T7) Tryz.func43 body43_eq (by decide) fun E t y hy => ?_
  split at hy
  · next ht =>
    have := Qb4 _ _ ht
    subst this
    simp only [Option.some.injEq] at hy; subst hy
    obtain ⟨r, s, id, bid, p, hrun, h4, h1, h2⟩ := wrote_spec wrote0
    have key := QiP (E := E.1) (n := Tryz.f43.ntmps) (rest := .seq (.region 7 (opsOf 43 7) false) .ret) (Q := QZ Tryz.prog Tryz.f43.results Enc.strErr (⟨t0S.toArray⟩, 0)) QjI _ _ r s pre43_ok hrun
      (text_end E h4 (s := ⟨t0S.toArray⟩) h1 h2 (by decide) (by decide))
    rw [Qi1] at key
    exact key
  · simp at hy
noncomputable def T8 : Tab := QG [(43, s43), (163, s163), (237, s237), (285, Qhp), (296, s296)]
theorem T8ok : QP Tryz.prog T8 := QP.cons ⟨c43, Tryz.f43, _, Tryz.func43, rfl, by decide⟩ (QP.cons ⟨c163, Tryz.f163, _, Tryz.func163, rfl, by decide⟩ (QP.cons e237 (QP.cons e285i (QP.cons e296 QP.nil))))
noncomputable def call8 (f : Nat) (g : Nat) (xs : List DV) : Option (DV × EvS) := evC Tryz.prog T8 H7 L1 M7 (ev Tryz.prog T8 H7 L1 M7 f) g xs ⟨0, .leaf, .leaf⟩
end Go.Proofs.Yt
namespace Go.FA
open Go.RowKit
set_option linter.unusedSimpArgs false
variable {P : Program} {T : Tab} {E : Entry} {n : Nat} {Q : Ex → (Nat → DV) → St → Prop} {a : Nat → DV} {σ : St}
def QhI (L : List Nat) (a0 a : Nat → DV) : Prop := ∀ r ∈ L, a r = a0 r
theorem QhI.refl (L : List Nat) (a : Nat → DV) : QhI L a a := fun _ _ => rfl
theorem QhI.upd {L : List Nat} {a0 a : Nat → DV} (h : QhI L a0 a) {t : Nat} (ht : t ∉ L) (d : DV) : QhI L a0 (upd a t d) := fun r hr => by
  have : r ≠ t := fun e => ht (e ▸ hr)
  rw [QeS _ _ _ _ this]; exact h r hr
theorem QhI.trans {L : List Nat} {a0 a1 a2 : Nat → DV} (h : QhI L a0 a1) (h' : QhI L a1 a2) : QhI L a0 a2 := fun r hr => (h' r hr).trans (h r hr)
@[simp] theorem Keep_nil (a0 a : Nat → DV) : QhI [] a0 a ↔ True := by simp [QhI]
@[simp] theorem Keep_cons (r : Nat) (L : List Nat) (a0 a : Nat → DV) : QhI (r :: L) a0 a ↔ a r = a0 r ∧ QhI L a0 a := by simp [QhI]
def QdT (b0 b1 t' idx : Nat) (len : Nat) (N i : Nat) (J : Nat → (Nat → DV) → St → Prop) (Q : Ex → (Nat → DV) → St → Prop) : Ex → (Nat → DV) → St → Prop
  | .exit id, a, σ => if id = b1 then a idx = .lit (.int .i64 i) ∧ a len = .lit (.int .i64 N) ∧ J (i + 1) (upd (upd a t' (.lit (.int .i64 (i + 1 : Nat)))) idx (.lit (.int .i64 (i + 1 : Nat)))) { σ with n := σ.n + 2 } else if id = b0 then Q .normal a σ else Q (.exit id) a σ
  | .normal, a, σ => a idx = .lit (.int .i64 i) ∧ a len = .lit (.int .i64 N) ∧ J (i + 1) (upd (upd a t' (.lit (.int .i64 (i + 1 : Nat)))) idx (.lit (.int .i64 (i + 1 : Nat)))) { σ with n := σ.n + 2 }
  | .ret, a, σ => Q .ret a σ
theorem wrapNext (i : Nat) (h : i < 4611686018427387904) : IntKind.i64.wrap ((i : Int) + 1) = ((i + 1 : Nat) : Int) := by
  simp [IntKind.wrap, IntKind.bits, IntKind.signed]; omega
theorem Dwp.range {b0 b1 r1 r2 : Nat} {body : Code} {o1 o2 o3 : Oper} {t idx len t' ty ty' : Nat} (hT : QP P T) (N : Nat) (J : Nat → (Nat → DV) → St → Prop)
    (e1 : o1.op = .binOp .lss ty (.tmp idx) (.tmp len) ty ∧ o1.dst = some t ∧ o1.guard = none) (e2 : o2.op = .binOp .add ty' (.tmp idx) (.const (.int .i64 1)) ty' ∧ o2.dst = some t' ∧ o2.guard = none)
    (e3 : o3.op = .move (.tmp t') ∧ o3.dst = some idx ∧ o3.guard = none) (hd : t < n ∧ t' < n ∧ idx < n) (hne : b1 ≠ b0 ∧ t ≠ idx ∧ t ≠ len ∧ t' ≠ idx ∧ t' ≠ len ∧ idx ≠ len)
    (hN : N < 4611686018427387904) (hidx : a idx = .lit (.int .i64 (0 : Nat))) (hlen : a len = .lit (.int .i64 N)) (h0 : J 0 a σ)
    (round : ∀ i a σ, i < N → a idx = .lit (.int .i64 i) → a len = .lit (.int .i64 N) → J i a σ → Dwp P T E n body (QdT b0 b1 t' idx len N i J Q) (upd a t (.lit (.bool true))) { σ with n := σ.n + 1 })
    (after : ∀ a σ, a idx = .lit (.int .i64 N) → a len = .lit (.int .i64 N) → J N a σ → Q .normal (upd a t (.lit (.bool false))) { σ with n := σ.n + 1 }) :
    Dwp P T E n (.block b0 (.loop (.seq (.region r1 #[o1] false) (.seq (.cond (.tmp t) .skip (.exit b0)) (.seq (.block b1 body) (.region r2 #[o2, o3] false)))))) Q a σ := by
  obtain ⟨p1, p2, p3⟩ := e1
  obtain ⟨q1, q2, q3⟩ := e2
  obtain ⟨s1, s2, s3⟩ := e3
  obtain ⟨d1, d2, d3⟩ := hd
  obtain ⟨n0, n1, n2, n3, n4, n5⟩ := hne
  refine Dwp.block (Dwp.loop (fun k a σ => ∃ i, i ≤ N ∧ k = N - i ∧ a idx = .lit (.int .i64 i) ∧ a len = .lit (.int .i64 N) ∧ J i a σ) N ⟨0, Nat.zero_le _, rfl, hidx, hlen, h0⟩ ?_)
  rintro k a σ ⟨i, hi, rfl, h1, h2, hJ⟩
  refine Dwp.step hT (by simp [Q5, p2, d1]) fun K hK => ?_
  simp only [QD, Qn, p1, p2, p3, QI, dop, eval, h1, h2, QK, if_true, intCmp, Option.map_some, QF, QJ]
  refine hK _ _ ?_ rfl; clear hK K
  by_cases hlt : i < N
  · have hb : decide ((i : Int) < (N : Int)) = true := by simp; omega
    rw [hb]
    refine Dwp.seq (Dwp.condT (by simp [eval, Go.FA.upd]) (Dwp.skip ?_))
    refine Dwp.seq (Dwp.block ((round i a σ hlt h1 h2 hJ).mono fun e a σ hq => ?_))
    have fin : ∀ a σ, a idx = .lit (.int .i64 i) → a len = .lit (.int .i64 N) → J (i + 1) (Go.FA.upd (Go.FA.upd a t' (.lit (.int .i64 (i + 1 : Nat)))) idx (.lit (.int .i64 (i + 1 : Nat)))) { σ with n := σ.n + 2 } →
        Dwp P T E n (.region r2 #[o2, o3] false) (Ex.then (fun a' σ' => ∃ k', k' < N - i ∧ ∃ i, i ≤ N ∧ k' = N - i ∧ a' idx = .lit (.int .i64 i) ∧ a' len = .lit (.int .i64 N) ∧ J i a' σ') (Ex.inBlock b0 Q)) a σ := by
      intro a σ g1 g2 g3
      refine Dwp.reg hT (by simp [Q5, q2, s2, d2, d3]) fun K hK => ?_
      simp only [QD, Qn, q1, q2, q3, s1, s2, s3, QI, dop, eval, Qy, g1, QK, if_true, Option.map_some, QF, QJ, upd_same]
      refine hK _ _ ?_ rfl
      rw [wrapNext i (by omega)]
      exact ⟨N - (i + 1), by omega, i + 1, hlt, rfl, upd_same _ _ _, by rw [QeS _ _ _ _ (Ne.symm n5), QeS _ _ _ _ (Ne.symm n4)]; exact g2, g3⟩
    cases e with
    | normal => exact fin a σ hq.1 hq.2.1 hq.2.2
    | ret => exact hq
    | exit id =>
      simp only [QdT] at hq
      simp only [Ex.inBlock]
      split at hq
      · next he => rw [if_pos he]; exact fin a σ hq.1 hq.2.1 hq.2.2
      · next he =>
        rw [if_neg he]
        simp only [Ex.then, Ex.inBlock]; exact hq
  · obtain rfl : i = N := by omega
    have hb : decide ((i : Int) < (i : Int)) = false := by simp
    rw [hb]
    refine Dwp.seq (Dwp.condF (by simp [eval, Go.FA.upd]) (Dwp.exit ?_))
    simp only [Ex.then, Ex.inBlock, if_true]
    exact after a σ h1 h2 hJ
end Go.FA
namespace Go.Proofs.Yt
open Go Go.FA Go.Proofs Go.RowKit
set_option linter.unusedSimpArgs false
set_option maxRecDepth 100000
mutual
def tsz : Tm → Nat
  | .mk _ _ _ _ ks r => 1 + Qa3 ks + Qa3 r
def Qa3 : List Tm → Nat
  | [] => 0
  | t :: l => tsz t + Qa3 l
end
theorem tsz_eq (t : Tm) : tsz t = 1 + Qa3 t.kids + Qa3 t.rest := by cases t; simp [tsz, Tm.kids, Tm.rest]
theorem Qe3 (t : Tm) : 1 ≤ tsz t := by rw [tsz_eq]; omega
theorem Qae : ∀ (l : List Tm) (t : Tm), t ∈ l → tsz t ≤ Qa3 l
  | x :: l, t, h => by
    simp only [Qa3]
    rcases List.mem_cons.1 h with rfl | h
    · omega
    · have := Qae l t h; omega
theorem Qaz : ∀ l : List Tm, l.length ≤ Qa3 l
  | [] => by simp [Qa3]
  | x :: l => by have := Qaz l; have := Qe3 x; simp [Qa3]; omega
mutual
theorem Qfl : ∀ x : Tm, Qem x x = true
  | .mk k n t s ks r => by simp [Qem, beqB, QcU ks, QcU r]
theorem QcU : ∀ l : List Tm, Qbw l l = true
  | [] => by simp [Qbw]
  | x :: l => by simp [Qbw, Qfl x, QcU l]
end
theorem Qih {x y : Tm} : Qem x y = true ↔ x = y := ⟨Qb4 x y, fun h => h ▸ Qfl x⟩
theorem QbX {x y : List Tm} : Qbw x y = true ↔ x = y := ⟨Qb1 x y, fun h => h ▸ QcU x⟩
theorem Qam {x y : Tm} (h : x ≠ y) : Qem x y = false := by
  cases hb : Qem x y
  · rfl
  · exact absurd (Qb4 _ _ hb) h
theorem Qa6 {x y : List Tm} (h : x ≠ y) : Qbw x y = false := by
  cases hb : Qbw x y
  · rfl
  · exact absurd (Qb1 _ _ hb) h
theorem QfQ (l : List Tm) : Enc.tms.enc l = .slice 6 .none (l.map Tm.cells) := rfl
theorem tmC (t : Tm) : Enc.tm.enc t = .agg t.cells := rfl
theorem Q8 (t : Tm) : t.cells.take 6 = t.cells := List.take_of_length_le (by rw [Tm.cells_len]; omega)
def tlim : Nat := 1048576
def s36 (n : Nat) : Sp := sp (QS Enc.tm Enc.tm) Enc.bool (fun x => if tsz x.1 ≤ n ∧ tsz x.1 ≤ tlim ∧ tsz x.2 ≤ tlim then some (Qem x.1 x.2) else none)
def s91 (n : Nat) : Sp := sp (QS Enc.tms Enc.tms) Enc.bool (fun x => if Qa3 x.1 ≤ n ∧ Qa3 x.1 ≤ tlim ∧ Qa3 x.2 ≤ tlim then some (Qbw x.1 x.2) else none)
theorem QjT {n : Nat} (T : Tab) (hT : T 36 = some (s36 n)) (t u : Tm) (h1 : tsz t ≤ n) (h2 : tsz t ≤ tlim) (h3 : tsz u ≤ tlim) : dcall T 36 [.agg t.cells, .agg u.cells] = some (.lit (.bool (Qem t u))) :=
  QaL (A := Enc.tm) (B := Enc.tm) (C := Enc.bool) hT (if_pos ⟨h1, h2, h3⟩)
theorem Qkg {n : Nat} (T : Tab) (hT : T 91 = some (s91 n)) (l m : List Tm) (h1 : Qa3 l ≤ n) (h2 : Qa3 l ≤ tlim) (h3 : Qa3 m ≤ tlim) : dcall T 91 [.slice 6 .none (l.map Tm.cells), .slice 6 .none (m.map Tm.cells)] = some (.lit (.bool (Qbw l m))) :=
  QaL (A := Enc.tms) (B := Enc.tms) (C := Enc.bool) hT (if_pos ⟨h1, h2, h3⟩)
theorem Qdv {α : Type} {l m : List α} {i : Nat} (hl : i < l.length) (hm : i < m.length) (h : l.take i = m.take i) (he : l[i] = m[i]) : l.take (i + 1) = m.take (i + 1) := by
  rw [List.take_succ_eq_append_getElem hl, List.take_succ_eq_append_getElem hm, h, he]
theorem c91 (n : Nat) (c36 : QC Tryz.prog 36 (s36 n)) : QC Tryz.prog 91 (s91 n) := by
  refine QC.of_sp (T := QG [(36, s36 n)]) Tryz.func91 rfl (Nat.le_of_ble_eq_true rfl) fun E xx y hy => ?_
  obtain ⟨l, m⟩ := xx
  simp only [] at hy
  split at hy
  case isFalse => cases hy
  next hlim =>
  obtain ⟨hn, hl, hm⟩ := hlim
  cases hy
  have hl' : l.length ≤ 16777216 := by have := Qaz l; unfold tlim at hl; omega
  have hm' : m.length ≤ 16777216 := by have := Qaz m; unfold tlim at hm; omega
  have tT : QP Tryz.prog (QG [(36, s36 n)]) := .cons ⟨c36, Tryz.f36, _, Tryz.func36, rfl, by decide⟩ .nil
  have g36 : ∀ t ∈ l, ∀ u ∈ m, dcall (QG [(36, s36 n)]) 36 [.agg t.cells, .agg u.cells] = some (.lit (.bool (Qem t u))) := fun t ht u hu =>
    QjT _ rfl t u (by have := Qae l t ht; omega) (by have := Qae l t ht; omega) (by have := Qae m u hu; omega)
  generalize QG [(36, s36 n)] = T at *
  refine Dwp.step tT rfl fun K hK => ?_
  simp [QD, QE, Qn, QI, own, Ql, dop, QJ, eval, Qy, QF, Ex.then, Ex.inBlock, upd, QK, Tag.isNN, Qm, intCmp, Qz, QA, TyI.agg, Qb, Qs, Qd, Qr, QL, QB, Qp, mapOf, Qx, Qo, Qf, Qi, Qg, Qu, DV.cells, Qt, Qh, Qq, Qv, rowsOf, Qw, Qe, Qa, Qa.go, Qj, Qk, Qc, goInt, init, QS, QM.and, QM.one]
  refine hK _ _ ?_ rfl; clear hK K
  refine Dwp.seq ?_
  refine Dwp.step tT rfl fun K hK => ?_
  by_cases hlen : l.length = m.length
  case neg =>
    have hlen' : ((l.length : Int) != (m.length : Int)) = true := by simp; omega
    simp [QD, QE, Qn, QI, own, Ql, dop, QJ, eval, Qy, QF, Ex.then, Ex.inBlock, upd, QK, Tag.isNN, Qm, intCmp, Qz, QA, TyI.agg, Qb, Qs, Qd, Qr, QL, QB, Qp, mapOf, Qx, Qo, Qf, Qi, Qg, Qu, DV.cells, Qt, Qh, Qq, Qv, rowsOf, Qw, Qe, Qa, Qa.go, Qj, Qk, Qc, goInt, init, Q9, QfQ, hlen']
    refine hK _ _ ?_ rfl; clear hK K
    refine Dwp.condT (by simp [eval, upd]) ?_
    refine Dwp.step tT rfl fun K hK => ?_
    simp [QD, QE, Qn, QI, own, Ql, dop, QJ, eval, Qy, QF, Ex.then, Ex.inBlock, upd, QK, Tag.isNN, Qm, intCmp, Qz, QA, TyI.agg, Qb, Qs, Qd, Qr, QL, QB, Qp, mapOf, Qx, Qo, Qf, Qi, Qg, Qu, DV.cells, Qt, Qh, Qq, Qv, rowsOf, Qw, Qe, Qa, Qa.go, Qj, Qk, Qc, goInt]
    refine hK _ _ (Dwp.ret ?_) rfl
    have : Qbw l m = false := Qa6 fun e => hlen (by rw [e])
    simp [QZ, QH, QV, frz, QX, QW, Ex.then, upd, Enc.bool, this]
  simp [QD, QE, Qn, QI, own, Ql, dop, QJ, eval, Qy, QF, Ex.then, Ex.inBlock, upd, QK, Tag.isNN, Qm, intCmp, Qz, QA, TyI.agg, Qb, Qs, Qd, Qr, QL, QB, Qp, mapOf, Qx, Qo, Qf, Qi, Qg, Qu, DV.cells, Qt, Qh, Qq, Qv, rowsOf, Qw, Qe, Qa, Qa.go, Qj, Qk, Qc, goInt, init, Q9, QfQ, hlen]
  refine hK _ _ ?_ rfl; clear hK K
  refine Dwp.condF (by simp [eval, upd]) (Dwp.skip ?_)
  refine Dwp.seq ?_
  refine Dwp.step tT rfl fun K hK => ?_
  simp [QD, QE, Qn, QI, own, Ql, dop, QJ, eval, Qy, QF, Ex.then, Ex.inBlock, upd, QK, Tag.isNN, Qm, intCmp, Qz, QA, TyI.agg, Qb, Qs, Qd, Qr, QL, QB, Qp, mapOf, Qx, Qo, Qf, Qi, Qg, Qu, DV.cells, Qt, Qh, Qq, Qv, rowsOf, Qw, Qe, Qa, Qa.go, Qj, Qk, Qc, goInt, init, Q9, QfQ, hlen]
  refine hK _ _ ?_ rfl; clear hK K
  refine Dwp.range tT m.length (fun i a σ => a 0 = .slice 6 .none (l.map Tm.cells) ∧ a 1 = .slice 6 .none (m.map Tm.cells) ∧ l.take i = m.take i) ⟨rfl, rfl, rfl⟩ ⟨rfl, rfl, rfl⟩ ⟨rfl, rfl, rfl⟩ (by decide) (by decide) (by omega) (by simp [upd]) (by simp [upd]) (by simp [upd, init]) ?_ ?_
  · rintro i a σ hi hidx hlen2 ⟨h0, h1, htk⟩
    have hil : i < l.length := by omega
    have g := g36 l[i] (List.getElem_mem _) m[i] (List.getElem_mem _)
    refine Dwp.step tT rfl fun K hK => ?_
    simp [QD, QE, Qn, QI, own, Ql, dop, QJ, eval, Qy, QF, Ex.then, Ex.inBlock, upd, QK, Tag.isNN, Qm, intCmp, Qz, QA, TyI.agg, Qb, Qs, Qd, Qr, QL, QB, Qp, mapOf, Qx, Qo, Qf, Qi, Qg, Qu, DV.cells, Qt, Qh, Qq, Qv, rowsOf, Qw, Qe, Qa, Qa.go, Qj, Qk, Qc, goInt, hidx]
    refine hK _ _ ?_ rfl; clear hK K
    refine Dwp.drawStep [] mixed tT rfl (by decide) fun K hK => ?_
    by_cases he : l[i] = m[i]
    · rw [Qih.2 he] at g
      simp [Qbj, touch, QaE, QD, QE, Qn, QI, own, Ql, dop, QJ, eval, Qy, QF, Ex.then, Ex.inBlock, upd, QK, Tag.isNN, Qm, intCmp, Qz, QA, TyI.agg, Qb, Qs, Qd, Qr, QL, QB, Qp, mapOf, Qx, Qo, Qf, Qi, Qg, Qu, DV.cells, Qt, Qh, Qq, Qv, rowsOf, Qw, Qe, Qa, Qa.go, Qj, Qk, Qc, goInt, h0, h1, Q9, Qab, hi, hil, Tm.cells_len, Q8, g]
      refine hK _ _ ?_ rfl; clear hK K
      refine Dwp.condF (by simp [eval, upd]) (Dwp.skip ?_)
      exact ⟨by simp [upd, hidx], by simp [upd, hlen2], by simp [upd, h0], by simp [upd, h1], Qdv hil hi htk he⟩
    · rw [Qam he] at g
      simp [Qbj, touch, QaE, QD, QE, Qn, QI, own, Ql, dop, QJ, eval, Qy, QF, Ex.then, Ex.inBlock, upd, QK, Tag.isNN, Qm, intCmp, Qz, QA, TyI.agg, Qb, Qs, Qd, Qr, QL, QB, Qp, mapOf, Qx, Qo, Qf, Qi, Qg, Qu, DV.cells, Qt, Qh, Qq, Qv, rowsOf, Qw, Qe, Qa, Qa.go, Qj, Qk, Qc, goInt, h0, h1, Q9, Qab, hi, hil, Tm.cells_len, Q8, g]
      refine hK _ _ ?_ rfl; clear hK K
      refine Dwp.condT (by simp [eval, upd]) ?_
      refine Dwp.step tT rfl fun K hK => ?_
      simp [QD, QE, Qn, QI, own, Ql, dop, QJ, eval, Qy, QF, Ex.then, Ex.inBlock, upd, QK, Tag.isNN, Qm, intCmp, Qz, QA, TyI.agg, Qb, Qs, Qd, Qr, QL, QB, Qp, mapOf, Qx, Qo, Qf, Qi, Qg, Qu, DV.cells, Qt, Qh, Qq, Qv, rowsOf, Qw, Qe, Qa, Qa.go, Qj, Qk, Qc, goInt]
      refine hK _ _ (Dwp.ret ?_) rfl
      have : Qbw l m = false := Qa6 fun e => he (by subst e; rfl)
      simp [QZ, QH, QV, frz, QX, QW, QdT, Ex.then, upd, Enc.bool, this]
  · rintro a σ hidx hlen2 ⟨h0, h1, htk⟩
    have : l = m := by rwa [List.take_of_length_le (by omega), List.take_of_length_le (by omega)] at htk
    refine Dwp.step tT rfl fun K hK => ?_
    simp [QD, QE, Qn, QI, own, Ql, dop, QJ, eval, Qy, QF, Ex.then, Ex.inBlock, upd, QK, Tag.isNN, Qm, intCmp, Qz, QA, TyI.agg, Qb, Qs, Qd, Qr, QL, QB, Qp, mapOf, Qx, Qo, Qf, Qi, Qg, Qu, DV.cells, Qt, Qh, Qq, Qv, rowsOf, Qw, Qe, Qa, Qa.go, Qj, Qk, Qc, goInt]
    refine hK _ _ (Dwp.ret ?_) rfl
    simp [QZ, QH, QV, frz, QX, QW, Ex.then, upd, Enc.bool, QbX.2 this]
theorem QR (k n : Int) (x s : ByteArray) (ks r : List Tm) : (Tm.mk k n x s ks r).cells = [.lit (.int .i64 k), .lit (.int .i64 n), .lit (.string x), .lit (.string s), .slice 6 .none (ks.map Tm.cells), .slice 6 .none (r.map Tm.cells)] := by
  simp [Tm.cells, Tm.rows_map]
set_option maxHeartbeats 2000000 in
theorem c36 (n : Nat) (cB : QC Tryz.prog 91 (s91 n)) : QC Tryz.prog 36 (s36 (n + 1)) := by
  refine QC.of_sp (T := QG [(91, s91 n)]) Tryz.func36 rfl (Nat.le_of_ble_eq_true rfl) fun E xx y hy => ?_
  obtain ⟨⟨k, nn, x, s, ks, r⟩, ⟨k', nn', x', s', ks', r'⟩⟩ := xx
  simp only [] at hy
  split at hy
  case isFalse => cases hy
  next hlim =>
  simp only [tsz] at hlim
  obtain ⟨hn, hl, hm⟩ := hlim
  cases hy
  have tT : QP Tryz.prog (QG [(91, s91 n)]) := .cons ⟨cB, Tryz.f91, _, Tryz.func91, rfl, by decide⟩ .nil
  have g1 := Qkg (QG [(91, s91 n)]) rfl ks ks' (by omega) (by omega) (by omega)
  have g2 := Qkg (QG [(91, s91 n)]) rfl r r' (by omega) (by omega) (by omega)
  generalize QG [(91, s91 n)] = T at *
  have fin : ∀ (b : Bool) (a : Nat → DV) (σ : St), a 4 = .lit (.bool b) → Qem (.mk k nn x s ks r) (.mk k' nn' x' s' ks' r') = b → QZ Tryz.prog Tryz.f36.results Enc.bool (Qem (.mk k nn x s ks r) (.mk k' nn' x' s' ks' r')) Ex.ret a σ := by
    intro b a σ h2 hb
    refine ⟨.inr rfl, .lit (.bool b), ?_, by simp [hb, QZ, QH, QV, frz, QX, QW, Enc.bool]⟩
    show QH Tryz.prog σ a [ResultVar.tmp 4] = _
    simp [QH, QV, h2]
  simp only [QS, QM.and, QM.one, tmC, QR]
  refine Dwp.step tT rfl fun K hK => ?_
  simp [QD, QE, Qn, QI, own, Ql, dop, QJ, eval, Qy, QF, Ex.then, Ex.inBlock, upd, QK, Tag.isNN, Qm, intCmp, Qz, QA, TyI.agg, Qb, Qs, Qd, Qr, QL, QB, Qp, mapOf, Qx, Qo, Qf, Qi, Qg, Qu, DV.cells, Qt, Qh, Qq, Qv, rowsOf, Qw, Qe, Qa, Qa.go, Qj, Qk, Qc, goInt, init, QR]
  refine hK _ _ ?_ rfl; clear hK K
  refine Dwp.step tT rfl fun K hK => ?_
  repeat ((first | refine QF.stepD rfl rfl ?_ | refine QF.stepG rfl rfl rfl ?_ | refine QF.stepN rfl rfl ?_ | refine QF.stepGN rfl rfl rfl ?_); intro K1 hK1; simp [QQ, QN, QI, dop, eval, Qy, upd, Qb, Qs, Qz, QA, TyI.agg, Qd, Qr, Qi, Qg, QB, QL, goInt, QK, intCmp, Qm, Tag.isNN, Qc, DV.cells, Qe, Qt, Qh, Qaa, ty3, ty9, Q9, Qab]; refine hK1 _ _ ?_; clear hK1 K1)
  by_cases h1 : k = k'
  case neg =>
    have h1n : (k == k') = false := by simpa using h1
    repeat ((first | refine QF.stepD rfl rfl ?_ | refine QF.stepG rfl rfl rfl ?_ | refine QF.stepN rfl rfl ?_ | refine QF.stepGN rfl rfl rfl ?_); intro K1 hK1; simp [QQ, QN, QI, dop, eval, Qy, upd, Qb, Qs, Qz, QA, TyI.agg, Qd, Qr, Qi, Qg, QB, QL, goInt, QK, intCmp, Qm, Tag.isNN, Qc, DV.cells, Qe, Qt, Qh, Qaa, ty3, ty9, Q9, Qab, h1n]; refine hK1 _ _ ?_; clear hK1 K1)
    refine QF.done (hK _ _ (Dwp.ret ?_) rfl)
    exact fin false _ _ (by simp [upd]) (Qam fun e => h1 (by cases e; rfl))
  have h1p : (k == k') = true := by simpa using h1
  repeat ((first | refine QF.stepD rfl rfl ?_ | refine QF.stepG rfl rfl rfl ?_ | refine QF.stepN rfl rfl ?_ | refine QF.stepGN rfl rfl rfl ?_); intro K1 hK1; simp [QQ, QN, QI, dop, eval, Qy, upd, Qb, Qs, Qz, QA, TyI.agg, Qd, Qr, Qi, Qg, QB, QL, goInt, QK, intCmp, Qm, Tag.isNN, Qc, DV.cells, Qe, Qt, Qh, Qaa, ty3, ty9, Q9, Qab, h1p]; refine hK1 _ _ ?_; clear hK1 K1)
  by_cases h2 : nn = nn'
  case neg =>
    have h2n : (nn == nn') = false := by simpa using h2
    repeat ((first | refine QF.stepD rfl rfl ?_ | refine QF.stepG rfl rfl rfl ?_ | refine QF.stepN rfl rfl ?_ | refine QF.stepGN rfl rfl rfl ?_); intro K1 hK1; simp [QQ, QN, QI, dop, eval, Qy, upd, Qb, Qs, Qz, QA, TyI.agg, Qd, Qr, Qi, Qg, QB, QL, goInt, QK, intCmp, Qm, Tag.isNN, Qc, DV.cells, Qe, Qt, Qh, Qaa, ty3, ty9, Q9, Qab, h2n]; refine hK1 _ _ ?_; clear hK1 K1)
    refine QF.done (hK _ _ (Dwp.ret ?_) rfl)
    exact fin false _ _ (by simp [upd]) (Qam fun e => h2 (by cases e; rfl))
  have h2p : (nn == nn') = true := by simpa using h2
  repeat ((first | refine QF.stepD rfl rfl ?_ | refine QF.stepG rfl rfl rfl ?_ | refine QF.stepN rfl rfl ?_ | refine QF.stepGN rfl rfl rfl ?_); intro K1 hK1; simp [QQ, QN, QI, dop, eval, Qy, upd, Qb, Qs, Qz, QA, TyI.agg, Qd, Qr, Qi, Qg, QB, QL, goInt, QK, intCmp, Qm, Tag.isNN, Qc, DV.cells, Qe, Qt, Qh, Qaa, ty3, ty9, Q9, Qab, h2p]; refine hK1 _ _ ?_; clear hK1 K1)
  by_cases h3 : x = x'
  case neg =>
    repeat ((first | refine QF.stepD rfl rfl ?_ | refine QF.stepG rfl rfl rfl ?_ | refine QF.stepN rfl rfl ?_ | refine QF.stepGN rfl rfl rfl ?_); intro K1 hK1; simp [QQ, QN, QI, dop, eval, Qy, upd, Qb, Qs, Qz, QA, TyI.agg, Qd, Qr, Qi, Qg, QB, QL, goInt, QK, intCmp, Qm, Tag.isNN, Qc, DV.cells, Qe, Qt, Qh, Qaa, ty3, ty9, Q9, Qab, h3]; refine hK1 _ _ ?_; clear hK1 K1)
    refine QF.done (hK _ _ (Dwp.ret ?_) rfl)
    exact fin false _ _ (by simp [upd]) (Qam fun e => h3 (by cases e; rfl))
  repeat ((first | refine QF.stepD rfl rfl ?_ | refine QF.stepG rfl rfl rfl ?_ | refine QF.stepN rfl rfl ?_ | refine QF.stepGN rfl rfl rfl ?_); intro K1 hK1; simp [QQ, QN, QI, dop, eval, Qy, upd, Qb, Qs, Qz, QA, TyI.agg, Qd, Qr, Qi, Qg, QB, QL, goInt, QK, intCmp, Qm, Tag.isNN, Qc, DV.cells, Qe, Qt, Qh, Qaa, ty3, ty9, Q9, Qab, h3]; refine hK1 _ _ ?_; clear hK1 K1)
  by_cases h4 : s = s'
  case neg =>
    repeat ((first | refine QF.stepD rfl rfl ?_ | refine QF.stepG rfl rfl rfl ?_ | refine QF.stepN rfl rfl ?_ | refine QF.stepGN rfl rfl rfl ?_); intro K1 hK1; simp [QQ, QN, QI, dop, eval, Qy, upd, Qb, Qs, Qz, QA, TyI.agg, Qd, Qr, Qi, Qg, QB, QL, goInt, QK, intCmp, Qm, Tag.isNN, Qc, DV.cells, Qe, Qt, Qh, Qaa, ty3, ty9, Q9, Qab, h4]; refine hK1 _ _ ?_; clear hK1 K1)
    refine QF.done (hK _ _ (Dwp.ret ?_) rfl)
    exact fin false _ _ (by simp [upd]) (Qam fun e => h4 (by cases e; rfl))
  repeat ((first | refine QF.stepD rfl rfl ?_ | refine QF.stepG rfl rfl rfl ?_ | refine QF.stepN rfl rfl ?_ | refine QF.stepGN rfl rfl rfl ?_); intro K1 hK1; simp [QQ, QN, QI, dop, eval, Qy, upd, Qb, Qs, Qz, QA, TyI.agg, Qd, Qr, Qi, Qg, QB, QL, goInt, QK, intCmp, Qm, Tag.isNN, Qc, DV.cells, Qe, Qt, Qh, Qaa, ty3, ty9, Q9, Qab, h4]; refine hK1 _ _ ?_; clear hK1 K1)
  by_cases h5 : ks = ks'
  case neg =>
    rw [Qa6 h5] at g1
    repeat ((first | refine QF.stepD rfl rfl ?_ | refine QF.stepG rfl rfl rfl ?_ | refine QF.stepN rfl rfl ?_ | refine QF.stepGN rfl rfl rfl ?_); intro K1 hK1; simp [QQ, QN, QI, dop, eval, Qy, upd, Qb, Qs, Qz, QA, TyI.agg, Qd, Qr, Qi, Qg, QB, QL, goInt, QK, intCmp, Qm, Tag.isNN, Qc, DV.cells, Qe, Qt, Qh, Qaa, ty3, ty9, Q9, Qab, Ql, h3, h4, g1, g2]; refine hK1 _ _ ?_; clear hK1 K1)
    refine QF.done (hK _ _ (Dwp.ret ?_) rfl)
    exact fin false _ _ (by simp [upd]) (Qam fun e => h5 (by cases e; rfl))
  rw [QbX.2 h5] at g1
  repeat ((first | refine QF.stepD rfl rfl ?_ | refine QF.stepG rfl rfl rfl ?_ | refine QF.stepN rfl rfl ?_ | refine QF.stepGN rfl rfl rfl ?_); intro K1 hK1; simp [QQ, QN, QI, dop, eval, Qy, upd, Qb, Qs, Qz, QA, TyI.agg, Qd, Qr, Qi, Qg, QB, QL, goInt, QK, intCmp, Qm, Tag.isNN, Qc, DV.cells, Qe, Qt, Qh, Qaa, ty3, ty9, Q9, Qab, Ql, h3, h4, g1, g2]; refine hK1 _ _ ?_; clear hK1 K1)
  refine QF.done (hK _ _ (Dwp.ret ?_) rfl)
  exact fin (Qbw r r') _ _ (by simp [upd, g2]) (by simp [Qem, beqB, h1, h2, h3, h4, QbX.2 h5])
theorem c36_0 : QC Tryz.prog 36 (s36 0) := by
  refine QC.of_sp (T := QG []) Tryz.func36 rfl (Nat.le_of_ble_eq_true rfl) fun E xx y hy => ?_
  obtain ⟨t, u⟩ := xx
  simp only [] at hy
  split at hy
  · next h => have := Qe3 t; omega
  · cases hy
theorem QhO : ∀ n, QC Tryz.prog 36 (s36 n) ∧ QC Tryz.prog 91 (s91 n)
  | 0 => ⟨c36_0, c91 0 c36_0⟩
  | n + 1 => have h := c36 n (QhO n).2; ⟨h, c91 (n + 1) h⟩
theorem e36 : Go.FA.Good Tryz.prog (36, s36 tlim) := ⟨(QhO tlim).1, Tryz.f36, _, Tryz.func36, rfl, by decide⟩
theorem setT (t : Tm) : setAt [DV.lit (.int .i64 0), .lit (.int .i64 0), .lit (.string ⟨#[]⟩), .lit (.string ⟨#[]⟩), .lit (.slice none 0 0), .lit (.slice none 0 0)] 0 t.cells = t.cells := by
  cases t; rfl
def s35 (n : Nat) : Sp := s36 n
def s90 (n : Nat) : Sp := sp (Q3 Enc.tms Enc.tms Enc.fn) Enc.bool (fun x => if x.2.2 = 35 ∧ Qa3 x.1 ≤ n ∧ Qa3 x.1 ≤ tlim ∧ Qa3 x.2.1 ≤ tlim then some (Qbw x.1 x.2.1) else none)
theorem QiN {n : Nat} (T : Tab) (hT : T 35 = some (s35 n)) (t u : Tm) (h1 : tsz t ≤ n) (h2 : tsz t ≤ tlim) (h3 : tsz u ≤ tlim) : dcall T 35 [.agg t.cells, .agg u.cells] = some (.lit (.bool (Qem t u))) :=
  QaL (A := Enc.tm) (B := Enc.tm) (C := Enc.bool) hT (if_pos ⟨h1, h2, h3⟩)
theorem QjY {n : Nat} (T : Tab) (hT : T 90 = some (s90 n)) (l m : List Tm) (h1 : Qa3 l ≤ n) (h2 : Qa3 l ≤ tlim) (h3 : Qa3 m ≤ tlim) : dcall T 90 [.slice 6 .none (l.map Tm.cells), .slice 6 .none (m.map Tm.cells), .lit (.func (.func 35) #[] #[])] = some (.lit (.bool (Qbw l m))) :=
  QfO (A := Enc.tms) (B := Enc.tms) (C := Enc.fn) (D := Enc.bool) (u := 35) hT (if_pos ⟨rfl, h1, h2, h3⟩)
theorem c90 (n : Nat) (c35 : QC Tryz.prog 35 (s35 n)) : QC Tryz.prog 90 (s90 n) := by
  refine QC.of_sp (T := QG [(35, s35 n)]) Tryz.func90 rfl (Nat.le_of_ble_eq_true rfl) fun E xx y hy => ?_
  obtain ⟨l, m, u⟩ := xx
  simp only [] at hy
  split at hy
  case isFalse => cases hy
  next hlim =>
  obtain ⟨hu, hn, hl, hm⟩ := hlim
  cases hy
  subst hu
  have hl' : l.length ≤ 16777216 := by have := Qaz l; unfold tlim at hl; omega
  have hm' : m.length ≤ 16777216 := by have := Qaz m; unfold tlim at hm; omega
  have tT : QP Tryz.prog (QG [(35, s35 n)]) := .cons ⟨c35, Tryz.f35, _, Tryz.func35, rfl, by decide⟩ .nil
  have g36 : ∀ t ∈ l, ∀ u ∈ m, dcall (QG [(35, s35 n)]) 35 [.agg t.cells, .agg u.cells] = some (.lit (.bool (Qem t u))) := fun t ht u hu =>
    QiN _ rfl t u (by have := Qae l t ht; omega) (by have := Qae l t ht; omega) (by have := Qae m u hu; omega)
  generalize QG [(35, s35 n)] = T at *
  refine Dwp.step tT rfl fun K hK => ?_
  simp [QD, QE, Qn, QI, own, Ql, dop, QJ, eval, Qy, QF, Ex.then, Ex.inBlock, upd, QK, Tag.isNN, Qm, intCmp, Qz, QA, TyI.agg, Qb, Qs, Qd, Qr, QL, QB, Qp, mapOf, Qx, Qo, Qf, Qi, Qg, Qu, DV.cells, Qt, Qh, Qq, Qv, rowsOf, Qw, Qe, Qa, Qa.go, Qj, Qk, Qc, goInt, init, Q3, QM.and, QM.one]
  refine hK _ _ ?_ rfl; clear hK K
  refine Dwp.seq ?_
  refine Dwp.step tT rfl fun K hK => ?_
  by_cases hlen : l.length = m.length
  case neg =>
    have hlen' : ((l.length : Int) != (m.length : Int)) = true := by simp; omega
    simp [QD, QE, Qn, QI, own, Ql, dop, QJ, eval, Qy, QF, Ex.then, Ex.inBlock, upd, QK, Tag.isNN, Qm, intCmp, Qz, QA, TyI.agg, Qb, Qs, Qd, Qr, QL, QB, Qp, mapOf, Qx, Qo, Qf, Qi, Qg, Qu, DV.cells, Qt, Qh, Qq, Qv, rowsOf, Qw, Qe, Qa, Qa.go, Qj, Qk, Qc, goInt, init, Q9, QfQ, hlen']
    refine hK _ _ ?_ rfl; clear hK K
    refine Dwp.condT (by simp [eval, upd]) ?_
    refine Dwp.step tT rfl fun K hK => ?_
    simp [QD, QE, Qn, QI, own, Ql, dop, QJ, eval, Qy, QF, Ex.then, Ex.inBlock, upd, QK, Tag.isNN, Qm, intCmp, Qz, QA, TyI.agg, Qb, Qs, Qd, Qr, QL, QB, Qp, mapOf, Qx, Qo, Qf, Qi, Qg, Qu, DV.cells, Qt, Qh, Qq, Qv, rowsOf, Qw, Qe, Qa, Qa.go, Qj, Qk, Qc, goInt]
    refine hK _ _ (Dwp.ret ?_) rfl
    have : Qbw l m = false := Qa6 fun e => hlen (by rw [e])
    simp [QZ, QH, QV, frz, QX, QW, Ex.then, upd, Enc.bool, this]
  simp [QD, QE, Qn, QI, own, Ql, dop, QJ, eval, Qy, QF, Ex.then, Ex.inBlock, upd, QK, Tag.isNN, Qm, intCmp, Qz, QA, TyI.agg, Qb, Qs, Qd, Qr, QL, QB, Qp, mapOf, Qx, Qo, Qf, Qi, Qg, Qu, DV.cells, Qt, Qh, Qq, Qv, rowsOf, Qw, Qe, Qa, Qa.go, Qj, Qk, Qc, goInt, init, Q9, QfQ, hlen]
  refine hK _ _ ?_ rfl; clear hK K
  refine Dwp.condF (by simp [eval, upd]) (Dwp.skip ?_)
  refine Dwp.seq ?_
  refine Dwp.step tT rfl fun K hK => ?_
  simp [QD, QE, Qn, QI, own, Ql, dop, QJ, eval, Qy, QF, Ex.then, Ex.inBlock, upd, QK, Tag.isNN, Qm, intCmp, Qz, QA, TyI.agg, Qb, Qs, Qd, Qr, QL, QB, Qp, mapOf, Qx, Qo, Qf, Qi, Qg, Qu, DV.cells, Qt, Qh, Qq, Qv, rowsOf, Qw, Qe, Qa, Qa.go, Qj, Qk, Qc, goInt, init, Q9, QfQ, hlen]
  refine hK _ _ ?_ rfl; clear hK K
  refine Dwp.range tT m.length (fun i a σ => a 1 = .slice 6 .none (m.map Tm.cells) ∧ a 2 = .lit (.func (.func 35) #[] #[]) ∧ a 15 = .slice 6 .none (l.map Tm.cells) ∧ l.take i = m.take i) ⟨rfl, rfl, rfl⟩ ⟨rfl, rfl, rfl⟩ ⟨rfl, rfl, rfl⟩ (by decide) (by decide) (by omega) (by simp [upd]) (by simp [upd]) ⟨by simp [upd, init, QfQ], by simp [upd, init, Enc.fn], by simp [upd, init, QfQ], by simp⟩ ?_ ?_
  · rintro i a σ hi hidx hlen2 ⟨k1, k2, k15, htk⟩
    have hil : i < l.length := by omega
    obtain ⟨o, ho⟩ : ∃ o, o = l[i] := ⟨_, rfl⟩
    obtain ⟨p, hp⟩ : ∃ p, p = m[i] := ⟨_, rfl⟩
    have g := g36 o (by rw [ho]; exact List.getElem_mem hil) p (by rw [hp]; exact List.getElem_mem hi)
    refine Dwp.step tT rfl fun K hK => ?_
    simp [QD, QE, Qn, QI, own, Ql, dop, QJ, eval, Qy, QF, Ex.then, Ex.inBlock, upd, QK, Tag.isNN, Qm, intCmp, Qz, QA, TyI.agg, Qb, Qs, Qd, Qr, QL, QB, Qp, mapOf, Qx, Qo, Qf, Qi, Qg, Qu, DV.cells, Qt, Qh, Qq, Qv, rowsOf, Qw, Qe, Qa, Qa.go, Qj, Qk, Qc, goInt, hidx, k15, Q9, Qab, hil, ← ho, setT, Tm.cells_len, Q8]
    refine hK _ _ ?_ rfl; clear hK K
    refine Dwp.step tT rfl fun K hK => ?_
    simp [QD, QE, Qn, QI, own, Ql, dop, QJ, eval, Qy, QF, Ex.then, Ex.inBlock, upd, QK, Tag.isNN, Qm, intCmp, Qz, QA, TyI.agg, Qb, Qs, Qd, Qr, QL, QB, Qp, mapOf, Qx, Qo, Qf, Qi, Qg, Qu, DV.cells, Qt, Qh, Qq, Qv, rowsOf, Qw, Qe, Qa, Qa.go, Qj, Qk, Qc, goInt, k1, Q9, Qab, hi, ← hp, setT, Tm.cells_len, Q8]
    refine hK _ _ ?_ rfl; clear hK K
    refine Dwp.step tT rfl fun K hK => ?_
    by_cases he : o = p
    · rw [Qih.2 he] at g
      simp [QD, QE, Qn, QI, own, Ql, dop, QJ, eval, Qy, QF, Ex.then, Ex.inBlock, upd, QK, Tag.isNN, Qm, intCmp, Qz, QA, TyI.agg, Qb, Qs, Qd, Qr, QL, QB, Qp, mapOf, Qx, Qo, Qf, Qi, Qg, Qu, DV.cells, Qt, Qh, Qq, Qv, rowsOf, Qw, Qe, Qa, Qa.go, Qj, Qk, Qc, goInt, k2, Qab, g, Tm.cells_len, Q8]
      refine hK _ _ ?_ rfl
      refine Dwp.condF (by simp [eval, upd]) (Dwp.skip ?_)
      exact ⟨by simp [upd, hidx], by simp [upd, hlen2], by simp [upd, k1], by simp [upd, k2], by simp [upd, k15], Qdv hil hi htk (by rw [← ho, ← hp]; exact he)⟩
    · rw [Qam he] at g
      simp [QD, QE, Qn, QI, own, Ql, dop, QJ, eval, Qy, QF, Ex.then, Ex.inBlock, upd, QK, Tag.isNN, Qm, intCmp, Qz, QA, TyI.agg, Qb, Qs, Qd, Qr, QL, QB, Qp, mapOf, Qx, Qo, Qf, Qi, Qg, Qu, DV.cells, Qt, Qh, Qq, Qv, rowsOf, Qw, Qe, Qa, Qa.go, Qj, Qk, Qc, goInt, k2, Qab, g, Tm.cells_len, Q8]
      refine hK _ _ ?_ rfl
      refine Dwp.condT (by simp [eval, upd]) ?_
      refine Dwp.step tT rfl fun K hK => ?_
      simp [QD, QE, Qn, QI, own, Ql, dop, QJ, eval, Qy, QF, Ex.then, Ex.inBlock, upd, QK, Tag.isNN, Qm, intCmp, Qz, QA, TyI.agg, Qb, Qs, Qd, Qr, QL, QB, Qp, mapOf, Qx, Qo, Qf, Qi, Qg, Qu, DV.cells, Qt, Qh, Qq, Qv, rowsOf, Qw, Qe, Qa, Qa.go, Qj, Qk, Qc, goInt]
      refine hK _ _ (Dwp.ret ?_) rfl
      have : Qbw l m = false := Qa6 fun e => he (by subst e; rw [ho, hp])
      simp [QZ, QH, QV, frz, QX, QW, QdT, Ex.then, upd, Enc.bool, this]
  · rintro a σ hidx hlen2 ⟨k1, k2, k15, htk⟩
    have : l = m := by rwa [List.take_of_length_le (by omega), List.take_of_length_le (by omega)] at htk
    refine Dwp.step tT rfl fun K hK => ?_
    simp [QD, QE, Qn, QI, own, Ql, dop, QJ, eval, Qy, QF, Ex.then, Ex.inBlock, upd, QK, Tag.isNN, Qm, intCmp, Qz, QA, TyI.agg, Qb, Qs, Qd, Qr, QL, QB, Qp, mapOf, Qx, Qo, Qf, Qi, Qg, Qu, DV.cells, Qt, Qh, Qq, Qv, rowsOf, Qw, Qe, Qa, Qa.go, Qj, Qk, Qc, goInt]
    refine hK _ _ (Dwp.ret ?_) rfl
    simp [QZ, QH, QV, frz, QX, QW, Ex.then, upd, Enc.bool, QbX.2 this]
set_option maxHeartbeats 2000000 in
theorem c35 (n : Nat) (cB : QC Tryz.prog 90 (s90 n)) : QC Tryz.prog 35 (s35 (n + 1)) := by
  refine QC.of_sp (T := QG [(90, s90 n)]) Tryz.func35 rfl (Nat.le_of_ble_eq_true rfl) fun E xx y hy => ?_
  obtain ⟨⟨k, nn, x, s, ks, r⟩, ⟨k', nn', x', s', ks', r'⟩⟩ := xx
  simp only [] at hy
  split at hy
  case isFalse => cases hy
  next hlim =>
  simp only [tsz] at hlim
  obtain ⟨hn, hl, hm⟩ := hlim
  cases hy
  have tT : QP Tryz.prog (QG [(90, s90 n)]) := .cons ⟨cB, Tryz.f90, _, Tryz.func90, rfl, by decide⟩ .nil
  have g1 := QjY (QG [(90, s90 n)]) rfl ks ks' (by omega) (by omega) (by omega)
  have g2 := QjY (QG [(90, s90 n)]) rfl r r' (by omega) (by omega) (by omega)
  generalize QG [(90, s90 n)] = T at *
  have fin : ∀ (b : Bool) (a : Nat → DV) (σ : St), a 4 = .lit (.bool b) → Qem (.mk k nn x s ks r) (.mk k' nn' x' s' ks' r') = b → QZ Tryz.prog Tryz.f35.results Enc.bool (Qem (.mk k nn x s ks r) (.mk k' nn' x' s' ks' r')) Ex.ret a σ := by
    intro b a σ h2 hb
    refine ⟨.inr rfl, .lit (.bool b), ?_, by simp [hb, QZ, QH, QV, frz, QX, QW, Enc.bool]⟩
    show QH Tryz.prog σ a [ResultVar.tmp 4] = _
    simp [QH, QV, h2]
  simp only [QS, QM.and, QM.one, tmC, QR]
  refine Dwp.step tT rfl fun K hK => ?_
  simp [QD, QE, Qn, QI, own, Ql, dop, QJ, eval, Qy, QF, Ex.then, Ex.inBlock, upd, QK, Tag.isNN, Qm, intCmp, Qz, QA, TyI.agg, Qb, Qs, Qd, Qr, QL, QB, Qp, mapOf, Qx, Qo, Qf, Qi, Qg, Qu, DV.cells, Qt, Qh, Qq, Qv, rowsOf, Qw, Qe, Qa, Qa.go, Qj, Qk, Qc, goInt, init, QR]
  refine hK _ _ ?_ rfl; clear hK K
  refine Dwp.step tT rfl fun K hK => ?_
  repeat ((first | refine QF.stepD rfl rfl ?_ | refine QF.stepG rfl rfl rfl ?_ | refine QF.stepN rfl rfl ?_ | refine QF.stepGN rfl rfl rfl ?_); intro K1 hK1; simp [QQ, QN, QI, dop, eval, Qy, upd, Qb, Qs, Qz, QA, TyI.agg, Qd, Qr, Qi, Qg, QB, QL, goInt, QK, intCmp, Qm, Tag.isNN, Qc, DV.cells, Qe, Qt, Qh, Qaa, ty3, ty9, Q9, Qab]; refine hK1 _ _ ?_; clear hK1 K1)
  by_cases h1 : k = k'
  case neg =>
    have h1n : (k == k') = false := by simpa using h1
    repeat ((first | refine QF.stepD rfl rfl ?_ | refine QF.stepG rfl rfl rfl ?_ | refine QF.stepN rfl rfl ?_ | refine QF.stepGN rfl rfl rfl ?_); intro K1 hK1; simp [QQ, QN, QI, dop, eval, Qy, upd, Qb, Qs, Qz, QA, TyI.agg, Qd, Qr, Qi, Qg, QB, QL, goInt, QK, intCmp, Qm, Tag.isNN, Qc, DV.cells, Qe, Qt, Qh, Qaa, ty3, ty9, Q9, Qab, h1n]; refine hK1 _ _ ?_; clear hK1 K1)
    refine QF.done (hK _ _ (Dwp.ret ?_) rfl)
    exact fin false _ _ (by simp [upd]) (Qam fun e => h1 (by cases e; rfl))
  have h1p : (k == k') = true := by simpa using h1
  repeat ((first | refine QF.stepD rfl rfl ?_ | refine QF.stepG rfl rfl rfl ?_ | refine QF.stepN rfl rfl ?_ | refine QF.stepGN rfl rfl rfl ?_); intro K1 hK1; simp [QQ, QN, QI, dop, eval, Qy, upd, Qb, Qs, Qz, QA, TyI.agg, Qd, Qr, Qi, Qg, QB, QL, goInt, QK, intCmp, Qm, Tag.isNN, Qc, DV.cells, Qe, Qt, Qh, Qaa, ty3, ty9, Q9, Qab, h1p]; refine hK1 _ _ ?_; clear hK1 K1)
  by_cases h2 : nn = nn'
  case neg =>
    have h2n : (nn == nn') = false := by simpa using h2
    repeat ((first | refine QF.stepD rfl rfl ?_ | refine QF.stepG rfl rfl rfl ?_ | refine QF.stepN rfl rfl ?_ | refine QF.stepGN rfl rfl rfl ?_); intro K1 hK1; simp [QQ, QN, QI, dop, eval, Qy, upd, Qb, Qs, Qz, QA, TyI.agg, Qd, Qr, Qi, Qg, QB, QL, goInt, QK, intCmp, Qm, Tag.isNN, Qc, DV.cells, Qe, Qt, Qh, Qaa, ty3, ty9, Q9, Qab, h2n]; refine hK1 _ _ ?_; clear hK1 K1)
    refine QF.done (hK _ _ (Dwp.ret ?_) rfl)
    exact fin false _ _ (by simp [upd]) (Qam fun e => h2 (by cases e; rfl))
  have h2p : (nn == nn') = true := by simpa using h2
  repeat ((first | refine QF.stepD rfl rfl ?_ | refine QF.stepG rfl rfl rfl ?_ | refine QF.stepN rfl rfl ?_ | refine QF.stepGN rfl rfl rfl ?_); intro K1 hK1; simp [QQ, QN, QI, dop, eval, Qy, upd, Qb, Qs, Qz, QA, TyI.agg, Qd, Qr, Qi, Qg, QB, QL, goInt, QK, intCmp, Qm, Tag.isNN, Qc, DV.cells, Qe, Qt, Qh, Qaa, ty3, ty9, Q9, Qab, h2p]; refine hK1 _ _ ?_; clear hK1 K1)
  by_cases h3 : x = x'
  case neg =>
    repeat ((first | refine QF.stepD rfl rfl ?_ | refine QF.stepG rfl rfl rfl ?_ | refine QF.stepN rfl rfl ?_ | refine QF.stepGN rfl rfl rfl ?_); intro K1 hK1; simp [QQ, QN, QI, dop, eval, Qy, upd, Qb, Qs, Qz, QA, TyI.agg, Qd, Qr, Qi, Qg, QB, QL, goInt, QK, intCmp, Qm, Tag.isNN, Qc, DV.cells, Qe, Qt, Qh, Qaa, ty3, ty9, Q9, Qab, h3]; refine hK1 _ _ ?_; clear hK1 K1)
    refine QF.done (hK _ _ (Dwp.ret ?_) rfl)
    exact fin false _ _ (by simp [upd]) (Qam fun e => h3 (by cases e; rfl))
  repeat ((first | refine QF.stepD rfl rfl ?_ | refine QF.stepG rfl rfl rfl ?_ | refine QF.stepN rfl rfl ?_ | refine QF.stepGN rfl rfl rfl ?_); intro K1 hK1; simp [QQ, QN, QI, dop, eval, Qy, upd, Qb, Qs, Qz, QA, TyI.agg, Qd, Qr, Qi, Qg, QB, QL, goInt, QK, intCmp, Qm, Tag.isNN, Qc, DV.cells, Qe, Qt, Qh, Qaa, ty3, ty9, Q9, Qab, h3]; refine hK1 _ _ ?_; clear hK1 K1)
  by_cases h4 : s = s'
  case neg =>
    repeat ((first | refine QF.stepD rfl rfl ?_ | refine QF.stepG rfl rfl rfl ?_ | refine QF.stepN rfl rfl ?_ | refine QF.stepGN rfl rfl rfl ?_); intro K1 hK1; simp [QQ, QN, QI, dop, eval, Qy, upd, Qb, Qs, Qz, QA, TyI.agg, Qd, Qr, Qi, Qg, QB, QL, goInt, QK, intCmp, Qm, Tag.isNN, Qc, DV.cells, Qe, Qt, Qh, Qaa, ty3, ty9, Q9, Qab, h4]; refine hK1 _ _ ?_; clear hK1 K1)
    refine QF.done (hK _ _ (Dwp.ret ?_) rfl)
    exact fin false _ _ (by simp [upd]) (Qam fun e => h4 (by cases e; rfl))
  repeat ((first | refine QF.stepD rfl rfl ?_ | refine QF.stepG rfl rfl rfl ?_ | refine QF.stepN rfl rfl ?_ | refine QF.stepGN rfl rfl rfl ?_); intro K1 hK1; simp [QQ, QN, QI, dop, eval, Qy, upd, Qb, Qs, Qz, QA, TyI.agg, Qd, Qr, Qi, Qg, QB, QL, goInt, QK, intCmp, Qm, Tag.isNN, Qc, DV.cells, Qe, Qt, Qh, Qaa, ty3, ty9, Q9, Qab, h4]; refine hK1 _ _ ?_; clear hK1 K1)
  by_cases h5 : ks = ks'
  case neg =>
    rw [Qa6 h5] at g1
    repeat ((first | refine QF.stepD rfl rfl ?_ | refine QF.stepG rfl rfl rfl ?_ | refine QF.stepN rfl rfl ?_ | refine QF.stepGN rfl rfl rfl ?_); intro K1 hK1; simp [QQ, QN, QI, dop, eval, Qy, upd, Qb, Qs, Qz, QA, TyI.agg, Qd, Qr, Qi, Qg, QB, QL, goInt, QK, intCmp, Qm, Tag.isNN, Qc, DV.cells, Qe, Qt, Qh, Qaa, ty3, ty9, Q9, Qab, Ql, h3, h4, g1, g2]; refine hK1 _ _ ?_; clear hK1 K1)
    refine QF.done (hK _ _ (Dwp.ret ?_) rfl)
    exact fin false _ _ (by simp [upd]) (Qam fun e => h5 (by cases e; rfl))
  rw [QbX.2 h5] at g1
  repeat ((first | refine QF.stepD rfl rfl ?_ | refine QF.stepG rfl rfl rfl ?_ | refine QF.stepN rfl rfl ?_ | refine QF.stepGN rfl rfl rfl ?_); intro K1 hK1; simp [QQ, QN, QI, dop, eval, Qy, upd, Qb, Qs, Qz, QA, TyI.agg, Qd, Qr, Qi, Qg, QB, QL, goInt, QK, intCmp, Qm, Tag.isNN, Qc, DV.cells, Qe, Qt, Qh, Qaa, ty3, ty9, Q9, Qab, Ql, h3, h4, g1, g2]; refine hK1 _ _ ?_; clear hK1 K1)
  refine QF.done (hK _ _ (Dwp.ret ?_) rfl)
  exact fin (Qbw r r') _ _ (by simp [upd, g2]) (by simp [Qem, beqB, h1, h2, h3, h4, QbX.2 h5])
theorem c35_0 : QC Tryz.prog 35 (s35 0) := by
  refine QC.of_sp (T := QG []) Tryz.func35 rfl (Nat.le_of_ble_eq_true rfl) fun E xx y hy => ?_
  obtain ⟨t, u⟩ := xx
  simp only [] at hy
  split at hy
  · next h => have := Qe3 t; omega
  · cases hy
theorem Qgy : ∀ n, QC Tryz.prog 35 (s35 n) ∧ QC Tryz.prog 90 (s90 n)
  | 0 => ⟨c35_0, c90 0 c35_0⟩
  | n + 1 => have h := c35 n (Qgy n).2; ⟨h, c90 (n + 1) h⟩
theorem e35 : Go.FA.Good Tryz.prog (35, s35 tlim) := ⟨(Qgy tlim).1, Tryz.f35, _, Tryz.func35, rfl, by decide⟩
def Qb7 (a b : Int) : Int := if a < b then -1 else if b < a then 1 else 0
def Qcs (a b : ByteArray) : Int := if Op.bytesLess a.toList b.toList = true then -1 else if a = b then 0 else 1
def sNI : Sp := sp (QU (Enc.int .i64)) Enc.bool (fun _ => some false)
def sNS : Sp := sp (QU Enc.str) Enc.bool (fun _ => some false)
def sOI : Sp := sp (QS (Enc.int .i64) (Enc.int .i64)) (Enc.int .i64) (fun x => some (Qb7 x.1 x.2))
def sOS : Sp := sp (QS Enc.str Enc.str) (Enc.int .i64) (fun x => some (Qcs x.1 x.2))
theorem c248 : QC Tryz.prog 248 sNI := by
  refine QC.of_sp (T := QG []) Tryz.func248 rfl (Nat.le_of_ble_eq_true rfl) fun E x y hy => ?_
  cases hy
  have tT := Q6 (P := Tryz.prog)
  refine Dwp.step tT rfl fun K hK => ?_
  simp [QD, QE, Qn, QI, own, Ql, dop, QJ, eval, Qy, QF, Ex.then, Ex.inBlock, upd, QK, Tag.isNN, Qm, intCmp, Qz, QA, TyI.agg, Qb, Qs, Qd, Qr, QL, QB, Qp, mapOf, Qx, Qo, Qf, Qi, dcall, QG, Qg, Qu, DV.cells, setAt, Qt, Qh, Qq, Qv, rowsOf, Qw, Qe, Qa, Qa.go, Qj, Qk, Qc, goInt, init, QU, QM.one, Enc.int]
  refine hK _ _ ?_ rfl; clear hK K
  refine Dwp.step tT rfl fun K hK => ?_
  simp [QD, QE, Qn, QI, own, Ql, dop, QJ, eval, Qy, QF, Ex.then, Ex.inBlock, upd, QK, Tag.isNN, Qm, intCmp, Qz, QA, TyI.agg, Qb, Qs, Qd, Qr, QL, QB, Qp, mapOf, Qx, Qo, Qf, Qi, dcall, QG, Qg, Qu, DV.cells, setAt, Qt, Qh, Qq, Qv, rowsOf, Qw, Qe, Qa, Qa.go, Qj, Qk, Qc, goInt, init, Qaa]
  refine hK _ _ (Dwp.ret ?_) rfl
  simp [QZ, QH, QV, frz, QX, QW, Ex.then, upd, Enc.bool]
theorem c249 : QC Tryz.prog 249 sNI := by
  refine QC.of_sp (T := QG []) Tryz.func249 rfl (Nat.le_of_ble_eq_true rfl) fun E x y hy => ?_
  cases hy
  have tT := Q6 (P := Tryz.prog)
  refine Dwp.step tT rfl fun K hK => ?_
  simp [QD, QE, Qn, QI, own, Ql, dop, QJ, eval, Qy, QF, Ex.then, Ex.inBlock, upd, QK, Tag.isNN, Qm, intCmp, Qz, QA, TyI.agg, Qb, Qs, Qd, Qr, QL, QB, Qp, mapOf, Qx, Qo, Qf, Qi, dcall, QG, Qg, Qu, DV.cells, setAt, Qt, Qh, Qq, Qv, rowsOf, Qw, Qe, Qa, Qa.go, Qj, Qk, Qc, goInt, init, QU, QM.one, Enc.int]
  refine hK _ _ ?_ rfl; clear hK K
  refine Dwp.step tT rfl fun K hK => ?_
  simp [QD, QE, Qn, QI, own, Ql, dop, QJ, eval, Qy, QF, Ex.then, Ex.inBlock, upd, QK, Tag.isNN, Qm, intCmp, Qz, QA, TyI.agg, Qb, Qs, Qd, Qr, QL, QB, Qp, mapOf, Qx, Qo, Qf, Qi, dcall, QG, Qg, Qu, DV.cells, setAt, Qt, Qh, Qq, Qv, rowsOf, Qw, Qe, Qa, Qa.go, Qj, Qk, Qc, goInt, init, ty3]
  refine hK _ _ (Dwp.ret ?_) rfl
  simp [QZ, QH, QV, frz, QX, QW, Ex.then, upd, Enc.bool]
theorem c250 : QC Tryz.prog 250 sNS := by
  refine QC.of_sp (T := QG []) Tryz.func250 rfl (Nat.le_of_ble_eq_true rfl) fun E x y hy => ?_
  cases hy
  have tT := Q6 (P := Tryz.prog)
  refine Dwp.step tT rfl fun K hK => ?_
  simp [QD, QE, Qn, QI, own, Ql, dop, QJ, eval, Qy, QF, Ex.then, Ex.inBlock, upd, QK, Tag.isNN, Qm, intCmp, Qz, QA, TyI.agg, Qb, Qs, Qd, Qr, QL, QB, Qp, mapOf, Qx, Qo, Qf, Qi, dcall, QG, Qg, Qu, DV.cells, setAt, Qt, Qh, Qq, Qv, rowsOf, Qw, Qe, Qa, Qa.go, Qj, Qk, Qc, goInt, init, QU, QM.one, Enc.str]
  refine hK _ _ ?_ rfl; clear hK K
  refine Dwp.step tT rfl fun K hK => ?_
  simp [QD, QE, Qn, QI, own, Ql, dop, QJ, eval, Qy, QF, Ex.then, Ex.inBlock, upd, QK, Tag.isNN, Qm, intCmp, Qz, QA, TyI.agg, Qb, Qs, Qd, Qr, QL, QB, Qp, mapOf, Qx, Qo, Qf, Qi, dcall, QG, Qg, Qu, DV.cells, setAt, Qt, Qh, Qq, Qv, rowsOf, Qw, Qe, Qa, Qa.go, Qj, Qk, Qc, goInt, init, ty9]
  refine hK _ _ (Dwp.ret ?_) rfl
  simp [QZ, QH, QV, frz, QX, QW, Ex.then, upd, Enc.bool]
theorem e248 : Go.FA.Good Tryz.prog (248, sNI) := ⟨c248, Tryz.f248, _, Tryz.func248, rfl, by decide⟩
theorem e249 : Go.FA.Good Tryz.prog (249, sNI) := ⟨c249, Tryz.f249, _, Tryz.func249, rfl, by decide⟩
theorem e250 : Go.FA.Good Tryz.prog (250, sNS) := ⟨c250, Tryz.f250, _, Tryz.func250, rfl, by decide⟩
theorem QhC {f : FuncId} (T : Tab) (hT : T f = some sNI) (n : Int) : dcall T f [.lit (.int .i64 n)] = some (.lit (.bool false)) := by
  simp [dcall, hT, sNI, sp, QU, QM.one, Enc.int, Enc.bool]
theorem QjN {f : FuncId} (T : Tab) (hT : T f = some sNS) (n : ByteArray) : dcall T f [.lit (.string n)] = some (.lit (.bool false)) := by
  simp [dcall, hT, sNS, sp, QU, QM.one, Enc.str, Enc.bool]
theorem QgJ {f : FuncId} (T : Tab) (hT : T f = some sOI) (n m : Int) : dcall T f [.lit (.int .i64 n), .lit (.int .i64 m)] = some (.lit (.int .i64 (Qb7 n m))) :=
  QaL (A := Enc.int .i64) (B := Enc.int .i64) (C := Enc.int .i64) hT rfl
theorem QhM {f : FuncId} (T : Tab) (hT : T f = some sOS) (n m : ByteArray) : dcall T f [.lit (.string n), .lit (.string m)] = some (.lit (.int .i64 (Qcs n m))) :=
  QaL (A := Enc.str) (B := Enc.str) (C := Enc.int .i64) hT rfl
theorem c151 : QC Tryz.prog 151 sOI := by
  refine QC.of_sp (T := QG [(248, sNI)]) Tryz.func151 rfl (Nat.le_of_ble_eq_true rfl) fun E xx y hy => ?_
  obtain ⟨p, q⟩ := xx
  cases hy
  have tT : QP Tryz.prog (QG [(248, sNI)]) := .cons e248 .nil
  have g1 := QhC (f := 248) (QG [(248, sNI)]) rfl p
  have g2 := QhC (f := 248) (QG [(248, sNI)]) rfl q
  generalize QG [(248, sNI)] = T at *
  refine Dwp.step tT rfl fun K hK => ?_
  simp [QD, QE, Qn, QI, own, Ql, dop, QJ, eval, Qy, QF, Ex.then, Ex.inBlock, upd, QK, Tag.isNN, Qm, intCmp, Qz, QA, TyI.agg, Qb, Qs, Qd, Qr, QL, QB, Qp, mapOf, Qx, Qo, Qf, Qi, Qg, Qu, DV.cells, Qt, Qh, Qq, Qv, rowsOf, Qw, Qe, Qa, Qa.go, Qj, Qk, Qc, goInt, init, QS, QM.and, QM.one, Enc.int]
  refine hK _ _ ?_ rfl; clear hK K
  refine Dwp.step tT rfl fun K hK => ?_
  simp [QD, QE, Qn, QI, own, Ql, dop, QJ, eval, Qy, QF, Ex.then, Ex.inBlock, upd, QK, Tag.isNN, Qm, intCmp, Qz, QA, TyI.agg, Qb, Qs, Qd, Qr, QL, QB, Qp, mapOf, Qx, Qo, Qf, Qi, Qg, Qu, DV.cells, Qt, Qh, Qq, Qv, rowsOf, Qw, Qe, Qa, Qa.go, Qj, Qk, Qc, goInt, init, g1]
  refine hK _ _ ?_ rfl; clear hK K
  refine Dwp.step tT rfl fun K hK => ?_
  simp [QD, QE, Qn, QI, own, Ql, dop, QJ, eval, Qy, QF, Ex.then, Ex.inBlock, upd, QK, Tag.isNN, Qm, intCmp, Qz, QA, TyI.agg, Qb, Qs, Qd, Qr, QL, QB, Qp, mapOf, Qx, Qo, Qf, Qi, Qg, Qu, DV.cells, Qt, Qh, Qq, Qv, rowsOf, Qw, Qe, Qa, Qa.go, Qj, Qk, Qc, goInt, init, g2]
  refine hK _ _ ?_ rfl; clear hK K
  refine Dwp.seq ?_
  refine Dwp.step tT rfl fun K hK => ?_
  simp [QD, QE, Qn, QI, own, Ql, dop, QJ, eval, Qy, QF, Ex.then, Ex.inBlock, upd, QK, Tag.isNN, Qm, intCmp, Qz, QA, TyI.agg, Qb, Qs, Qd, Qr, QL, QB, Qp, mapOf, Qx, Qo, Qf, Qi, Qg, Qu, DV.cells, Qt, Qh, Qq, Qv, rowsOf, Qw, Qe, Qa, Qa.go, Qj, Qk, Qc, goInt]
  refine hK _ _ ?_ rfl; clear hK K
  refine Dwp.condF (by simp [eval, upd]) (Dwp.skip ?_)
  refine Dwp.seq ?_
  refine Dwp.step tT rfl fun K hK => ?_
  simp [QD, QE, Qn, QI, own, Ql, dop, QJ, eval, Qy, QF, Ex.then, Ex.inBlock, upd, QK, Tag.isNN, Qm, intCmp, Qz, QA, TyI.agg, Qb, Qs, Qd, Qr, QL, QB, Qp, mapOf, Qx, Qo, Qf, Qi, Qg, Qu, DV.cells, Qt, Qh, Qq, Qv, rowsOf, Qw, Qe, Qa, Qa.go, Qj, Qk, Qc, goInt]
  refine hK _ _ ?_ rfl; clear hK K
  refine Dwp.condF (by simp [eval, upd]) (Dwp.skip ?_)
  refine Dwp.seq ?_
  refine Dwp.step tT rfl fun K hK => ?_
  by_cases h1 : p < q
  · simp [QD, QE, Qn, QI, own, Ql, dop, QJ, eval, Qy, QF, Ex.then, Ex.inBlock, upd, QK, Tag.isNN, Qm, intCmp, Qz, QA, TyI.agg, Qb, Qs, Qd, Qr, QL, QB, Qp, mapOf, Qx, Qo, Qf, Qi, Qg, Qu, DV.cells, Qt, Qh, Qq, Qv, rowsOf, Qw, Qe, Qa, Qa.go, Qj, Qk, Qc, goInt, init, Qaa, h1]
    refine hK _ _ ?_ rfl; clear hK K
    refine Dwp.condT (by simp [eval, upd]) ?_
    refine Dwp.step tT rfl fun K hK => ?_
    simp [QD, QE, Qn, QI, own, Ql, dop, QJ, eval, Qy, QF, Ex.then, Ex.inBlock, upd, QK, Tag.isNN, Qm, intCmp, Qz, QA, TyI.agg, Qb, Qs, Qd, Qr, QL, QB, Qp, mapOf, Qx, Qo, Qf, Qi, Qg, Qu, DV.cells, Qt, Qh, Qq, Qv, rowsOf, Qw, Qe, Qa, Qa.go, Qj, Qk, Qc, goInt]
    refine hK _ _ (Dwp.ret ?_) rfl
    simp [QZ, QH, QV, frz, QX, QW, Ex.then, upd, Enc.int, Qb7, h1]
  simp [QD, QE, Qn, QI, own, Ql, dop, QJ, eval, Qy, QF, Ex.then, Ex.inBlock, upd, QK, Tag.isNN, Qm, intCmp, Qz, QA, TyI.agg, Qb, Qs, Qd, Qr, QL, QB, Qp, mapOf, Qx, Qo, Qf, Qi, Qg, Qu, DV.cells, Qt, Qh, Qq, Qv, rowsOf, Qw, Qe, Qa, Qa.go, Qj, Qk, Qc, goInt, init, Qaa, h1]
  refine hK _ _ ?_ rfl; clear hK K
  refine Dwp.condF (by simp [eval, upd]) (Dwp.skip ?_)
  refine Dwp.seq ?_
  refine Dwp.step tT rfl fun K hK => ?_
  by_cases h2 : q < p
  · simp [QD, QE, Qn, QI, own, Ql, dop, QJ, eval, Qy, QF, Ex.then, Ex.inBlock, upd, QK, Tag.isNN, Qm, intCmp, Qz, QA, TyI.agg, Qb, Qs, Qd, Qr, QL, QB, Qp, mapOf, Qx, Qo, Qf, Qi, Qg, Qu, DV.cells, Qt, Qh, Qq, Qv, rowsOf, Qw, Qe, Qa, Qa.go, Qj, Qk, Qc, goInt, init, Qaa, h1, h2]
    refine hK _ _ ?_ rfl; clear hK K
    refine Dwp.condT (by simp [eval, upd]) ?_
    refine Dwp.step tT rfl fun K hK => ?_
    simp [QD, QE, Qn, QI, own, Ql, dop, QJ, eval, Qy, QF, Ex.then, Ex.inBlock, upd, QK, Tag.isNN, Qm, intCmp, Qz, QA, TyI.agg, Qb, Qs, Qd, Qr, QL, QB, Qp, mapOf, Qx, Qo, Qf, Qi, Qg, Qu, DV.cells, Qt, Qh, Qq, Qv, rowsOf, Qw, Qe, Qa, Qa.go, Qj, Qk, Qc, goInt]
    refine hK _ _ (Dwp.ret ?_) rfl
    simp [QZ, QH, QV, frz, QX, QW, Ex.then, upd, Enc.int, Qb7, h1, h2]
  simp [QD, QE, Qn, QI, own, Ql, dop, QJ, eval, Qy, QF, Ex.then, Ex.inBlock, upd, QK, Tag.isNN, Qm, intCmp, Qz, QA, TyI.agg, Qb, Qs, Qd, Qr, QL, QB, Qp, mapOf, Qx, Qo, Qf, Qi, Qg, Qu, DV.cells, Qt, Qh, Qq, Qv, rowsOf, Qw, Qe, Qa, Qa.go, Qj, Qk, Qc, goInt, init, Qaa, h1, h2]
  refine hK _ _ ?_ rfl; clear hK K
  refine Dwp.condF (by simp [eval, upd]) (Dwp.skip ?_)
  refine Dwp.step tT rfl fun K hK => ?_
  simp [QD, QE, Qn, QI, own, Ql, dop, QJ, eval, Qy, QF, Ex.then, Ex.inBlock, upd, QK, Tag.isNN, Qm, intCmp, Qz, QA, TyI.agg, Qb, Qs, Qd, Qr, QL, QB, Qp, mapOf, Qx, Qo, Qf, Qi, Qg, Qu, DV.cells, Qt, Qh, Qq, Qv, rowsOf, Qw, Qe, Qa, Qa.go, Qj, Qk, Qc, goInt]
  refine hK _ _ (Dwp.ret ?_) rfl
  simp [QZ, QH, QV, frz, QX, QW, Ex.then, upd, Enc.int, Qb7, h1, h2]
theorem c152 : QC Tryz.prog 152 sOI := by
  refine QC.of_sp (T := QG [(249, sNI)]) Tryz.func152 rfl (Nat.le_of_ble_eq_true rfl) fun E xx y hy => ?_
  obtain ⟨p, q⟩ := xx
  cases hy
  have tT : QP Tryz.prog (QG [(249, sNI)]) := .cons e249 .nil
  have g1 := QhC (f := 249) (QG [(249, sNI)]) rfl p
  have g2 := QhC (f := 249) (QG [(249, sNI)]) rfl q
  generalize QG [(249, sNI)] = T at *
  refine Dwp.step tT rfl fun K hK => ?_
  simp [QD, QE, Qn, QI, own, Ql, dop, QJ, eval, Qy, QF, Ex.then, Ex.inBlock, upd, QK, Tag.isNN, Qm, intCmp, Qz, QA, TyI.agg, Qb, Qs, Qd, Qr, QL, QB, Qp, mapOf, Qx, Qo, Qf, Qi, Qg, Qu, DV.cells, Qt, Qh, Qq, Qv, rowsOf, Qw, Qe, Qa, Qa.go, Qj, Qk, Qc, goInt, init, QS, QM.and, QM.one, Enc.int]
  refine hK _ _ ?_ rfl; clear hK K
  refine Dwp.step tT rfl fun K hK => ?_
  simp [QD, QE, Qn, QI, own, Ql, dop, QJ, eval, Qy, QF, Ex.then, Ex.inBlock, upd, QK, Tag.isNN, Qm, intCmp, Qz, QA, TyI.agg, Qb, Qs, Qd, Qr, QL, QB, Qp, mapOf, Qx, Qo, Qf, Qi, Qg, Qu, DV.cells, Qt, Qh, Qq, Qv, rowsOf, Qw, Qe, Qa, Qa.go, Qj, Qk, Qc, goInt, init, g1]
  refine hK _ _ ?_ rfl; clear hK K
  refine Dwp.step tT rfl fun K hK => ?_
  simp [QD, QE, Qn, QI, own, Ql, dop, QJ, eval, Qy, QF, Ex.then, Ex.inBlock, upd, QK, Tag.isNN, Qm, intCmp, Qz, QA, TyI.agg, Qb, Qs, Qd, Qr, QL, QB, Qp, mapOf, Qx, Qo, Qf, Qi, Qg, Qu, DV.cells, Qt, Qh, Qq, Qv, rowsOf, Qw, Qe, Qa, Qa.go, Qj, Qk, Qc, goInt, init, g2]
  refine hK _ _ ?_ rfl; clear hK K
  refine Dwp.seq ?_
  refine Dwp.step tT rfl fun K hK => ?_
  simp [QD, QE, Qn, QI, own, Ql, dop, QJ, eval, Qy, QF, Ex.then, Ex.inBlock, upd, QK, Tag.isNN, Qm, intCmp, Qz, QA, TyI.agg, Qb, Qs, Qd, Qr, QL, QB, Qp, mapOf, Qx, Qo, Qf, Qi, Qg, Qu, DV.cells, Qt, Qh, Qq, Qv, rowsOf, Qw, Qe, Qa, Qa.go, Qj, Qk, Qc, goInt]
  refine hK _ _ ?_ rfl; clear hK K
  refine Dwp.condF (by simp [eval, upd]) (Dwp.skip ?_)
  refine Dwp.seq ?_
  refine Dwp.step tT rfl fun K hK => ?_
  simp [QD, QE, Qn, QI, own, Ql, dop, QJ, eval, Qy, QF, Ex.then, Ex.inBlock, upd, QK, Tag.isNN, Qm, intCmp, Qz, QA, TyI.agg, Qb, Qs, Qd, Qr, QL, QB, Qp, mapOf, Qx, Qo, Qf, Qi, Qg, Qu, DV.cells, Qt, Qh, Qq, Qv, rowsOf, Qw, Qe, Qa, Qa.go, Qj, Qk, Qc, goInt]
  refine hK _ _ ?_ rfl; clear hK K
  refine Dwp.condF (by simp [eval, upd]) (Dwp.skip ?_)
  refine Dwp.seq ?_
  refine Dwp.step tT rfl fun K hK => ?_
  by_cases h1 : p < q
  · simp [QD, QE, Qn, QI, own, Ql, dop, QJ, eval, Qy, QF, Ex.then, Ex.inBlock, upd, QK, Tag.isNN, Qm, intCmp, Qz, QA, TyI.agg, Qb, Qs, Qd, Qr, QL, QB, Qp, mapOf, Qx, Qo, Qf, Qi, Qg, Qu, DV.cells, Qt, Qh, Qq, Qv, rowsOf, Qw, Qe, Qa, Qa.go, Qj, Qk, Qc, goInt, init, ty3, h1]
    refine hK _ _ ?_ rfl; clear hK K
    refine Dwp.condT (by simp [eval, upd]) ?_
    refine Dwp.step tT rfl fun K hK => ?_
    simp [QD, QE, Qn, QI, own, Ql, dop, QJ, eval, Qy, QF, Ex.then, Ex.inBlock, upd, QK, Tag.isNN, Qm, intCmp, Qz, QA, TyI.agg, Qb, Qs, Qd, Qr, QL, QB, Qp, mapOf, Qx, Qo, Qf, Qi, Qg, Qu, DV.cells, Qt, Qh, Qq, Qv, rowsOf, Qw, Qe, Qa, Qa.go, Qj, Qk, Qc, goInt]
    refine hK _ _ (Dwp.ret ?_) rfl
    simp [QZ, QH, QV, frz, QX, QW, Ex.then, upd, Enc.int, Qb7, h1]
  simp [QD, QE, Qn, QI, own, Ql, dop, QJ, eval, Qy, QF, Ex.then, Ex.inBlock, upd, QK, Tag.isNN, Qm, intCmp, Qz, QA, TyI.agg, Qb, Qs, Qd, Qr, QL, QB, Qp, mapOf, Qx, Qo, Qf, Qi, Qg, Qu, DV.cells, Qt, Qh, Qq, Qv, rowsOf, Qw, Qe, Qa, Qa.go, Qj, Qk, Qc, goInt, init, ty3, h1]
  refine hK _ _ ?_ rfl; clear hK K
  refine Dwp.condF (by simp [eval, upd]) (Dwp.skip ?_)
  refine Dwp.seq ?_
  refine Dwp.step tT rfl fun K hK => ?_
  by_cases h2 : q < p
  · simp [QD, QE, Qn, QI, own, Ql, dop, QJ, eval, Qy, QF, Ex.then, Ex.inBlock, upd, QK, Tag.isNN, Qm, intCmp, Qz, QA, TyI.agg, Qb, Qs, Qd, Qr, QL, QB, Qp, mapOf, Qx, Qo, Qf, Qi, Qg, Qu, DV.cells, Qt, Qh, Qq, Qv, rowsOf, Qw, Qe, Qa, Qa.go, Qj, Qk, Qc, goInt, init, ty3, h1, h2]
    refine hK _ _ ?_ rfl; clear hK K
    refine Dwp.condT (by simp [eval, upd]) ?_
    refine Dwp.step tT rfl fun K hK => ?_
    simp [QD, QE, Qn, QI, own, Ql, dop, QJ, eval, Qy, QF, Ex.then, Ex.inBlock, upd, QK, Tag.isNN, Qm, intCmp, Qz, QA, TyI.agg, Qb, Qs, Qd, Qr, QL, QB, Qp, mapOf, Qx, Qo, Qf, Qi, Qg, Qu, DV.cells, Qt, Qh, Qq, Qv, rowsOf, Qw, Qe, Qa, Qa.go, Qj, Qk, Qc, goInt]
    refine hK _ _ (Dwp.ret ?_) rfl
    simp [QZ, QH, QV, frz, QX, QW, Ex.then, upd, Enc.int, Qb7, h1, h2]
  simp [QD, QE, Qn, QI, own, Ql, dop, QJ, eval, Qy, QF, Ex.then, Ex.inBlock, upd, QK, Tag.isNN, Qm, intCmp, Qz, QA, TyI.agg, Qb, Qs, Qd, Qr, QL, QB, Qp, mapOf, Qx, Qo, Qf, Qi, Qg, Qu, DV.cells, Qt, Qh, Qq, Qv, rowsOf, Qw, Qe, Qa, Qa.go, Qj, Qk, Qc, goInt, init, ty3, h1, h2]
  refine hK _ _ ?_ rfl; clear hK K
  refine Dwp.condF (by simp [eval, upd]) (Dwp.skip ?_)
  refine Dwp.step tT rfl fun K hK => ?_
  simp [QD, QE, Qn, QI, own, Ql, dop, QJ, eval, Qy, QF, Ex.then, Ex.inBlock, upd, QK, Tag.isNN, Qm, intCmp, Qz, QA, TyI.agg, Qb, Qs, Qd, Qr, QL, QB, Qp, mapOf, Qx, Qo, Qf, Qi, Qg, Qu, DV.cells, Qt, Qh, Qq, Qv, rowsOf, Qw, Qe, Qa, Qa.go, Qj, Qk, Qc, goInt]
  refine hK _ _ (Dwp.ret ?_) rfl
  simp [QZ, QH, QV, frz, QX, QW, Ex.then, upd, Enc.int, Qb7, h1, h2]
theorem c153 : QC Tryz.prog 153 sOS := by
  refine QC.of_sp (T := QG [(250, sNS)]) Tryz.func153 rfl (Nat.le_of_ble_eq_true rfl) fun E xx y hy => ?_
  obtain ⟨p, q⟩ := xx
  cases hy
  have tT : QP Tryz.prog (QG [(250, sNS)]) := .cons e250 .nil
  have g1 := QjN (f := 250) (QG [(250, sNS)]) rfl p
  have g2 := QjN (f := 250) (QG [(250, sNS)]) rfl q
  generalize QG [(250, sNS)] = T at *
  refine Dwp.step tT rfl fun K hK => ?_
  simp [QD, QE, Qn, QI, own, Ql, dop, QJ, eval, Qy, QF, Ex.then, Ex.inBlock, upd, QK, Tag.isNN, Qm, intCmp, Qz, QA, TyI.agg, Qb, Qs, Qd, Qr, QL, QB, Qp, mapOf, Qx, Qo, Qf, Qi, Qg, Qu, DV.cells, Qt, Qh, Qq, Qv, rowsOf, Qw, Qe, Qa, Qa.go, Qj, Qk, Qc, goInt, init, QS, QM.and, QM.one, Enc.str]
  refine hK _ _ ?_ rfl; clear hK K
  refine Dwp.step tT rfl fun K hK => ?_
  simp [QD, QE, Qn, QI, own, Ql, dop, QJ, eval, Qy, QF, Ex.then, Ex.inBlock, upd, QK, Tag.isNN, Qm, intCmp, Qz, QA, TyI.agg, Qb, Qs, Qd, Qr, QL, QB, Qp, mapOf, Qx, Qo, Qf, Qi, Qg, Qu, DV.cells, Qt, Qh, Qq, Qv, rowsOf, Qw, Qe, Qa, Qa.go, Qj, Qk, Qc, goInt, init, g1]
  refine hK _ _ ?_ rfl; clear hK K
  refine Dwp.step tT rfl fun K hK => ?_
  simp [QD, QE, Qn, QI, own, Ql, dop, QJ, eval, Qy, QF, Ex.then, Ex.inBlock, upd, QK, Tag.isNN, Qm, intCmp, Qz, QA, TyI.agg, Qb, Qs, Qd, Qr, QL, QB, Qp, mapOf, Qx, Qo, Qf, Qi, Qg, Qu, DV.cells, Qt, Qh, Qq, Qv, rowsOf, Qw, Qe, Qa, Qa.go, Qj, Qk, Qc, goInt, init, g2]
  refine hK _ _ ?_ rfl; clear hK K
  refine Dwp.seq ?_
  refine Dwp.step tT rfl fun K hK => ?_
  simp [QD, QE, Qn, QI, own, Ql, dop, QJ, eval, Qy, QF, Ex.then, Ex.inBlock, upd, QK, Tag.isNN, Qm, intCmp, Qz, QA, TyI.agg, Qb, Qs, Qd, Qr, QL, QB, Qp, mapOf, Qx, Qo, Qf, Qi, Qg, Qu, DV.cells, Qt, Qh, Qq, Qv, rowsOf, Qw, Qe, Qa, Qa.go, Qj, Qk, Qc, goInt]
  refine hK _ _ ?_ rfl; clear hK K
  refine Dwp.condF (by simp [eval, upd]) (Dwp.skip ?_)
  refine Dwp.seq ?_
  refine Dwp.step tT rfl fun K hK => ?_
  simp [QD, QE, Qn, QI, own, Ql, dop, QJ, eval, Qy, QF, Ex.then, Ex.inBlock, upd, QK, Tag.isNN, Qm, intCmp, Qz, QA, TyI.agg, Qb, Qs, Qd, Qr, QL, QB, Qp, mapOf, Qx, Qo, Qf, Qi, Qg, Qu, DV.cells, Qt, Qh, Qq, Qv, rowsOf, Qw, Qe, Qa, Qa.go, Qj, Qk, Qc, goInt]
  refine hK _ _ ?_ rfl; clear hK K
  refine Dwp.condF (by simp [eval, upd]) (Dwp.skip ?_)
  refine Dwp.seq ?_
  refine Dwp.step tT rfl fun K hK => ?_
  by_cases h1 : Op.bytesLess p.toList q.toList = true
  · simp [QD, QE, Qn, QI, own, Ql, dop, QJ, eval, Qy, QF, Ex.then, Ex.inBlock, upd, QK, Tag.isNN, Qm, intCmp, Qz, QA, TyI.agg, Qb, Qs, Qd, Qr, QL, QB, Qp, mapOf, Qx, Qo, Qf, Qi, Qg, Qu, DV.cells, Qt, Qh, Qq, Qv, rowsOf, Qw, Qe, Qa, Qa.go, Qj, Qk, Qc, goInt, init, ty9, h1]
    refine hK _ _ ?_ rfl; clear hK K
    refine Dwp.condT (by simp [eval, upd]) ?_
    refine Dwp.step tT rfl fun K hK => ?_
    simp [QD, QE, Qn, QI, own, Ql, dop, QJ, eval, Qy, QF, Ex.then, Ex.inBlock, upd, QK, Tag.isNN, Qm, intCmp, Qz, QA, TyI.agg, Qb, Qs, Qd, Qr, QL, QB, Qp, mapOf, Qx, Qo, Qf, Qi, Qg, Qu, DV.cells, Qt, Qh, Qq, Qv, rowsOf, Qw, Qe, Qa, Qa.go, Qj, Qk, Qc, goInt]
    refine hK _ _ (Dwp.ret ?_) rfl
    simp [QZ, QH, QV, frz, QX, QW, Ex.then, upd, Enc.int, Qcs, h1]
  simp [QD, QE, Qn, QI, own, Ql, dop, QJ, eval, Qy, QF, Ex.then, Ex.inBlock, upd, QK, Tag.isNN, Qm, intCmp, Qz, QA, TyI.agg, Qb, Qs, Qd, Qr, QL, QB, Qp, mapOf, Qx, Qo, Qf, Qi, Qg, Qu, DV.cells, Qt, Qh, Qq, Qv, rowsOf, Qw, Qe, Qa, Qa.go, Qj, Qk, Qc, goInt, init, ty9, h1]
  refine hK _ _ ?_ rfl; clear hK K
  refine Dwp.condF (by simp [eval, upd]) (Dwp.skip ?_)
  refine Dwp.seq ?_
  refine Dwp.step tT rfl fun K hK => ?_
  by_cases h2 : p = q
  · subst h2
    simp [QD, QE, Qn, QI, own, Ql, dop, QJ, eval, Qy, QF, Ex.then, Ex.inBlock, upd, QK, Tag.isNN, Qm, intCmp, Qz, QA, TyI.agg, Qb, Qs, Qd, Qr, QL, QB, Qp, mapOf, Qx, Qo, Qf, Qi, Qg, Qu, DV.cells, Qt, Qh, Qq, Qv, rowsOf, Qw, Qe, Qa, Qa.go, Qj, Qk, Qc, goInt, init, ty9, h1]
    refine hK _ _ ?_ rfl; clear hK K
    refine Dwp.condF (by simp [eval, upd]) (Dwp.skip ?_)
    refine Dwp.step tT rfl fun K hK => ?_
    simp [QD, QE, Qn, QI, own, Ql, dop, QJ, eval, Qy, QF, Ex.then, Ex.inBlock, upd, QK, Tag.isNN, Qm, intCmp, Qz, QA, TyI.agg, Qb, Qs, Qd, Qr, QL, QB, Qp, mapOf, Qx, Qo, Qf, Qi, Qg, Qu, DV.cells, Qt, Qh, Qq, Qv, rowsOf, Qw, Qe, Qa, Qa.go, Qj, Qk, Qc, goInt]
    refine hK _ _ (Dwp.ret ?_) rfl
    simp [QZ, QH, QV, frz, QX, QW, Ex.then, upd, Enc.int, Qcs, h1]
  simp [QD, QE, Qn, QI, own, Ql, dop, QJ, eval, Qy, QF, Ex.then, Ex.inBlock, upd, QK, Tag.isNN, Qm, intCmp, Qz, QA, TyI.agg, Qb, Qs, Qd, Qr, QL, QB, Qp, mapOf, Qx, Qo, Qf, Qi, Qg, Qu, DV.cells, Qt, Qh, Qq, Qv, rowsOf, Qw, Qe, Qa, Qa.go, Qj, Qk, Qc, goInt, init, ty9, h1, h2]
  refine hK _ _ ?_ rfl; clear hK K
  refine Dwp.condT (by simp [eval, upd]) ?_
  refine Dwp.step tT rfl fun K hK => ?_
  simp [QD, QE, Qn, QI, own, Ql, dop, QJ, eval, Qy, QF, Ex.then, Ex.inBlock, upd, QK, Tag.isNN, Qm, intCmp, Qz, QA, TyI.agg, Qb, Qs, Qd, Qr, QL, QB, Qp, mapOf, Qx, Qo, Qf, Qi, Qg, Qu, DV.cells, Qt, Qh, Qq, Qv, rowsOf, Qw, Qe, Qa, Qa.go, Qj, Qk, Qc, goInt]
  refine hK _ _ (Dwp.ret ?_) rfl
  simp [QZ, QH, QV, frz, QX, QW, Ex.then, upd, Enc.int, Qcs, h1, h2]
theorem e151 : Go.FA.Good Tryz.prog (151, sOI) := ⟨c151, Tryz.f151, _, Tryz.func151, rfl, by decide⟩
theorem e152 : Go.FA.Good Tryz.prog (152, sOI) := ⟨c152, Tryz.f152, _, Tryz.func152, rfl, by decide⟩
theorem e153 : Go.FA.Good Tryz.prog (153, sOS) := ⟨c153, Tryz.f153, _, Tryz.func153, rfl, by decide⟩
theorem c155 : QC Tryz.prog 155 sOI := by
  refine QC.of_sp (T := QG []) Tryz.func155 rfl (Nat.le_of_ble_eq_true rfl) fun E xx y hy => ?_
  obtain ⟨p, q⟩ := xx
  cases hy
  have tT := Q6 (P := Tryz.prog)
  generalize QG [] = T at *
  refine Dwp.step tT rfl fun K hK => ?_
  simp [QD, QE, Qn, QI, own, Ql, dop, QJ, eval, Qy, QF, Ex.then, Ex.inBlock, upd, QK, Tag.isNN, Qm, intCmp, Qz, QA, TyI.agg, Qb, Qs, Qd, Qr, QL, QB, Qp, mapOf, Qx, Qo, Qf, Qi, Qg, Qu, DV.cells, Qt, Qh, Qq, Qv, rowsOf, Qw, Qe, Qa, Qa.go, Qj, Qk, Qc, goInt, init, QS, QM.and, QM.one, Enc.int]
  refine hK _ _ ?_ rfl; clear hK K
  refine Dwp.seq (Dwp.block ?_)
  refine Dwp.step tT rfl fun K hK => ?_
  by_cases h1 : p < q
  · simp [QD, QE, Qn, QI, own, Ql, dop, QJ, eval, Qy, QF, Ex.then, Ex.inBlock, upd, QK, Tag.isNN, Qm, intCmp, Qz, QA, TyI.agg, Qb, Qs, Qd, Qr, QL, QB, Qp, mapOf, Qx, Qo, Qf, Qi, Qg, Qu, DV.cells, Qt, Qh, Qq, Qv, rowsOf, Qw, Qe, Qa, Qa.go, Qj, Qk, Qc, goInt, init, ty3, h1]
    refine hK _ _ ?_ rfl; clear hK K
    refine Dwp.condT (by simp [eval, upd]) ?_
    refine Dwp.step tT rfl fun K hK => ?_
    simp [QD, QE, Qn, QI, own, Ql, dop, QJ, eval, Qy, QF, Ex.then, Ex.inBlock, upd, QK, Tag.isNN, Qm, intCmp, Qz, QA, TyI.agg, Qb, Qs, Qd, Qr, QL, QB, Qp, mapOf, Qx, Qo, Qf, Qi, Qg, Qu, DV.cells, Qt, Qh, Qq, Qv, rowsOf, Qw, Qe, Qa, Qa.go, Qj, Qk, Qc, goInt]
    refine hK _ _ (Dwp.ret ?_) rfl
    simp [QZ, QH, QV, frz, QX, QW, Ex.then, Ex.inBlock, upd, Enc.int, Qb7, h1]
  simp [QD, QE, Qn, QI, own, Ql, dop, QJ, eval, Qy, QF, Ex.then, Ex.inBlock, upd, QK, Tag.isNN, Qm, intCmp, Qz, QA, TyI.agg, Qb, Qs, Qd, Qr, QL, QB, Qp, mapOf, Qx, Qo, Qf, Qi, Qg, Qu, DV.cells, Qt, Qh, Qq, Qv, rowsOf, Qw, Qe, Qa, Qa.go, Qj, Qk, Qc, goInt, init, ty3, h1]
  refine hK _ _ ?_ rfl; clear hK K
  refine Dwp.condF (by simp [eval, upd]) ?_
  refine Dwp.step tT rfl fun K hK => ?_
  by_cases h2 : q < p
  · simp [QD, QE, Qn, QI, own, Ql, dop, QJ, eval, Qy, QF, Ex.then, Ex.inBlock, upd, QK, Tag.isNN, Qm, intCmp, Qz, QA, TyI.agg, Qb, Qs, Qd, Qr, QL, QB, Qp, mapOf, Qx, Qo, Qf, Qi, Qg, Qu, DV.cells, Qt, Qh, Qq, Qv, rowsOf, Qw, Qe, Qa, Qa.go, Qj, Qk, Qc, goInt, init, ty3, h1, h2]
    refine hK _ _ ?_ rfl; clear hK K
    refine Dwp.condT (by simp [eval, upd]) ?_
    refine Dwp.step tT rfl fun K hK => ?_
    simp [QD, QE, Qn, QI, own, Ql, dop, QJ, eval, Qy, QF, Ex.then, Ex.inBlock, upd, QK, Tag.isNN, Qm, intCmp, Qz, QA, TyI.agg, Qb, Qs, Qd, Qr, QL, QB, Qp, mapOf, Qx, Qo, Qf, Qi, Qg, Qu, DV.cells, Qt, Qh, Qq, Qv, rowsOf, Qw, Qe, Qa, Qa.go, Qj, Qk, Qc, goInt]
    refine hK _ _ (Dwp.ret ?_) rfl
    simp [QZ, QH, QV, frz, QX, QW, Ex.then, Ex.inBlock, upd, Enc.int, Qb7, h1, h2]
  simp [QD, QE, Qn, QI, own, Ql, dop, QJ, eval, Qy, QF, Ex.then, Ex.inBlock, upd, QK, Tag.isNN, Qm, intCmp, Qz, QA, TyI.agg, Qb, Qs, Qd, Qr, QL, QB, Qp, mapOf, Qx, Qo, Qf, Qi, Qg, Qu, DV.cells, Qt, Qh, Qq, Qv, rowsOf, Qw, Qe, Qa, Qa.go, Qj, Qk, Qc, goInt, init, ty3, h1, h2]
  refine hK _ _ ?_ rfl; clear hK K
  refine Dwp.condF (by simp [eval, upd]) (Dwp.skip ?_)
  refine Dwp.step tT rfl fun K hK => ?_
  simp [QD, QE, Qn, QI, own, Ql, dop, QJ, eval, Qy, QF, Ex.then, Ex.inBlock, upd, QK, Tag.isNN, Qm, intCmp, Qz, QA, TyI.agg, Qb, Qs, Qd, Qr, QL, QB, Qp, mapOf, Qx, Qo, Qf, Qi, Qg, Qu, DV.cells, Qt, Qh, Qq, Qv, rowsOf, Qw, Qe, Qa, Qa.go, Qj, Qk, Qc, goInt]
  refine hK _ _ (Dwp.ret ?_) rfl
  simp [QZ, QH, QV, frz, QX, QW, Ex.then, Ex.inBlock, upd, Enc.int, Qb7, h1, h2]
theorem e155 : Go.FA.Good Tryz.prog (155, sOI) := ⟨c155, Tryz.f155, _, Tryz.func155, rfl, by decide⟩
theorem c156 : QC Tryz.prog 156 sOS := by
  refine QC.of_sp (T := QG []) Tryz.func156 rfl (Nat.le_of_ble_eq_true rfl) fun E xx y hy => ?_
  obtain ⟨p, q⟩ := xx
  cases hy
  have tT := Q6 (P := Tryz.prog)
  generalize QG [] = T at *
  refine Dwp.step tT rfl fun K hK => ?_
  simp [QD, QE, Qn, QI, own, Ql, dop, QJ, eval, Qy, QF, Ex.then, Ex.inBlock, upd, QK, Tag.isNN, Qm, intCmp, Qz, QA, TyI.agg, Qb, Qs, Qd, Qr, QL, QB, Qp, mapOf, Qx, Qo, Qf, Qi, Qg, Qu, DV.cells, Qt, Qh, Qq, Qv, rowsOf, Qw, Qe, Qa, Qa.go, Qj, Qk, Qc, goInt, init, QS, QM.and, QM.one, Enc.str]
  refine hK _ _ ?_ rfl; clear hK K
  refine Dwp.seq (Dwp.block ?_)
  refine Dwp.step tT rfl fun K hK => ?_
  by_cases h1 : Op.bytesLess p.toList q.toList = true
  · simp [QD, QE, Qn, QI, own, Ql, dop, QJ, eval, Qy, QF, Ex.then, Ex.inBlock, upd, QK, Tag.isNN, Qm, intCmp, Qz, QA, TyI.agg, Qb, Qs, Qd, Qr, QL, QB, Qp, mapOf, Qx, Qo, Qf, Qi, Qg, Qu, DV.cells, Qt, Qh, Qq, Qv, rowsOf, Qw, Qe, Qa, Qa.go, Qj, Qk, Qc, goInt, init, ty9, h1]
    refine hK _ _ ?_ rfl; clear hK K
    refine Dwp.condT (by simp [eval, upd]) ?_
    refine Dwp.step tT rfl fun K hK => ?_
    simp [QD, QE, Qn, QI, own, Ql, dop, QJ, eval, Qy, QF, Ex.then, Ex.inBlock, upd, QK, Tag.isNN, Qm, intCmp, Qz, QA, TyI.agg, Qb, Qs, Qd, Qr, QL, QB, Qp, mapOf, Qx, Qo, Qf, Qi, Qg, Qu, DV.cells, Qt, Qh, Qq, Qv, rowsOf, Qw, Qe, Qa, Qa.go, Qj, Qk, Qc, goInt]
    refine hK _ _ (Dwp.ret ?_) rfl
    simp [QZ, QH, QV, frz, QX, QW, Ex.then, Ex.inBlock, upd, Enc.int, Qcs, h1]
  simp [QD, QE, Qn, QI, own, Ql, dop, QJ, eval, Qy, QF, Ex.then, Ex.inBlock, upd, QK, Tag.isNN, Qm, intCmp, Qz, QA, TyI.agg, Qb, Qs, Qd, Qr, QL, QB, Qp, mapOf, Qx, Qo, Qf, Qi, Qg, Qu, DV.cells, Qt, Qh, Qq, Qv, rowsOf, Qw, Qe, Qa, Qa.go, Qj, Qk, Qc, goInt, init, ty9, h1]
  refine hK _ _ ?_ rfl; clear hK K
  refine Dwp.condF (by simp [eval, upd]) ?_
  refine Dwp.step tT rfl fun K hK => ?_
  by_cases h2 : p = q
  · subst h2
    simp [QD, QE, Qn, QI, own, Ql, dop, QJ, eval, Qy, QF, Ex.then, Ex.inBlock, upd, QK, Tag.isNN, Qm, intCmp, Qz, QA, TyI.agg, Qb, Qs, Qd, Qr, QL, QB, Qp, mapOf, Qx, Qo, Qf, Qi, Qg, Qu, DV.cells, Qt, Qh, Qq, Qv, rowsOf, Qw, Qe, Qa, Qa.go, Qj, Qk, Qc, goInt, init, ty9, h1]
    refine hK _ _ ?_ rfl; clear hK K
    refine Dwp.condF (by simp [eval, upd]) (Dwp.skip ?_)
    refine Dwp.step tT rfl fun K hK => ?_
    simp [QD, QE, Qn, QI, own, Ql, dop, QJ, eval, Qy, QF, Ex.then, Ex.inBlock, upd, QK, Tag.isNN, Qm, intCmp, Qz, QA, TyI.agg, Qb, Qs, Qd, Qr, QL, QB, Qp, mapOf, Qx, Qo, Qf, Qi, Qg, Qu, DV.cells, Qt, Qh, Qq, Qv, rowsOf, Qw, Qe, Qa, Qa.go, Qj, Qk, Qc, goInt]
    refine hK _ _ (Dwp.ret ?_) rfl
    simp [QZ, QH, QV, frz, QX, QW, Ex.then, Ex.inBlock, upd, Enc.int, Qcs, h1]
  simp [QD, QE, Qn, QI, own, Ql, dop, QJ, eval, Qy, QF, Ex.then, Ex.inBlock, upd, QK, Tag.isNN, Qm, intCmp, Qz, QA, TyI.agg, Qb, Qs, Qd, Qr, QL, QB, Qp, mapOf, Qx, Qo, Qf, Qi, Qg, Qu, DV.cells, Qt, Qh, Qq, Qv, rowsOf, Qw, Qe, Qa, Qa.go, Qj, Qk, Qc, goInt, init, ty9, h1, h2]
  refine hK _ _ ?_ rfl; clear hK K
  refine Dwp.condT (by simp [eval, upd]) ?_
  refine Dwp.step tT rfl fun K hK => ?_
  simp [QD, QE, Qn, QI, own, Ql, dop, QJ, eval, Qy, QF, Ex.then, Ex.inBlock, upd, QK, Tag.isNN, Qm, intCmp, Qz, QA, TyI.agg, Qb, Qs, Qd, Qr, QL, QB, Qp, mapOf, Qx, Qo, Qf, Qi, Qg, Qu, DV.cells, Qt, Qh, Qq, Qv, rowsOf, Qw, Qe, Qa, Qa.go, Qj, Qk, Qc, goInt]
  refine hK _ _ (Dwp.ret ?_) rfl
  simp [QZ, QH, QV, frz, QX, QW, Ex.then, Ex.inBlock, upd, Enc.int, Qcs, h1, h2]
theorem e156 : Go.FA.Good Tryz.prog (156, sOS) := ⟨c156, Tryz.f156, _, Tryz.func156, rfl, by decide⟩
def orD : List Int → Int
  | [] => 0
  | x :: l => if x = 0 then orD l else x
theorem Qie : ∀ (l : List Int), (∀ x ∈ l, x = 0) → orD l = 0
  | [], _ => rfl
  | x :: l, h => by simp [orD, h x (by simp), Qie l fun y hy => h y (by simp [hy])]
theorem orD_drop (l : List Int) (i : Nat) (hi : i < l.length) (h : ∀ x ∈ l.take i, x = 0) (hx : l[i] ≠ 0) : orD l = l[i] := by
  induction l generalizing i with
  | nil => simp at hi
  | cons x l ih =>
    cases i with
    | zero => simp at hx; simp [orD, hx]
    | succ i =>
      have h0 : x = 0 := h x (by simp)
      simp only [orD, h0, if_true, List.getElem_cons_succ]
      exact ih i (by simpa using hi) (fun y hy => h y (by simp [hy])) (by simpa using hx)
def s150 : Sp := sp (QU Enc.ints) (Enc.int .i64) (fun l => if l.length ≤ 1048576 then some (orD l) else none)
theorem call150 (T : Tab) (hT : T 150 = some s150) (a b c d : Int) : dcall T 150 [.slice 1 .full [[.lit (.int .i64 a)], [.lit (.int .i64 b)], [.lit (.int .i64 c)], [.lit (.int .i64 d)]]] = some (.lit (.int .i64 (orD [a, b, c, d]))) := by
  simp [dcall, hT, s150, sp, QU, QM.one, Enc.int, Enc.ints, Enc.slice, Qak, Enc.i64]
theorem c150 : QC Tryz.prog 150 s150 := by
  refine QC.of_sp (T := QG []) Tryz.func150 rfl (Nat.le_of_ble_eq_true rfl) fun E l y hy => ?_
  split at hy
  case isFalse => cases hy
  next hlim =>
  cases hy
  have tT := Q6 (P := Tryz.prog)
  generalize QG [] = T at *
  refine Dwp.step tT rfl fun K hK => ?_
  simp [QD, QE, Qn, QI, own, Ql, dop, QJ, eval, Qy, QF, Ex.then, Ex.inBlock, upd, QK, Tag.isNN, Qm, intCmp, Qz, QA, TyI.agg, Qb, Qs, Qd, Qr, QL, QB, Qp, mapOf, Qx, Qo, Qf, Qi, Qg, Qu, DV.cells, Qt, Qh, Qq, Qv, rowsOf, Qw, Qe, Qa, Qa.go, Qj, Qk, Qc, goInt, init, QU, QM.one]
  refine hK _ _ ?_ rfl; clear hK K
  refine Dwp.step tT rfl fun K hK => ?_
  simp [QD, QE, Qn, QI, own, Ql, dop, QJ, eval, Qy, QF, Ex.then, Ex.inBlock, upd, QK, Tag.isNN, Qm, intCmp, Qz, QA, TyI.agg, Qb, Qs, Qd, Qr, QL, QB, Qp, mapOf, Qx, Qo, Qf, Qi, Qg, Qu, DV.cells, Qt, Qh, Qq, Qv, rowsOf, Qw, Qe, Qa, Qa.go, Qj, Qk, Qc, goInt, init]
  refine hK _ _ ?_ rfl; clear hK K
  refine Dwp.seq ?_
  refine Dwp.step tT rfl fun K hK => ?_
  simp [QD, QE, Qn, QI, own, Ql, dop, QJ, eval, Qy, QF, Ex.then, Ex.inBlock, upd, QK, Tag.isNN, Qm, intCmp, Qz, QA, TyI.agg, Qb, Qs, Qd, Qr, QL, QB, Qp, mapOf, Qx, Qo, Qf, Qi, Qg, Qu, DV.cells, Qt, Qh, Qq, Qv, rowsOf, Qw, Qe, Qa, Qa.go, Qj, Qk, Qc, goInt, init, Qd6, intsC]
  refine hK _ _ ?_ rfl; clear hK K
  refine Dwp.range tT l.length (fun i a σ => a 6 = .slice 1 .none (l.map fun s => [DV.lit (.int .i64 s)]) ∧ a 3 = .lit (.int .i64 0) ∧ ∀ x ∈ l.take i, x = 0) ⟨rfl, rfl, rfl⟩ ⟨rfl, rfl, rfl⟩ ⟨rfl, rfl, rfl⟩ (by decide) (by decide) (by omega) (by simp [upd]) (by simp [upd]) ⟨by simp [upd, init, intsC], by simp [upd], by simp⟩ ?_ ?_
  · rintro i a σ hi hidx hlen2 ⟨k6, k3, htk⟩
    refine Dwp.step tT rfl fun K hK => ?_
    simp [QD, QE, Qn, QI, own, Ql, dop, QJ, eval, Qy, QF, Ex.then, Ex.inBlock, upd, QK, Tag.isNN, Qm, intCmp, Qz, QA, TyI.agg, Qb, Qs, Qd, Qr, QL, QB, Qp, mapOf, Qx, Qo, Qf, Qi, Qg, Qu, DV.cells, Qt, Qh, Qq, Qv, rowsOf, Qw, Qe, Qa, Qa.go, Qj, Qk, Qc, goInt, hidx, k6, Qd6, ty3, hi]
    refine hK _ _ ?_ rfl; clear hK K
    refine Dwp.step tT rfl fun K hK => ?_
    by_cases h0 : l[i] = 0
    · simp [QD, QE, Qn, QI, own, Ql, dop, QJ, eval, Qy, QF, Ex.then, Ex.inBlock, upd, QK, Tag.isNN, Qm, intCmp, Qz, QA, TyI.agg, Qb, Qs, Qd, Qr, QL, QB, Qp, mapOf, Qx, Qo, Qf, Qi, Qg, Qu, DV.cells, Qt, Qh, Qq, Qv, rowsOf, Qw, Qe, Qa, Qa.go, Qj, Qk, Qc, goInt, k3, ty3, h0]
      refine hK _ _ ?_ rfl; clear hK K
      refine Dwp.condF (by simp [eval, upd]) (Dwp.skip ?_)
      refine ⟨by simp [upd, hidx], by simp [upd, hlen2], by simp [upd, k6], by simp [upd, k3], ?_⟩
      intro x hx
      rw [List.take_succ_eq_append_getElem hi] at hx
      rcases List.mem_append.1 hx with h | h
      · exact htk x h
      · simp at h; rw [h]; exact h0
    · have h0' : (l[i] != 0) = true := by simpa using h0
      simp [QD, QE, Qn, QI, own, Ql, dop, QJ, eval, Qy, QF, Ex.then, Ex.inBlock, upd, QK, Tag.isNN, Qm, intCmp, Qz, QA, TyI.agg, Qb, Qs, Qd, Qr, QL, QB, Qp, mapOf, Qx, Qo, Qf, Qi, Qg, Qu, DV.cells, Qt, Qh, Qq, Qv, rowsOf, Qw, Qe, Qa, Qa.go, Qj, Qk, Qc, goInt, k3, ty3, h0']
      refine hK _ _ ?_ rfl; clear hK K
      refine Dwp.condT (by simp [eval, upd]) ?_
      refine Dwp.step tT rfl fun K hK => ?_
      simp [QD, QE, Qn, QI, own, Ql, dop, QJ, eval, Qy, QF, Ex.then, Ex.inBlock, upd, QK, Tag.isNN, Qm, intCmp, Qz, QA, TyI.agg, Qb, Qs, Qd, Qr, QL, QB, Qp, mapOf, Qx, Qo, Qf, Qi, Qg, Qu, DV.cells, Qt, Qh, Qq, Qv, rowsOf, Qw, Qe, Qa, Qa.go, Qj, Qk, Qc, goInt]
      refine hK _ _ (Dwp.ret ?_) rfl
      simp [QZ, QH, QV, frz, QX, QW, QdT, Ex.then, Ex.inBlock, upd, Enc.int, orD_drop l i hi htk h0]
  · rintro a σ hidx hlen2 ⟨k6, k3, htk⟩
    refine Dwp.step tT rfl fun K hK => ?_
    simp [QD, QE, Qn, QI, own, Ql, dop, QJ, eval, Qy, QF, Ex.then, Ex.inBlock, upd, QK, Tag.isNN, Qm, intCmp, Qz, QA, TyI.agg, Qb, Qs, Qd, Qr, QL, QB, Qp, mapOf, Qx, Qo, Qf, Qi, Qg, Qu, DV.cells, Qt, Qh, Qq, Qv, rowsOf, Qw, Qe, Qa, Qa.go, Qj, Qk, Qc, goInt, k3]
    refine hK _ _ (Dwp.ret ?_) rfl
    rw [List.take_of_length_le (by omega)] at htk
    simp [QZ, QH, QV, frz, QX, QW, Ex.then, upd, Enc.int, k3, Qie l htk]
theorem e150 : Go.FA.Good Tryz.prog (150, s150) := ⟨c150, Tryz.f150, _, Tryz.func150, rfl, by decide⟩
def orC (c d : Int) : Int := if c = 0 then d else c
mutual
def Qhm : Tm → Tm → Int
  | .mk k n t s ks r, .mk k' n' t' s' ks' r' => orC (orD [Qb7 k k', Qb7 n n', Qcs t t', Qcs s s']) (orC (Qbi ks ks') (Qbi r r'))
def Qbi : List Tm → List Tm → Int
  | [], [] => 0
  | [], _ :: _ => -1
  | _ :: _, [] => 1
  | x :: xs, y :: ys => orC (Qhm x y) (Qbi xs ys)
end
def s88 (n : Nat) : Sp := sp (QS Enc.tm Enc.tm) (Enc.int .i64) (fun x => if tsz x.1 ≤ n ∧ tsz x.1 ≤ tlim ∧ tsz x.2 ≤ tlim then some (Qhm x.1 x.2) else none)
def s154 (n : Nat) : Sp := sp (Q3 Enc.tms Enc.tms Enc.fn) (Enc.int .i64) (fun x => if x.2.2 = 88 ∧ Qa3 x.1 ≤ n ∧ Qa3 x.1 ≤ tlim ∧ Qa3 x.2.1 ≤ tlim then some (Qbi x.1 x.2.1) else none)
theorem Qkc {n : Nat} (T : Tab) (hT : T 88 = some (s88 n)) (t u : Tm) (h1 : tsz t ≤ n) (h2 : tsz t ≤ tlim) (h3 : tsz u ≤ tlim) : dcall T 88 [.agg t.cells, .agg u.cells] = some (.lit (.int .i64 (Qhm t u))) :=
  QaL (A := Enc.tm) (B := Enc.tm) (C := Enc.int .i64) hT (if_pos ⟨h1, h2, h3⟩)
theorem QiQ {n : Nat} (T : Tab) (hT : T 154 = some (s154 n)) (l m : List Tm) (h1 : Qa3 l ≤ n) (h2 : Qa3 l ≤ tlim) (h3 : Qa3 m ≤ tlim) : dcall T 154 [.slice 6 .none (l.map Tm.cells), .slice 6 .none (m.map Tm.cells), .lit (.func (.func 88) #[] #[])] = some (.lit (.int .i64 (Qbi l m))) :=
  QfO (A := Enc.tms) (B := Enc.tms) (C := Enc.fn) (D := Enc.int .i64) (u := 88) hT (if_pos ⟨rfl, h1, h2, h3⟩)
theorem cmpTs_nil : ∀ m : List Tm, Qbi [] m = if 0 < m.length then -1 else 0
  | [] => by simp [Qbi]
  | _ :: _ => by simp [Qbi]
theorem cmpTs_nil2 {x : Tm} {l : List Tm} : Qbi (x :: l) [] = 1 := by simp [Qbi]
theorem c154 (n : Nat) (c88 : QC Tryz.prog 88 (s88 n)) : QC Tryz.prog 154 (s154 n) := by
  refine QC.of_sp (T := QG [(88, s88 n)]) Tryz.func154 rfl (Nat.le_of_ble_eq_true rfl) fun E xx y hy => ?_
  obtain ⟨l, m, u⟩ := xx
  simp only [] at hy
  split at hy
  case isFalse => cases hy
  next hlim =>
  obtain ⟨hu, hn, hl, hm⟩ := hlim
  cases hy
  subst hu
  have hl' : l.length ≤ 16777216 := by have := Qaz l; unfold tlim at hl; omega
  have hm' : m.length ≤ 16777216 := by have := Qaz m; unfold tlim at hm; omega
  have tT : QP Tryz.prog (QG [(88, s88 n)]) := .cons ⟨c88, Tryz.f88, _, Tryz.func88, rfl, by decide⟩ .nil
  have g36 : ∀ t ∈ l, ∀ u ∈ m, dcall (QG [(88, s88 n)]) 88 [.agg t.cells, .agg u.cells] = some (.lit (.int .i64 (Qhm t u))) := fun t ht u hu =>
    Qkc _ rfl t u (by have := Qae l t ht; omega) (by have := Qae l t ht; omega) (by have := Qae m u hu; omega)
  generalize QG [(88, s88 n)] = T at *
  refine Dwp.step tT rfl fun K hK => ?_
  simp [QD, QE, Qn, QI, own, Ql, dop, QJ, eval, Qy, QF, Ex.then, Ex.inBlock, upd, QK, Tag.isNN, Qm, intCmp, Qz, QA, TyI.agg, Qb, Qs, Qd, Qr, QL, QB, Qp, mapOf, Qx, Qo, Qf, Qi, Qg, Qu, DV.cells, Qt, Qh, Qq, Qv, rowsOf, Qw, Qe, Qa, Qa.go, Qj, Qk, Qc, goInt, init, Q3, QM.and, QM.one]
  refine hK _ _ ?_ rfl; clear hK K
  refine Dwp.seq ?_
  refine Dwp.step tT rfl fun K hK => ?_
  simp [QD, QE, Qn, QI, own, Ql, dop, QJ, eval, Qy, QF, Ex.then, Ex.inBlock, upd, QK, Tag.isNN, Qm, intCmp, Qz, QA, TyI.agg, Qb, Qs, Qd, Qr, QL, QB, Qp, mapOf, Qx, Qo, Qf, Qi, Qg, Qu, DV.cells, Qt, Qh, Qq, Qv, rowsOf, Qw, Qe, Qa, Qa.go, Qj, Qk, Qc, goInt, init, Q9, QfQ]
  refine hK _ _ ?_ rfl; clear hK K
  refine Dwp.range tT l.length (fun i a σ => a 0 = .slice 6 .none (l.map Tm.cells) ∧ a 1 = .slice 6 .none (m.map Tm.cells) ∧ a 2 = .lit (.func (.func 88) #[] #[]) ∧ a 11 = .slice 6 .none (l.map Tm.cells) ∧ i ≤ m.length ∧ Qbi l m = Qbi (l.drop i) (m.drop i)) ⟨rfl, rfl, rfl⟩ ⟨rfl, rfl, rfl⟩ ⟨rfl, rfl, rfl⟩ (by decide) (by decide) (by omega) (by simp [upd]) (by simp [upd]) ⟨by simp [upd, init, QfQ], by simp [upd, init, QfQ], by simp [upd, init, Enc.fn], by simp [upd, init, QfQ], by simp, by simp⟩ ?_ ?_
  · rintro i a σ hi hidx hlen2 ⟨k0, k1, k2, k11, him, hc⟩
    obtain ⟨o, ho⟩ : ∃ o, o = l[i] := ⟨_, rfl⟩
    rw [List.drop_eq_getElem_cons hi, ← ho] at hc
    refine Dwp.step tT rfl fun K hK => ?_
    simp [QD, QE, Qn, QI, own, Ql, dop, QJ, eval, Qy, QF, Ex.then, Ex.inBlock, upd, QK, Tag.isNN, Qm, intCmp, Qz, QA, TyI.agg, Qb, Qs, Qd, Qr, QL, QB, Qp, mapOf, Qx, Qo, Qf, Qi, Qg, Qu, DV.cells, Qt, Qh, Qq, Qv, rowsOf, Qw, Qe, Qa, Qa.go, Qj, Qk, Qc, goInt, hidx, k11, Q9, Qab, hi, ← ho, setT, Tm.cells_len, Q8]
    refine hK _ _ ?_ rfl; clear hK K
    refine Dwp.seq ?_
    refine Dwp.step tT rfl fun K hK => ?_
    by_cases hlt : m.length ≤ i
    · have hlt' : (m.length : Int) ≤ (i : Int) := by omega
      simp [QD, QE, Qn, QI, own, Ql, dop, QJ, eval, Qy, QF, Ex.then, Ex.inBlock, upd, QK, Tag.isNN, Qm, intCmp, Qz, QA, TyI.agg, Qb, Qs, Qd, Qr, QL, QB, Qp, mapOf, Qx, Qo, Qf, Qi, Qg, Qu, DV.cells, Qt, Qh, Qq, Qv, rowsOf, Qw, Qe, Qa, Qa.go, Qj, Qk, Qc, goInt, k1, Q9, ty3, hlt, hlt']
      refine hK _ _ ?_ rfl; clear hK K
      refine Dwp.condT (by simp [eval, upd]) ?_
      refine Dwp.step tT rfl fun K hK => ?_
      simp [QD, QE, Qn, QI, own, Ql, dop, QJ, eval, Qy, QF, Ex.then, Ex.inBlock, upd, QK, Tag.isNN, Qm, intCmp, Qz, QA, TyI.agg, Qb, Qs, Qd, Qr, QL, QB, Qp, mapOf, Qx, Qo, Qf, Qi, Qg, Qu, DV.cells, Qt, Qh, Qq, Qv, rowsOf, Qw, Qe, Qa, Qa.go, Qj, Qk, Qc, goInt]
      refine hK _ _ (Dwp.ret ?_) rfl
      rw [List.drop_eq_nil_of_le hlt, cmpTs_nil2] at hc
      simp [QZ, QH, QV, frz, QX, QW, QdT, Ex.then, Ex.inBlock, upd, Enc.int, hc]
    have hlt2 : i < m.length := by omega
    have hlt' : ¬ (m.length : Int) ≤ (i : Int) := by omega
    obtain ⟨p, hp⟩ : ∃ p, p = m[i] := ⟨_, rfl⟩
    have g := g36 o (by rw [ho]; exact List.getElem_mem hi) p (by rw [hp]; exact List.getElem_mem hlt2)
    rw [List.drop_eq_getElem_cons hlt2, ← hp, Qbi] at hc
    simp [QD, QE, Qn, QI, own, Ql, dop, QJ, eval, Qy, QF, Ex.then, Ex.inBlock, upd, QK, Tag.isNN, Qm, intCmp, Qz, QA, TyI.agg, Qb, Qs, Qd, Qr, QL, QB, Qp, mapOf, Qx, Qo, Qf, Qi, Qg, Qu, DV.cells, Qt, Qh, Qq, Qv, rowsOf, Qw, Qe, Qa, Qa.go, Qj, Qk, Qc, goInt, k1, Q9, ty3, hlt, hlt', hlt2]
    refine hK _ _ ?_ rfl; clear hK K
    refine Dwp.condF (by simp [eval, upd]) (Dwp.skip ?_)
    refine Dwp.step tT rfl fun K hK => ?_
    simp [QD, QE, Qn, QI, own, Ql, dop, QJ, eval, Qy, QF, Ex.then, Ex.inBlock, upd, QK, Tag.isNN, Qm, intCmp, Qz, QA, TyI.agg, Qb, Qs, Qd, Qr, QL, QB, Qp, mapOf, Qx, Qo, Qf, Qi, Qg, Qu, DV.cells, Qt, Qh, Qq, Qv, rowsOf, Qw, Qe, Qa, Qa.go, Qj, Qk, Qc, goInt, k1, Q9, Qab, hlt2, ← hp, setT, Tm.cells_len, Q8]
    refine hK _ _ ?_ rfl; clear hK K
    refine Dwp.step tT rfl fun K hK => ?_
    simp [QD, QE, Qn, QI, own, Ql, dop, QJ, eval, Qy, QF, Ex.then, Ex.inBlock, upd, QK, Tag.isNN, Qm, intCmp, Qz, QA, TyI.agg, Qb, Qs, Qd, Qr, QL, QB, Qp, mapOf, Qx, Qo, Qf, Qi, Qg, Qu, DV.cells, Qt, Qh, Qq, Qv, rowsOf, Qw, Qe, Qa, Qa.go, Qj, Qk, Qc, goInt, k2, Qab, g, Tm.cells_len, Q8]
    refine hK _ _ ?_ rfl; clear hK K
    refine Dwp.step tT rfl fun K hK => ?_
    by_cases h0 : Qhm o p = 0
    · rw [orC, if_pos h0] at hc
      simp [QD, QE, Qn, QI, own, Ql, dop, QJ, eval, Qy, QF, Ex.then, Ex.inBlock, upd, QK, Tag.isNN, Qm, intCmp, Qz, QA, TyI.agg, Qb, Qs, Qd, Qr, QL, QB, Qp, mapOf, Qx, Qo, Qf, Qi, Qg, Qu, DV.cells, Qt, Qh, Qq, Qv, rowsOf, Qw, Qe, Qa, Qa.go, Qj, Qk, Qc, goInt, ty3, h0]
      refine hK _ _ ?_ rfl; clear hK K
      refine Dwp.condF (by simp [eval, upd]) (Dwp.skip ?_)
      exact ⟨by simp [upd, hidx], by simp [upd, hlen2], by simp [upd, k0], by simp [upd, k1], by simp [upd, k2], by simp [upd, k11], by omega, hc⟩
    · rw [orC, if_neg h0] at hc
      have h0' : (Qhm o p != 0) = true := by simpa using h0
      simp [QD, QE, Qn, QI, own, Ql, dop, QJ, eval, Qy, QF, Ex.then, Ex.inBlock, upd, QK, Tag.isNN, Qm, intCmp, Qz, QA, TyI.agg, Qb, Qs, Qd, Qr, QL, QB, Qp, mapOf, Qx, Qo, Qf, Qi, Qg, Qu, DV.cells, Qt, Qh, Qq, Qv, rowsOf, Qw, Qe, Qa, Qa.go, Qj, Qk, Qc, goInt, ty3, h0']
      refine hK _ _ ?_ rfl; clear hK K
      refine Dwp.condT (by simp [eval, upd]) ?_
      refine Dwp.step tT rfl fun K hK => ?_
      simp [QD, QE, Qn, QI, own, Ql, dop, QJ, eval, Qy, QF, Ex.then, Ex.inBlock, upd, QK, Tag.isNN, Qm, intCmp, Qz, QA, TyI.agg, Qb, Qs, Qd, Qr, QL, QB, Qp, mapOf, Qx, Qo, Qf, Qi, Qg, Qu, DV.cells, Qt, Qh, Qq, Qv, rowsOf, Qw, Qe, Qa, Qa.go, Qj, Qk, Qc, goInt]
      refine hK _ _ (Dwp.ret ?_) rfl
      simp [QZ, QH, QV, frz, QX, QW, QdT, Ex.then, Ex.inBlock, upd, Enc.int, hc]
  · rintro a σ hidx hlen2 ⟨k0, k1, k2, k11, him, hc⟩
    rw [List.drop_eq_nil_of_le (Nat.le_refl _), cmpTs_nil] at hc
    refine Dwp.seq ?_
    refine Dwp.step tT rfl fun K hK => ?_
    by_cases hlt : l.length < m.length
    · have hlt' : (l.length : Int) < (m.length : Int) := by omega
      simp [QD, QE, Qn, QI, own, Ql, dop, QJ, eval, Qy, QF, Ex.then, Ex.inBlock, upd, QK, Tag.isNN, Qm, intCmp, Qz, QA, TyI.agg, Qb, Qs, Qd, Qr, QL, QB, Qp, mapOf, Qx, Qo, Qf, Qi, Qg, Qu, DV.cells, Qt, Qh, Qq, Qv, rowsOf, Qw, Qe, Qa, Qa.go, Qj, Qk, Qc, goInt, k0, k1, Q9, ty3, hlt, hlt']
      refine hK _ _ ?_ rfl; clear hK K
      refine Dwp.condT (by simp [eval, upd]) ?_
      refine Dwp.step tT rfl fun K hK => ?_
      simp [QD, QE, Qn, QI, own, Ql, dop, QJ, eval, Qy, QF, Ex.then, Ex.inBlock, upd, QK, Tag.isNN, Qm, intCmp, Qz, QA, TyI.agg, Qb, Qs, Qd, Qr, QL, QB, Qp, mapOf, Qx, Qo, Qf, Qi, Qg, Qu, DV.cells, Qt, Qh, Qq, Qv, rowsOf, Qw, Qe, Qa, Qa.go, Qj, Qk, Qc, goInt]
      refine hK _ _ (Dwp.ret ?_) rfl
      have : Qbi l m = -1 := by rw [hc]; simp; omega
      simp [QZ, QH, QV, frz, QX, QW, Ex.then, Ex.inBlock, upd, Enc.int, this]
    · have hlt' : ¬ (l.length : Int) < (m.length : Int) := by omega
      simp [QD, QE, Qn, QI, own, Ql, dop, QJ, eval, Qy, QF, Ex.then, Ex.inBlock, upd, QK, Tag.isNN, Qm, intCmp, Qz, QA, TyI.agg, Qb, Qs, Qd, Qr, QL, QB, Qp, mapOf, Qx, Qo, Qf, Qi, Qg, Qu, DV.cells, Qt, Qh, Qq, Qv, rowsOf, Qw, Qe, Qa, Qa.go, Qj, Qk, Qc, goInt, k0, k1, Q9, ty3, hlt, hlt']
      refine hK _ _ ?_ rfl; clear hK K
      refine Dwp.condF (by simp [eval, upd]) (Dwp.skip ?_)
      refine Dwp.step tT rfl fun K hK => ?_
      simp [QD, QE, Qn, QI, own, Ql, dop, QJ, eval, Qy, QF, Ex.then, Ex.inBlock, upd, QK, Tag.isNN, Qm, intCmp, Qz, QA, TyI.agg, Qb, Qs, Qd, Qr, QL, QB, Qp, mapOf, Qx, Qo, Qf, Qi, Qg, Qu, DV.cells, Qt, Qh, Qq, Qv, rowsOf, Qw, Qe, Qa, Qa.go, Qj, Qk, Qc, goInt]
      refine hK _ _ (Dwp.ret ?_) rfl
      have : Qbi l m = 0 := by rw [hc]; simp; omega
      simp [QZ, QH, QV, frz, QX, QW, Ex.then, Ex.inBlock, upd, Enc.int, this]
noncomputable def Qjs (n : Nat) : Tab := QG [(150, s150), (151, sOI), (152, sOI), (153, sOS), (154, s154 n)]
set_option maxHeartbeats 2000000 in
theorem c88 (n : Nat) (cB : QC Tryz.prog 154 (s154 n)) : QC Tryz.prog 88 (s88 (n + 1)) := by
  refine QC.of_sp (T := Qjs n) Tryz.func88 rfl (Nat.le_of_ble_eq_true rfl) fun E xx y hy => ?_
  obtain ⟨⟨k, nn, x, s, ks, r⟩, ⟨k', nn', x', s', ks', r'⟩⟩ := xx
  simp only [] at hy
  split at hy
  case isFalse => cases hy
  next hlim =>
  simp only [tsz] at hlim
  obtain ⟨hn, hl, hm⟩ := hlim
  cases hy
  have tT : QP Tryz.prog (Qjs n) := .cons e150 (.cons e151 (.cons e152 (.cons e153 (.cons ⟨cB, Tryz.f154, _, Tryz.func154, rfl, by decide⟩ .nil))))
  have g1 := QiQ (Qjs n) rfl ks ks' (by omega) (by omega) (by omega)
  have g2 := QiQ (Qjs n) rfl r r' (by omega) (by omega) (by omega)
  have g3 := QgJ (f := 151) (Qjs n) rfl k k'
  have g4 := QgJ (f := 152) (Qjs n) rfl nn nn'
  have g5 := QhM (f := 153) (Qjs n) rfl x x'
  have g6 := QhM (f := 153) (Qjs n) rfl s s'
  have g7 := call150 (Qjs n) rfl (Qb7 k k') (Qb7 nn nn') (Qcs x x') (Qcs s s')
  generalize Qjs n = T at *
  have fin : ∀ (b : Int) (a : Nat → DV) (σ : St), a 4 = .lit (.int .i64 b) → Qhm (.mk k nn x s ks r) (.mk k' nn' x' s' ks' r') = b → QZ Tryz.prog Tryz.f88.results (Enc.int .i64) (Qhm (.mk k nn x s ks r) (.mk k' nn' x' s' ks' r')) Ex.ret a σ := by
    intro b a σ h2 hb
    refine ⟨.inr rfl, .lit (.int .i64 b), ?_, by simp [hb, QZ, QH, QV, frz, QX, QW, Enc.int]⟩
    show QH Tryz.prog σ a [ResultVar.tmp 4] = _
    simp [QH, QV, h2]
  have hc : Qhm (.mk k nn x s ks r) (.mk k' nn' x' s' ks' r') = orC (orD [Qb7 k k', Qb7 nn nn', Qcs x x', Qcs s s']) (orC (Qbi ks ks') (Qbi r r')) := by rw [Qhm]
  generalize orD [Qb7 k k', Qb7 nn nn', Qcs x x', Qcs s s'] = c at *
  simp only [QS, QM.and, QM.one, tmC, QR]
  refine Dwp.step tT rfl fun K hK => ?_
  simp [QD, QE, Qn, QI, own, Ql, dop, QJ, eval, Qy, QF, Ex.then, Ex.inBlock, upd, QK, Tag.isNN, Qm, intCmp, Qz, QA, TyI.agg, Qb, Qs, Qd, Qr, QL, QB, Qp, mapOf, Qx, Qo, Qf, Qi, Qg, Qu, DV.cells, Qt, Qh, Qq, Qv, rowsOf, Qw, Qe, Qa, Qa.go, Qj, Qk, Qc, goInt, init, QR]
  refine hK _ _ ?_ rfl; clear hK K
  refine Dwp.drawStep [] mixed tT rfl (by decide) fun K hK => ?_
  simp [Qbj, touch, QaE, QD, QE, Qn, QI, own, Ql, dop, QJ, eval, Qy, QF, Ex.then, Ex.inBlock, upd, QK, Tag.isNN, Qm, intCmp, Qz, QA, TyI.agg, Qb, Qs, Qd, Qr, QL, QB, Qp, mapOf, Qx, Qo, Qf, Qi, Qg, Qu, DV.cells, Qt, Qh, Qq, Qv, rowsOf, Qw, Qe, Qa, Qa.go, Qj, Qk, Qc, goInt, Qaa, ty3, ty9, Q9, Qab, Qd6, g3, g4, g5, g6, g7]
  refine hK _ _ ?_ rfl; clear hK K
  refine Dwp.seq ?_
  refine Dwp.step tT rfl fun K hK => ?_
  by_cases h1 : c = 0
  case neg =>
    have h1n : (c != 0) = true := by simpa using h1
    simp [QD, QE, Qn, QI, own, Ql, dop, QJ, eval, Qy, QF, Ex.then, Ex.inBlock, upd, QK, Tag.isNN, Qm, intCmp, Qz, QA, TyI.agg, Qb, Qs, Qd, Qr, QL, QB, Qp, mapOf, Qx, Qo, Qf, Qi, Qg, Qu, DV.cells, Qt, Qh, Qq, Qv, rowsOf, Qw, Qe, Qa, Qa.go, Qj, Qk, Qc, goInt, ty3, h1n]
    refine hK _ _ ?_ rfl; clear hK K
    refine Dwp.condT (by simp [eval, upd]) ?_
    refine Dwp.step tT rfl fun K hK => ?_
    simp [QD, QE, Qn, QI, own, Ql, dop, QJ, eval, Qy, QF, Ex.then, Ex.inBlock, upd, QK, Tag.isNN, Qm, intCmp, Qz, QA, TyI.agg, Qb, Qs, Qd, Qr, QL, QB, Qp, mapOf, Qx, Qo, Qf, Qi, Qg, Qu, DV.cells, Qt, Qh, Qq, Qv, rowsOf, Qw, Qe, Qa, Qa.go, Qj, Qk, Qc, goInt]
    refine hK _ _ (Dwp.ret ?_) rfl
    refine fin c _ _ ?_ ?_
    · simp [upd]
    · simp [hc, orC, h1]
  simp [QD, QE, Qn, QI, own, Ql, dop, QJ, eval, Qy, QF, Ex.then, Ex.inBlock, upd, QK, Tag.isNN, Qm, intCmp, Qz, QA, TyI.agg, Qb, Qs, Qd, Qr, QL, QB, Qp, mapOf, Qx, Qo, Qf, Qi, Qg, Qu, DV.cells, Qt, Qh, Qq, Qv, rowsOf, Qw, Qe, Qa, Qa.go, Qj, Qk, Qc, goInt, ty3, h1]
  refine hK _ _ ?_ rfl; clear hK K
  refine Dwp.condF (by simp [eval, upd]) (Dwp.skip ?_)
  refine Dwp.seq ?_
  refine Dwp.step tT rfl fun K hK => ?_
  simp [QD, QE, Qn, QI, own, Ql, dop, QJ, eval, Qy, QF, Ex.then, Ex.inBlock, upd, QK, Tag.isNN, Qm, intCmp, Qz, QA, TyI.agg, Qb, Qs, Qd, Qr, QL, QB, Qp, mapOf, Qx, Qo, Qf, Qi, Qg, Qu, DV.cells, Qt, Qh, Qq, Qv, rowsOf, Qw, Qe, Qa, Qa.go, Qj, Qk, Qc, goInt, Q9, Qab, g1]
  refine hK _ _ ?_ rfl; clear hK K
  refine Dwp.step tT rfl fun K hK => ?_
  by_cases h2 : Qbi ks ks' = 0
  case neg =>
    have h2n : (Qbi ks ks' != 0) = true := by simpa using h2
    simp [QD, QE, Qn, QI, own, Ql, dop, QJ, eval, Qy, QF, Ex.then, Ex.inBlock, upd, QK, Tag.isNN, Qm, intCmp, Qz, QA, TyI.agg, Qb, Qs, Qd, Qr, QL, QB, Qp, mapOf, Qx, Qo, Qf, Qi, Qg, Qu, DV.cells, Qt, Qh, Qq, Qv, rowsOf, Qw, Qe, Qa, Qa.go, Qj, Qk, Qc, goInt, ty3, h2n]
    refine hK _ _ ?_ rfl; clear hK K
    refine Dwp.condT (by simp [eval, upd]) ?_
    refine Dwp.step tT rfl fun K hK => ?_
    simp [QD, QE, Qn, QI, own, Ql, dop, QJ, eval, Qy, QF, Ex.then, Ex.inBlock, upd, QK, Tag.isNN, Qm, intCmp, Qz, QA, TyI.agg, Qb, Qs, Qd, Qr, QL, QB, Qp, mapOf, Qx, Qo, Qf, Qi, Qg, Qu, DV.cells, Qt, Qh, Qq, Qv, rowsOf, Qw, Qe, Qa, Qa.go, Qj, Qk, Qc, goInt]
    refine hK _ _ (Dwp.ret ?_) rfl
    refine fin (Qbi ks ks') _ _ ?_ ?_
    · simp [upd]
    · simp [hc, orC, h1, h2]
  simp [QD, QE, Qn, QI, own, Ql, dop, QJ, eval, Qy, QF, Ex.then, Ex.inBlock, upd, QK, Tag.isNN, Qm, intCmp, Qz, QA, TyI.agg, Qb, Qs, Qd, Qr, QL, QB, Qp, mapOf, Qx, Qo, Qf, Qi, Qg, Qu, DV.cells, Qt, Qh, Qq, Qv, rowsOf, Qw, Qe, Qa, Qa.go, Qj, Qk, Qc, goInt, ty3, h2]
  refine hK _ _ ?_ rfl; clear hK K
  refine Dwp.condF (by simp [eval, upd]) (Dwp.skip ?_)
  refine Dwp.step tT rfl fun K hK => ?_
  simp [QD, QE, Qn, QI, own, Ql, dop, QJ, eval, Qy, QF, Ex.then, Ex.inBlock, upd, QK, Tag.isNN, Qm, intCmp, Qz, QA, TyI.agg, Qb, Qs, Qd, Qr, QL, QB, Qp, mapOf, Qx, Qo, Qf, Qi, Qg, Qu, DV.cells, Qt, Qh, Qq, Qv, rowsOf, Qw, Qe, Qa, Qa.go, Qj, Qk, Qc, goInt, Q9, Qab, g2]
  refine hK _ _ (Dwp.ret ?_) rfl
  refine fin (Qbi r r') _ _ ?_ ?_
  · simp [upd]
  · simp [hc, orC, h1, h2]
theorem c88_0 : QC Tryz.prog 88 (s88 0) := by
  refine QC.of_sp (T := QG []) Tryz.func88 rfl (Nat.le_of_ble_eq_true rfl) fun E xx y hy => ?_
  obtain ⟨t, u⟩ := xx
  simp only [] at hy
  split at hy
  · next h => have := Qe3 t; omega
  · cases hy
theorem QiX : ∀ n, QC Tryz.prog 88 (s88 n) ∧ QC Tryz.prog 154 (s154 n)
  | 0 => ⟨c88_0, c154 0 c88_0⟩
  | n + 1 => have h := c88 n (QiX n).2; ⟨h, c154 (n + 1) h⟩
theorem e88 : Go.FA.Good Tryz.prog (88, s88 tlim) := ⟨(QiX tlim).1, Tryz.f88, _, Tryz.func88, rfl, by decide⟩
mutual
def Qhz : Tm → Tm → Int
  | .mk k n t s ks r, .mk k' n' t' s' ks' r' => orC (Qb7 k k')
      (if k = 1 ∨ k = 2 then Qb7 n n' else if k = 3 ∨ k = 4 then Qcs t t' else if k = 6 then orC (Qcs t t') (Qcs s s')
       else if k = 5 then orC (Qcs t t') (QaU ks ks') else orC (QaU ks ks') (QaU r r'))
def QaU : List Tm → List Tm → Int
  | [], [] => 0
  | [], _ :: _ => -1
  | _ :: _, [] => 1
  | x :: xs, y :: ys => orC (Qhz x y) (QaU xs ys)
end
theorem ordTs_len : ∀ (l m : List Tm), l = [] ∨ m = [] → QaU l m = Qb7 l.length m.length
  | [], [], _ => by simp [QaU, Qb7]
  | [], _ :: _, _ => by simp [QaU, Qb7]
  | _ :: _, [], _ => by simp [QaU, Qb7]; omega
  | _ :: _, _ :: _, h => by simp at h
theorem ordI_sub (a b i : Nat) (h1 : i ≤ a) (h2 : i ≤ b) : Qb7 ((a - i : Nat) : Int) ((b - i : Nat) : Int) = Qb7 a b := by
  unfold Qb7
  repeat' split
  all_goals omega
theorem ordTs_end (l m : List Tm) (i : Nat) (h1 : i ≤ l.length) (h2 : i ≤ m.length) (h : l.length ≤ i ∨ m.length ≤ i) : QaU (l.drop i) (m.drop i) = Qb7 l.length m.length := by
  rw [ordTs_len _ _ (by rcases h with h | h; exact .inl (List.drop_eq_nil_of_le h); exact .inr (List.drop_eq_nil_of_le h))]
  rw [List.length_drop, List.length_drop, ordI_sub _ _ _ h1 h2]
def s89 (n : Nat) : Sp := sp (QS Enc.tm Enc.tm) (Enc.int .i64) (fun x => if tsz x.1 ≤ n ∧ tsz x.1 ≤ tlim ∧ tsz x.2 ≤ tlim then some (Qhz x.1 x.2) else none)
def s157 (n : Nat) : Sp := sp (QS Enc.tms Enc.tms) (Enc.int .i64) (fun x => if Qa3 x.1 ≤ n ∧ Qa3 x.1 ≤ tlim ∧ Qa3 x.2 ≤ tlim then some (QaU x.1 x.2) else none)
theorem QjZ {n : Nat} (T : Tab) (hT : T 89 = some (s89 n)) (t u : Tm) (h1 : tsz t ≤ n) (h2 : tsz t ≤ tlim) (h3 : tsz u ≤ tlim) : dcall T 89 [.agg t.cells, .agg u.cells] = some (.lit (.int .i64 (Qhz t u))) :=
  QaL (A := Enc.tm) (B := Enc.tm) (C := Enc.int .i64) hT (if_pos ⟨h1, h2, h3⟩)
theorem Qjl {n : Nat} (T : Tab) (hT : T 157 = some (s157 n)) (l m : List Tm) (h1 : Qa3 l ≤ n) (h2 : Qa3 l ≤ tlim) (h3 : Qa3 m ≤ tlim) : dcall T 157 [.slice 6 .none (l.map Tm.cells), .slice 6 .none (m.map Tm.cells)] = some (.lit (.int .i64 (QaU l m))) :=
  QaL (A := Enc.tms) (B := Enc.tms) (C := Enc.int .i64) hT (if_pos ⟨h1, h2, h3⟩)
def inv157 (l m : List Tm) : Nat → (Nat → DV) → St → Prop := fun k a σ => ∃ i, i ≤ l.length ∧ i ≤ m.length ∧ k = l.length - i ∧ a 0 = .slice 6 .none (l.map Tm.cells) ∧ a 1 = .slice 6 .none (m.map Tm.cells) ∧ a 5 = .lit (.int .i64 i) ∧ QaU l m = QaU (l.drop i) (m.drop i)
theorem c157 (n : Nat) (c89 : QC Tryz.prog 89 (s89 n)) : QC Tryz.prog 157 (s157 n) := by
  refine QC.of_sp (T := QG [(89, s89 n), (155, sOI)]) Tryz.func157 rfl (Nat.le_of_ble_eq_true rfl) fun E xx y hy => ?_
  obtain ⟨l, m⟩ := xx
  simp only [] at hy
  split at hy
  case isFalse => cases hy
  next hlim =>
  obtain ⟨hn, hl, hm⟩ := hlim
  cases hy
  have hl' : l.length ≤ 16777216 := by have := Qaz l; unfold tlim at hl; omega
  have hm' : m.length ≤ 16777216 := by have := Qaz m; unfold tlim at hm; omega
  have tT : QP Tryz.prog (QG [(89, s89 n), (155, sOI)]) := .cons ⟨c89, Tryz.f89, _, Tryz.func89, rfl, by decide⟩ (.cons e155 .nil)
  have g36 : ∀ t ∈ l, ∀ u ∈ m, dcall (QG [(89, s89 n), (155, sOI)]) 89 [.agg t.cells, .agg u.cells] = some (.lit (.int .i64 (Qhz t u))) := fun t ht u hu =>
    QjZ _ rfl t u (by have := Qae l t ht; omega) (by have := Qae l t ht; omega) (by have := Qae m u hu; omega)
  have gN := QgJ (f := 155) (QG [(89, s89 n), (155, sOI)]) rfl l.length m.length
  generalize QG [(89, s89 n), (155, sOI)] = T at *
  refine Dwp.step tT rfl fun K hK => ?_
  simp [QD, QE, Qn, QI, own, Ql, dop, QJ, eval, Qy, QF, Ex.then, Ex.inBlock, upd, QK, Tag.isNN, Qm, intCmp, Qz, QA, TyI.agg, Qb, Qs, Qd, Qr, QL, QB, Qp, mapOf, Qx, Qo, Qf, Qi, Qg, Qu, DV.cells, Qt, Qh, Qq, Qv, rowsOf, Qw, Qe, Qa, Qa.go, Qj, Qk, Qc, goInt, init, QS, QM.and, QM.one]
  refine hK _ _ ?_ rfl; clear hK K
  refine Dwp.seq ?_
  refine Dwp.step tT rfl fun K hK => ?_
  simp [QD, QE, Qn, QI, own, Ql, dop, QJ, eval, Qy, QF, Ex.then, Ex.inBlock, upd, QK, Tag.isNN, Qm, intCmp, Qz, QA, TyI.agg, Qb, Qs, Qd, Qr, QL, QB, Qp, mapOf, Qx, Qo, Qf, Qi, Qg, Qu, DV.cells, Qt, Qh, Qq, Qv, rowsOf, Qw, Qe, Qa, Qa.go, Qj, Qk, Qc, goInt, init, Q9, QfQ]
  refine hK _ _ ?_ rfl; clear hK K
  refine Dwp.block (Dwp.loop (inv157 l m) l.length ⟨0, by omega, by omega, by simp, by simp [upd, init, QfQ], by simp [upd, init, QfQ], by simp [upd], by simp⟩ ?_)
  rintro k a σ ⟨i, hil, him, rfl, k0, k1, k5, hc⟩
  refine Dwp.seq ?_
  refine Dwp.step tT rfl fun K hK => ?_
  by_cases hlt : i < l.length ∧ i < m.length
  case neg =>
    have hend : l.length ≤ i ∨ m.length ≤ i := by omega
    rw [ordTs_end l m i hil him hend] at hc
    by_cases h1 : i < l.length
    · have h2 : ¬ i < m.length := by omega
      simp [QD, QE, Qn, QI, own, Ql, dop, QJ, eval, Qy, QF, Ex.then, Ex.inBlock, upd, QK, Tag.isNN, Qm, intCmp, Qz, QA, TyI.agg, Qb, Qs, Qd, Qr, QL, QB, Qp, mapOf, Qx, Qo, Qf, Qi, Qg, Qu, DV.cells, Qt, Qh, Qq, Qv, rowsOf, Qw, Qe, Qa, Qa.go, Qj, Qk, Qc, goInt, k0, k1, k5, Q9, ty3, h1, h2]
      refine hK _ _ ?_ rfl; clear hK K
      refine Dwp.condF (by simp [eval, upd]) (Dwp.exit ?_)
      simp only [Ex.then, Ex.inBlock, if_true]
      refine Dwp.step tT rfl fun K hK => ?_
      simp [QD, QE, Qn, QI, own, Ql, dop, QJ, eval, Qy, QF, Ex.then, Ex.inBlock, upd, QK, Tag.isNN, Qm, intCmp, Qz, QA, TyI.agg, Qb, Qs, Qd, Qr, QL, QB, Qp, mapOf, Qx, Qo, Qf, Qi, Qg, Qu, DV.cells, Qt, Qh, Qq, Qv, rowsOf, Qw, Qe, Qa, Qa.go, Qj, Qk, Qc, goInt, k0, k1, Q9, gN]
      refine hK _ _ (Dwp.ret ?_) rfl
      simp [QZ, QH, QV, frz, QX, QW, upd, Enc.int, hc]
    · simp [QD, QE, Qn, QI, own, Ql, dop, QJ, eval, Qy, QF, Ex.then, Ex.inBlock, upd, QK, Tag.isNN, Qm, intCmp, Qz, QA, TyI.agg, Qb, Qs, Qd, Qr, QL, QB, Qp, mapOf, Qx, Qo, Qf, Qi, Qg, Qu, DV.cells, Qt, Qh, Qq, Qv, rowsOf, Qw, Qe, Qa, Qa.go, Qj, Qk, Qc, goInt, k0, k1, k5, Q9, ty3, h1]
      refine hK _ _ ?_ rfl; clear hK K
      refine Dwp.condF (by simp [eval, upd]) (Dwp.exit ?_)
      simp only [Ex.then, Ex.inBlock, if_true]
      refine Dwp.step tT rfl fun K hK => ?_
      simp [QD, QE, Qn, QI, own, Ql, dop, QJ, eval, Qy, QF, Ex.then, Ex.inBlock, upd, QK, Tag.isNN, Qm, intCmp, Qz, QA, TyI.agg, Qb, Qs, Qd, Qr, QL, QB, Qp, mapOf, Qx, Qo, Qf, Qi, Qg, Qu, DV.cells, Qt, Qh, Qq, Qv, rowsOf, Qw, Qe, Qa, Qa.go, Qj, Qk, Qc, goInt, k0, k1, Q9, gN]
      refine hK _ _ (Dwp.ret ?_) rfl
      simp [QZ, QH, QV, frz, QX, QW, upd, Enc.int, hc]
  obtain ⟨h1, h2⟩ := hlt
  simp [QD, QE, Qn, QI, own, Ql, dop, QJ, eval, Qy, QF, Ex.then, Ex.inBlock, upd, QK, Tag.isNN, Qm, intCmp, Qz, QA, TyI.agg, Qb, Qs, Qd, Qr, QL, QB, Qp, mapOf, Qx, Qo, Qf, Qi, Qg, Qu, DV.cells, Qt, Qh, Qq, Qv, rowsOf, Qw, Qe, Qa, Qa.go, Qj, Qk, Qc, goInt, k0, k1, k5, Q9, ty3, h1, h2]
  refine hK _ _ ?_ rfl; clear hK K
  refine Dwp.condT (by simp [eval, upd]) (Dwp.skip ?_)
  obtain ⟨o, ho⟩ : ∃ o, o = l[i] := ⟨_, rfl⟩
  obtain ⟨p, hp⟩ : ∃ p, p = m[i] := ⟨_, rfl⟩
  have g := g36 o (by rw [ho]; exact List.getElem_mem h1) p (by rw [hp]; exact List.getElem_mem h2)
  rw [List.drop_eq_getElem_cons h1, List.drop_eq_getElem_cons h2, ← ho, ← hp, QaU] at hc
  refine Dwp.seq (Dwp.block ?_)
  refine Dwp.drawStep [] mixed tT rfl (by decide) fun K hK => ?_
  simp [Qbj, touch, QaE, QD, QE, Qn, QI, own, Ql, dop, QJ, eval, Qy, QF, Ex.then, Ex.inBlock, upd, QK, Tag.isNN, Qm, intCmp, Qz, QA, TyI.agg, Qb, Qs, Qd, Qr, QL, QB, Qp, mapOf, Qx, Qo, Qf, Qi, Qg, Qu, DV.cells, Qt, Qh, Qq, Qv, rowsOf, Qw, Qe, Qa, Qa.go, Qj, Qk, Qc, goInt, k0, k1, k5, Q9, Qab, h1, h2, ← ho, ← hp, Tm.cells_len, Q8, g]
  refine hK _ _ ?_ rfl; clear hK K
  refine Dwp.step tT rfl fun K hK => ?_
  by_cases h0 : Qhz o p = 0
  · rw [orC, if_pos h0] at hc
    simp [QD, QE, Qn, QI, own, Ql, dop, QJ, eval, Qy, QF, Ex.then, Ex.inBlock, upd, QK, Tag.isNN, Qm, intCmp, Qz, QA, TyI.agg, Qb, Qs, Qd, Qr, QL, QB, Qp, mapOf, Qx, Qo, Qf, Qi, Qg, Qu, DV.cells, Qt, Qh, Qq, Qv, rowsOf, Qw, Qe, Qa, Qa.go, Qj, Qk, Qc, goInt, ty3, h0]
    refine hK _ _ ?_ rfl; clear hK K
    refine Dwp.condF (by simp [eval, upd]) (Dwp.skip ?_)
    refine Dwp.reg tT rfl fun K hK => ?_
    simp [QD, QE, Qn, QI, own, Ql, dop, QJ, eval, Qy, QF, Ex.then, Ex.inBlock, upd, QK, Tag.isNN, Qm, intCmp, Qz, QA, TyI.agg, Qb, Qs, Qd, Qr, QL, QB, Qp, mapOf, Qx, Qo, Qf, Qi, Qg, Qu, DV.cells, Qt, Qh, Qq, Qv, rowsOf, Qw, Qe, Qa, Qa.go, Qj, Qk, Qc, goInt, k5]
    refine hK _ _ ?_ rfl; clear hK K
    exact ⟨l.length - (i + 1), by omega, i + 1, by omega, by omega, rfl, by simp [upd, k0], by simp [upd, k1], by simp [upd, wrap_small (n := (i : Int) + 1) (by omega) (by omega)], hc⟩
  · rw [orC, if_neg h0] at hc
    have h0' : (Qhz o p != 0) = true := by simpa using h0
    simp [QD, QE, Qn, QI, own, Ql, dop, QJ, eval, Qy, QF, Ex.then, Ex.inBlock, upd, QK, Tag.isNN, Qm, intCmp, Qz, QA, TyI.agg, Qb, Qs, Qd, Qr, QL, QB, Qp, mapOf, Qx, Qo, Qf, Qi, Qg, Qu, DV.cells, Qt, Qh, Qq, Qv, rowsOf, Qw, Qe, Qa, Qa.go, Qj, Qk, Qc, goInt, ty3, h0']
    refine hK _ _ ?_ rfl; clear hK K
    refine Dwp.condT (by simp [eval, upd]) ?_
    refine Dwp.step tT rfl fun K hK => ?_
    simp [QD, QE, Qn, QI, own, Ql, dop, QJ, eval, Qy, QF, Ex.then, Ex.inBlock, upd, QK, Tag.isNN, Qm, intCmp, Qz, QA, TyI.agg, Qb, Qs, Qd, Qr, QL, QB, Qp, mapOf, Qx, Qo, Qf, Qi, Qg, Qu, DV.cells, Qt, Qh, Qq, Qv, rowsOf, Qw, Qe, Qa, Qa.go, Qj, Qk, Qc, goInt]
    refine hK _ _ (Dwp.ret ?_) rfl
    simp [QZ, QH, QV, frz, QX, QW, Ex.then, Ex.inBlock, upd, Enc.int, hc]
theorem ordT_eq (k n : Int) (t s : ByteArray) (ks r : List Tm) (k' n' : Int) (t' s' : ByteArray) (ks' r' : List Tm) : Qhz (.mk k n t s ks r) (.mk k' n' t' s' ks' r') = orC (Qb7 k k')
      (if k = 1 ∨ k = 2 then Qb7 n n' else if k = 3 ∨ k = 4 then Qcs t t' else if k = 6 then orC (Qcs t t') (Qcs s s')
       else if k = 5 then orC (Qcs t t') (QaU ks ks') else orC (QaU ks ks') (QaU r r')) := by rw [Qhz]
noncomputable def QjJ (n : Nat) : Tab := QG [(155, sOI), (156, sOS), (157, s157 n)]
set_option maxHeartbeats 4000000 in
theorem c89 (n : Nat) (cB : QC Tryz.prog 157 (s157 n)) : QC Tryz.prog 89 (s89 (n + 1)) := by
  refine QC.of_sp (T := QjJ n) Tryz.func89 rfl (Nat.le_of_ble_eq_true rfl) fun E xx y hy => ?_
  obtain ⟨⟨k, nn, x, s, ks, r⟩, ⟨k', nn', x', s', ks', r'⟩⟩ := xx
  simp only [] at hy
  split at hy
  case isFalse => cases hy
  next hlim =>
  simp only [tsz] at hlim
  obtain ⟨hn, hl, hm⟩ := hlim
  cases hy
  have tT : QP Tryz.prog (QjJ n) := .cons e155 (.cons e156 (.cons ⟨cB, Tryz.f157, _, Tryz.func157, rfl, by decide⟩ .nil))
  have g1 := Qjl (QjJ n) rfl ks ks' (by omega) (by omega) (by omega)
  have g2 := Qjl (QjJ n) rfl r r' (by omega) (by omega) (by omega)
  have g3 := QgJ (f := 155) (QjJ n) rfl k k'
  have g4 := QgJ (f := 155) (QjJ n) rfl nn nn'
  have g5 := QhM (f := 156) (QjJ n) rfl x x'
  have g6 := QhM (f := 156) (QjJ n) rfl s s'
  generalize QjJ n = T at *
  have fin : ∀ (b : Int) (a : Nat → DV) (σ : St), a 4 = .lit (.int .i64 b) → Qhz (.mk k nn x s ks r) (.mk k' nn' x' s' ks' r') = b → QZ Tryz.prog Tryz.f89.results (Enc.int .i64) (Qhz (.mk k nn x s ks r) (.mk k' nn' x' s' ks' r')) Ex.ret a σ := by
    intro b a σ h2 hb
    refine ⟨.inr rfl, .lit (.int .i64 b), ?_, by simp [hb, QZ, QH, QV, frz, QX, QW, Enc.int]⟩
    show QH Tryz.prog σ a [ResultVar.tmp 4] = _
    simp [QH, QV, h2]
  have hc := ordT_eq k nn x s ks r k' nn' x' s' ks' r'
  simp only [QS, QM.and, QM.one, tmC, QR]
  refine Dwp.step tT rfl fun K hK => ?_
  simp [QD, QE, Qn, QI, own, Ql, dop, QJ, eval, Qy, QF, Ex.then, Ex.inBlock, upd, QK, Tag.isNN, Qm, intCmp, Qz, QA, TyI.agg, Qb, Qs, Qd, Qr, QL, QB, Qp, mapOf, Qx, Qo, Qf, Qi, Qg, Qu, DV.cells, Qt, Qh, Qq, Qv, rowsOf, Qw, Qe, Qa, Qa.go, Qj, Qk, Qc, goInt, init, QR]
  refine hK _ _ ?_ rfl; clear hK K
  refine Dwp.seq ?_
  refine Dwp.step tT rfl fun K hK => ?_
  simp [QD, QE, Qn, QI, own, Ql, dop, QJ, eval, Qy, QF, Ex.then, Ex.inBlock, upd, QK, Tag.isNN, Qm, intCmp, Qz, QA, TyI.agg, Qb, Qs, Qd, Qr, QL, QB, Qp, mapOf, Qx, Qo, Qf, Qi, Qg, Qu, DV.cells, Qt, Qh, Qq, Qv, rowsOf, Qw, Qe, Qa, Qa.go, Qj, Qk, Qc, goInt, Qaa, Qab, g3]
  refine hK _ _ ?_ rfl; clear hK K
  refine Dwp.step tT rfl fun K hK => ?_
  by_cases h1 : Qb7 k k' = 0
  case neg =>
    have h1n : (Qb7 k k' != 0) = true := by simpa using h1
    simp [QD, QE, Qn, QI, own, Ql, dop, QJ, eval, Qy, QF, Ex.then, Ex.inBlock, upd, QK, Tag.isNN, Qm, intCmp, Qz, QA, TyI.agg, Qb, Qs, Qd, Qr, QL, QB, Qp, mapOf, Qx, Qo, Qf, Qi, Qg, Qu, DV.cells, Qt, Qh, Qq, Qv, rowsOf, Qw, Qe, Qa, Qa.go, Qj, Qk, Qc, goInt, ty3, h1n]
    refine hK _ _ ?_ rfl; clear hK K
    refine Dwp.condT (by simp [eval, upd]) ?_
    refine Dwp.step tT rfl fun K hK => ?_
    simp [QD, QE, Qn, QI, own, Ql, dop, QJ, eval, Qy, QF, Ex.then, Ex.inBlock, upd, QK, Tag.isNN, Qm, intCmp, Qz, QA, TyI.agg, Qb, Qs, Qd, Qr, QL, QB, Qp, mapOf, Qx, Qo, Qf, Qi, Qg, Qu, DV.cells, Qt, Qh, Qq, Qv, rowsOf, Qw, Qe, Qa, Qa.go, Qj, Qk, Qc, goInt]
    refine hK _ _ (Dwp.ret ?_) rfl
    refine fin (Qb7 k k') _ _ ?_ ?_
    · simp [upd]
    · simp [hc, orC, h1]
  rw [orC, if_pos h1] at hc
  simp [QD, QE, Qn, QI, own, Ql, dop, QJ, eval, Qy, QF, Ex.then, Ex.inBlock, upd, QK, Tag.isNN, Qm, intCmp, Qz, QA, TyI.agg, Qb, Qs, Qd, Qr, QL, QB, Qp, mapOf, Qx, Qo, Qf, Qi, Qg, Qu, DV.cells, Qt, Qh, Qq, Qv, rowsOf, Qw, Qe, Qa, Qa.go, Qj, Qk, Qc, goInt, ty3, h1]
  refine hK _ _ ?_ rfl; clear hK K
  refine Dwp.condF (by simp [eval, upd]) (Dwp.skip ?_)
  refine Dwp.step tT rfl fun K hK => ?_
  simp [QD, QE, Qn, QI, own, Ql, dop, QJ, eval, Qy, QF, Ex.then, Ex.inBlock, upd, QK, Tag.isNN, Qm, intCmp, Qz, QA, TyI.agg, Qb, Qs, Qd, Qr, QL, QB, Qp, mapOf, Qx, Qo, Qf, Qi, Qg, Qu, DV.cells, Qt, Qh, Qq, Qv, rowsOf, Qw, Qe, Qa, Qa.go, Qj, Qk, Qc, goInt]
  refine hK _ _ ?_ rfl; clear hK K
  refine Dwp.seq ?_
  refine Dwp.step tT rfl fun K hK => ?_
  simp [QD, QE, Qn, QI, own, Ql, dop, QJ, eval, Qy, QF, Ex.then, Ex.inBlock, upd, QK, Tag.isNN, Qm, intCmp, Qz, QA, TyI.agg, Qb, Qs, Qd, Qr, QL, QB, Qp, mapOf, Qx, Qo, Qf, Qi, Qg, Qu, DV.cells, Qt, Qh, Qq, Qv, rowsOf, Qw, Qe, Qa, Qa.go, Qj, Qk, Qc, goInt, Qaa, Qab]
  refine hK _ _ ?_ rfl; clear hK K
  refine Dwp.block ?_
  refine Dwp.seq ?_
  refine Dwp.step tT rfl fun K hK => ?_
  by_cases q1 : k = 1
  · have b1 : (k == 1) = true := by simpa using q1
    simp [QD, QE, Qn, QI, own, Ql, dop, QJ, eval, Qy, QF, Ex.then, Ex.inBlock, upd, QK, Tag.isNN, Qm, intCmp, Qz, QA, TyI.agg, Qb, Qs, Qd, Qr, QL, QB, Qp, mapOf, Qx, Qo, Qf, Qi, Qg, Qu, DV.cells, Qt, Qh, Qq, Qv, rowsOf, Qw, Qe, Qa, Qa.go, Qj, Qk, Qc, goInt, Qaa, b1]
    refine hK _ _ ?_ rfl; clear hK K
    refine Dwp.condT (by simp [eval, upd]) (Dwp.skip ?_)
    refine Dwp.condT (by simp [eval, upd]) ?_
    refine Dwp.step tT rfl fun K hK => ?_
    simp [QD, QE, Qn, QI, own, Ql, dop, QJ, eval, Qy, QF, Ex.then, Ex.inBlock, upd, QK, Tag.isNN, Qm, intCmp, Qz, QA, TyI.agg, Qb, Qs, Qd, Qr, QL, QB, Qp, mapOf, Qx, Qo, Qf, Qi, Qg, Qu, DV.cells, Qt, Qh, Qq, Qv, rowsOf, Qw, Qe, Qa, Qa.go, Qj, Qk, Qc, goInt, ty3, ty9, Q9, Qab, g4]
    refine hK _ _ (Dwp.ret ?_) rfl
    refine fin (Qb7 nn nn') _ _ ?_ ?_
    · simp [upd]
    · rw [hc]; simp [orC, q1]
  have b1 : (k == 1) = false := by simpa using q1
  simp [QD, QE, Qn, QI, own, Ql, dop, QJ, eval, Qy, QF, Ex.then, Ex.inBlock, upd, QK, Tag.isNN, Qm, intCmp, Qz, QA, TyI.agg, Qb, Qs, Qd, Qr, QL, QB, Qp, mapOf, Qx, Qo, Qf, Qi, Qg, Qu, DV.cells, Qt, Qh, Qq, Qv, rowsOf, Qw, Qe, Qa, Qa.go, Qj, Qk, Qc, goInt, Qaa, b1]
  refine hK _ _ ?_ rfl; clear hK K
  refine Dwp.condF (by simp [eval, upd]) ?_
  refine Dwp.reg tT rfl fun K hK => ?_
  by_cases q2 : k = 2
  · have b2 : (k == 2) = true := by simpa using q2
    simp [QD, QE, Qn, QI, own, Ql, dop, QJ, eval, Qy, QF, Ex.then, Ex.inBlock, upd, QK, Tag.isNN, Qm, intCmp, Qz, QA, TyI.agg, Qb, Qs, Qd, Qr, QL, QB, Qp, mapOf, Qx, Qo, Qf, Qi, Qg, Qu, DV.cells, Qt, Qh, Qq, Qv, rowsOf, Qw, Qe, Qa, Qa.go, Qj, Qk, Qc, goInt, Qaa, b2]
    refine hK _ _ ?_ rfl; clear hK K
    refine Dwp.condT (by simp [eval, upd]) ?_
    refine Dwp.step tT rfl fun K hK => ?_
    simp [QD, QE, Qn, QI, own, Ql, dop, QJ, eval, Qy, QF, Ex.then, Ex.inBlock, upd, QK, Tag.isNN, Qm, intCmp, Qz, QA, TyI.agg, Qb, Qs, Qd, Qr, QL, QB, Qp, mapOf, Qx, Qo, Qf, Qi, Qg, Qu, DV.cells, Qt, Qh, Qq, Qv, rowsOf, Qw, Qe, Qa, Qa.go, Qj, Qk, Qc, goInt, ty3, ty9, Q9, Qab, g4]
    refine hK _ _ (Dwp.ret ?_) rfl
    refine fin (Qb7 nn nn') _ _ ?_ ?_
    · simp [upd]
    · rw [hc]; simp [orC, q1, q2]
  have b2 : (k == 2) = false := by simpa using q2
  simp [QD, QE, Qn, QI, own, Ql, dop, QJ, eval, Qy, QF, Ex.then, Ex.inBlock, upd, QK, Tag.isNN, Qm, intCmp, Qz, QA, TyI.agg, Qb, Qs, Qd, Qr, QL, QB, Qp, mapOf, Qx, Qo, Qf, Qi, Qg, Qu, DV.cells, Qt, Qh, Qq, Qv, rowsOf, Qw, Qe, Qa, Qa.go, Qj, Qk, Qc, goInt, Qaa, b2]
  refine hK _ _ ?_ rfl; clear hK K
  refine Dwp.condF (by simp [eval, upd]) ?_
  refine Dwp.seq ?_
  refine Dwp.step tT rfl fun K hK => ?_
  by_cases q3 : k = 3
  · have b3 : (k == 3) = true := by simpa using q3
    simp [QD, QE, Qn, QI, own, Ql, dop, QJ, eval, Qy, QF, Ex.then, Ex.inBlock, upd, QK, Tag.isNN, Qm, intCmp, Qz, QA, TyI.agg, Qb, Qs, Qd, Qr, QL, QB, Qp, mapOf, Qx, Qo, Qf, Qi, Qg, Qu, DV.cells, Qt, Qh, Qq, Qv, rowsOf, Qw, Qe, Qa, Qa.go, Qj, Qk, Qc, goInt, Qaa, b3]
    refine hK _ _ ?_ rfl; clear hK K
    refine Dwp.condT (by simp [eval, upd]) (Dwp.skip ?_)
    refine Dwp.condT (by simp [eval, upd]) ?_
    refine Dwp.step tT rfl fun K hK => ?_
    simp [QD, QE, Qn, QI, own, Ql, dop, QJ, eval, Qy, QF, Ex.then, Ex.inBlock, upd, QK, Tag.isNN, Qm, intCmp, Qz, QA, TyI.agg, Qb, Qs, Qd, Qr, QL, QB, Qp, mapOf, Qx, Qo, Qf, Qi, Qg, Qu, DV.cells, Qt, Qh, Qq, Qv, rowsOf, Qw, Qe, Qa, Qa.go, Qj, Qk, Qc, goInt, ty3, ty9, Q9, Qab, g5]
    refine hK _ _ (Dwp.ret ?_) rfl
    refine fin (Qcs x x') _ _ ?_ ?_
    · simp [upd]
    · rw [hc]; simp [orC, q1, q2, q3]
  have b3 : (k == 3) = false := by simpa using q3
  simp [QD, QE, Qn, QI, own, Ql, dop, QJ, eval, Qy, QF, Ex.then, Ex.inBlock, upd, QK, Tag.isNN, Qm, intCmp, Qz, QA, TyI.agg, Qb, Qs, Qd, Qr, QL, QB, Qp, mapOf, Qx, Qo, Qf, Qi, Qg, Qu, DV.cells, Qt, Qh, Qq, Qv, rowsOf, Qw, Qe, Qa, Qa.go, Qj, Qk, Qc, goInt, Qaa, b3]
  refine hK _ _ ?_ rfl; clear hK K
  refine Dwp.condF (by simp [eval, upd]) ?_
  refine Dwp.reg tT rfl fun K hK => ?_
  by_cases q4 : k = 4
  · have b4 : (k == 4) = true := by simpa using q4
    simp [QD, QE, Qn, QI, own, Ql, dop, QJ, eval, Qy, QF, Ex.then, Ex.inBlock, upd, QK, Tag.isNN, Qm, intCmp, Qz, QA, TyI.agg, Qb, Qs, Qd, Qr, QL, QB, Qp, mapOf, Qx, Qo, Qf, Qi, Qg, Qu, DV.cells, Qt, Qh, Qq, Qv, rowsOf, Qw, Qe, Qa, Qa.go, Qj, Qk, Qc, goInt, Qaa, b4]
    refine hK _ _ ?_ rfl; clear hK K
    refine Dwp.condT (by simp [eval, upd]) ?_
    refine Dwp.step tT rfl fun K hK => ?_
    simp [QD, QE, Qn, QI, own, Ql, dop, QJ, eval, Qy, QF, Ex.then, Ex.inBlock, upd, QK, Tag.isNN, Qm, intCmp, Qz, QA, TyI.agg, Qb, Qs, Qd, Qr, QL, QB, Qp, mapOf, Qx, Qo, Qf, Qi, Qg, Qu, DV.cells, Qt, Qh, Qq, Qv, rowsOf, Qw, Qe, Qa, Qa.go, Qj, Qk, Qc, goInt, ty3, ty9, Q9, Qab, g5]
    refine hK _ _ (Dwp.ret ?_) rfl
    refine fin (Qcs x x') _ _ ?_ ?_
    · simp [upd]
    · rw [hc]; simp [orC, q1, q2, q3, q4]
  have b4 : (k == 4) = false := by simpa using q4
  simp [QD, QE, Qn, QI, own, Ql, dop, QJ, eval, Qy, QF, Ex.then, Ex.inBlock, upd, QK, Tag.isNN, Qm, intCmp, Qz, QA, TyI.agg, Qb, Qs, Qd, Qr, QL, QB, Qp, mapOf, Qx, Qo, Qf, Qi, Qg, Qu, DV.cells, Qt, Qh, Qq, Qv, rowsOf, Qw, Qe, Qa, Qa.go, Qj, Qk, Qc, goInt, Qaa, b4]
  refine hK _ _ ?_ rfl; clear hK K
  refine Dwp.condF (by simp [eval, upd]) ?_
  refine Dwp.step tT rfl fun K hK => ?_
  by_cases q6 : k = 6
  · have b6 : (k == 6) = true := by simpa using q6
    simp [QD, QE, Qn, QI, own, Ql, dop, QJ, eval, Qy, QF, Ex.then, Ex.inBlock, upd, QK, Tag.isNN, Qm, intCmp, Qz, QA, TyI.agg, Qb, Qs, Qd, Qr, QL, QB, Qp, mapOf, Qx, Qo, Qf, Qi, Qg, Qu, DV.cells, Qt, Qh, Qq, Qv, rowsOf, Qw, Qe, Qa, Qa.go, Qj, Qk, Qc, goInt, Qaa, b6]
    refine hK _ _ ?_ rfl; clear hK K
    refine Dwp.condT (by simp [eval, upd]) ?_
    refine Dwp.step tT rfl fun K hK => ?_
    simp [QD, QE, Qn, QI, own, Ql, dop, QJ, eval, Qy, QF, Ex.then, Ex.inBlock, upd, QK, Tag.isNN, Qm, intCmp, Qz, QA, TyI.agg, Qb, Qs, Qd, Qr, QL, QB, Qp, mapOf, Qx, Qo, Qf, Qi, Qg, Qu, DV.cells, Qt, Qh, Qq, Qv, rowsOf, Qw, Qe, Qa, Qa.go, Qj, Qk, Qc, goInt, ty3, ty9, Q9, Qab, g5]
    refine hK _ _ ?_ rfl; clear hK K
    refine Dwp.step tT rfl fun K hK => ?_
    by_cases z : Qcs x x' = 0
    · simp [QD, QE, Qn, QI, own, Ql, dop, QJ, eval, Qy, QF, Ex.then, Ex.inBlock, upd, QK, Tag.isNN, Qm, intCmp, Qz, QA, TyI.agg, Qb, Qs, Qd, Qr, QL, QB, Qp, mapOf, Qx, Qo, Qf, Qi, Qg, Qu, DV.cells, Qt, Qh, Qq, Qv, rowsOf, Qw, Qe, Qa, Qa.go, Qj, Qk, Qc, goInt, ty3, z]
      refine hK _ _ ?_ rfl; clear hK K
      refine Dwp.condT (by simp [eval, upd]) ?_
      refine Dwp.reg tT rfl fun K hK => ?_
      simp [QD, QE, Qn, QI, own, Ql, dop, QJ, eval, Qy, QF, Ex.then, Ex.inBlock, upd, QK, Tag.isNN, Qm, intCmp, Qz, QA, TyI.agg, Qb, Qs, Qd, Qr, QL, QB, Qp, mapOf, Qx, Qo, Qf, Qi, Qg, Qu, DV.cells, Qt, Qh, Qq, Qv, rowsOf, Qw, Qe, Qa, Qa.go, Qj, Qk, Qc, goInt, ty3, ty9, Q9, Qab, g6]
      refine hK _ _ ?_ rfl; clear hK K
      refine Dwp.step tT rfl fun K hK => ?_
      simp [QD, QE, Qn, QI, own, Ql, dop, QJ, eval, Qy, QF, Ex.then, Ex.inBlock, upd, QK, Tag.isNN, Qm, intCmp, Qz, QA, TyI.agg, Qb, Qs, Qd, Qr, QL, QB, Qp, mapOf, Qx, Qo, Qf, Qi, Qg, Qu, DV.cells, Qt, Qh, Qq, Qv, rowsOf, Qw, Qe, Qa, Qa.go, Qj, Qk, Qc, goInt]
      refine hK _ _ (Dwp.ret ?_) rfl
      refine fin (Qcs s s') _ _ ?_ ?_
      · simp [upd]
      · rw [hc]; simp [orC, q1, q2, q3, q4, q6, z]
    · have zn : (Qcs x x' == 0) = false := by simpa using z
      simp [QD, QE, Qn, QI, own, Ql, dop, QJ, eval, Qy, QF, Ex.then, Ex.inBlock, upd, QK, Tag.isNN, Qm, intCmp, Qz, QA, TyI.agg, Qb, Qs, Qd, Qr, QL, QB, Qp, mapOf, Qx, Qo, Qf, Qi, Qg, Qu, DV.cells, Qt, Qh, Qq, Qv, rowsOf, Qw, Qe, Qa, Qa.go, Qj, Qk, Qc, goInt, ty3, zn]
      refine hK _ _ ?_ rfl; clear hK K
      refine Dwp.condF (by simp [eval, upd]) (Dwp.skip ?_)
      refine Dwp.step tT rfl fun K hK => ?_
      simp [QD, QE, Qn, QI, own, Ql, dop, QJ, eval, Qy, QF, Ex.then, Ex.inBlock, upd, QK, Tag.isNN, Qm, intCmp, Qz, QA, TyI.agg, Qb, Qs, Qd, Qr, QL, QB, Qp, mapOf, Qx, Qo, Qf, Qi, Qg, Qu, DV.cells, Qt, Qh, Qq, Qv, rowsOf, Qw, Qe, Qa, Qa.go, Qj, Qk, Qc, goInt]
      refine hK _ _ (Dwp.ret ?_) rfl
      refine fin (Qcs x x') _ _ ?_ ?_
      · simp [upd]
      · rw [hc]; simp [orC, q1, q2, q3, q4, q6, z]
  have b6 : (k == 6) = false := by simpa using q6
  simp [QD, QE, Qn, QI, own, Ql, dop, QJ, eval, Qy, QF, Ex.then, Ex.inBlock, upd, QK, Tag.isNN, Qm, intCmp, Qz, QA, TyI.agg, Qb, Qs, Qd, Qr, QL, QB, Qp, mapOf, Qx, Qo, Qf, Qi, Qg, Qu, DV.cells, Qt, Qh, Qq, Qv, rowsOf, Qw, Qe, Qa, Qa.go, Qj, Qk, Qc, goInt, Qaa, b6]
  refine hK _ _ ?_ rfl; clear hK K
  refine Dwp.condF (by simp [eval, upd]) ?_
  refine Dwp.step tT rfl fun K hK => ?_
  by_cases q5 : k = 5
  · have b5 : (k == 5) = true := by simpa using q5
    simp [QD, QE, Qn, QI, own, Ql, dop, QJ, eval, Qy, QF, Ex.then, Ex.inBlock, upd, QK, Tag.isNN, Qm, intCmp, Qz, QA, TyI.agg, Qb, Qs, Qd, Qr, QL, QB, Qp, mapOf, Qx, Qo, Qf, Qi, Qg, Qu, DV.cells, Qt, Qh, Qq, Qv, rowsOf, Qw, Qe, Qa, Qa.go, Qj, Qk, Qc, goInt, Qaa, b5]
    refine hK _ _ ?_ rfl; clear hK K
    refine Dwp.condT (by simp [eval, upd]) ?_
    refine Dwp.step tT rfl fun K hK => ?_
    simp [QD, QE, Qn, QI, own, Ql, dop, QJ, eval, Qy, QF, Ex.then, Ex.inBlock, upd, QK, Tag.isNN, Qm, intCmp, Qz, QA, TyI.agg, Qb, Qs, Qd, Qr, QL, QB, Qp, mapOf, Qx, Qo, Qf, Qi, Qg, Qu, DV.cells, Qt, Qh, Qq, Qv, rowsOf, Qw, Qe, Qa, Qa.go, Qj, Qk, Qc, goInt, ty3, ty9, Q9, Qab, g5]
    refine hK _ _ ?_ rfl; clear hK K
    refine Dwp.step tT rfl fun K hK => ?_
    by_cases z : Qcs x x' = 0
    · simp [QD, QE, Qn, QI, own, Ql, dop, QJ, eval, Qy, QF, Ex.then, Ex.inBlock, upd, QK, Tag.isNN, Qm, intCmp, Qz, QA, TyI.agg, Qb, Qs, Qd, Qr, QL, QB, Qp, mapOf, Qx, Qo, Qf, Qi, Qg, Qu, DV.cells, Qt, Qh, Qq, Qv, rowsOf, Qw, Qe, Qa, Qa.go, Qj, Qk, Qc, goInt, ty3, z]
      refine hK _ _ ?_ rfl; clear hK K
      refine Dwp.condT (by simp [eval, upd]) ?_
      refine Dwp.reg tT rfl fun K hK => ?_
      simp [QD, QE, Qn, QI, own, Ql, dop, QJ, eval, Qy, QF, Ex.then, Ex.inBlock, upd, QK, Tag.isNN, Qm, intCmp, Qz, QA, TyI.agg, Qb, Qs, Qd, Qr, QL, QB, Qp, mapOf, Qx, Qo, Qf, Qi, Qg, Qu, DV.cells, Qt, Qh, Qq, Qv, rowsOf, Qw, Qe, Qa, Qa.go, Qj, Qk, Qc, goInt, ty3, ty9, Q9, Qab, g1]
      refine hK _ _ ?_ rfl; clear hK K
      refine Dwp.step tT rfl fun K hK => ?_
      simp [QD, QE, Qn, QI, own, Ql, dop, QJ, eval, Qy, QF, Ex.then, Ex.inBlock, upd, QK, Tag.isNN, Qm, intCmp, Qz, QA, TyI.agg, Qb, Qs, Qd, Qr, QL, QB, Qp, mapOf, Qx, Qo, Qf, Qi, Qg, Qu, DV.cells, Qt, Qh, Qq, Qv, rowsOf, Qw, Qe, Qa, Qa.go, Qj, Qk, Qc, goInt]
      refine hK _ _ (Dwp.ret ?_) rfl
      refine fin (QaU ks ks') _ _ ?_ ?_
      · simp [upd]
      · rw [hc]; simp [orC, q1, q2, q3, q4, q6, q5, z]
    · have zn : (Qcs x x' == 0) = false := by simpa using z
      simp [QD, QE, Qn, QI, own, Ql, dop, QJ, eval, Qy, QF, Ex.then, Ex.inBlock, upd, QK, Tag.isNN, Qm, intCmp, Qz, QA, TyI.agg, Qb, Qs, Qd, Qr, QL, QB, Qp, mapOf, Qx, Qo, Qf, Qi, Qg, Qu, DV.cells, Qt, Qh, Qq, Qv, rowsOf, Qw, Qe, Qa, Qa.go, Qj, Qk, Qc, goInt, ty3, zn]
      refine hK _ _ ?_ rfl; clear hK K
      refine Dwp.condF (by simp [eval, upd]) (Dwp.skip ?_)
      refine Dwp.step tT rfl fun K hK => ?_
      simp [QD, QE, Qn, QI, own, Ql, dop, QJ, eval, Qy, QF, Ex.then, Ex.inBlock, upd, QK, Tag.isNN, Qm, intCmp, Qz, QA, TyI.agg, Qb, Qs, Qd, Qr, QL, QB, Qp, mapOf, Qx, Qo, Qf, Qi, Qg, Qu, DV.cells, Qt, Qh, Qq, Qv, rowsOf, Qw, Qe, Qa, Qa.go, Qj, Qk, Qc, goInt]
      refine hK _ _ (Dwp.ret ?_) rfl
      refine fin (Qcs x x') _ _ ?_ ?_
      · simp [upd]
      · rw [hc]; simp [orC, q1, q2, q3, q4, q6, q5, z]
  have b5 : (k == 5) = false := by simpa using q5
  simp [QD, QE, Qn, QI, own, Ql, dop, QJ, eval, Qy, QF, Ex.then, Ex.inBlock, upd, QK, Tag.isNN, Qm, intCmp, Qz, QA, TyI.agg, Qb, Qs, Qd, Qr, QL, QB, Qp, mapOf, Qx, Qo, Qf, Qi, Qg, Qu, DV.cells, Qt, Qh, Qq, Qv, rowsOf, Qw, Qe, Qa, Qa.go, Qj, Qk, Qc, goInt, Qaa, b5]
  refine hK _ _ ?_ rfl; clear hK K
  refine Dwp.condF (by simp [eval, upd]) ?_
  refine Dwp.step tT rfl fun K hK => ?_
  simp [QD, QE, Qn, QI, own, Ql, dop, QJ, eval, Qy, QF, Ex.then, Ex.inBlock, upd, QK, Tag.isNN, Qm, intCmp, Qz, QA, TyI.agg, Qb, Qs, Qd, Qr, QL, QB, Qp, mapOf, Qx, Qo, Qf, Qi, Qg, Qu, DV.cells, Qt, Qh, Qq, Qv, rowsOf, Qw, Qe, Qa, Qa.go, Qj, Qk, Qc, goInt, ty3, ty9, Q9, Qab, g1]
  refine hK _ _ ?_ rfl; clear hK K
  refine Dwp.step tT rfl fun K hK => ?_
  by_cases z : QaU ks ks' = 0
  · simp [QD, QE, Qn, QI, own, Ql, dop, QJ, eval, Qy, QF, Ex.then, Ex.inBlock, upd, QK, Tag.isNN, Qm, intCmp, Qz, QA, TyI.agg, Qb, Qs, Qd, Qr, QL, QB, Qp, mapOf, Qx, Qo, Qf, Qi, Qg, Qu, DV.cells, Qt, Qh, Qq, Qv, rowsOf, Qw, Qe, Qa, Qa.go, Qj, Qk, Qc, goInt, ty3, z]
    refine hK _ _ ?_ rfl; clear hK K
    refine Dwp.condT (by simp [eval, upd]) ?_
    refine Dwp.reg tT rfl fun K hK => ?_
    simp [QD, QE, Qn, QI, own, Ql, dop, QJ, eval, Qy, QF, Ex.then, Ex.inBlock, upd, QK, Tag.isNN, Qm, intCmp, Qz, QA, TyI.agg, Qb, Qs, Qd, Qr, QL, QB, Qp, mapOf, Qx, Qo, Qf, Qi, Qg, Qu, DV.cells, Qt, Qh, Qq, Qv, rowsOf, Qw, Qe, Qa, Qa.go, Qj, Qk, Qc, goInt, ty3, ty9, Q9, Qab, g2]
    refine hK _ _ ?_ rfl; clear hK K
    refine Dwp.step tT rfl fun K hK => ?_
    simp [QD, QE, Qn, QI, own, Ql, dop, QJ, eval, Qy, QF, Ex.then, Ex.inBlock, upd, QK, Tag.isNN, Qm, intCmp, Qz, QA, TyI.agg, Qb, Qs, Qd, Qr, QL, QB, Qp, mapOf, Qx, Qo, Qf, Qi, Qg, Qu, DV.cells, Qt, Qh, Qq, Qv, rowsOf, Qw, Qe, Qa, Qa.go, Qj, Qk, Qc, goInt]
    refine hK _ _ (Dwp.ret ?_) rfl
    refine fin (QaU r r') _ _ ?_ ?_
    · simp [upd]
    · rw [hc]; simp [orC, q1, q2, q3, q4, q6, q5, z]
  · have zn : (QaU ks ks' == 0) = false := by simpa using z
    simp [QD, QE, Qn, QI, own, Ql, dop, QJ, eval, Qy, QF, Ex.then, Ex.inBlock, upd, QK, Tag.isNN, Qm, intCmp, Qz, QA, TyI.agg, Qb, Qs, Qd, Qr, QL, QB, Qp, mapOf, Qx, Qo, Qf, Qi, Qg, Qu, DV.cells, Qt, Qh, Qq, Qv, rowsOf, Qw, Qe, Qa, Qa.go, Qj, Qk, Qc, goInt, ty3, zn]
    refine hK _ _ ?_ rfl; clear hK K
    refine Dwp.condF (by simp [eval, upd]) (Dwp.skip ?_)
    refine Dwp.step tT rfl fun K hK => ?_
    simp [QD, QE, Qn, QI, own, Ql, dop, QJ, eval, Qy, QF, Ex.then, Ex.inBlock, upd, QK, Tag.isNN, Qm, intCmp, Qz, QA, TyI.agg, Qb, Qs, Qd, Qr, QL, QB, Qp, mapOf, Qx, Qo, Qf, Qi, Qg, Qu, DV.cells, Qt, Qh, Qq, Qv, rowsOf, Qw, Qe, Qa, Qa.go, Qj, Qk, Qc, goInt]
    refine hK _ _ (Dwp.ret ?_) rfl
    refine fin (QaU ks ks') _ _ ?_ ?_
    · simp [upd]
    · rw [hc]; simp [orC, q1, q2, q3, q4, q6, q5, z]
theorem c89_0 : QC Tryz.prog 89 (s89 0) := by
  refine QC.of_sp (T := QG []) Tryz.func89 rfl (Nat.le_of_ble_eq_true rfl) fun E xx y hy => ?_
  obtain ⟨t, u⟩ := xx
  simp only [] at hy
  split at hy
  · next h => have := Qe3 t; omega
  · cases hy
theorem QiL : ∀ n, QC Tryz.prog 89 (s89 n) ∧ QC Tryz.prog 157 (s157 n)
  | 0 => ⟨c89_0, c157 0 c89_0⟩
  | n + 1 => have h := c89 n (QiL n).2; ⟨h, c157 (n + 1) h⟩
theorem e89 : Go.FA.Good Tryz.prog (89, s89 tlim) := ⟨(QiL tlim).1, Tryz.f89, _, Tryz.func89, rfl, by decide⟩
mutual
def okT : Tm → Prop
  | .mk _ _ t s ks r => t.size ≤ lim ∧ s.size ≤ lim ∧ ks.length ≤ 16777216 ∧ r.length ≤ 16777216 ∧ QfK ks ∧ QfK r
def QfK : List Tm → Prop
  | [] => True
  | t :: l => okT t ∧ QfK l
end
theorem Qds : ∀ (l : List Tm) (t : Tm), QfK l → t ∈ l → okT t
  | x :: l, t, h, hm => by
    simp only [QfK] at h
    rcases List.mem_cons.1 hm with rfl | hm
    · exact h.1
    · exact Qds l t h.2 hm
def QbO (t s : ByteArray) : Int := 1 + ((t.size : Int) + (s.size : Int)).tdiv 50
theorem Qg9 (t s : ByteArray) : 1 ≤ QbO t s := by
  unfold QbO
  have : 0 ≤ ((t.size : Int) + (s.size : Int)).tdiv 50 := Int.tdiv_nonneg (by omega) (by omega)
  omega
theorem tcost_le (t s : ByteArray) (h1 : t.size ≤ lim) (h2 : s.size ≤ lim) : QbO t s ≤ 1 + 2 * lim := by
  unfold QbO
  rw [Int.tdiv_eq_ediv_of_nonneg (by omega)]
  unfold lim at *
  omega
mutual
def QdC : Tm → Int → Int → Int
  | .mk _ _ t s ks r, a, d => if a - QbO t s < 0 then -1 else if 80 < d + 1 then -1 else Qbk r (Qbk ks (a - QbO t s) (d + 1)) (d + 1)
def Qbk : List Tm → Int → Int → Int
  | [], a, _ => a
  | t :: l, a, d => if QdC t a d < 0 then -1 else Qbk l (QdC t a d) d
end
def QaA (l : List Tm) (a d : Int) : Int := if 80 < d then -1 else Qbk l a d
mutual
theorem partsT_bd : ∀ (t : Tm) (a d : Int), -1 ≤ a → -1 ≤ QdC t a d ∧ QdC t a d ≤ a
  | .mk _ _ t s ks r, a, d, h => by
    rw [QdC]
    split
    · omega
    · next hh =>
      split
      · omega
      · have h1 := QcV ks (a - QbO t s) (d + 1) (by omega)
        have h2 := QcV r _ (d + 1) h1.1
        have h3 := Qg9 t s
        omega
theorem QcV : ∀ (l : List Tm) (a d : Int), -1 ≤ a → -1 ≤ Qbk l a d ∧ Qbk l a d ≤ a
  | [], a, d, h => by rw [Qbk]; omega
  | t :: l, a, d, h => by
    rw [Qbk]
    have h1 := partsT_bd t a d h
    split
    · omega
    · have h2 := QcV l _ d h1.1
      omega
end
theorem Qg5 (l : List Tm) (a d : Int) (h : -1 ≤ a) : -1 ≤ QaA l a d ∧ QaA l a d ≤ a := by
  unfold QaA
  have := QcV l a d h
  split <;> omega
open Classical in
noncomputable def Qju (n : Nat) : Sp := sp (Q3 Enc.tms (Enc.int .i64) (Enc.int .i64)) (Enc.int .i64) (fun x => if Qa3 x.1 < n ∧ QfK x.1 ∧ x.1.length ≤ 16777216 ∧ -1 ≤ x.2.1 ∧ x.2.1 ≤ 1099511627776 ∧ 0 ≤ x.2.2 ∧ x.2.2 ≤ 81 then some (QaA x.1 x.2.1 x.2.2) else none)
theorem call123 {n : Nat} (T : Tab) (hT : T 123 = some (Qju n)) (l : List Tm) (a d : Int) (h1 : Qa3 l < n) (h2 : QfK l) (h3 : l.length ≤ 16777216) (h4 : -1 ≤ a) (h5 : a ≤ 1099511627776) (h6 : 0 ≤ d) (h7 : d ≤ 81) : dcall T 123 [.slice 6 .none (l.map Tm.cells), .lit (.int .i64 a), .lit (.int .i64 d)] = some (.lit (.int .i64 (QaA l a d))) :=
  QfO (A := Enc.tms) (B := Enc.int .i64) (C := Enc.int .i64) (D := Enc.int .i64) hT (if_pos ⟨h1, h2, h3, h4, h5, h6, h7⟩)
theorem Qi8 {n : Int} (h0 : -4611686018427387904 < n) (h : n < 4611686018427387904) : IntKind.i64.wrap n = n := by
  simp [IntKind.wrap, IntKind.bits, IntKind.signed]; omega
theorem partsT_eq (k n : Int) (t s : ByteArray) (ks r : List Tm) (a d : Int) (h : ¬ a - QbO t s < 0) : QdC (.mk k n t s ks r) a d = QaA r (QaA ks (a - QbO t s) (d + 1)) (d + 1) := by
  rw [QdC, if_neg h]
  unfold QaA
  split <;> rfl
theorem partsT_neg (k n : Int) (t s : ByteArray) (ks r : List Tm) (a d : Int) (h : a - QbO t s < 0) : QdC (.mk k n t s ks r) a d = -1 := by
  rw [QdC, if_pos h]
set_option maxHeartbeats 2000000 in
theorem c123 (n : Nat) (cB : QC Tryz.prog 123 (Qju n)) : QC Tryz.prog 123 (Qju (n + 1)) := by
  refine QC.of_sp (T := QG [(123, Qju n)]) Tryz.func123 rfl (Nat.le_of_ble_eq_true rfl) fun E xx y hy => ?_
  obtain ⟨l, a0, d⟩ := xx
  simp only [] at hy
  split at hy
  case isFalse => cases hy
  next hlim =>
  obtain ⟨hn, hok, hl, ha1, ha2, hd1, hd2⟩ := hlim
  cases hy
  have tT : QP Tryz.prog (QG [(123, Qju n)]) := .cons ⟨cB, Tryz.f123, _, Tryz.func123, rfl, by decide⟩ .nil
  have gc := fun (l : List Tm) (a d : Int) => call123 (n := n) (QG [(123, Qju n)]) rfl l a d
  generalize QG [(123, Qju n)] = T at *
  refine Dwp.step tT rfl fun K hK => ?_
  simp [QD, QE, Qn, QI, own, Ql, dop, QJ, eval, Qy, QF, Ex.then, Ex.inBlock, upd, QK, Tag.isNN, Qm, intCmp, Qz, QA, TyI.agg, Qb, Qs, Qd, Qr, QL, QB, Qp, mapOf, Qx, Qo, Qf, Qi, Qg, Qu, DV.cells, Qt, Qh, Qq, Qv, rowsOf, Qw, Qe, Qa, Qa.go, Qj, Qk, Qc, goInt, init, Q3, QM.and, QM.one, Enc.int]
  refine hK _ _ ?_ rfl; clear hK K
  refine Dwp.seq ?_
  refine Dwp.step tT rfl fun K hK => ?_
  by_cases hd : 80 < d
  · simp [QD, QE, Qn, QI, own, Ql, dop, QJ, eval, Qy, QF, Ex.then, Ex.inBlock, upd, QK, Tag.isNN, Qm, intCmp, Qz, QA, TyI.agg, Qb, Qs, Qd, Qr, QL, QB, Qp, mapOf, Qx, Qo, Qf, Qi, Qg, Qu, DV.cells, Qt, Qh, Qq, Qv, rowsOf, Qw, Qe, Qa, Qa.go, Qj, Qk, Qc, goInt, ty3, init, hd]
    refine hK _ _ ?_ rfl; clear hK K
    refine Dwp.condT (by simp [eval, upd]) ?_
    refine Dwp.step tT rfl fun K hK => ?_
    simp [QD, QE, Qn, QI, own, Ql, dop, QJ, eval, Qy, QF, Ex.then, Ex.inBlock, upd, QK, Tag.isNN, Qm, intCmp, Qz, QA, TyI.agg, Qb, Qs, Qd, Qr, QL, QB, Qp, mapOf, Qx, Qo, Qf, Qi, Qg, Qu, DV.cells, Qt, Qh, Qq, Qv, rowsOf, Qw, Qe, Qa, Qa.go, Qj, Qk, Qc, goInt]
    refine hK _ _ (Dwp.ret ?_) rfl
    simp [QZ, QH, QV, frz, QX, QW, Ex.then, Ex.inBlock, upd, Enc.int, QaA, hd]
  simp [QD, QE, Qn, QI, own, Ql, dop, QJ, eval, Qy, QF, Ex.then, Ex.inBlock, upd, QK, Tag.isNN, Qm, intCmp, Qz, QA, TyI.agg, Qb, Qs, Qd, Qr, QL, QB, Qp, mapOf, Qx, Qo, Qf, Qi, Qg, Qu, DV.cells, Qt, Qh, Qq, Qv, rowsOf, Qw, Qe, Qa, Qa.go, Qj, Qk, Qc, goInt, ty3, init, hd]
  refine hK _ _ ?_ rfl; clear hK K
  refine Dwp.condF (by simp [eval, upd]) (Dwp.skip ?_)
  refine Dwp.seq ?_
  refine Dwp.step tT rfl fun K hK => ?_
  simp [QD, QE, Qn, QI, own, Ql, dop, QJ, eval, Qy, QF, Ex.then, Ex.inBlock, upd, QK, Tag.isNN, Qm, intCmp, Qz, QA, TyI.agg, Qb, Qs, Qd, Qr, QL, QB, Qp, mapOf, Qx, Qo, Qf, Qi, Qg, Qu, DV.cells, Qt, Qh, Qq, Qv, rowsOf, Qw, Qe, Qa, Qa.go, Qj, Qk, Qc, goInt, init, Q9, QfQ]
  refine hK _ _ ?_ rfl; clear hK K
  refine Dwp.range tT l.length (fun i a σ => ∃ b : Int, -1 ≤ b ∧ b ≤ 1099511627776 ∧ a 1 = .lit (.int .i64 b) ∧ a 2 = .lit (.int .i64 d) ∧ a 11 = .slice 6 .none (l.map Tm.cells) ∧ Qbk l a0 d = Qbk (l.drop i) b d) ⟨rfl, rfl, rfl⟩ ⟨rfl, rfl, rfl⟩ ⟨rfl, rfl, rfl⟩ (by decide) (by decide) (by omega) (by simp [upd]) (by simp [upd]) ⟨a0, ha1, ha2, by simp [upd, init], by simp [upd, init], by simp [upd, init, QfQ], by simp⟩ ?_ ?_
  · rintro i a σ hi hidx hlen2 ⟨b, hb1, hb2, k1, k2, k11, hc⟩
    obtain ⟨o, ho⟩ : ∃ o, o = l[i] := ⟨_, rfl⟩
    have hom : o ∈ l := by rw [ho]; exact List.getElem_mem hi
    have hz := Qae l o hom
    have hko := Qds l o hok hom
    rw [List.drop_eq_getElem_cons hi, ← ho, Qbk] at hc
    obtain ⟨k, nn, x, s, ks, r⟩ := o
    rw [tsz] at hz
    rw [okT] at hko
    obtain ⟨hx, hs, hks, hr, oks, okr⟩ := hko
    have hp := Qg9 x s
    have hq := tcost_le x s hx hs
    unfold lim at hx hs hq
    have w1 : IntKind.i64.wrap ((x.size : Int) + (s.size : Int)) = (x.size : Int) + (s.size : Int) := Qi8 (by omega) (by omega)
    have hcost : QbO x s = 1 + ((x.size : Int) + (s.size : Int)).tdiv 50 := rfl
    have w2 : IntKind.i64.wrap (((x.size : Int) + (s.size : Int)).tdiv 50) = ((x.size : Int) + (s.size : Int)).tdiv 50 := Qi8 (by omega) (by omega)
    have w3 : IntKind.i64.wrap (1 + ((x.size : Int) + (s.size : Int)).tdiv 50) = QbO x s := by rw [hcost]; exact Qi8 (by omega) (by omega)
    have w4 : IntKind.i64.wrap (b - QbO x s) = b - QbO x s := Qi8 (by omega) (by omega)
    have w5 : IntKind.i64.wrap (d + 1) = d + 1 := Qi8 (by omega) (by omega)
    refine Dwp.step tT rfl fun K hK => ?_
    simp [QD, QE, Qn, QI, own, Ql, dop, QJ, eval, Qy, QF, Ex.then, Ex.inBlock, upd, QK, Tag.isNN, Qm, intCmp, Qz, QA, TyI.agg, Qb, Qs, Qd, Qr, QL, QB, Qp, mapOf, Qx, Qo, Qf, Qi, Qg, Qu, DV.cells, Qt, Qh, Qq, Qv, rowsOf, Qw, Qe, Qa, Qa.go, Qj, Qk, Qc, goInt, hidx, k11, Q9, Qab, hi, ← ho, setT, Tm.cells_len, Q8]
    refine hK _ _ ?_ rfl; clear hK K
    refine Dwp.step tT rfl fun K hK => ?_
    simp [QD, QE, Qn, QI, own, Ql, dop, QJ, eval, Qy, QF, Ex.then, Ex.inBlock, upd, QK, Tag.isNN, Qm, intCmp, Qz, QA, TyI.agg, Qb, Qs, Qd, Qr, QL, QB, Qp, mapOf, Qx, Qo, Qf, Qi, Qg, Qu, DV.cells, Qt, Qh, Qq, Qv, rowsOf, Qw, Qe, Qa, Qa.go, Qj, Qk, Qc, goInt, k1, ty9, ty3, Qab, Qe6, QR, w1, w2, w3, w4]
    refine hK _ _ ?_ rfl; clear hK K
    refine Dwp.seq ?_
    refine Dwp.step tT rfl fun K hK => ?_
    by_cases hneg : b - QbO x s < 0
    · simp [QD, QE, Qn, QI, own, Ql, dop, QJ, eval, Qy, QF, Ex.then, Ex.inBlock, upd, QK, Tag.isNN, Qm, intCmp, Qz, QA, TyI.agg, Qb, Qs, Qd, Qr, QL, QB, Qp, mapOf, Qx, Qo, Qf, Qi, Qg, Qu, DV.cells, Qt, Qh, Qq, Qv, rowsOf, Qw, Qe, Qa, Qa.go, Qj, Qk, Qc, goInt, ty3, hneg]
      refine hK _ _ ?_ rfl; clear hK K
      refine Dwp.condT (by simp [eval, upd]) ?_
      refine Dwp.step tT rfl fun K hK => ?_
      simp [QD, QE, Qn, QI, own, Ql, dop, QJ, eval, Qy, QF, Ex.then, Ex.inBlock, upd, QK, Tag.isNN, Qm, intCmp, Qz, QA, TyI.agg, Qb, Qs, Qd, Qr, QL, QB, Qp, mapOf, Qx, Qo, Qf, Qi, Qg, Qu, DV.cells, Qt, Qh, Qq, Qv, rowsOf, Qw, Qe, Qa, Qa.go, Qj, Qk, Qc, goInt]
      refine hK _ _ (Dwp.ret ?_) rfl
      rw [partsT_neg _ _ _ _ _ _ _ _ hneg] at hc
      simp at hc
      simp [QZ, QH, QV, frz, QX, QW, QdT, Ex.then, Ex.inBlock, upd, Enc.int, QaA, hd, hc]
    rw [partsT_eq _ _ _ _ _ _ _ _ hneg] at hc
    have q1 := Qg5 ks (b - QbO x s) (d + 1) (by omega)
    have q2 := Qg5 r (QaA ks (b - QbO x s) (d + 1)) (d + 1) (by omega)
    have g1 := gc ks (b - QbO x s) (d + 1) (by omega) oks hks (by omega) (by omega) (by omega) (by omega)
    have g2 := gc r (QaA ks (b - QbO x s) (d + 1)) (d + 1) (by omega) okr hr (by omega) (by omega) (by omega) (by omega)
    generalize QaA r (QaA ks (b - QbO x s) (d + 1)) (d + 1) = v at *
    generalize QaA ks (b - QbO x s) (d + 1) = u at *
    simp [QD, QE, Qn, QI, own, Ql, dop, QJ, eval, Qy, QF, Ex.then, Ex.inBlock, upd, QK, Tag.isNN, Qm, intCmp, Qz, QA, TyI.agg, Qb, Qs, Qd, Qr, QL, QB, Qp, mapOf, Qx, Qo, Qf, Qi, Qg, Qu, DV.cells, Qt, Qh, Qq, Qv, rowsOf, Qw, Qe, Qa, Qa.go, Qj, Qk, Qc, goInt, ty3, hneg]
    refine hK _ _ ?_ rfl; clear hK K
    refine Dwp.condF (by simp [eval, upd]) (Dwp.skip ?_)
    refine Dwp.step tT rfl fun K hK => ?_
    simp [QD, QE, Qn, QI, own, Ql, dop, QJ, eval, Qy, QF, Ex.then, Ex.inBlock, upd, QK, Tag.isNN, Qm, intCmp, Qz, QA, TyI.agg, Qb, Qs, Qd, Qr, QL, QB, Qp, mapOf, Qx, Qo, Qf, Qi, Qg, Qu, DV.cells, Qt, Qh, Qq, Qv, rowsOf, Qw, Qe, Qa, Qa.go, Qj, Qk, Qc, goInt, k2, Q9, Qab, ty3, QR, w5, g1]
    refine hK _ _ ?_ rfl; clear hK K
    refine Dwp.step tT rfl fun K hK => ?_
    simp [QD, QE, Qn, QI, own, Ql, dop, QJ, eval, Qy, QF, Ex.then, Ex.inBlock, upd, QK, Tag.isNN, Qm, intCmp, Qz, QA, TyI.agg, Qb, Qs, Qd, Qr, QL, QB, Qp, mapOf, Qx, Qo, Qf, Qi, Qg, Qu, DV.cells, Qt, Qh, Qq, Qv, rowsOf, Qw, Qe, Qa, Qa.go, Qj, Qk, Qc, goInt, k2, Q9, Qab, ty3, QR, w5, g2]
    refine hK _ _ ?_ rfl; clear hK K
    refine Dwp.step tT rfl fun K hK => ?_
    by_cases hv : v < 0
    · simp [QD, QE, Qn, QI, own, Ql, dop, QJ, eval, Qy, QF, Ex.then, Ex.inBlock, upd, QK, Tag.isNN, Qm, intCmp, Qz, QA, TyI.agg, Qb, Qs, Qd, Qr, QL, QB, Qp, mapOf, Qx, Qo, Qf, Qi, Qg, Qu, DV.cells, Qt, Qh, Qq, Qv, rowsOf, Qw, Qe, Qa, Qa.go, Qj, Qk, Qc, goInt, ty3, hv]
      refine hK _ _ ?_ rfl; clear hK K
      refine Dwp.condT (by simp [eval, upd]) ?_
      refine Dwp.step tT rfl fun K hK => ?_
      simp [QD, QE, Qn, QI, own, Ql, dop, QJ, eval, Qy, QF, Ex.then, Ex.inBlock, upd, QK, Tag.isNN, Qm, intCmp, Qz, QA, TyI.agg, Qb, Qs, Qd, Qr, QL, QB, Qp, mapOf, Qx, Qo, Qf, Qi, Qg, Qu, DV.cells, Qt, Qh, Qq, Qv, rowsOf, Qw, Qe, Qa, Qa.go, Qj, Qk, Qc, goInt]
      refine hK _ _ (Dwp.ret ?_) rfl
      simp [hv] at hc
      simp [QZ, QH, QV, frz, QX, QW, QdT, Ex.then, Ex.inBlock, upd, Enc.int, QaA, hd, hc]
    · simp [QD, QE, Qn, QI, own, Ql, dop, QJ, eval, Qy, QF, Ex.then, Ex.inBlock, upd, QK, Tag.isNN, Qm, intCmp, Qz, QA, TyI.agg, Qb, Qs, Qd, Qr, QL, QB, Qp, mapOf, Qx, Qo, Qf, Qi, Qg, Qu, DV.cells, Qt, Qh, Qq, Qv, rowsOf, Qw, Qe, Qa, Qa.go, Qj, Qk, Qc, goInt, ty3, hv]
      refine hK _ _ ?_ rfl; clear hK K
      refine Dwp.condF (by simp [eval, upd]) (Dwp.skip ?_)
      rw [if_neg hv] at hc
      exact ⟨by simp [upd, hidx], by simp [upd, hlen2], v, by omega, by omega, by simp [upd], by simp [upd, k2], by simp [upd, k11], hc⟩
  · rintro a σ hidx hlen2 ⟨b, hb1, hb2, k1, k2, k11, hc⟩
    rw [List.drop_eq_nil_of_le (Nat.le_refl _), Qbk] at hc
    refine Dwp.step tT rfl fun K hK => ?_
    simp [QD, QE, Qn, QI, own, Ql, dop, QJ, eval, Qy, QF, Ex.then, Ex.inBlock, upd, QK, Tag.isNN, Qm, intCmp, Qz, QA, TyI.agg, Qb, Qs, Qd, Qr, QL, QB, Qp, mapOf, Qx, Qo, Qf, Qi, Qg, Qu, DV.cells, Qt, Qh, Qq, Qv, rowsOf, Qw, Qe, Qa, Qa.go, Qj, Qk, Qc, goInt, k1]
    refine hK _ _ (Dwp.ret ?_) rfl
    simp [QZ, QH, QV, frz, QX, QW, Ex.then, Ex.inBlock, upd, Enc.int, QaA, hd, hc]
theorem c123_0 : QC Tryz.prog 123 (Qju 0) := by
  refine QC.of_sp (T := QG []) Tryz.func123 rfl (Nat.le_of_ble_eq_true rfl) fun E xx y hy => ?_
  obtain ⟨t, u⟩ := xx
  simp only [] at hy
  split at hy
  · next h => omega
  · cases hy
theorem parts_all : ∀ n, QC Tryz.prog 123 (Qju n)
  | 0 => c123_0
  | n + 1 => c123 n (parts_all n)
end Go.Proofs.Yt
namespace Go.Proofs.Yt
open Go Go.FA Go.Proofs Go.RowKit Go.ChangeShapes
open YtfpejlbfdpeofaaGreatDoor
set_option linter.unusedSimpArgs false
set_option maxRecDepth 100000
theorem bulk_leT {H : Type} {l : List (DataW H)} (hk : Rows.uptoSmall H l = true) : Rows.uptoBulkAll l ≤ 1048576 := of_decide_eq_true hk
mutual
theorem Qkb : ∀ t : Tm, tsz t ≤ szTm t
  | .mk k n x s ks r => by have := Qdp ks; have := Qdp r; simp only [tsz, szTm]; omega
theorem Qdp : ∀ l : List Tm, Qa3 l ≤ Qfv l
  | [] => by simp [Qa3, Qfv]
  | t :: l => by have := Qkb t; have := Qdp l; simp only [Qa3, Qfv]; omega
end
mutual
theorem Qj1 : ∀ t : Tm, szTm t ≤ 1048576 → okT t
  | .mk k n x s ks r, h => by
    simp only [szTm] at h
    have h1 := QhA ks (by omega)
    have h2 := QhA r (by omega)
    have h3 := Qdp ks; have h4 := Qaz ks; have h5 := Qdp r; have h6 := Qaz r
    simp only [okT]
    unfold lim
    exact ⟨by omega, by omega, by omega, by omega, h1, h2⟩
theorem QhA : ∀ l : List Tm, Qfv l ≤ 1048576 → QfK l
  | [], _ => by simp [QfK]
  | t :: l, h => by
    simp only [Qfv] at h
    exact ⟨Qj1 t (by omega), QhA l (by omega)⟩
end
theorem QjP {t : Tm} (h : szTm t ≤ 1048576) : okT t ∧ tsz t ≤ tlim := ⟨Qj1 t h, by have := Qkb t; unfold tlim; omega⟩
abbrev laidL : List (String × DataW Unit) := [("math/bits.deBruijn32tab", Rows.laid_math_bits_deBruijn32tab), ("math/bits.deBruijn64tab", Rows.laid_math_bits_deBruijn64tab), ("internal/strconv.uint64pow10", Rows.laid_internal_strconv_uint64pow10)]
theorem gPow : Tryz.prog.globalNamed "internal/strconv.uint64pow10" = some 0 := by kernel_rfl
theorem gPowType : (Tryz.prog.globals[0]?).map (·.type) = some 270 := by kernel_rfl
theorem under270 : Tryz.prog.underlying 270 = some (.array 20 218) := by kernel_rfl
theorem under218 : Tryz.prog.underlying 218 = some (.int .u64) := by kernel_rfl
theorem cells218 : Tryz.prog.cellsOf 218 = 1 := by kernel_rfl
theorem cells270 : Tryz.prog.cellsOf 270 = 20 := by kernel_rfl
theorem glob_of_laid {W : World} (h : laidMet Tryz.prog laidL W) : Qjn (QdP W) W := by
  obtain ⟨ps, ⟨_, _, _, _, _, _, _, _, _, _, ⟨_, _, _, _, _, _, _, _, _, _, ⟨g, t, cs, fuel, p, q, hg, ht, hvar, hd, _, _⟩, _⟩, _⟩, _⟩ := h
  obtain rfl := Option.some.inj (gPow.symm.trans hg)
  obtain rfl := Option.some.inj (gPowType.symm.trans ht)
  have hcs := Lib.cells_of_tab (zs := Lib.pow10Tab) (k := .u64) under270 under218 cells218 cells270 hd
  unfold World.var? at hvar
  rw [gPow] at hvar
  simp only [Option.bind_some] at hvar
  intro p' hp'
  have hp2 : p' ∈ [((0 : Nat), Lib.pow10Tab.map fun z => Value.int .u64 z)] := hp'
  simp only [List.mem_singleton] at hp2
  subst hp2
  split at hvar
  · next cs' e f hheap =>
    simp only [Option.some.injEq] at hvar
    subst hvar
    refine ⟨?_, e, f, ?_⟩
    · show 0 < W.heap.size
      rcases Nat.lt_or_ge 0 W.heap.size with q | q
      · exact q
      · rw [Array.getElem?_eq_none q] at hheap; cases hheap
    · simp only []
      rw [← hcs]; simpa using hheap
  · cases hvar
end Go.Proofs.Yt
namespace Go.Proofs.Yt
open Go Go.FA Go.Proofs Go.RowKit Go.ChangeShapes
open YtfpejlbfdpeofaaGreatDoor
set_option maxRecDepth 100000
theorem QfL : Tryz.prog.readableRec 30 = true := by kernel_rfl
theorem Qi5 : 30 < Tryz.prog.types.size := of_decide_eq_true (by kernel_rfl)
def valsOf : DataW Unit → Array Value
  | .agg l => (l.map fun d => match d with | .lit (.int k n) => Value.int k n | _ => Value.int .i64 0).toArray
  | _ => #[]
def setCells (x : Array Value) : Obj → Obj
  | .cells _ t fz => .cells x t fz
  | o => o
noncomputable def laidWorld (os : Os) : World :=
  { World.holding Tryz.prog os ⟨#[], #[], []⟩ with heap := (((World.holding Tryz.prog os ⟨#[], #[], []⟩).heap.modify 0 (setCells (valsOf Rows.laid_internal_strconv_uint64pow10))).modify 2 (setCells (valsOf Rows.laid_math_bits_deBruijn32tab))).modify 3 (setCells (valsOf Rows.laid_math_bits_deBruijn64tab)) }
end Go.Proofs.Yt
namespace Go.Proofs.Yt
open Go Go.FA Go.Proofs Go.RowKit Go.ChangeShapes
open YtfpejlbfdpeofaaGreatDoor
set_option linter.unusedSimpArgs false
set_option maxRecDepth 100000
section
variable {H : Type} {enc : TypeId × Value → H} {W : World}
theorem argU8 : QjS (blk H) enc Tryz.prog W 5 (Enc.int .u8) (fun _ => 1) := QjS.cell (Rd.int (QaP ty5)) fun base cs h => by
  simp [Value.okWide, QaP ty5, Cell.okWide, Cell.ok] at h
end
theorem readable5 : Tryz.prog.readableRec 5 = true := by kernel_rfl
theorem types5 : 5 < Tryz.prog.types.size := of_decide_eq_true (by kernel_rfl)
theorem u8_range {W : World} {base : Nat} {n : Int} (h : Value.okWide Tryz.prog W .any base 5 (.int .u8 n)) : 0 ≤ n ∧ n ≤ 255 := by
  simp [Value.okWide, QaP ty5, Cell.okWide, Cell.ok] at h
  simp [IntKind.has, IntKind.min, IntKind.max, IntKind.signed, IntKind.bits] at h
  omega
end Go.Proofs.Yt
namespace Go.Proofs.Yt
open Go Go.FA Go.Proofs Go.RowKit
set_option linter.unusedSimpArgs false
set_option maxRecDepth 100000
open Classical in
noncomputable def s123a : Sp := sp (Q3 Enc.tms (Enc.int .i64) (Enc.int .i64)) (Enc.int .i64) (fun x => if QfK x.1 ∧ x.1.length ≤ 16777216 ∧ -1 ≤ x.2.1 ∧ x.2.1 ≤ 1099511627776 ∧ 0 ≤ x.2.2 ∧ x.2.2 ≤ 81 then some (QaA x.1 x.2.1 x.2.2) else none)
theorem c123a : QC Tryz.prog 123 s123a := by
  intro args r hr
  unfold s123a sp at hr
  cases hd : (Q3 Enc.tms (Enc.int .i64) (Enc.int .i64)).dec args with
  | none => simp [hd] at hr
  | some x =>
    refine parts_all (Qa3 x.1 + 1) args r ?_
    unfold Qju sp
    rw [hd] at hr ⊢
    simp only [Option.bind_some] at hr ⊢
    split at hr
    · next h => rw [if_pos ⟨by omega, h⟩]; exact hr
    · simp at hr
theorem e123a : Go.FA.Good Tryz.prog (123, s123a) := ⟨c123a, Tryz.f123, _, Tryz.func123, rfl, by decide⟩
theorem call123a (T : Tab) (hT : T 123 = some s123a) (l : List Tm) (a d : Int) (h2 : QfK l) (h3 : l.length ≤ 16777216) (h4 : -1 ≤ a) (h5 : a ≤ 1099511627776) (h6 : 0 ≤ d) (h7 : d ≤ 81) : dcall T 123 [.slice 6 .none (l.map Tm.cells), .lit (.int .i64 a), .lit (.int .i64 d)] = some (.lit (.int .i64 (QaA l a d))) :=
  QfO (A := Enc.tms) (B := Enc.int .i64) (C := Enc.int .i64) (D := Enc.int .i64) hT (if_pos ⟨h2, h3, h4, h5, h6, h7⟩)
open Classical in
noncomputable def s73 : Sp := sp (QS (Enc.int .i64) Enc.tms) Enc.bool (fun x => if QfK x.2 ∧ x.2.length ≤ 16777216 ∧ -1 ≤ x.1 ∧ x.1 ≤ 1099511627776 then some (decide (0 ≤ QaA x.2 x.1 0)) else none)
theorem call73 (T : Tab) (hT : T 73 = some s73) (a : Int) (l : List Tm) (h2 : QfK l) (h3 : l.length ≤ 16777216) (h4 : -1 ≤ a) (h5 : a ≤ 1099511627776) : dcall T 73 [.lit (.int .i64 a), .slice 6 .none (l.map Tm.cells)] = some (.lit (.bool (decide (0 ≤ QaA l a 0)))) :=
  QaL (A := Enc.int .i64) (B := Enc.tms) (C := Enc.bool) hT (if_pos ⟨h2, h3, h4, h5⟩)
theorem c73 : QC Tryz.prog 73 s73 := by
  refine QC.of_sp (T := QG [(123, s123a)]) Tryz.func73 rfl (Nat.le_of_ble_eq_true rfl) fun E xx y hy => ?_
  obtain ⟨a, l⟩ := xx
  simp only [] at hy
  split at hy
  case isFalse => cases hy
  next hlim =>
  obtain ⟨hok, hl, h1, h2⟩ := hlim
  cases hy
  have tT : QP Tryz.prog (QG [(123, s123a)]) := .cons e123a .nil
  have g := call123a (QG [(123, s123a)]) rfl l a 0 hok hl h1 h2 (by omega) (by omega)
  generalize QG [(123, s123a)] = T at *
  refine Dwp.step tT rfl fun K hK => ?_
  simp [QD, QE, Qn, QI, own, Ql, dop, QJ, eval, Qy, QF, Ex.then, Ex.inBlock, upd, QK, Tag.isNN, Qm, intCmp, Qz, QA, TyI.agg, Qb, Qs, Qd, Qr, QL, QB, Qp, mapOf, Qx, Qo, Qf, Qi, Qg, Qu, DV.cells, Qt, Qh, Qq, Qv, rowsOf, Qw, Qe, Qa, Qa.go, Qj, Qk, Qc, goInt, init, QS, QM.and, QM.one, Enc.int]
  refine hK _ _ ?_ rfl; clear hK K
  refine Dwp.step tT rfl fun K hK => ?_
  simp [QD, QE, Qn, QI, own, Ql, dop, QJ, eval, Qy, QF, Ex.then, Ex.inBlock, upd, QK, Tag.isNN, Qm, intCmp, Qz, QA, TyI.agg, Qb, Qs, Qd, Qr, QL, QB, Qp, mapOf, Qx, Qo, Qf, Qi, Qg, Qu, DV.cells, Qt, Qh, Qq, Qv, rowsOf, Qw, Qe, Qa, Qa.go, Qj, Qk, Qc, goInt, init, QfQ, ty3, g]
  refine hK _ _ (Dwp.ret ?_) rfl
  simp [QZ, QH, QV, frz, QX, QW, Ex.then, upd, Enc.bool]
theorem e73 : Go.FA.Good Tryz.prog (73, s73) := ⟨c73, Tryz.f73, _, Tryz.func73, rfl, by decide⟩
open Classical in
noncomputable def s21 : Sp := sp (QU Enc.tms) Enc.bool (fun l => if QfK l ∧ l.length ≤ 16777216 then some (decide (0 ≤ QaA l 2600 0)) else none)
theorem Qj9 (T : Tab) (hT : T 21 = some s21) (t : Tm) (h : okT t) : dcall T 21 [.slice 6 .full [t.cells]] = some (.lit (.bool (decide (0 ≤ QaA [t] 2600 0)))) := by
  have h1 : QfK [t] := by simp [QfK, h]
  have hd : (QU Enc.tms).dec [.slice 6 .full [t.cells]] = some [t] := by
    simp [QU, QM.one, Enc.tms, Enc.slice, Qak, QM.tm, Tm.dec_cells]
  simp [dcall, hT, s21, sp, hd, h1, Enc.bool]
theorem c21 : QC Tryz.prog 21 s21 := by
  refine QC.of_sp (T := QG [(73, s73)]) Tryz.func21 rfl (Nat.le_of_ble_eq_true rfl) fun E l y hy => ?_
  split at hy
  case isFalse => cases hy
  next hlim =>
  obtain ⟨hok, hl⟩ := hlim
  cases hy
  have tT : QP Tryz.prog (QG [(73, s73)]) := .cons e73 .nil
  have g := call73 (QG [(73, s73)]) rfl 2600 l hok hl (by omega) (by omega)
  generalize QG [(73, s73)] = T at *
  refine Dwp.step tT rfl fun K hK => ?_
  simp [QD, QE, Qn, QI, own, Ql, dop, QJ, eval, Qy, QF, Ex.then, Ex.inBlock, upd, QK, Tag.isNN, Qm, intCmp, Qz, QA, TyI.agg, Qb, Qs, Qd, Qr, QL, QB, Qp, mapOf, Qx, Qo, Qf, Qi, Qg, Qu, DV.cells, Qt, Qh, Qq, Qv, rowsOf, Qw, Qe, Qa, Qa.go, Qj, Qk, Qc, goInt, init, QU, QM.one]
  refine hK _ _ ?_ rfl; clear hK K
  refine Dwp.step tT rfl fun K hK => ?_
  simp [QD, QE, Qn, QI, own, Ql, dop, QJ, eval, Qy, QF, Ex.then, Ex.inBlock, upd, QK, Tag.isNN, Qm, intCmp, Qz, QA, TyI.agg, Qb, Qs, Qd, Qr, QL, QB, Qp, mapOf, Qx, Qo, Qf, Qi, Qg, Qu, DV.cells, Qt, Qh, Qq, Qv, rowsOf, Qw, Qe, Qa, Qa.go, Qj, Qk, Qc, goInt, init, QfQ, ty3, g]
  refine hK _ _ (Dwp.ret ?_) rfl
  simp [QZ, QH, QV, frz, QX, QW, Ex.then, upd, Enc.bool]
theorem e21 : Go.FA.Good Tryz.prog (21, s21) := ⟨c21, Tryz.f21, _, Tryz.func21, rfl, by decide⟩
abbrev Fl5 := Bool × Bool × Bool × Bool × Bool
def QbM (f : Fl5) : Tm → Bool
  | .mk _ n t s ks r => (f.1 || decide (n = 0)) && ((f.2.1 || decide (t = ⟨#[]⟩)) && ((f.2.2.1 || decide (s = ⟨#[]⟩)) && ((f.2.2.2.1 || ks.isEmpty) && (f.2.2.2.2 || r.isEmpty))))
def argTF : QM (Tm × Fl5) := (QM.one Enc.tm).and ((QM.one Enc.bool).and ((QM.one Enc.bool).and ((QM.one Enc.bool).and ((QM.one Enc.bool).and (QM.one Enc.bool)))))
def usedF (f : Fl5) : Bool := f = (true, false, false, false, false) || f = (false, true, false, false, false) || f = (false, true, false, true, false) || f = (false, true, true, false, false) || f = (false, false, false, true, true)
def s232 : Sp := sp argTF Enc.bool (fun x => if usedF x.2 = true then some (QbM x.2 x.1) else none)
theorem QiM (T : Tab) (hT : T 232 = some s232) (t : Tm) (f : Fl5) (h : usedF f = true) : dcall T 232 [.agg t.cells, .lit (.bool f.1), .lit (.bool f.2.1), .lit (.bool f.2.2.1), .lit (.bool f.2.2.2.1), .lit (.bool f.2.2.2.2)] = some (.lit (.bool (QbM f t))) := by
  simp [dcall, hT, s232, sp, argTF, QM.and, QM.one, Enc.tm, Enc.agg, QM.tm, Tm.dec_cells, Enc.bool, h]
theorem Qjo {α : Type} (l : List α) : ((l.length : Int) == 0) = l.isEmpty := by cases l <;> simp; omega
theorem len_nil {α : Type} {l : List α} (h : l ≠ []) : ((l.length : Int) == 0) = false := by cases l <;> simp_all; omega
set_option maxHeartbeats 4000000 in
theorem c232 : QC Tryz.prog 232 s232 := by
  refine QC.of_sp (T := QG []) Tryz.func232 rfl (Nat.le_of_ble_eq_true rfl) fun E xx y hy => ?_
  obtain ⟨⟨k, nn, x, s, ks, r⟩, f⟩ := xx
  simp only [] at hy
  split at hy
  case isFalse => cases hy
  next hu =>
  cases hy
  have tT := Q6 (P := Tryz.prog)
  generalize QG [] = T at *
  have fin : ∀ (b : Bool) (a : Nat → DV) (σ : St), a 12 = .lit (.bool b) → QbM f (.mk k nn x s ks r) = b → QZ Tryz.prog Tryz.f232.results Enc.bool (QbM f (.mk k nn x s ks r)) Ex.ret a σ := by
    intro b a σ h2 hb
    refine ⟨.inr rfl, .lit (.bool b), ?_, by simp [hb, QZ, QH, QV, frz, QX, QW, Enc.bool]⟩
    show QH Tryz.prog σ a [ResultVar.tmp 12] = _
    simp [QH, QV, h2]
  simp only [usedF, Bool.or_eq_true, decide_eq_true_eq] at hu
  rcases hu with (((rfl | rfl) | rfl) | rfl) | rfl <;> (
    simp only [argTF, QM.and, QM.one, tmC, QR]
    refine Dwp.step tT rfl fun K hK => ?_
    simp [QD, QE, Qn, QI, own, Ql, dop, QJ, eval, Qy, QF, Ex.then, Ex.inBlock, upd, QK, Tag.isNN, Qm, intCmp, Qz, QA, TyI.agg, Qb, Qs, Qd, Qr, QL, QB, Qp, mapOf, Qx, Qo, Qf, Qi, Qg, Qu, DV.cells, Qt, Qh, Qq, Qv, rowsOf, Qw, Qe, Qa, Qa.go, Qj, Qk, Qc, goInt, init, QR, Enc.bool]
    refine hK _ _ ?_ rfl; clear hK K
    refine Dwp.step tT rfl fun K hK => ?_
    repeat' ((first | refine QF.stepD rfl rfl ?_ | refine QF.stepG rfl rfl rfl ?_ | refine QF.stepN rfl rfl ?_ | refine QF.stepGN rfl rfl rfl ?_); intro K1 hK1; simp [*, QQ, QN, QI, dop, eval, Qy, upd, Qb, Qs, Qz, QA, TyI.agg, Qd, Qr, Qi, Qg, QB, QL, goInt, QK, intCmp, Qm, Tag.isNN, Qc, DV.cells, Qe, Qt, Qh, init, Qaa, ty3, ty9, Q9, Qab, Qjo]; (first | (refine hK1 _ _ ?_; clear hK1 K1) | (split <;> (rename_i hsp; (try simp only [beq_iff_eq, beq_eq_false_iff_ne, ne_eq, decide_eq_true_eq, decide_eq_false_iff_not] at hsp); (try (first | have hsq := Int.not_le.2 hsp | have hsq := Int.not_lt.2 hsp | have hsq := Int.not_le.1 hsp | have hsq := Int.not_lt.1 hsp)); (try subst hsp); (try simp only [hsp])) <;> (refine hK1 _ _ ?_; clear hK1 K1))))
    all_goals refine QF.done (hK _ _ (Dwp.ret ?_) rfl)
    all_goals refine fin _ _ _ (by simp [upd, *]; rfl) ?_
    all_goals simp [QbM, *])
theorem e232 : Go.FA.Good Tryz.prog (232, s232) := ⟨c232, Tryz.f232, _, Tryz.func232, rfl, by decide⟩
end Go.Proofs.Yt
namespace Go.Proofs.Yt
open Go Go.FA Go.Proofs
set_option linter.unusedSimpArgs false
set_option maxRecDepth 100000
def s180 : Sp := sp (QU (Enc.int .u8)) Enc.bool (fun c => some (letter c))
theorem c180 : QC Tryz.prog 180 s180 := by
  refine QC.of_sp (T := QG []) Tryz.func180 rfl (Nat.le_of_ble_eq_true rfl) fun E c y hy => ?_
  simp at hy; subst hy
  refine Dwp.step Q6 rfl fun K hK => ?_
  simp [QD, QE, Qn, QI, own, Ql, dop, QJ, eval, Qy, QF, Ex.then, Ex.inBlock, upd, QK, Tag.isNN, Qm, intCmp, Qz, QA, TyI.agg, Qb, Qs, Qd, Qr, QL, QB, Qp, mapOf, Qx, Qo, Qf, Qi, dcall, QG, Qg, Qu, DV.cells, setAt, Qt, Qh, Qq, Qv, rowsOf, Qw, Qe, Qa, Qa.go, Qj, Qk, Qc, goInt]
  refine hK _ _ ?_ rfl; clear hK K
  refine Dwp.step Q6 rfl fun K hK => ?_
  by_cases h1 : 97 ≤ c <;> by_cases h2 : c ≤ 122 <;> by_cases h3 : 65 ≤ c <;> by_cases h4 : c ≤ 90 <;>
    simp [QD, QE, Qn, QI, own, Ql, dop, QJ, eval, Qy, QF, Ex.then, Ex.inBlock, upd, QK, Tag.isNN, Qm, intCmp, Qz, QA, TyI.agg, Qb, Qs, Qd, Qr, QL, QB, Qp, mapOf, Qx, Qo, Qf, Qi, dcall, QG, Qg, Qu, DV.cells, setAt, Qt, Qh, Qq, Qv, rowsOf, Qw, Qe, Qa, Qa.go, Qj, Qk, Qc, goInt, init, QU, QS, Q3, QM.one, QM.and, Enc.bool, Enc.int, Enc.str, Enc.strs, Enc.slice, Enc.agg, Enc.tup, Enc.err, Enc.fn, h1, h2, h3, h4] <;> refine hK _ _ (Dwp.ret ?_) rfl <;> simp [QZ, QH, QV, frz, QX, QW, init, QU, QS, Q3, QM.one, QM.and, Enc.bool, Enc.int, Enc.str, Enc.strs, Enc.slice, Enc.agg, Enc.tup, Enc.err, Enc.fn, upd, letter, h1, h2, h3, h4]
theorem e180 : Go.FA.Good Tryz.prog (180, s180) := ⟨c180, Tryz.f180, _, Tryz.func180, rfl, by decide⟩
def QdA (c : Int) : Bool := decide (48 ≤ c) && decide (c ≤ 57)
def s181 : Sp := sp (QU (Enc.int .u8)) Enc.bool (fun c => some (QdA c))
theorem c181 : QC Tryz.prog 181 s181 := by
  refine QC.of_sp (T := QG []) Tryz.func181 rfl (Nat.le_of_ble_eq_true rfl) fun E c y hy => ?_
  simp at hy; subst hy
  refine Dwp.step Q6 rfl fun K hK => ?_
  simp [QD, QE, Qn, QI, own, Ql, dop, QJ, eval, Qy, QF, Ex.then, Ex.inBlock, upd, QK, Tag.isNN, Qm, intCmp, Qz, QA, TyI.agg, Qb, Qs, Qd, Qr, QL, QB, Qp, mapOf, Qx, Qo, Qf, Qi, dcall, QG, Qg, Qu, DV.cells, setAt, Qt, Qh, Qq, Qv, rowsOf, Qw, Qe, Qa, Qa.go, Qj, Qk, Qc, goInt]
  refine hK _ _ ?_ rfl; clear hK K
  refine Dwp.step Q6 rfl fun K hK => ?_
  by_cases h1 : 48 ≤ c <;> by_cases h2 : c ≤ 57 <;>
    simp [QD, QE, Qn, QI, own, Ql, dop, QJ, eval, Qy, QF, Ex.then, Ex.inBlock, upd, QK, Tag.isNN, Qm, intCmp, Qz, QA, TyI.agg, Qb, Qs, Qd, Qr, QL, QB, Qp, mapOf, Qx, Qo, Qf, Qi, dcall, QG, Qg, Qu, DV.cells, setAt, Qt, Qh, Qq, Qv, rowsOf, Qw, Qe, Qa, Qa.go, Qj, Qk, Qc, goInt, init, QU, QS, Q3, QM.one, QM.and, Enc.bool, Enc.int, Enc.str, Enc.strs, Enc.slice, Enc.agg, Enc.tup, Enc.err, Enc.fn, h1, h2] <;> refine hK _ _ (Dwp.ret ?_) rfl <;> simp [QZ, QH, QV, frz, QX, QW, init, QU, QS, Q3, QM.one, QM.and, Enc.bool, Enc.int, Enc.str, Enc.strs, Enc.slice, Enc.agg, Enc.tup, Enc.err, Enc.fn, upd, QdA, h1, h2]
theorem e181 : Go.FA.Good Tryz.prog (181, s181) := ⟨c181, Tryz.f181, _, Tryz.func181, rfl, by decide⟩
theorem call180 (T : Tab) (hT : T 180 = some s180) (c : Int) : dcall T 180 [.lit (.int .u8 c)] = some (.lit (.bool (letter c))) :=
  QaC (A := Enc.int .u8) (B := Enc.bool) hT rfl
theorem call181 (T : Tab) (hT : T 181 = some s181) (c : Int) : dcall T 181 [.lit (.int .u8 c)] = some (.lit (.bool (QdA c))) :=
  QaC (A := Enc.int .u8) (B := Enc.bool) hT rfl
def okAt (s : ByteArray) (j : Nat) : Prop := ∃ h : j < s.size, (letter (s[j].toNat : Int) || (decide (j ≠ 0) && (QdA (s[j].toNat : Int) || (s[j].toNat : Int) == 95))) = true
theorem QeL (c : Int) : Qba c = (letter c || (QdA c || c == 95)) := by unfold Qba QdA; simp [Bool.or_assoc]
theorem QcP (s : ByteArray) : Q2 s = true ↔ 1 ≤ s.size ∧ s.size ≤ 40 ∧ ∀ j, j < s.size → okAt s j := by
  unfold Q2 Qgs
  have hsz : s.size = s.data.toList.length := by simp
  have hget : ∀ j (h : j < s.size), s.data.toList[j]'(by omega) = s[j] := fun j h => rfl
  simp only [Bool.and_eq_true, decide_eq_true_eq, List.all_eq_true]
  cases hl : s.data.toList with
  | nil =>
    rw [hl] at hsz
    simp only [List.length_nil] at hsz
    simp [hsz]
  | cons c r =>
    have hpos : 0 < s.size := by rw [hsz, hl]; simp
    have hc : s[0] = c := by rw [← hget 0 hpos]; simp [hl]
    constructor
    · rintro ⟨⟨h1, h2⟩, h3⟩
      refine ⟨hpos, h1, fun j hj => ⟨hj, ?_⟩⟩
      by_cases h0 : j = 0
      · subst h0
        have h2' : letter (c.toNat : Int) = true := h2
        rw [hc, h2']; simp
      · have hm : s[j] ∈ c :: r := by rw [← hl, ← hget j hj]; exact List.getElem_mem _
        have := h3 _ hm
        rw [QeL] at this
        simpa [h0] using this
    · rintro ⟨h1, h2, h3⟩
      refine ⟨⟨h2, ?_⟩, fun b hb => ?_⟩
      · obtain ⟨h, h4⟩ := h3 0 hpos
        rw [hc] at h4; simpa using h4
      · obtain ⟨j, hj, rfl⟩ := List.getElem_of_mem (hl ▸ hb : b ∈ s.data.toList)
        have hj' : j < s.size := by omega
        obtain ⟨_, h4⟩ := h3 j hj'
        rw [QeL, hget j hj']
        rw [Bool.or_eq_true] at h4 ⊢
        rcases h4 with q | q
        · exact .inl q
        · simp only [Bool.and_eq_true] at q; exact .inr q.2
def s107 : Sp := sp (QU Enc.str) Enc.bool (fun s => if s.size ≤ lim then some (Q2 s) else none)
abbrev T39 : Tab := QG [(180, s180), (181, s181)]
theorem t39 : QP Tryz.prog T39 := .cons e180 (.cons e181 .nil)
theorem c107 : QC Tryz.prog 107 s107 := by
  refine QC.of_sp (T := T39) Tryz.func107 rfl (Nat.le_of_ble_eq_true rfl) fun E s y hy => ?_
  split at hy
  case isFalse => cases hy
  next hlim =>
  cases hy
  unfold lim at hlim
  have g83 := call180 T39 rfl
  have g84 := call181 T39 rfl
  have tT := t39
  generalize T39 = T at *
  refine Dwp.step tT rfl fun K hK => ?_
  simp [QD, QE, Qn, QI, own, Ql, dop, QJ, eval, Qy, QF, Ex.then, Ex.inBlock, upd, QK, Tag.isNN, Qm, intCmp, Qz, QA, TyI.agg, Qb, Qs, Qd, Qr, QL, QB, Qp, mapOf, Qx, Qo, Qf, Qi, Qg, Qu, DV.cells, Qt, Qh, Qq, Qv, rowsOf, Qw, Qe, Qa, Qa.go, Qj, Qk, Qc, goInt, init, QU, QM.one, Enc.str]
  refine hK _ _ ?_ rfl; clear hK K
  refine Dwp.seq ?_
  refine Dwp.step tT rfl fun K hK => ?_
  simp [QD, QE, Qn, QI, own, Ql, dop, QJ, eval, Qy, QF, Ex.then, Ex.inBlock, upd, QK, Tag.isNN, Qm, intCmp, Qz, QA, TyI.agg, Qb, Qs, Qd, Qr, QL, QB, Qp, mapOf, Qx, Qo, Qf, Qi, Qg, Qu, DV.cells, Qt, Qh, Qq, Qv, rowsOf, Qw, Qe, Qa, Qa.go, Qj, Qk, Qc, goInt, init, ty9]
  refine hK _ _ ?_ rfl; clear hK K
  refine Dwp.range tT s.size (fun i a σ => a 0 = .lit (.string s) ∧ ∀ j, j < i → okAt s j) ⟨rfl, rfl, rfl⟩ ⟨rfl, rfl, rfl⟩ ⟨rfl, rfl, rfl⟩ (by decide) (by decide) (by omega) (by simp [upd]) (by simp [upd]) (by simp [upd, init]) ?_ ?_
  · rintro i a σ hi hidx hlen ⟨h0, hok⟩
    refine Dwp.step tT rfl fun K hK => ?_
    simp [QD, QE, Qn, QI, own, Ql, dop, QJ, eval, Qy, QF, Ex.then, Ex.inBlock, upd, QK, Tag.isNN, Qm, intCmp, Qz, QA, TyI.agg, Qb, Qs, Qd, Qr, QL, QB, Qp, mapOf, Qx, Qo, Qf, Qi, Qg, Qu, DV.cells, Qt, Qh, Qq, Qv, rowsOf, Qw, Qe, Qa, Qa.go, Qj, Qk, Qc, goInt, hidx]
    refine hK _ _ ?_ rfl; clear hK K
    have hb := bget s i hi
    obtain ⟨c, hc⟩ : ∃ c : Int, c = (s[i].toNat : Int) := ⟨_, rfl⟩
    have hdef : okAt s i ↔ (letter c || (decide (i ≠ 0) && (QdA c || c == 95))) = true := by
      rw [hc]; exact ⟨fun ⟨_, q⟩ => q, fun q => ⟨hi, q⟩⟩
    refine Dwp.step tT rfl fun K hK => ?_
    have good : ∀ a' σ', (a' 30 = .lit (.bool false) ∧ a' 0 = .lit (.string s) ∧ a' 5 = .lit (.int .i64 s.size) ∧ a' 6 = .lit (.int .i64 i)) → okAt s i → σ'.n = σ.n + 1 + 2 → K a' σ' := by
      rintro a' σ' ⟨h30, h0, h5, h6⟩ ho hn
      refine hK _ _ ?_ hn
      refine Dwp.condF (by simp [eval, h30]) (Dwp.skip ?_)
      refine ⟨h6, h5, by simp [upd, h0], fun j hj => ?_⟩
      rcases Nat.lt_succ_iff_lt_or_eq.1 hj with q | rfl
      · exact hok j q
      · exact ho
    have bad : ∀ a' σ', a' 30 = .lit (.bool true) → ¬ okAt s i → σ'.n = σ.n + 1 + 2 → K a' σ' := by
      intro a' σ' h30 ho hn
      refine hK _ _ ?_ hn
      refine Dwp.condT (by simp [eval, h30]) ?_
      refine Dwp.step tT rfl fun K hK => ?_
      simp [QD, QE, Qn, QI, own, Ql, dop, QJ, eval, Qy, QF, Ex.then, Ex.inBlock, upd, QK, Tag.isNN, Qm, intCmp, Qz, QA, TyI.agg, Qb, Qs, Qd, Qr, QL, QB, Qp, mapOf, Qx, Qo, Qf, Qi, Qg, Qu, DV.cells, Qt, Qh, Qq, Qv, rowsOf, Qw, Qe, Qa, Qa.go, Qj, Qk, Qc, goInt]
      refine hK _ _ (Dwp.ret ?_) rfl
      have hf : Q2 s = false := by
        cases q : Q2 s with
        | false => rfl
        | true => exact absurd (((QcP s).1 q).2.2 i hi) ho
      simp [QZ, QH, QV, frz, QX, QW, QdT, Ex.then, upd, Enc.bool, hf]
    rw [hc] at hdef
    clear hc
    by_cases q1 : letter (s[i].toNat : Int) = true
    · simp [QD, QE, Qn, QI, own, Ql, dop, QJ, eval, Qy, QF, Ex.then, Ex.inBlock, upd, QK, Tag.isNN, Qm, intCmp, Qz, QA, TyI.agg, Qb, Qs, Qd, Qr, QL, QB, Qp, mapOf, Qx, Qo, Qf, Qi, Qg, Qu, DV.cells, Qt, Qh, Qq, Qv, rowsOf, Qw, Qe, Qa, Qa.go, Qj, Qk, Qc, goInt, h0, hidx, ty9, hb, g83, q1]
      exact good _ _ (by simp [upd, h0, hidx, hlen]) (hdef.2 (by simp [q1])) rfl
    · have q1' : letter (s[i].toNat : Int) = false := by simpa using q1
      by_cases q2 : i = 0
      · subst q2
        simp [QD, QE, Qn, QI, own, Ql, dop, QJ, eval, Qy, QF, Ex.then, Ex.inBlock, upd, QK, Tag.isNN, Qm, intCmp, Qz, QA, TyI.agg, Qb, Qs, Qd, Qr, QL, QB, Qp, mapOf, Qx, Qo, Qf, Qi, Qg, Qu, DV.cells, Qt, Qh, Qq, Qv, rowsOf, Qw, Qe, Qa, Qa.go, Qj, Qk, Qc, goInt, h0, hidx, ty9, hb, g83, q1']
        exact bad _ _ (by simp [upd]) (fun q => by have := hdef.1 q; simp [q1'] at this) rfl
      · have q2' : ((i : Int) == 0) = false := by simp; omega
        by_cases q3 : QdA (s[i].toNat : Int) = true
        · simp [QD, QE, Qn, QI, own, Ql, dop, QJ, eval, Qy, QF, Ex.then, Ex.inBlock, upd, QK, Tag.isNN, Qm, intCmp, Qz, QA, TyI.agg, Qb, Qs, Qd, Qr, QL, QB, Qp, mapOf, Qx, Qo, Qf, Qi, Qg, Qu, DV.cells, Qt, Qh, Qq, Qv, rowsOf, Qw, Qe, Qa, Qa.go, Qj, Qk, Qc, goInt, h0, hidx, ty9, hb, g83, g84, q1', q2', q3]
          exact good _ _ (by simp [upd, h0, hidx, hlen]) (hdef.2 (by simp [q3, q2])) rfl
        · have q3' : QdA (s[i].toNat : Int) = false := by simpa using q3
          by_cases q4 : (s[i].toNat : Int) = 95
          · have q4' : ((s[i].toNat : Int) != 95) = false := by simpa using q4
            simp [QD, QE, Qn, QI, own, Ql, dop, QJ, eval, Qy, QF, Ex.then, Ex.inBlock, upd, QK, Tag.isNN, Qm, intCmp, Qz, QA, TyI.agg, Qb, Qs, Qd, Qr, QL, QB, Qp, mapOf, Qx, Qo, Qf, Qi, Qg, Qu, DV.cells, Qt, Qh, Qq, Qv, rowsOf, Qw, Qe, Qa, Qa.go, Qj, Qk, Qc, goInt, h0, hidx, ty9, hb, g83, g84, q1', q2', q3', q4']
            exact good _ _ (by simp [upd, h0, hidx, hlen]) (hdef.2 (by simp [q2, q4])) rfl
          · have q4' : ((s[i].toNat : Int) != 95) = true := by simpa using q4
            simp [QD, QE, Qn, QI, own, Ql, dop, QJ, eval, Qy, QF, Ex.then, Ex.inBlock, upd, QK, Tag.isNN, Qm, intCmp, Qz, QA, TyI.agg, Qb, Qs, Qd, Qr, QL, QB, Qp, mapOf, Qx, Qo, Qf, Qi, Qg, Qu, DV.cells, Qt, Qh, Qq, Qv, rowsOf, Qw, Qe, Qa, Qa.go, Qj, Qk, Qc, goInt, h0, hidx, ty9, hb, g83, g84, q1', q2', q3', q4']
            exact bad _ _ (by simp [upd]) (fun q => by have := hdef.1 q; simp [q1', q3', q4] at this) rfl
  · rintro a σ hidx hlen ⟨h0, hok⟩
    have hi := QcP s
    refine Dwp.step tT rfl fun K hK => ?_
    by_cases q1 : 1 ≤ s.size
    · by_cases q2 : s.size ≤ 40
      · have : Q2 s = true := hi.2 ⟨q1, q2, hok⟩
        have q1' : (1 : Int) ≤ (s.size : Int) := by omega
        have q2' : (s.size : Int) ≤ 40 := by omega
        simp [QD, QE, Qn, QI, own, Ql, dop, QJ, eval, Qy, QF, Ex.then, Ex.inBlock, upd, QK, Tag.isNN, Qm, intCmp, Qz, QA, TyI.agg, Qb, Qs, Qd, Qr, QL, QB, Qp, mapOf, Qx, Qo, Qf, Qi, Qg, Qu, DV.cells, Qt, Qh, Qq, Qv, rowsOf, Qw, Qe, Qa, Qa.go, Qj, Qk, Qc, goInt, h0, ty9, q1', q2']
        refine hK _ _ (Dwp.ret ?_) rfl
        simp [QZ, QH, QV, frz, QX, QW, Ex.then, upd, Enc.bool, this]
      · have : Q2 s = false := by
          cases q : Q2 s with
          | false => rfl
          | true => exact absurd (hi.1 q).2.1 q2
        have q1' : (1 : Int) ≤ (s.size : Int) := by omega
        have q2' : ¬ (s.size : Int) ≤ 40 := by omega
        simp [QD, QE, Qn, QI, own, Ql, dop, QJ, eval, Qy, QF, Ex.then, Ex.inBlock, upd, QK, Tag.isNN, Qm, intCmp, Qz, QA, TyI.agg, Qb, Qs, Qd, Qr, QL, QB, Qp, mapOf, Qx, Qo, Qf, Qi, Qg, Qu, DV.cells, Qt, Qh, Qq, Qv, rowsOf, Qw, Qe, Qa, Qa.go, Qj, Qk, Qc, goInt, h0, ty9, q1', q2']
        refine hK _ _ (Dwp.ret ?_) rfl
        simp [QZ, QH, QV, frz, QX, QW, Ex.then, upd, Enc.bool, this]
    · have : Q2 s = false := by
        cases q : Q2 s with
        | false => rfl
        | true => exact absurd (hi.1 q).1 q1
      have q1' : ¬ (1 : Int) ≤ (s.size : Int) := by omega
      simp [QD, QE, Qn, QI, own, Ql, dop, QJ, eval, Qy, QF, Ex.then, Ex.inBlock, upd, QK, Tag.isNN, Qm, intCmp, Qz, QA, TyI.agg, Qb, Qs, Qd, Qr, QL, QB, Qp, mapOf, Qx, Qo, Qf, Qi, Qg, Qu, DV.cells, Qt, Qh, Qq, Qv, rowsOf, Qw, Qe, Qa, Qa.go, Qj, Qk, Qc, goInt, h0, ty9, q1']
      refine hK _ _ (Dwp.ret ?_) rfl
      simp [QZ, QH, QV, frz, QX, QW, Ex.then, upd, Enc.bool, this]
theorem e107 : Go.FA.Good Tryz.prog (107, s107) := ⟨c107, Tryz.f107, _, Tryz.func107, rfl, by decide⟩
theorem QeC (T : Tab) (hT : T 107 = some s107) (s : ByteArray) (h : s.size ≤ lim) : dcall T 107 [.lit (.string s)] = some (.lit (.bool (Q2 s))) :=
  QaC (A := Enc.str) (B := Enc.bool) hT (if_pos h)
end Go.Proofs.Yt
namespace Go.Proofs.Yt
open Go Go.FA Go.Proofs Go.RowKit
set_option linter.unusedSimpArgs false
set_option maxRecDepth 100000
def QbS (so : ByteArray) : List Tm → Bool
  | [] => true
  | [v] => decide (v.kind = 6) && (Q2 v.text && (decide (v.sort = so) && QbM (false, true, true, false, false) v))
  | _ => false
open Classical in
noncomputable def s236 : Sp := sp (QS Enc.tm Enc.str) Enc.bool (fun x => if okT x.1 then some (QbS x.2 x.1.rest) else none)
set_option maxHeartbeats 4000000 in
theorem c236 : QC Tryz.prog 236 s236 := by
  refine QC.of_sp (T := QG [(107, s107), (232, s232)]) Tryz.func236 rfl (Nat.le_of_ble_eq_true rfl) fun E xx y hy => ?_
  obtain ⟨⟨k, nn, x, s, ks, r⟩, so⟩ := xx
  simp only [] at hy
  split at hy
  case isFalse => cases hy
  next hok =>
  cases hy
  have tT : QP Tryz.prog (QG [(107, s107), (232, s232)]) := .cons e107 (.cons e232 .nil)
  have g1 := fun (b : ByteArray) (h : b.size ≤ lim) => QeC (QG [(107, s107), (232, s232)]) rfl b h
  have g2 := fun (t : Tm) => QiM (QG [(107, s107), (232, s232)]) rfl t (false, true, true, false, false) rfl
  generalize QG [(107, s107), (232, s232)] = T at *
  rw [okT] at hok
  obtain ⟨_, _, _, _, _, okr⟩ := hok
  simp only [Tm.rest]
  have fin : ∀ (b : Bool) (a : Nat → DV) (σ : St), a 4 = .lit (.bool b) → QbS so r = b → QZ Tryz.prog Tryz.f236.results Enc.bool (QbS so r) Ex.ret a σ := by
    intro b a σ h2 hb
    refine ⟨.inr rfl, .lit (.bool b), ?_, by simp [hb, QZ, QH, QV, frz, QX, QW, Enc.bool]⟩
    show QH Tryz.prog σ a [ResultVar.tmp 4] = _
    simp [QH, QV, h2]
  simp only [QS, QM.and, QM.one, tmC, QR]
  refine Dwp.step tT rfl fun K hK => ?_
  simp [QD, QE, Qn, QI, own, Ql, dop, QJ, eval, Qy, QF, Ex.then, Ex.inBlock, upd, QK, Tag.isNN, Qm, intCmp, Qz, QA, TyI.agg, Qb, Qs, Qd, Qr, QL, QB, Qp, mapOf, Qx, Qo, Qf, Qi, Qg, Qu, DV.cells, Qt, Qh, Qq, Qv, rowsOf, Qw, Qe, Qa, Qa.go, Qj, Qk, Qc, goInt, init, QR, Enc.str]
  refine hK _ _ ?_ rfl; clear hK K
  refine Dwp.seq ?_
  refine Dwp.step tT rfl fun K hK => ?_
  cases r with
  | nil =>
    simp [QD, QE, Qn, QI, own, Ql, dop, QJ, eval, Qy, QF, Ex.then, Ex.inBlock, upd, QK, Tag.isNN, Qm, intCmp, Qz, QA, TyI.agg, Qb, Qs, Qd, Qr, QL, QB, Qp, mapOf, Qx, Qo, Qf, Qi, Qg, Qu, DV.cells, Qt, Qh, Qq, Qv, rowsOf, Qw, Qe, Qa, Qa.go, Qj, Qk, Qc, goInt, init, Q9, Qab, ty3]
    refine hK _ _ ?_ rfl; clear hK K
    refine Dwp.condT (by simp [eval, upd]) ?_
    refine Dwp.step tT rfl fun K hK => ?_
    simp [QD, QE, Qn, QI, own, Ql, dop, QJ, eval, Qy, QF, Ex.then, Ex.inBlock, upd, QK, Tag.isNN, Qm, intCmp, Qz, QA, TyI.agg, Qb, Qs, Qd, Qr, QL, QB, Qp, mapOf, Qx, Qo, Qf, Qi, Qg, Qu, DV.cells, Qt, Qh, Qq, Qv, rowsOf, Qw, Qe, Qa, Qa.go, Qj, Qk, Qc, goInt]
    refine hK _ _ (Dwp.ret ?_) rfl
    refine fin true _ _ ?_ ?_
    · simp [upd]
    · simp [QbS]
  | cons v rs =>
  rw [QfK] at okr
  have hne : ((((v :: rs).length : Nat) : Int) == 0) = false := len_nil (by simp)
  have hne2 : (((rs.length : Int) + 1) == 0) = false := by simp; omega
  have hne3 : ¬ ((rs.length : Int) + 1 = 0) := by omega
  simp [QD, QE, Qn, QI, own, Ql, dop, QJ, eval, Qy, QF, Ex.then, Ex.inBlock, upd, QK, Tag.isNN, Qm, intCmp, Qz, QA, TyI.agg, Qb, Qs, Qd, Qr, QL, QB, Qp, mapOf, Qx, Qo, Qf, Qi, Qg, Qu, DV.cells, Qt, Qh, Qq, Qv, rowsOf, Qw, Qe, Qa, Qa.go, Qj, Qk, Qc, goInt, init, Q9, Qab, ty3, hne, hne2, hne3]
  refine hK _ _ ?_ rfl; clear hK K
  refine Dwp.condF (by simp [eval, upd]) (Dwp.skip ?_)
  obtain ⟨vk, vn, vx, vs, vks, vr⟩ := v
  have okv := okr.1
  rw [okT] at okv
  have g1 := g1 vx okv.1
  have g2 := g2 (.mk vk vn vx vs vks vr)
  simp only [QR] at g2
  refine Dwp.step tT rfl fun K hK => ?_
  simp [QD, QE, Qn, QI, own, Ql, dop, QJ, eval, Qy, QF, Ex.then, Ex.inBlock, upd, QK, Tag.isNN, Qm, intCmp, Qz, QA, TyI.agg, Qb, Qs, Qd, Qr, QL, QB, Qp, mapOf, Qx, Qo, Qf, Qi, Qg, Qu, DV.cells, Qt, Qh, Qq, Qv, rowsOf, Qw, Qe, Qa, Qa.go, Qj, Qk, Qc, goInt, init, Q9, Qab, ty3, setT, QR, setAt]
  refine hK _ _ ?_ rfl; clear hK K
  refine Dwp.step tT rfl fun K hK => ?_
  repeat ((first | refine QF.stepD rfl rfl ?_ | refine QF.stepG rfl rfl rfl ?_ | refine QF.stepN rfl rfl ?_ | refine QF.stepGN rfl rfl rfl ?_); intro K1 hK1; simp [QQ, QN, QI, dop, eval, Qy, upd, Qb, Qs, Qz, QA, TyI.agg, Qd, Qr, Qi, Qg, QB, QL, goInt, QK, intCmp, Qm, Tag.isNN, Qc, DV.cells, Qe, Qt, Qh, init, Qaa, ty3, ty9, Q9, Qab, QR]; refine hK1 _ _ ?_; clear hK1 K1)
  by_cases h1 : rs = []
  case neg =>
    have h1n : (((rs.length : Int) + 1) == 1) = false := by cases rs <;> simp_all; omega
    repeat ((first | refine QF.stepD rfl rfl ?_ | refine QF.stepG rfl rfl rfl ?_ | refine QF.stepN rfl rfl ?_ | refine QF.stepGN rfl rfl rfl ?_); intro K1 hK1; simp [QQ, QN, QI, dop, eval, Qy, upd, Qb, Qs, Qz, QA, TyI.agg, Qd, Qr, Qi, Qg, QB, QL, goInt, QK, intCmp, Qm, Tag.isNN, Qc, DV.cells, Qe, Qt, Qh, init, Qaa, ty3, ty9, Q9, Qab, QR, h1n]; refine hK1 _ _ ?_; clear hK1 K1)
    refine QF.done (hK _ _ (Dwp.ret ?_) rfl)
    refine fin false _ _ ?_ ?_
    · simp [upd, h1n]
    · cases rs <;> simp_all [QbS]
  subst h1
  repeat ((first | refine QF.stepD rfl rfl ?_ | refine QF.stepG rfl rfl rfl ?_ | refine QF.stepN rfl rfl ?_ | refine QF.stepGN rfl rfl rfl ?_); intro K1 hK1; simp [QQ, QN, QI, dop, eval, Qy, upd, Qb, Qs, Qz, QA, TyI.agg, Qd, Qr, Qi, Qg, QB, QL, goInt, QK, intCmp, Qm, Tag.isNN, Qc, DV.cells, Qe, Qt, Qh, init, Qaa, ty3, ty9, Q9, Qab, QR]; refine hK1 _ _ ?_; clear hK1 K1)
  by_cases h2 : vk = 6
  case neg =>
    have h2n : (vk == 6) = false := by simpa using h2
    repeat ((first | refine QF.stepD rfl rfl ?_ | refine QF.stepG rfl rfl rfl ?_ | refine QF.stepN rfl rfl ?_ | refine QF.stepGN rfl rfl rfl ?_); intro K1 hK1; simp [QQ, QN, QI, dop, eval, Qy, upd, Qb, Qs, Qz, QA, TyI.agg, Qd, Qr, Qi, Qg, QB, QL, goInt, QK, intCmp, Qm, Tag.isNN, Qc, DV.cells, Qe, Qt, Qh, init, Qaa, ty3, ty9, Q9, Qab, QR, h2n]; refine hK1 _ _ ?_; clear hK1 K1)
    refine QF.done (hK _ _ (Dwp.ret ?_) rfl)
    refine fin false _ _ ?_ ?_
    · simp [upd, h2n]
    · simp [QbS, Tm.kind, h2]
  subst h2
  repeat ((first | refine QF.stepD rfl rfl ?_ | refine QF.stepG rfl rfl rfl ?_ | refine QF.stepN rfl rfl ?_ | refine QF.stepGN rfl rfl rfl ?_); intro K1 hK1; simp [QQ, QN, QI, dop, eval, Qy, upd, Qb, Qs, Qz, QA, TyI.agg, Qd, Qr, Qi, Qg, QB, QL, goInt, QK, intCmp, Qm, Tag.isNN, Qc, DV.cells, Qe, Qt, Qh, init, Qaa, ty3, ty9, Q9, Qab, QR, Ql, g1]; refine hK1 _ _ ?_; clear hK1 K1)
  by_cases h3 : Q2 vx = true
  case neg =>
    have h3n : Q2 vx = false := by simpa using h3
    rw [h3n] at g1
    repeat ((first | refine QF.stepD rfl rfl ?_ | refine QF.stepG rfl rfl rfl ?_ | refine QF.stepN rfl rfl ?_ | refine QF.stepGN rfl rfl rfl ?_); intro K1 hK1; simp [QQ, QN, QI, dop, eval, Qy, upd, Qb, Qs, Qz, QA, TyI.agg, Qd, Qr, Qi, Qg, QB, QL, goInt, QK, intCmp, Qm, Tag.isNN, Qc, DV.cells, Qe, Qt, Qh, init, Qaa, ty3, ty9, Q9, Qab, QR, Ql, g1, h3n]; refine hK1 _ _ ?_; clear hK1 K1)
    refine QF.done (hK _ _ (Dwp.ret ?_) rfl)
    refine fin false _ _ ?_ ?_
    · simp [upd, h3n]
    · simp [QbS, Tm.kind, Tm.text, h3n]
  repeat ((first | refine QF.stepD rfl rfl ?_ | refine QF.stepG rfl rfl rfl ?_ | refine QF.stepN rfl rfl ?_ | refine QF.stepGN rfl rfl rfl ?_); intro K1 hK1; simp [QQ, QN, QI, dop, eval, Qy, upd, Qb, Qs, Qz, QA, TyI.agg, Qd, Qr, Qi, Qg, QB, QL, goInt, QK, intCmp, Qm, Tag.isNN, Qc, DV.cells, Qe, Qt, Qh, init, Qaa, ty3, ty9, Q9, Qab, QR, Ql, g1, h3]; refine hK1 _ _ ?_; clear hK1 K1)
  by_cases h4 : vs = so
  case neg =>
    repeat ((first | refine QF.stepD rfl rfl ?_ | refine QF.stepG rfl rfl rfl ?_ | refine QF.stepN rfl rfl ?_ | refine QF.stepGN rfl rfl rfl ?_); intro K1 hK1; simp [QQ, QN, QI, dop, eval, Qy, upd, Qb, Qs, Qz, QA, TyI.agg, Qd, Qr, Qi, Qg, QB, QL, goInt, QK, intCmp, Qm, Tag.isNN, Qc, DV.cells, Qe, Qt, Qh, init, Qaa, ty3, ty9, Q9, Qab, QR, Ql, g1, h3, h4]; refine hK1 _ _ ?_; clear hK1 K1)
    refine QF.done (hK _ _ (Dwp.ret ?_) rfl)
    refine fin false _ _ ?_ ?_
    · simp [upd, h4]
    · simp [QbS, Tm.kind, Tm.text, Tm.sort, h3, h4]
  subst h4
  repeat ((first | refine QF.stepD rfl rfl ?_ | refine QF.stepG rfl rfl rfl ?_ | refine QF.stepN rfl rfl ?_ | refine QF.stepGN rfl rfl rfl ?_); intro K1 hK1; simp [QQ, QN, QI, dop, eval, Qy, upd, Qb, Qs, Qz, QA, TyI.agg, Qd, Qr, Qi, Qg, QB, QL, goInt, QK, intCmp, Qm, Tag.isNN, Qc, DV.cells, Qe, Qt, Qh, init, Qaa, ty3, ty9, Q9, Qab, QR, Ql, g1, h3, g2]; refine hK1 _ _ ?_; clear hK1 K1)
  refine QF.done (hK _ _ (Dwp.ret ?_) rfl)
  refine fin (QbM (false, true, true, false, false) (.mk 6 vn vx vs vks vr)) _ _ ?_ ?_
  · simp [upd]
  · simp [QbS, Tm.kind, Tm.text, Tm.sort, h3]
theorem e236 : Go.FA.Good Tryz.prog (236, s236) := ⟨c236, Tryz.f236, _, Tryz.func236, rfl, by decide⟩
def QfY (s : ByteArray) : Int := if h : 0 < s.size then (s[0].toNat : Int) else 0
def idB (s : ByteArray) : Bool := Q2 s && (decide (97 ≤ QfY s) && (decide (QfY s ≤ 122) && (!decide (s = ⟨#[116, 114, 117, 101]⟩) && !decide (s = ⟨#[102, 97, 108, 115, 101]⟩))))
def s234 : Sp := sp (QU Enc.str) Enc.bool (fun s => if s.size ≤ lim then some (idB s) else none)
theorem QfX {s : ByteArray} (h : Q2 s = true) : 0 < s.size := ((QcP s).1 h).1
set_option maxHeartbeats 2000000 in
theorem c234 : QC Tryz.prog 234 s234 := by
  refine QC.of_sp (T := QG [(107, s107)]) Tryz.func234 rfl (Nat.le_of_ble_eq_true rfl) fun E s y hy => ?_
  split at hy
  case isFalse => cases hy
  next hlim =>
  cases hy
  have tT : QP Tryz.prog (QG [(107, s107)]) := .cons e107 .nil
  have g := QeC (QG [(107, s107)]) rfl s hlim
  generalize QG [(107, s107)] = T at *
  unfold lim at hlim
  have fin : ∀ (b : Bool) (a : Nat → DV) (σ : St), a 2 = .lit (.bool b) → idB s = b → QZ Tryz.prog Tryz.f234.results Enc.bool (idB s) Ex.ret a σ := by
    intro b a σ h2 hb
    refine ⟨.inr rfl, .lit (.bool b), ?_, by simp [hb, QZ, QH, QV, frz, QX, QW, Enc.bool]⟩
    show QH Tryz.prog σ a [ResultVar.tmp 2] = _
    simp [QH, QV, h2]
  refine Dwp.step tT rfl fun K hK => ?_
  simp [QD, QE, Qn, QI, own, Ql, dop, QJ, eval, Qy, QF, Ex.then, Ex.inBlock, upd, QK, Tag.isNN, Qm, intCmp, Qz, QA, TyI.agg, Qb, Qs, Qd, Qr, QL, QB, Qp, mapOf, Qx, Qo, Qf, Qi, Qg, Qu, DV.cells, Qt, Qh, Qq, Qv, rowsOf, Qw, Qe, Qa, Qa.go, Qj, Qk, Qc, goInt, init, QU, QM.one, Enc.str]
  refine hK _ _ ?_ rfl; clear hK K
  refine Dwp.step tT rfl fun K hK => ?_
  by_cases h1 : Q2 s = true
  case neg =>
    have h1n : Q2 s = false := by simpa using h1
    rw [h1n] at g
    repeat ((first | refine QF.stepD rfl rfl ?_ | refine QF.stepG rfl rfl rfl ?_ | refine QF.stepN rfl rfl ?_ | refine QF.stepGN rfl rfl rfl ?_); intro K1 hK1; simp [QQ, QN, QI, dop, eval, Qy, upd, Qb, Qs, Qz, QA, TyI.agg, Qd, Qr, Qi, Qg, QB, QL, goInt, QK, intCmp, Qm, Tag.isNN, Qc, DV.cells, Qe, Qt, Qh, init, ty9, Ql, g]; refine hK1 _ _ ?_; clear hK1 K1)
    refine QF.done (hK _ _ (Dwp.ret ?_) rfl)
    refine fin false _ _ ?_ ?_
    · simp [upd]
    · simp [idB, h1n]
  have hpos := QfX h1
  have hb := bget s 0 hpos
  have hf : QfY s = (s[0].toNat : Int) := by simp [QfY, hpos]
  obtain ⟨c, hc⟩ : ∃ c : Int, c = (s[0].toNat : Int) := ⟨_, rfl⟩
  rw [← hc] at hf
  rw [h1] at g
  repeat ((first | refine QF.stepD rfl rfl ?_ | refine QF.stepG rfl rfl rfl ?_ | refine QF.stepN rfl rfl ?_ | refine QF.stepGN rfl rfl rfl ?_); intro K1 hK1; simp [QQ, QN, QI, dop, eval, Qy, upd, Qb, Qs, Qz, QA, TyI.agg, Qd, Qr, Qi, Qg, QB, QL, goInt, QK, intCmp, Qm, Tag.isNN, Qc, DV.cells, Qe, Qt, Qh, init, ty9, Ql, g, hpos, hb, ← hc]; refine hK1 _ _ ?_; clear hK1 K1)
  by_cases h2 : 97 ≤ c
  case neg =>
    repeat ((first | refine QF.stepD rfl rfl ?_ | refine QF.stepG rfl rfl rfl ?_ | refine QF.stepN rfl rfl ?_ | refine QF.stepGN rfl rfl rfl ?_); intro K1 hK1; simp [QQ, QN, QI, dop, eval, Qy, upd, Qb, Qs, Qz, QA, TyI.agg, Qd, Qr, Qi, Qg, QB, QL, goInt, QK, intCmp, Qm, Tag.isNN, Qc, DV.cells, Qe, Qt, Qh, init, ty9, Ql, g, hpos, hb, ← hc, h2]; refine hK1 _ _ ?_; clear hK1 K1)
    refine QF.done (hK _ _ (Dwp.ret ?_) rfl)
    refine fin false _ _ ?_ ?_
    · simp [upd, h2]
    · simp [idB, h1, hf, h2]
  repeat ((first | refine QF.stepD rfl rfl ?_ | refine QF.stepG rfl rfl rfl ?_ | refine QF.stepN rfl rfl ?_ | refine QF.stepGN rfl rfl rfl ?_); intro K1 hK1; simp [QQ, QN, QI, dop, eval, Qy, upd, Qb, Qs, Qz, QA, TyI.agg, Qd, Qr, Qi, Qg, QB, QL, goInt, QK, intCmp, Qm, Tag.isNN, Qc, DV.cells, Qe, Qt, Qh, init, ty9, Ql, g, hpos, hb, ← hc, h2]; refine hK1 _ _ ?_; clear hK1 K1)
  by_cases h3 : c ≤ 122
  case neg =>
    repeat ((first | refine QF.stepD rfl rfl ?_ | refine QF.stepG rfl rfl rfl ?_ | refine QF.stepN rfl rfl ?_ | refine QF.stepGN rfl rfl rfl ?_); intro K1 hK1; simp [QQ, QN, QI, dop, eval, Qy, upd, Qb, Qs, Qz, QA, TyI.agg, Qd, Qr, Qi, Qg, QB, QL, goInt, QK, intCmp, Qm, Tag.isNN, Qc, DV.cells, Qe, Qt, Qh, init, ty9, Ql, g, hpos, hb, ← hc, h2, h3]; refine hK1 _ _ ?_; clear hK1 K1)
    refine QF.done (hK _ _ (Dwp.ret ?_) rfl)
    refine fin false _ _ ?_ ?_
    · simp [upd, h3]
    · simp [idB, h1, hf, h2, h3]
  repeat ((first | refine QF.stepD rfl rfl ?_ | refine QF.stepG rfl rfl rfl ?_ | refine QF.stepN rfl rfl ?_ | refine QF.stepGN rfl rfl rfl ?_); intro K1 hK1; simp [QQ, QN, QI, dop, eval, Qy, upd, Qb, Qs, Qz, QA, TyI.agg, Qd, Qr, Qi, Qg, QB, QL, goInt, QK, intCmp, Qm, Tag.isNN, Qc, DV.cells, Qe, Qt, Qh, init, ty9, Ql, g, hpos, hb, ← hc, h2, h3]; refine hK1 _ _ ?_; clear hK1 K1)
  by_cases h4 : s = ⟨#[116, 114, 117, 101]⟩
  case pos =>
    have h4d : decide (s = ⟨#[116, 114, 117, 101]⟩) = true := by simpa using h4
    repeat ((first | refine QF.stepD rfl rfl ?_ | refine QF.stepG rfl rfl rfl ?_ | refine QF.stepN rfl rfl ?_ | refine QF.stepGN rfl rfl rfl ?_); intro K1 hK1; simp [QQ, QN, QI, dop, eval, Qy, upd, Qb, Qs, Qz, QA, TyI.agg, Qd, Qr, Qi, Qg, QB, QL, goInt, QK, intCmp, Qm, Tag.isNN, Qc, DV.cells, Qe, Qt, Qh, init, ty9, Ql, h4d]; refine hK1 _ _ ?_; clear hK1 K1)
    refine QF.done (hK _ _ (Dwp.ret ?_) rfl)
    refine fin false _ _ ?_ ?_
    · simp [upd, h4d]
    · simp [idB, h4d]
  have h4d : decide (s = ⟨#[116, 114, 117, 101]⟩) = false := by simpa using h4
  repeat ((first | refine QF.stepD rfl rfl ?_ | refine QF.stepG rfl rfl rfl ?_ | refine QF.stepN rfl rfl ?_ | refine QF.stepGN rfl rfl rfl ?_); intro K1 hK1; simp [QQ, QN, QI, dop, eval, Qy, upd, Qb, Qs, Qz, QA, TyI.agg, Qd, Qr, Qi, Qg, QB, QL, goInt, QK, intCmp, Qm, Tag.isNN, Qc, DV.cells, Qe, Qt, Qh, init, ty9, Ql, h4d, h4]; refine hK1 _ _ ?_; clear hK1 K1)
  refine QF.done (hK _ _ (Dwp.ret ?_) rfl)
  refine fin (!decide (s = ⟨#[102, 97, 108, 115, 101]⟩)) _ _ ?_ ?_
  · simp [upd, h4d, h4]
  · simp [idB, h4d, h4, h1, hf, h2, h3]
theorem e234 : Go.FA.Good Tryz.prog (234, s234) := ⟨c234, Tryz.f234, _, Tryz.func234, rfl, by decide⟩
theorem call234 (T : Tab) (hT : T 234 = some s234) (s : ByteArray) (h : s.size ≤ lim) : dcall T 234 [.lit (.string s)] = some (.lit (.bool (idB s))) :=
  QaC (A := Enc.str) (B := Enc.bool) hT (if_pos h)
theorem list_getY {s : ByteArray} {j : Nat} (h : j < s.size) : s.data.toList[j]'(by simpa using h) = s[j] := rfl
theorem QdO (p : Int → Bool) (s : ByteArray) : Qgs p s = true ↔ ∀ j, (h : j < s.size) → p (s[j].toNat : Int) = true := by
  unfold Qgs
  rw [List.all_eq_true]
  constructor
  · intro h j hj
    exact h _ (by rw [← list_getY hj]; exact List.getElem_mem _)
  · intro h b hb
    obtain ⟨j, hj, rfl⟩ := List.getElem_of_mem hb
    have hj' : j < s.size := by simpa using hj
    exact h j hj'
def QaB (c : Int) : Bool := !(decide (c < 32) || (decide (126 < c) || (c == 34 || c == 92)))
def Qi2 (s : ByteArray) (j : Nat) : Prop := ∃ h : j < s.size, QaB (s[j].toNat : Int) = true
def QcY (s : ByteArray) : Bool := Qgs QaB s && decide (s.size ≤ 200)
def s233 : Sp := sp (QU Enc.str) Enc.bool (fun s => if s.size ≤ lim then some (QcY s) else none)
set_option maxHeartbeats 2000000 in
theorem c233 : QC Tryz.prog 233 s233 := by
  refine QC.of_sp (T := QG []) Tryz.func233 rfl (Nat.le_of_ble_eq_true rfl) fun E s y hy => ?_
  split at hy
  case isFalse => cases hy
  next hlim =>
  cases hy
  unfold lim at hlim
  have tT := Q6 (P := Tryz.prog)
  generalize QG [] = T at *
  refine Dwp.step tT rfl fun K hK => ?_
  simp [QD, QE, Qn, QI, own, Ql, dop, QJ, eval, Qy, QF, Ex.then, Ex.inBlock, upd, QK, Tag.isNN, Qm, intCmp, Qz, QA, TyI.agg, Qb, Qs, Qd, Qr, QL, QB, Qp, mapOf, Qx, Qo, Qf, Qi, Qg, Qu, DV.cells, Qt, Qh, Qq, Qv, rowsOf, Qw, Qe, Qa, Qa.go, Qj, Qk, Qc, goInt, init, QU, QM.one, Enc.str]
  refine hK _ _ ?_ rfl; clear hK K
  refine Dwp.seq ?_
  refine Dwp.step tT rfl fun K hK => ?_
  simp [QD, QE, Qn, QI, own, Ql, dop, QJ, eval, Qy, QF, Ex.then, Ex.inBlock, upd, QK, Tag.isNN, Qm, intCmp, Qz, QA, TyI.agg, Qb, Qs, Qd, Qr, QL, QB, Qp, mapOf, Qx, Qo, Qf, Qi, Qg, Qu, DV.cells, Qt, Qh, Qq, Qv, rowsOf, Qw, Qe, Qa, Qa.go, Qj, Qk, Qc, goInt, init, ty9]
  refine hK _ _ ?_ rfl; clear hK K
  refine Dwp.range tT s.size (fun i a σ => a 0 = .lit (.string s) ∧ ∀ j, j < i → Qi2 s j) ⟨rfl, rfl, rfl⟩ ⟨rfl, rfl, rfl⟩ ⟨rfl, rfl, rfl⟩ (by decide) (by decide) (by omega) (by simp [upd]) (by simp [upd]) (by simp [upd, init]) ?_ ?_
  · rintro i a σ hi hidx hlen ⟨h0, hok⟩
    refine Dwp.step tT rfl fun K hK => ?_
    simp [QD, QE, Qn, QI, own, Ql, dop, QJ, eval, Qy, QF, Ex.then, Ex.inBlock, upd, QK, Tag.isNN, Qm, intCmp, Qz, QA, TyI.agg, Qb, Qs, Qd, Qr, QL, QB, Qp, mapOf, Qx, Qo, Qf, Qi, Qg, Qu, DV.cells, Qt, Qh, Qq, Qv, rowsOf, Qw, Qe, Qa, Qa.go, Qj, Qk, Qc, goInt, hidx]
    refine hK _ _ ?_ rfl; clear hK K
    have hb := bget s i hi
    obtain ⟨c, hc⟩ : ∃ c : Int, c = (s[i].toNat : Int) := ⟨_, rfl⟩
    have hdef : Qi2 s i ↔ QaB c = true := by
      rw [hc]; exact ⟨fun ⟨_, q⟩ => q, fun q => ⟨hi, q⟩⟩
    refine Dwp.step tT rfl fun K hK => ?_
    have good : ∀ a' σ', (a' 30 = .lit (.bool false) ∧ a' 0 = .lit (.string s) ∧ a' 5 = .lit (.int .i64 s.size) ∧ a' 6 = .lit (.int .i64 i)) → QaB c = true → σ'.n = σ.n + 1 + 2 → K a' σ' := by
      rintro a' σ' ⟨h30, h0, h5, h6⟩ ho hn
      refine hK _ _ ?_ hn
      refine Dwp.condF (by simp [eval, h30]) (Dwp.skip ?_)
      refine ⟨h6, h5, by simp [upd, h0], fun j hj => ?_⟩
      rcases Nat.lt_succ_iff_lt_or_eq.1 hj with q | rfl
      · exact hok j q
      · exact hdef.2 ho
    have bad : ∀ a' σ', a' 30 = .lit (.bool true) → QaB c = false → σ'.n = σ.n + 1 + 2 → K a' σ' := by
      intro a' σ' h30 ho hn
      refine hK _ _ ?_ hn
      refine Dwp.condT (by simp [eval, h30]) ?_
      refine Dwp.step tT rfl fun K hK => ?_
      simp [QD, QE, Qn, QI, own, Ql, dop, QJ, eval, Qy, QF, Ex.then, Ex.inBlock, upd, QK, Tag.isNN, Qm, intCmp, Qz, QA, TyI.agg, Qb, Qs, Qd, Qr, QL, QB, Qp, mapOf, Qx, Qo, Qf, Qi, Qg, Qu, DV.cells, Qt, Qh, Qq, Qv, rowsOf, Qw, Qe, Qa, Qa.go, Qj, Qk, Qc, goInt]
      refine hK _ _ (Dwp.ret ?_) rfl
      have hf : Qgs QaB s = false := by
        cases q : Qgs QaB s with
        | false => rfl
        | true => have := (QdO QaB s).1 q i hi; rw [← hc, ho] at this; cases this
      simp [QZ, QH, QV, frz, QX, QW, QdT, Ex.then, upd, Enc.bool, QcY, hf]
    repeat ((first | refine QF.stepD rfl rfl ?_ | refine QF.stepG rfl rfl rfl ?_ | refine QF.stepN rfl rfl ?_ | refine QF.stepGN rfl rfl rfl ?_); intro K1 hK1; simp [QQ, QN, QI, dop, eval, Qy, upd, Qb, Qs, Qz, QA, TyI.agg, Qd, Qr, Qi, Qg, QB, QL, goInt, QK, intCmp, Qm, Tag.isNN, Qc, DV.cells, Qe, Qt, Qh, h0, hidx, ty9, hi, hb, ← hc]; refine hK1 _ _ ?_; clear hK1 K1)
    by_cases q1 : c < 32
    case pos =>
      repeat ((first | refine QF.stepD rfl rfl ?_ | refine QF.stepG rfl rfl rfl ?_ | refine QF.stepN rfl rfl ?_ | refine QF.stepGN rfl rfl rfl ?_); intro K1 hK1; simp [QQ, QN, QI, dop, eval, Qy, upd, Qb, Qs, Qz, QA, TyI.agg, Qd, Qr, Qi, Qg, QB, QL, goInt, QK, intCmp, Qm, Tag.isNN, Qc, DV.cells, Qe, Qt, Qh, h0, hidx, ty9, hi, hb, ← hc, q1]; refine hK1 _ _ ?_; clear hK1 K1)
      exact QF.done (bad _ _ (by simp [upd, q1]) (by simp [QaB, q1]) rfl)
    repeat ((first | refine QF.stepD rfl rfl ?_ | refine QF.stepG rfl rfl rfl ?_ | refine QF.stepN rfl rfl ?_ | refine QF.stepGN rfl rfl rfl ?_); intro K1 hK1; simp [QQ, QN, QI, dop, eval, Qy, upd, Qb, Qs, Qz, QA, TyI.agg, Qd, Qr, Qi, Qg, QB, QL, goInt, QK, intCmp, Qm, Tag.isNN, Qc, DV.cells, Qe, Qt, Qh, h0, hidx, ty9, hi, hb, ← hc, q1]; refine hK1 _ _ ?_; clear hK1 K1)
    by_cases q2 : 126 < c
    case pos =>
      repeat ((first | refine QF.stepD rfl rfl ?_ | refine QF.stepG rfl rfl rfl ?_ | refine QF.stepN rfl rfl ?_ | refine QF.stepGN rfl rfl rfl ?_); intro K1 hK1; simp [QQ, QN, QI, dop, eval, Qy, upd, Qb, Qs, Qz, QA, TyI.agg, Qd, Qr, Qi, Qg, QB, QL, goInt, QK, intCmp, Qm, Tag.isNN, Qc, DV.cells, Qe, Qt, Qh, h0, hidx, ty9, hi, hb, ← hc, q1, q2]; refine hK1 _ _ ?_; clear hK1 K1)
      exact QF.done (bad _ _ (by simp [upd, q2]) (by simp [QaB, q2]) rfl)
    repeat ((first | refine QF.stepD rfl rfl ?_ | refine QF.stepG rfl rfl rfl ?_ | refine QF.stepN rfl rfl ?_ | refine QF.stepGN rfl rfl rfl ?_); intro K1 hK1; simp [QQ, QN, QI, dop, eval, Qy, upd, Qb, Qs, Qz, QA, TyI.agg, Qd, Qr, Qi, Qg, QB, QL, goInt, QK, intCmp, Qm, Tag.isNN, Qc, DV.cells, Qe, Qt, Qh, h0, hidx, ty9, hi, hb, ← hc, q1, q2]; refine hK1 _ _ ?_; clear hK1 K1)
    by_cases q3 : c = 34
    case pos =>
      have q3t : (c == 34) = true := by simpa using q3
      repeat ((first | refine QF.stepD rfl rfl ?_ | refine QF.stepG rfl rfl rfl ?_ | refine QF.stepN rfl rfl ?_ | refine QF.stepGN rfl rfl rfl ?_); intro K1 hK1; simp [QQ, QN, QI, dop, eval, Qy, upd, Qb, Qs, Qz, QA, TyI.agg, Qd, Qr, Qi, Qg, QB, QL, goInt, QK, intCmp, Qm, Tag.isNN, Qc, DV.cells, Qe, Qt, Qh, h0, hidx, ty9, hi, hb, ← hc, q3t]; refine hK1 _ _ ?_; clear hK1 K1)
      exact QF.done (bad _ _ (by simp [upd, q3t]) (by simp [QaB, q3]) rfl)
    have q3f : (c == 34) = false := by simpa using q3
    repeat ((first | refine QF.stepD rfl rfl ?_ | refine QF.stepG rfl rfl rfl ?_ | refine QF.stepN rfl rfl ?_ | refine QF.stepGN rfl rfl rfl ?_); intro K1 hK1; simp [QQ, QN, QI, dop, eval, Qy, upd, Qb, Qs, Qz, QA, TyI.agg, Qd, Qr, Qi, Qg, QB, QL, goInt, QK, intCmp, Qm, Tag.isNN, Qc, DV.cells, Qe, Qt, Qh, h0, hidx, ty9, hi, hb, ← hc, q3f]; refine hK1 _ _ ?_; clear hK1 K1)
    by_cases q4 : c = 92
    case pos =>
      have q4t : (c == 92) = true := by simpa using q4
      exact QF.done (bad _ _ (by simp [upd, q4t]) (by simp [QaB, q4]) rfl)
    have q4f : (c == 92) = false := by simpa using q4
    exact QF.done (good _ _ (by simp [upd, q4f, h0, hidx, hlen]) (by simp [QaB, q1, q2, q3, q4] <;> omega) rfl)
  · rintro a σ hidx hlen ⟨h0, hok⟩
    have hall : Qgs QaB s = true := (QdO QaB s).2 fun j h => (hok j h).2
    refine Dwp.step tT rfl fun K hK => ?_
    simp [QD, QE, Qn, QI, own, Ql, dop, QJ, eval, Qy, QF, Ex.then, Ex.inBlock, upd, QK, Tag.isNN, Qm, intCmp, Qz, QA, TyI.agg, Qb, Qs, Qd, Qr, QL, QB, Qp, mapOf, Qx, Qo, Qf, Qi, Qg, Qu, DV.cells, Qt, Qh, Qq, Qv, rowsOf, Qw, Qe, Qa, Qa.go, Qj, Qk, Qc, goInt, h0, ty9, ty3]
    refine hK _ _ (Dwp.ret ?_) rfl
    simp [QZ, QH, QV, frz, QX, QW, Ex.then, upd, Enc.bool, QcY, hall]
    try omega
theorem e233 : Go.FA.Good Tryz.prog (233, s233) := ⟨c233, Tryz.f233, _, Tryz.func233, rfl, by decide⟩
theorem call233 (T : Tab) (hT : T 233 = some s233) (s : ByteArray) (h : s.size ≤ lim) : dcall T 233 [.lit (.string s)] = some (.lit (.bool (QcY s))) :=
  QaC (A := Enc.str) (B := Enc.bool) hT (if_pos h)
end Go.Proofs.Yt
















namespace Go.Proofs.Yt
open Go Go.FA Go.Proofs
set_option linter.unusedSimpArgs false
set_option maxRecDepth 100000
theorem ba_ext {s t : ByteArray} (h : s.data.toList = t.data.toList) : s = t := ByteArray.ext (Array.ext' h)
theorem Qau : ∀ l : List UInt8, (Lib.indexByte l 39 = -1 ∧ l.takeWhile (· != 39) = l) ∨ (∃ i : Nat, Lib.indexByte l 39 = i ∧ i < l.length ∧ l.takeWhile (· != 39) = l.take i)
  | [] => .inl ⟨rfl, rfl⟩
  | b :: l => by
    simp only [Lib.indexByte]
    by_cases h : b = 39
    · right; exact ⟨0, by simp [h], by simp, by simp [h]⟩
    · have hb : (b != 39) = true := by simpa using h
      rcases Qau l with ⟨e1, e2⟩ | ⟨i, e1, e2, e3⟩
      · left; simp [h, e1, hb, e2]
      · right
        refine ⟨i + 1, ?_, by simp; omega, by simp [hb, e3]⟩
        have : ¬ (i : Int) = -1 := by omega
        simp [h, e1, this]
theorem Qaw (s : ByteArray) (i j : Nat) : (s.extract i j).data.toList = (s.data.toList.take j).drop i := by
  simp [ByteArray.data_extract, List.extract_eq_take_drop, List.drop_take]
theorem Qgj (s : ByteArray) : (Qad s).1.data.toList = s.data.toList.takeWhile (· != 39) := by
  unfold Qad mark
  rcases Qau s.data.toList with ⟨e1, e2⟩ | ⟨i, e1, e2, e3⟩
  · rw [e1, e2]; simp
  · rw [e1, e3]
    simp only [Int.natCast_nonneg, if_true, Int.toNat_natCast]
    rw [Qaw]; simp
theorem Qa1 (l : List UInt8) : l.drop (l.takeWhile (· != 39)).length = l.dropWhile (· != 39) := by
  have h : (l.takeWhile (· != 39) ++ l.dropWhile (· != 39)).drop (l.takeWhile (· != 39)).length = l.dropWhile (· != 39) := List.drop_left
  rwa [List.takeWhile_append_dropWhile] at h
def noMark (s : ByteArray) : Prop := ∀ b ∈ s.data.toList, b ≠ 39
theorem Qe8 {s : ByteArray} (h : Q2 s = true) : noMark s := by
  unfold Q2 Qgs at h
  simp only [Bool.and_eq_true, List.all_eq_true] at h
  intro b hb e
  have := h.2 b hb
  subst e
  simp [Qba, letter] at this
theorem Qec {x d : List UInt8} (hx : ∀ b ∈ x, b ≠ 39) (hd : d = [] ∨ d.head? = some 39) : (x ++ d).takeWhile (· != 39) = x := by
  induction x with
  | nil =>
    rcases hd with rfl | hd
    · rfl
    · cases d with
      | nil => rfl
      | cons c d => simp at hd; subst hd; simp
  | cons c x ih =>
    have hc : (c != 39) = true := by simpa using hx c (by simp)
    simp only [List.cons_append, List.takeWhile_cons, hc, if_true]
    rw [ih fun b hb => hx b (by simp [hb])]
theorem drop_head (l : List UInt8) : l.dropWhile (· != 39) = [] ∨ (l.dropWhile (· != 39)).head? = some 39 := by
  induction l with
  | nil => exact .inl rfl
  | cons c l ih =>
    by_cases h : c = 39
    · right; simp [h]
    · have hc : (c != 39) = true := by simpa using h
      simp only [List.dropWhile_cons, hc, if_true]; exact ih
end Go.Proofs.Yt
namespace Go.Proofs.Yt
open Go Go.FA Go.Proofs
set_option linter.unusedSimpArgs false
set_option maxRecDepth 100000
section
variable (s : SigD) (a b : ByteArray)
variable {s a b}
theorem isName_size {x : ByteArray} (h : Q2 x = true) : x.size ≤ 40 := by
  unfold Q2 at h; simp only [Bool.and_eq_true, decide_eq_true_eq] at h; exact h.1.1
theorem okOp_rest {x : ByteArray} (h : Qe2 x = true) : (x.data.toList.dropWhile (· != 39)).length ≤ 2 ∧ (Qad x).1.size ≤ 40 := by
  unfold Qe2 at h
  simp only [Bool.and_eq_true, Bool.or_eq_true, Bool.not_eq_true'] at h
  obtain ⟨h1, h2⟩ := h
  refine ⟨?_, isName_size h1⟩
  rw [← Qa1]
  rcases Qau x.data.toList with ⟨e1, e2⟩ | ⟨i, e1, e2, e3⟩
  · rw [e2]; simp
  · have hm : mark x = (i : Int) := e1
    have hc : Qad x = (x.extract 0 i, x.extract (i + 1) x.size, true) := by
      unfold Qad; rw [hm]; simp
    rw [hc] at h2
    simp only [Bool.true_eq_false, false_or] at h2
    unfold digit at h2
    split at h2
    · next c hl =>
      rw [Qaw] at hl
      have hlen := congrArg List.length hl
      rw [e3]
      simp only [List.length_drop, List.length_take, List.length_cons, List.length_nil] at hlen ⊢
      have : x.size = x.data.toList.length := by simp
      omega
    · cases h2
end
end Go.Proofs.Yt



namespace Go.Proofs.Yt
open Go Go.FA Go.Proofs
set_option linter.unusedSimpArgs false
set_option maxRecDepth 100000
def byteAt (s : ByteArray) (j : Nat) : Int := ((s[j]?).map fun c => (c.toNat : Int)).getD 0
theorem Qbt {s : ByteArray} {j : Nat} (h : j < s.size) : byteAt s j = (s[j].toNat : Int) := by unfold byteAt; rw [bget s j h]; rfl
def Qco (s : ByteArray) : Bool := decide (3 ≤ s.size) && (byteAt s (s.size - 2) == 39) && decide (49 ≤ byteAt s (s.size - 1)) && decide (byteAt s (s.size - 1) ≤ 56)
def Qbl (s : ByteArray) : ByteArray × ByteArray := if Qco s then (s.extract 0 (s.size - 2), s.extract (s.size - 2) s.size) else (s, ⟨#[]⟩)
def Enc.str2 : Enc (ByteArray × ByteArray) := Enc.tup (QS Enc.str Enc.str)
def s266 : Sp := sp (QU Enc.str) Enc.str2 (fun s => if s.size ≤ lim then some (Qbl s) else none)
theorem c266 : QC Tryz.prog 266 s266 := by
  refine QC.of_sp (T := QG []) Tryz.func266 rfl (Nat.le_of_ble_eq_true rfl) fun E s y hy => ?_
  split at hy
  case isFalse => cases hy
  next hl =>
  cases hy
  unfold lim at hl
  have tT := Q6 (P := Tryz.prog)
  refine Dwp.step tT rfl fun K hK => ?_
  simp [QD, QE, Qn, QI, own, Ql, dop, QJ, eval, Qy, QF, Ex.then, Ex.inBlock, upd, QK, Tag.isNN, Qm, intCmp, Qz, QA, TyI.agg, Qb, Qs, Qd, Qr, QL, QB, Qp, mapOf, Qx, Qo, Qf, Qi, Qg, Qu, DV.cells, Qt, Qh, Qq, Qv, rowsOf, Qw, Qe, Qa, Qa.go, Qj, Qk, Qc, goInt, init, QU, QM.one, Enc.str]
  refine hK _ _ ?_ rfl; clear hK K
  refine Dwp.step tT rfl fun K hK => ?_
  simp [QD, QE, Qn, QI, own, Ql, dop, QJ, eval, Qy, QF, Ex.then, Ex.inBlock, upd, QK, Tag.isNN, Qm, intCmp, Qz, QA, TyI.agg, Qb, Qs, Qd, Qr, QL, QB, Qp, mapOf, Qx, Qo, Qf, Qi, Qg, Qu, DV.cells, Qt, Qh, Qq, Qv, rowsOf, Qw, Qe, Qa, Qa.go, Qj, Qk, Qc, goInt, init, ty9]
  refine hK _ _ ?_ rfl; clear hK K
  refine Dwp.seq ?_
  refine Dwp.step tT rfl fun K hK => ?_
  have no : ∀ a' σ', a' 29 = .lit (.bool false) → a' 0 = .lit (.string s) → Qco s = false → σ'.n = σ0.n + 2 + 3 → K a' σ' := by
    intro a' σ' h29 h0 hf hn
    refine hK _ _ ?_ hn
    refine Dwp.condF (by simp [eval, h29]) (Dwp.skip ?_)
    refine Dwp.step tT rfl fun K hK => ?_
    simp [QD, QE, Qn, QI, own, Ql, dop, QJ, eval, Qy, QF, Ex.then, Ex.inBlock, upd, QK, Tag.isNN, Qm, intCmp, Qz, QA, TyI.agg, Qb, Qs, Qd, Qr, QL, QB, Qp, mapOf, Qx, Qo, Qf, Qi, Qg, Qu, DV.cells, Qt, Qh, Qq, Qv, rowsOf, Qw, Qe, Qa, Qa.go, Qj, Qk, Qc, goInt, h0]
    refine hK _ _ (Dwp.ret ?_) rfl
    simp [QZ, QH, QV, frz, QX, QW, upd, Enc.str2, Enc.tup, QS, QM.and, QM.one, Enc.str, Qbl, hf]
  by_cases q1 : 3 ≤ s.size
  case neg =>
    have q1' : ¬ (3 : Int) ≤ (s.size : Int) := by omega
    simp [QD, QE, Qn, QI, own, Ql, dop, QJ, eval, Qy, QF, Ex.then, Ex.inBlock, upd, QK, Tag.isNN, Qm, intCmp, Qz, QA, TyI.agg, Qb, Qs, Qd, Qr, QL, QB, Qp, mapOf, Qx, Qo, Qf, Qi, Qg, Qu, DV.cells, Qt, Qh, Qq, Qv, rowsOf, Qw, Qe, Qa, Qa.go, Qj, Qk, Qc, goInt, init, ty9, q1']
    exact no _ _ (by simp [upd]) (by simp [upd, init]) (by simp [Qco, q1]) rfl
  have q1' : (3 : Int) ≤ (s.size : Int) := by omega
  have w2 : IntKind.i64.wrap ((s.size : Int) - 2) = ((s.size - 2 : Nat) : Int) := by rw [wrap_small (n := (s.size : Int) - 2) (by omega) (by omega)]; omega
  have w1 : IntKind.i64.wrap ((s.size : Int) - 1) = ((s.size - 1 : Nat) : Int) := by rw [wrap_small (n := (s.size : Int) - 1) (by omega) (by omega)]; omega
  have l2 : s.size - 2 < s.size := by omega
  have l1 : s.size - 1 < s.size := by omega
  have b2 := bget s (s.size - 2) l2
  have b1 := bget s (s.size - 1) l1
  have y2 := Qbt l2
  have y1 := Qbt l1
  by_cases q2 : byteAt s (s.size - 2) = 39
  case neg =>
    have q2' : ((s[s.size - 2].toNat : Int) == 39) = false := by rw [← y2]; simpa using q2
    simp [QD, QE, Qn, QI, own, Ql, dop, QJ, eval, Qy, QF, Ex.then, Ex.inBlock, upd, QK, Tag.isNN, Qm, intCmp, Qz, QA, TyI.agg, Qb, Qs, Qd, Qr, QL, QB, Qp, mapOf, Qx, Qo, Qf, Qi, Qg, Qu, DV.cells, Qt, Qh, Qq, Qv, rowsOf, Qw, Qe, Qa, Qa.go, Qj, Qk, Qc, goInt, init, ty9, q1', w2, b2, q2']
    exact no _ _ (by simp [upd]) (by simp [upd, init]) (by simp [Qco, q2]) rfl
  have q2' : ((s[s.size - 2].toNat : Int) == 39) = true := by rw [← y2]; simpa using q2
  by_cases q3 : 49 ≤ byteAt s (s.size - 1)
  case neg =>
    have q3' : ¬ (49 : Int) ≤ (s[s.size - 1].toNat : Int) := by rw [← y1]; exact q3
    simp [QD, QE, Qn, QI, own, Ql, dop, QJ, eval, Qy, QF, Ex.then, Ex.inBlock, upd, QK, Tag.isNN, Qm, intCmp, Qz, QA, TyI.agg, Qb, Qs, Qd, Qr, QL, QB, Qp, mapOf, Qx, Qo, Qf, Qi, Qg, Qu, DV.cells, Qt, Qh, Qq, Qv, rowsOf, Qw, Qe, Qa, Qa.go, Qj, Qk, Qc, goInt, init, ty9, q1', w2, w1, b2, b1, q2', q3']
    exact no _ _ (by simp [upd]) (by simp [upd, init]) (by simp [Qco, q3]) rfl
  have q3' : (49 : Int) ≤ (s[s.size - 1].toNat : Int) := by rw [← y1]; exact q3
  by_cases q4 : byteAt s (s.size - 1) ≤ 56
  case neg =>
    have q4' : ¬ (s[s.size - 1].toNat : Int) ≤ 56 := by rw [← y1]; exact q4
    simp [QD, QE, Qn, QI, own, Ql, dop, QJ, eval, Qy, QF, Ex.then, Ex.inBlock, upd, QK, Tag.isNN, Qm, intCmp, Qz, QA, TyI.agg, Qb, Qs, Qd, Qr, QL, QB, Qp, mapOf, Qx, Qo, Qf, Qi, Qg, Qu, DV.cells, Qt, Qh, Qq, Qv, rowsOf, Qw, Qe, Qa, Qa.go, Qj, Qk, Qc, goInt, init, ty9, q1', w2, w1, b2, b1, q2', q3', q4']
    exact no _ _ (by simp [upd]) (by simp [upd, init]) (by simp [Qco, q4]) rfl
  have q4' : (s[s.size - 1].toNat : Int) ≤ 56 := by rw [← y1]; exact q4
  have hf : Qco s = true := by simp [Qco, q1, q2, q3, q4]
  simp [QD, QE, Qn, QI, own, Ql, dop, QJ, eval, Qy, QF, Ex.then, Ex.inBlock, upd, QK, Tag.isNN, Qm, intCmp, Qz, QA, TyI.agg, Qb, Qs, Qd, Qr, QL, QB, Qp, mapOf, Qx, Qo, Qf, Qi, Qg, Qu, DV.cells, Qt, Qh, Qq, Qv, rowsOf, Qw, Qe, Qa, Qa.go, Qj, Qk, Qc, goInt, init, ty9, q1', w2, w1, b2, b1, q2', q3', q4']
  refine hK _ _ ?_ rfl
  refine Dwp.condT (by simp [eval, upd]) ?_
  refine Dwp.drawStep [] mixed tT rfl (by decide) fun K hK => ?_
  have l2' : s.size - 2 ≤ s.size := by omega
  have l2i : ((s.size - 2 : Nat) : Int) ≤ (s.size : Int) := by omega
  simp [Qbj, touch, QaE, QD, QE, Qn, QI, own, Ql, dop, QJ, eval, Qy, QF, Ex.then, Ex.inBlock, upd, QK, Tag.isNN, Qm, intCmp, Qz, QA, TyI.agg, Qb, Qs, Qd, Qr, QL, QB, Qp, mapOf, Qx, Qo, Qf, Qi, Qg, Qu, DV.cells, Qt, Qh, Qq, Qv, rowsOf, Qw, Qe, Qa, Qa.go, Qj, Qk, Qc, goInt, init, ty9, w2, l2', l2i]
  refine hK _ _ (Dwp.ret ?_) rfl
  simp [QZ, QH, QV, frz, QX, QW, Ex.then, upd, Enc.str2, Enc.tup, QS, QM.and, QM.one, Enc.str, Qbl, hf]
theorem e266 : Go.FA.Good Tryz.prog (266, s266) := ⟨c266, Tryz.f266, _, Tryz.func266, rfl, by decide⟩
theorem call266 (T : Tab) (hT : T 266 = some s266) (s : ByteArray) (h : s.size ≤ lim) : dcall T 266 [.lit (.string s)] = some (.tuple [.lit (.string (Qbl s).1), .lit (.string (Qbl s).2)]) :=
  QaC (A := Enc.str) (B := Enc.str2) hT (if_pos h)
theorem Qew {s : ByteArray} {j : Nat} (h : j < s.size) : s.data.toList[j]'(by simpa using h) = s[j] := rfl
theorem frame_ok (s : ByteArray) : Q2 (Qbl s).1 = Qe2 s := by
  have hsz : s.size = s.data.toList.length := by simp
  by_cases hf : Qco s = true
  · have hf' := hf
    unfold Qco at hf
    simp only [Bool.and_eq_true, decide_eq_true_eq, beq_iff_eq] at hf
    obtain ⟨⟨⟨h3, h39⟩, h49⟩, h56⟩ := hf
    obtain ⟨p, hp⟩ : ∃ p, p = s.data.toList.take (s.size - 2) := ⟨_, rfl⟩
    have l2 : s.size - 2 < s.size := by omega
    have l1 : s.size - 1 < s.size := by omega
    rw [Qbt l2] at h39
    rw [Qbt l1] at h49 h56
    have hc39 : s[s.size - 2] = 39 := by
      have : s[s.size - 2].toNat = 39 := by omega
      exact UInt8.toNat_inj.1 this
    have hsplit : s.data.toList = p ++ [39, s[s.size - 1]] := by
      have e1 : s.data.toList = s.data.toList.take (s.size - 2) ++ s.data.toList.drop (s.size - 2) := (List.take_append_drop _ _).symm
      have e2 : s.data.toList.drop (s.size - 2) = [39, s[s.size - 1]] := by
        rw [List.drop_eq_getElem_cons (by omega), List.drop_eq_getElem_cons (by omega), List.drop_of_length_le (by omega)]
        rw [Qew l2, hc39]
        congr 2
        have : s.size - 2 + 1 = s.size - 1 := by omega
        simp only [this]; exact Qew l1
      rw [e2, ← hp] at e1; exact e1
    have hfr : (Qbl s).1.data.toList = p := by
      unfold Qbl; rw [if_pos hf']
      simp only [Qaw, List.drop_zero]; exact hp.symm
    by_cases hm : ∀ b ∈ p, b ≠ 39
    · -- the first mark is this one
      have hcut : (Qad s).1.data.toList = p := by
        rw [Qgj, hsplit]; exact Qec hm (.inr rfl)
      have heq : (Qbl s).1 = (Qad s).1 := ba_ext (by rw [hfr, hcut])
      unfold Qe2
      rw [heq]
      have hd : digit (Qad s).2.1 = true := by
        have hmark : mark s = (p.length : Int) := by
          unfold mark
          rcases Qau s.data.toList with ⟨e1, e2⟩ | ⟨i, e1, e2, e3⟩
          · rw [← Qgj, hcut, hsplit] at e2
            have := congrArg List.length e2; simp at this
          · rw [e1]
            rw [← Qgj, hcut] at e3
            have := congrArg List.length e3
            rw [List.length_take] at this; omega
        unfold Qad
        rw [hmark]
        simp only [Int.natCast_nonneg, if_true, Int.toNat_natCast]
        unfold digit
        rw [Qaw, hsplit]
        have : s.size = p.length + 2 := by rw [hsz, hsplit]; simp
        rw [List.take_of_length_le (by simp [this])]
        have e : (p ++ [39, s[s.size - 1]]).drop (p.length + 1) = [s[s.size - 1]] := by
          rw [List.drop_append]; simp
        rw [e]
        simp only [Bool.and_eq_true, decide_eq_true_eq]
        exact ⟨h49, h56⟩
      rw [hd]; simp
    · have h1 : Q2 (Qbl s).1 = false := by
        cases q : Q2 (Qbl s).1 with
        | false => rfl
        | true =>
          have := Qe8 q
          unfold noMark at this
          rw [hfr] at this; exact absurd this hm
      rw [h1]
      -- an earlier mark: what stands behind it is longer than a digit
      cases q : Qe2 s with
      | false => rfl
      | true =>
        exfalso
        have h2 := (okOp_rest q).1
        have hm' : ∃ b ∈ p, b = 39 := by
          apply Classical.byContradiction; intro hno
          exact hm fun b hb e => hno ⟨b, hb, e⟩
        obtain ⟨b, hb, rfl⟩ := hm'
        have hlen : ∀ (x d : List UInt8), 39 ∈ x → d.length < ((x ++ d).dropWhile (· != 39)).length := by
          intro x d hx
          induction x with
          | nil => cases hx
          | cons c x ih =>
            by_cases hc : c = 39
            · subst hc; simp; omega
            · have hcb : (c != 39) = true := by simpa using hc
              simp only [List.cons_append, List.dropWhile_cons, hcb, if_true]
              rcases List.mem_cons.1 hx with e | e
              · exact absurd e.symm hc
              · exact ih e
        have := hlen p [39, s[s.size - 1]] hb
        rw [← hsplit] at this
        simp at this h2; omega
  · have hff : (Qbl s).1 = s := by unfold Qbl; rw [if_neg hf]
    rw [hff]
    cases q : Q2 s with
    | true =>
      have hn := Qe8 q
      have hw := Qec (x := s.data.toList) (d := []) hn (.inl rfl)
      rw [List.append_nil] at hw
      have hmark : mark s = -1 := by
        unfold mark
        rcases Qau s.data.toList with ⟨e1, e2⟩ | ⟨i, e1, e2, e3⟩
        · exact e1
        · rw [hw] at e3
          have := congrArg List.length e3
          rw [List.length_take] at this; omega
      unfold Qe2 Qad
      rw [hmark]
      simp [q]
    | false =>
      symm
      cases hq : Qe2 s with
      | false => rfl
      | true =>
        exfalso
        have hq2 := hq
        unfold Qe2 at hq2
        simp only [Bool.and_eq_true, Bool.or_eq_true, Bool.not_eq_true'] at hq2
        obtain ⟨h1, h2⟩ := hq2
        rcases Qau s.data.toList with ⟨e1, e2⟩ | ⟨i, e1, e2, e3⟩
        · have hm : mark s = -1 := e1
          have hc : Qad s = (s, ⟨#[]⟩, false) := by unfold Qad; rw [hm]; simp
          rw [hc, q] at h1; cases h1
        · have hm : mark s = (i : Int) := e1
          have hc : Qad s = (s.extract 0 i, s.extract (i + 1) s.size, true) := by unfold Qad; rw [hm]; simp
          rw [hc] at h1 h2
          simp only [Bool.true_eq_false, false_or] at h2
          unfold digit at h2
          split at h2
          · next c hl =>
            rw [Qaw] at hl
            have hlen := congrArg List.length hl
            simp only [List.length_drop, List.length_take, List.length_cons, List.length_nil] at hlen
            have hn1 : s.size = i + 2 := by omega
            have hi1 := (QcP _).1 h1
            have hsi : (s.extract 0 i).size = i := by simp [ByteArray.size_extract]; omega
            have hipos : 1 ≤ i := by have h11 : 1 ≤ (s.extract 0 i).size := hi1.1; omega
            apply hf
            unfold Qco
            have l2 : s.size - 2 < s.size := by omega
            have l1 : s.size - 1 < s.size := by omega
            rw [Qbt l2, Qbt l1]
            have e2' : s[s.size - 2] = 39 := by
              have hd := drop_head s.data.toList
              rw [← Qa1, e3, List.length_take, Nat.min_eq_left (by omega)] at hd
              rcases hd with hd | hd
              · have := congrArg List.length hd; simp at this; omega
              · rw [List.drop_eq_getElem_cons (by omega)] at hd
                simp only [List.head?_cons, Option.some.injEq] at hd
                rw [← hd, ← Qew l2]
                congr 1; omega
            have e1' : s[s.size - 1] = c := by
              have hc2 : (s.data.toList.drop (i + 1))[0]? = some c := by
                rw [List.take_of_length_le (by omega)] at hl; rw [hl]; rfl
              rw [List.getElem?_drop, Nat.add_zero, List.getElem?_eq_getElem (by omega)] at hc2
              simp only [Option.some.injEq] at hc2
              rw [← hc2, ← Qew l1]
              congr 1; omega
            rw [e2', e1']
            simp only [Bool.and_eq_true, decide_eq_true_eq] at h2
            simp only [Bool.and_eq_true, decide_eq_true_eq, beq_iff_eq]
            exact ⟨⟨⟨by omega, rfl⟩, h2.1⟩, h2.2⟩
          · cases h2
def s235 : Sp := sp (QU Enc.str) Enc.bool (fun s => if s.size ≤ lim then some (Qe2 s) else none)
abbrev T90 : Tab := QG [(266, s266), (107, s107)]
theorem t90 : QP Tryz.prog T90 := .cons e266 (.cons e107 .nil)
theorem c235 : QC Tryz.prog 235 s235 := by
  refine QC.of_sp (T := T90) Tryz.func235 rfl (Nat.le_of_ble_eq_true rfl) fun E s y hy => ?_
  split at hy
  case isFalse => cases hy
  next hl =>
  cases hy
  have hl1 : s.size ≤ lim := hl
  have hl2 : (Qbl s).1.size ≤ lim := by
    unfold Qbl; split
    · simp only [ByteArray.size_extract]; omega
    · exact hl1
  have g1 := call266 T90 rfl s hl1
  have g2 := QeC T90 rfl (Qbl s).1 hl2
  rw [frame_ok] at g2
  have tT := t90
  generalize T90 = T at *
  refine Dwp.step tT rfl fun K hK => ?_
  simp [QD, QE, Qn, QI, own, Ql, dop, QJ, eval, Qy, QF, Ex.then, Ex.inBlock, upd, QK, Tag.isNN, Qm, intCmp, Qz, QA, TyI.agg, Qb, Qs, Qd, Qr, QL, QB, Qp, mapOf, Qx, Qo, Qf, Qi, Qg, Qu, DV.cells, Qt, Qh, Qq, Qv, rowsOf, Qw, Qe, Qa, Qa.go, Qj, Qk, Qc, goInt, init, QU, QM.one, Enc.str]
  refine hK _ _ ?_ rfl; clear hK K
  refine Dwp.step tT rfl fun K hK => ?_
  simp [QD, QE, Qn, QI, own, Ql, dop, QJ, eval, Qy, QF, Ex.then, Ex.inBlock, upd, QK, Tag.isNN, Qm, intCmp, Qz, QA, TyI.agg, Qb, Qs, Qd, Qr, QL, QB, Qp, mapOf, Qx, Qo, Qf, Qi, Qg, Qu, DV.cells, Qt, Qh, Qq, Qv, rowsOf, Qw, Qe, Qa, Qa.go, Qj, Qk, Qc, goInt, init, g1]
  refine hK _ _ ?_ rfl; clear hK K
  refine Dwp.step tT rfl fun K hK => ?_
  simp [QD, QE, Qn, QI, own, Ql, dop, QJ, eval, Qy, QF, Ex.then, Ex.inBlock, upd, QK, Tag.isNN, Qm, intCmp, Qz, QA, TyI.agg, Qb, Qs, Qd, Qr, QL, QB, Qp, mapOf, Qx, Qo, Qf, Qi, Qg, Qu, DV.cells, Qt, Qh, Qq, Qv, rowsOf, Qw, Qe, Qa, Qa.go, Qj, Qk, Qc, goInt, g2]
  refine hK _ _ (Dwp.ret ?_) rfl
  simp [QZ, QH, QV, frz, QX, QW, upd, Enc.bool]
theorem e235 : Go.FA.Good Tryz.prog (235, s235) := ⟨c235, Tryz.f235, _, Tryz.func235, rfl, by decide⟩
theorem call235 (T : Tab) (hT : T 235 = some s235) (s : ByteArray) (h : s.size ≤ lim) : dcall T 235 [.lit (.string s)] = some (.lit (.bool (Qe2 s))) :=
  QaC (A := Enc.str) (B := Enc.bool) hT (if_pos h)
end Go.Proofs.Yt
