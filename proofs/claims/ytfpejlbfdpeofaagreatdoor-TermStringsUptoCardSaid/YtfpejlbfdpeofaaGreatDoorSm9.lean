/- Contracts of functions of the program, by a machine over abstract values; part 10. No condition beyond those of each theorem. -/
import Derived.Test.YtfpejlbfdpeofaaGreatDoorSm8
import Derived.Deep.DeepHandedRow
set_option linter.unusedVariables false
set_option linter.unusedSimpArgs false
namespace Go.Proofs.Yt
open Go Go.FA Go.Proofs Go.RowKit Go.Proofs.Y
set_option maxRecDepth 1000000
set_option linter.unusedSimpArgs false
noncomputable def body43 : Code := match Tryz.f43.body with
  | some c => c
  | none => .skip
def spine : Code → List Code
  | .seq a b => a :: spine b
  | c => [c]
noncomputable def QjD : List Code := (spine body43).take 5
theorem body43_eq : Tryz.f43.body = some (QiI QjD (.seq (.region 7 (opsOf 43 7) false) .ret)) := by kernel_rfl
def QdP : List DV → List UInt8 → Bool
  | [], [] => true
  | .lit (.int .u8 k) :: ds, b :: bs => (match k with | .ofNat m => Nat.beq m b.toNat | _ => false) && QdP ds bs
  | _, _ => false
theorem QdZ : ∀ {ds : List DV} {bs : List UInt8}, QdP ds bs = true → ds = bs.map fun b => .lit (.int .u8 b.toNat)
  | [], [], _ => rfl
  | d :: ds, b :: bs, h => by
    unfold QdP at h
    split at h
    · next heq => cases heq
    · next k ds' b' bs' h1 h2 =>
      cases h1; cases h2
      simp only [Bool.and_eq_true] at h
      obtain ⟨h1, h2⟩ := h
      split at h1
      · next m => rw [Nat.eq_of_beq_eq_true h1, QdZ h2]; rfl
      · simp at h1
    · simp at h
  | [], _ :: _, h => by simp [QdP] at h
  | _ :: _, [], h => by simp [QdP] at h
def wrote (l : List UInt8) (r : Option (Tr DV × EvS)) : Bool := match r with
  | some (r, s) => match rg r 4 with
    | .ptr id 0 => match s.h.get id with
      | some (.cells t [_, .live bid 1 0 n]) => match s.h.get bid with
        | some (.buf u bs) => Nat.beq t 110 && Nat.beq u 5 && Nat.beq n l.length && QdP bs l && Nat.beq 4 4
        | _ => false
      | _ => false
    | _ => false
  | none => false
theorem wrote_spec {l : List UInt8} {q : Option (Tr DV × EvS)} (h : wrote l q = true) : ∃ r s id bid p, q = some (r, s) ∧ rg r 4 = .ptr id 0 ∧ s.st.objs id = some (.cells 110 [p, .live bid 1 0 l.length]) ∧ s.st.objs bid = some (.buf 5 (l.map fun b => .lit (.int .u8 b.toNat))) := by
  unfold wrote at h
  split at h
  · next r s =>
    split at h
    · next id h4 =>
      split at h
      · next t p bid n h1 =>
        split at h
        · next u bs h2 =>
          simp only [Bool.and_eq_true] at h
          obtain ⟨⟨⟨⟨e1, e2⟩, e3⟩, e4⟩, _⟩ := h
          have e1 := Nat.eq_of_beq_eq_true e1; have e2 := Nat.eq_of_beq_eq_true e2; have e3 := Nat.eq_of_beq_eq_true e3
          subst e1 e2 e3
          rw [QdZ e4] at h2
          exact ⟨r, s, id, bid, p, rfl, h4, h1, h2⟩
        · simp at h
      · simp at h
    · simp at h
  · simp at h
theorem text_end (E : Qjd) {σ : St} {a : Nat → DV} {id bid : Nat} {p : DV} {s : ByteArray} (ha : a 4 = .ptr id 0) (h1 : σ.objs id = some (.cells 110 [p, .live bid 1 0 s.size])) (h2 : σ.objs bid = some (.buf 5 (bytesD s))) (h0 : s.size ≠ 0) (h63 : s.size ≤ 9223372036854775807) :
    Dwp Tryz.prog T7 E.1 Tryz.f43.ntmps (.seq (.region 7 (opsOf 43 7) false) .ret) (Q4 Tryz.prog Tryz.f43.results Enc.strErr (s, 0)) a σ := by
  have hd : Q2 Tryz.f43.ntmps (opsOf 43 7) = true := by kernel_rfl
  have o0 : ((opsOf 43 7)[0]?).map (fun o => (o.op, o.dst, o.guard)) = some (.fieldAddr 110 (.tmp 4) 0, some 13, .none) := by kernel_rfl
  have o1 : ((opsOf 43 7)[1]?).map (fun o => (o.op, o.dst, o.guard)) = some (.call ⟨.value (.func 99), #[.tmp 13], #[108]⟩, some 14, .none) := by kernel_rfl
  have o2 : ((opsOf 43 7)[2]?).map (fun o => (o.op, o.dst, o.guard)) = some (.assign (.tmp 14), some 2, .none) := by kernel_rfl
  have o3 : ((opsOf 43 7)[3]?).map (fun o => (o.op, o.dst, o.guard)) = some (.assign (.const (.int .i64 0)), some 3, .none) := by kernel_rfl
  obtain ⟨p0, q0, e0⟩ := Option.map_eq_some_iff.1 o0
  obtain ⟨p1, q1, e1⟩ := Option.map_eq_some_iff.1 o1
  obtain ⟨p2, q2, e2⟩ := Option.map_eq_some_iff.1 o2
  obtain ⟨p3, q3, e3⟩ := Option.map_eq_some_iff.1 o3
  simp only [Prod.mk.injEq] at e0 e1 e2 e3
  refine Dwp.stepH fun K hK => ?_
  have hsz : List.range (opsOf 43 7).size = [0, 1, 2, 3] := by kernel_rfl
  rw [hsz]
  refine Rg.op0 (d := .ptr id 0) (σ1 := σ) (id := 0) T7ok hd q0 (by rw [e0.2.2]; rfl) (by rw [e0.1]; rfl) (by rw [e0.1]; simp [dop, Qb, Qbu, Qa9, eval, ha]) rfl ?_
  rw [e0.2.1]
  refine Rg.reset (f := 99) (x := .tmp 13) (tys := #[108]) (r := .string s) E.2 hd q1 (by rw [e1.2.2]; rfl) e1.1 ⟨Tryz.f99, _, Tryz.func99, rfl, by decide⟩ ?_ ?_
  · intro C w v hs hv
    simp only [eval, QJ, upd] at hv
    exact Qe9 h1 h2 h0 h63 C w v hs (by simpa using hv)
  · rw [e1.2.1]
    refine Rg.op0 (d := .lit (.string s)) (σ1 := { n := σ.n, objs := fun _ => none, toks := fun _ => none }) (id := 0) T7ok hd q2 (by rw [e2.2.2]; rfl) (by rw [e2.1]; rfl) (by rw [e2.1]; simp [dop, eval, QJ, upd]) rfl ?_
    rw [e2.2.1]
    refine Rg.op0 (d := .lit (.int .i64 0)) (σ1 := { n := σ.n, objs := fun _ => none, toks := fun _ => none }) (id := 0) T7ok hd q3 (by rw [e3.2.2]; rfl) (by rw [e3.1]; rfl) (by rw [e3.1]; simp [dop, eval, Qy]) rfl ?_
    rw [e3.2.1]
    refine Rg.nil (hK _ _ (Dwp.ret ?_))
    refine ⟨.inr rfl, .tuple [.lit (.string s), .lit (.int .i64 0)], ?_, ?_⟩
    · show QH Tryz.prog _ _ [.tmp 2, .tmp 3] = _
      simp [QH, QX, QJ, upd]
    · simp [Enc.strErr, Enc.tup, QR, QI.and, QI.one, Enc.str, Enc.i64, Enc.int, frz, QY, Q0]
def beqB (a b : ByteArray) : Bool := decide (a.data.toList = b.data.toList)
theorem Qe5 {a b : ByteArray} (h : beqB a b = true) : a = b := by
  have := of_decide_eq_true h
  cases a; cases b; simp only [ByteArray.mk.injEq]; exact Array.ext' this
mutual
def Qfd : Tm → Tm → Bool
  | .mk k n t s ks r, .mk k' n' t' s' ks' r' => decide (k = k') && decide (n = n') && beqB t t' && beqB s s' && Qca ks ks' && Qca r r'
def Qca : List Tm → List Tm → Bool
  | [], [] => true
  | x :: xs, y :: ys => Qfd x y && Qca xs ys
  | _, _ => false
end
mutual
theorem QbU : ∀ (x y : Tm), Qfd x y = true → x = y
  | .mk k n t s ks r, .mk k' n' t' s' ks' r', h => by
    simp only [Qfd, Bool.and_eq_true, decide_eq_true_eq] at h
    obtain ⟨⟨⟨⟨⟨rfl, rfl⟩, h1⟩, h2⟩, h3⟩, h4⟩ := h
    rw [Qe5 h1, Qe5 h2, QbN _ _ h3, QbN _ _ h4]
theorem QbN : ∀ (xs ys : List Tm), Qca xs ys = true → xs = ys
  | [], [], _ => rfl
  | x :: xs, y :: ys, h => by
    simp only [Qca, Bool.and_eq_true] at h
    rw [QbU x y h.1, QbN xs ys h.2]
  | [], _ :: _, h => by simp [Qca] at h
  | _ :: _, [], h => by simp [Qca] at h
end
def QiP (k n : Int) (t s : List UInt8) : Tm := .mk k n ⟨t.toArray⟩ ⟨s.toArray⟩ [] []
def t0T : Tm := .mk 5 0 ⟨#[112, 108, 117, 115]⟩ ⟨#[]⟩ [QiP 6 0 [88] [73, 110, 116], .mk 7 0 ⟨#[]⟩ ⟨#[]⟩ [QiP 1 (-1) [] []] [QiP 6 0 [76] [76, 105, 115, 116]]] []
def t0S : List UInt8 := [112, 108, 117, 115, 40, 88, 58, 73, 110, 116, 44, 32, 91, 45, 49, 32, 124, 32, 76, 93, 41]
theorem wrote0 : wrote t0S (Qjm (M7 43) QjD (QgN 0 [.agg t0T.cells] .leaf) ⟨0, .leaf, .leaf⟩) = true := by kernel_rfl
theorem pre43_ok : QjH Tryz.f43.ntmps QjD = true := by kernel_rfl
def s43 : Sp := sp (QI.one Enc.tm) Enc.strErr (fun t => if Qfd t t0T then some (⟨t0S.toArray⟩, 0) else none)
theorem c43 : QD Tryz.prog 43 s43 := by
  refine QD.of_sp (T := T7) Tryz.func43 body43_eq (by decide) fun E t y hy => ?_
  split at hy
  · next ht =>
    have := QbU _ _ ht
    subst this
    simp only [Option.some.injEq] at hy; subst hy
    obtain ⟨r, s, id, bid, p, hrun, h4, h1, h2⟩ := wrote_spec wrote0
    have key := Qis (E := E.1) (n := Tryz.f43.ntmps) (rest := .seq (.region 7 (opsOf 43 7) false) .ret) (Q := Q4 Tryz.prog Tryz.f43.results Enc.strErr (⟨t0S.toArray⟩, 0)) QjD _ _ r s pre43_ok hrun
      (text_end E h4 (s := ⟨t0S.toArray⟩) h1 h2 (by decide) (by decide))
    rw [Qiv] at key
    exact key
  · simp at hy
noncomputable def T8 : Tab := QF [(43, s43), (163, s163), (237, s237), (285, Qhk), (296, s296)]
theorem T8ok : QP Tryz.prog T8 := QP.cons ⟨c43, Tryz.f43, _, Tryz.func43, rfl, by decide⟩ (QP.cons ⟨c163, Tryz.f163, _, Tryz.func163, rfl, by decide⟩ (QP.cons e237 (QP.cons e285i (QP.cons e296 QP.nil))))
noncomputable def call8 (f : Nat) (g : Nat) (xs : List DV) : Option (DV × EvS) := evC Tryz.prog T8 H7 L1 M7 (ev Tryz.prog T8 H7 L1 M7 f) g xs ⟨0, .leaf, .leaf⟩
end Go.Proofs.Yt
namespace Go.FA
open Go.RowKit
set_option linter.unusedSimpArgs false
variable {P : Program} {T : Tab} {E : Entry} {n : Nat} {Q : Ex → (Nat → DV) → St → Prop} {a : Nat → DV} {σ : St}
def QhT (L : List Nat) (a0 a : Nat → DV) : Prop := ∀ r ∈ L, a r = a0 r
theorem QhT.refl (L : List Nat) (a : Nat → DV) : QhT L a a := fun _ _ => rfl
theorem QhT.upd {L : List Nat} {a0 a : Nat → DV} (h : QhT L a0 a) {t : Nat} (ht : t ∉ L) (d : DV) : QhT L a0 (upd a t d) := fun r hr => by
  have : r ≠ t := fun e => ht (e ▸ hr)
  rw [Qeu _ _ _ _ this]; exact h r hr
theorem QhT.trans {L : List Nat} {a0 a1 a2 : Nat → DV} (h : QhT L a0 a1) (h' : QhT L a1 a2) : QhT L a0 a2 := fun r hr => (h' r hr).trans (h r hr)
@[simp] theorem Keep_nil (a0 a : Nat → DV) : QhT [] a0 a ↔ True := by simp [QhT]
@[simp] theorem Keep_cons (r : Nat) (L : List Nat) (a0 a : Nat → DV) : QhT (r :: L) a0 a ↔ a r = a0 r ∧ QhT L a0 a := by simp [QhT]
def Qi8 (b0 b1 t' idx : Nat) (len : Nat) (N i : Nat) (J : Nat → (Nat → DV) → St → Prop) (Q : Ex → (Nat → DV) → St → Prop) : Ex → (Nat → DV) → St → Prop
  | .exit id, a, σ => if id = b1 then a idx = .lit (.int .i64 i) ∧ a len = .lit (.int .i64 N) ∧ J (i + 1) (upd (upd a t' (.lit (.int .i64 (i + 1 : Nat)))) idx (.lit (.int .i64 (i + 1 : Nat)))) { σ with n := σ.n + 2 } else if id = b0 then Q .normal a σ else Q (.exit id) a σ
  | .normal, a, σ => a idx = .lit (.int .i64 i) ∧ a len = .lit (.int .i64 N) ∧ J (i + 1) (upd (upd a t' (.lit (.int .i64 (i + 1 : Nat)))) idx (.lit (.int .i64 (i + 1 : Nat)))) { σ with n := σ.n + 2 }
  | .ret, a, σ => Q .ret a σ
theorem Qh9 (i : Nat) (h : i < 4611686018427387904) : IntKind.i64.wrap ((i : Int) + 1) = ((i + 1 : Nat) : Int) := by
  simp [IntKind.wrap, IntKind.bits, IntKind.signed]; omega
theorem Dwp.range {b0 b1 r1 r2 : Nat} {body : Code} {o1 o2 o3 : Oper} {t idx len t' ty ty' : Nat} (hT : QP P T) (N : Nat) (J : Nat → (Nat → DV) → St → Prop)
    (e1 : o1.op = .binOp .lss ty (.tmp idx) (.tmp len) ty ∧ o1.dst = some t ∧ o1.guard = none) (e2 : o2.op = .binOp .add ty' (.tmp idx) (.const (.int .i64 1)) ty' ∧ o2.dst = some t' ∧ o2.guard = none)
    (e3 : o3.op = .move (.tmp t') ∧ o3.dst = some idx ∧ o3.guard = none) (hd : t < n ∧ t' < n ∧ idx < n) (hne : b1 ≠ b0 ∧ t ≠ idx ∧ t ≠ len ∧ t' ≠ idx ∧ t' ≠ len ∧ idx ≠ len)
    (hN : N < 4611686018427387904) (hidx : a idx = .lit (.int .i64 (0 : Nat))) (hlen : a len = .lit (.int .i64 N)) (h0 : J 0 a σ)
    (round : ∀ i a σ, i < N → a idx = .lit (.int .i64 i) → a len = .lit (.int .i64 N) → J i a σ → Dwp P T E n body (Qi8 b0 b1 t' idx len N i J Q) (upd a t (.lit (.bool true))) { σ with n := σ.n + 1 })
    (after : ∀ a σ, a idx = .lit (.int .i64 N) → a len = .lit (.int .i64 N) → J N a σ → Q .normal (upd a t (.lit (.bool false))) { σ with n := σ.n + 1 }) :
    Dwp P T E n (.block b0 (.loop (.seq (.region r1 #[o1] false) (.seq (.cond (.tmp t) .skip (.exit b0)) (.seq (.block b1 body) (.region r2 #[o2, o3] false)))))) Q a σ := by
  obtain ⟨p1, p2, p3⟩ := e1
  obtain ⟨q1, q2, q3⟩ := e2
  obtain ⟨s1, s2, s3⟩ := e3
  obtain ⟨d1, d2, d3⟩ := hd
  obtain ⟨n0, n1, n2, n3, n4, n5⟩ := hne
  refine Dwp.block (Dwp.loop (fun k a σ => ∃ i, i ≤ N ∧ k = N - i ∧ a idx = .lit (.int .i64 i) ∧ a len = .lit (.int .i64 N) ∧ J i a σ) N ⟨0, Nat.zero_le _, rfl, hidx, hlen, h0⟩ ?_)
  rintro k a σ ⟨i, hi, rfl, h1, h2, hJ⟩
  refine Dwp.step hT (by simp [Q2, p2, d1]) fun K hK => ?_
  simp only [QB, Ql, p1, p2, p3, QK, dop, eval, h1, h2, QL, if_true, intCmp, Option.map_some, QG, QJ]
  refine hK _ _ ?_ rfl; clear hK K
  by_cases hlt : i < N
  · have hb : decide ((i : Int) < (N : Int)) = true := by simp; omega
    rw [hb]
    refine Dwp.seq (Dwp.condT (by simp [eval, Go.FA.upd]) (Dwp.skip ?_))
    refine Dwp.seq (Dwp.block ((round i a σ hlt h1 h2 hJ).mono fun e a σ hq => ?_))
    have fin : ∀ a σ, a idx = .lit (.int .i64 i) → a len = .lit (.int .i64 N) → J (i + 1) (Go.FA.upd (Go.FA.upd a t' (.lit (.int .i64 (i + 1 : Nat)))) idx (.lit (.int .i64 (i + 1 : Nat)))) { σ with n := σ.n + 2 } →
        Dwp P T E n (.region r2 #[o2, o3] false) (Ex.then (fun a' σ' => ∃ k', k' < N - i ∧ ∃ i, i ≤ N ∧ k' = N - i ∧ a' idx = .lit (.int .i64 i) ∧ a' len = .lit (.int .i64 N) ∧ J i a' σ') (Ex.inBlock b0 Q)) a σ := by
      intro a σ g1 g2 g3
      refine Dwp.reg hT (by simp [Q2, q2, s2, d2, d3]) fun K hK => ?_
      simp only [QB, Ql, q1, q2, q3, s1, s2, s3, QK, dop, eval, Qy, g1, QL, if_true, Option.map_some, QG, QJ, upd_same]
      refine hK _ _ ?_ rfl
      rw [Qh9 i (by omega)]
      exact ⟨N - (i + 1), by omega, i + 1, hlt, rfl, upd_same _ _ _, by rw [Qeu _ _ _ _ (Ne.symm n5), Qeu _ _ _ _ (Ne.symm n4)]; exact g2, g3⟩
    cases e with
    | normal => exact fin a σ hq.1 hq.2.1 hq.2.2
    | ret => exact hq
    | exit id =>
      simp only [Qi8] at hq
      simp only [Ex.inBlock]
      split at hq
      · next he => rw [if_pos he]; exact fin a σ hq.1 hq.2.1 hq.2.2
      · next he =>
        rw [if_neg he]
        simp only [Ex.then, Ex.inBlock]; exact hq
  · obtain rfl : i = N := by omega
    have hb : decide ((i : Int) < (i : Int)) = false := by simp
    rw [hb]
    refine Dwp.seq (Dwp.condF (by simp [eval, Go.FA.upd]) (Dwp.exit ?_))
    simp only [Ex.then, Ex.inBlock, if_true]
    exact after a σ h1 h2 hJ
end Go.FA
namespace Go.Proofs.Yt
open Go Go.FA Go.Proofs Go.RowKit
set_option linter.unusedSimpArgs false
set_option maxRecDepth 100000
mutual
def tsz : Tm → Nat
  | .mk _ _ _ _ ks r => 1 + Qc8 ks + Qc8 r
def Qc8 : List Tm → Nat
  | [] => 0
  | t :: l => tsz t + Qc8 l
end
theorem tsz_eq (t : Tm) : tsz t = 1 + Qc8 t.kids + Qc8 t.rest := by cases t; simp [tsz, Tm.kids, Tm.rest]
theorem Qhr (t : Tm) : 1 ≤ tsz t := by rw [tsz_eq]; omega
theorem QaF : ∀ (l : List Tm) (t : Tm), t ∈ l → tsz t ≤ Qc8 l
  | x :: l, t, h => by
    simp only [Qc8]
    rcases List.mem_cons.1 h with rfl | h
    · omega
    · have := QaF l t h; omega
theorem Qbk : ∀ l : List Tm, l.length ≤ Qc8 l
  | [] => by simp [Qc8]
  | x :: l => by have := Qbk l; have := Qhr x; simp [Qc8]; omega
mutual
theorem Qey : ∀ x : Tm, Qfd x x = true
  | .mk k n t s ks r => by simp [Qfd, beqB, QcC ks, QcC r]
theorem QcC : ∀ l : List Tm, Qca l l = true
  | [] => by simp [Qca]
  | x :: l => by simp [Qca, Qey x, QcC l]
end
theorem beqT_iff {x y : Tm} : Qfd x y = true ↔ x = y := ⟨QbU x y, fun h => h ▸ Qey x⟩
theorem Qeq {x y : List Tm} : Qca x y = true ↔ x = y := ⟨QbN x y, fun h => h ▸ QcC x⟩
theorem QaY {x y : Tm} (h : x ≠ y) : Qfd x y = false := by
  cases hb : Qfd x y
  · rfl
  · exact absurd (QbU _ _ hb) h
theorem Qc6 {x y : List Tm} (h : x ≠ y) : Qca x y = false := by
  cases hb : Qca x y
  · rfl
  · exact absurd (QbN _ _ hb) h
theorem Qjv (l : List Tm) : Enc.tms.enc l = .slice 6 .none (l.map Tm.cells) := rfl
theorem tmC (t : Tm) : Enc.tm.enc t = .agg t.cells := rfl
theorem Qah (t : Tm) : t.cells.take 6 = t.cells := List.take_of_length_le (by rw [Tm.cells_len]; omega)
def tlim : Nat := 1048576
def s36 (n : Nat) : Sp := sp (QR Enc.tm Enc.tm) Enc.bool (fun x => if tsz x.1 ≤ n ∧ tsz x.1 ≤ tlim ∧ tsz x.2 ≤ tlim then some (Qfd x.1 x.2) else none)
theorem take_eq_succT {α : Type} {l m : List α} {i : Nat} (hl : i < l.length) (hm : i < m.length) (h : l.take i = m.take i) (he : l[i] = m[i]) : l.take (i + 1) = m.take (i + 1) := by
  rw [List.take_succ_eq_append_getElem hl, List.take_succ_eq_append_getElem hm, h, he]
theorem Q5 (k n : Int) (x s : ByteArray) (ks r : List Tm) : (Tm.mk k n x s ks r).cells = [.lit (.int .i64 k), .lit (.int .i64 n), .lit (.string x), .lit (.string s), .slice 6 .none (ks.map Tm.cells), .slice 6 .none (r.map Tm.cells)] := by
  simp [Tm.cells, Tm.rows_map]
end Go.Proofs.Yt

namespace Go.Proofs.Yt
open Go Go.FA Go.Proofs Go.RowKit
set_option linter.unusedSimpArgs false
set_option maxRecDepth 100000
theorem setT (t : Tm) : setAt [DV.lit (.int .i64 0), .lit (.int .i64 0), .lit (.string ⟨#[]⟩), .lit (.string ⟨#[]⟩), .lit (.slice none 0 0), .lit (.slice none 0 0)] 0 t.cells = t.cells := by
  cases t; rfl
def s35 (n : Nat) : Sp := s36 n
def s90 (n : Nat) : Sp := sp (QZ Enc.tms Enc.tms Enc.fn) Enc.bool (fun x => if x.2.2 = 35 ∧ Qc8 x.1 ≤ n ∧ Qc8 x.1 ≤ tlim ∧ Qc8 x.2.1 ≤ tlim then some (Qca x.1 x.2.1) else none)
theorem Qj8 {n : Nat} (T : Tab) (hT : T 35 = some (s35 n)) (t u : Tm) (h1 : tsz t ≤ n) (h2 : tsz t ≤ tlim) (h3 : tsz u ≤ tlim) : dcall T 35 [.agg t.cells, .agg u.cells] = some (.lit (.bool (Qfd t u))) :=
  Qb6 (A := Enc.tm) (B := Enc.tm) (C := Enc.bool) hT (if_pos ⟨h1, h2, h3⟩)
theorem QjU {n : Nat} (T : Tab) (hT : T 90 = some (s90 n)) (l m : List Tm) (h1 : Qc8 l ≤ n) (h2 : Qc8 l ≤ tlim) (h3 : Qc8 m ≤ tlim) : dcall T 90 [.slice 6 .none (l.map Tm.cells), .slice 6 .none (m.map Tm.cells), .lit (.func (.func 35) #[] #[])] = some (.lit (.bool (Qca l m))) :=
  Qgx (A := Enc.tms) (B := Enc.tms) (C := Enc.fn) (D := Enc.bool) (u := 35) hT (if_pos ⟨rfl, h1, h2, h3⟩)
theorem c90 (n : Nat) (c35 : QD Tryz.prog 35 (s35 n)) : QD Tryz.prog 90 (s90 n) := by
  refine QD.of_sp (T := QF [(35, s35 n)]) Tryz.func90 rfl (Nat.le_of_ble_eq_true rfl) fun E xx y hy => ?_
  obtain ⟨l, m, u⟩ := xx
  simp only [] at hy
  split at hy
  case isFalse => cases hy
  next hlim =>
  obtain ⟨hu, hn, hl, hm⟩ := hlim
  cases hy
  subst hu
  have hl' : l.length ≤ 16777216 := by have := Qbk l; unfold tlim at hl; omega
  have hm' : m.length ≤ 16777216 := by have := Qbk m; unfold tlim at hm; omega
  have tT : QP Tryz.prog (QF [(35, s35 n)]) := .cons ⟨c35, Tryz.f35, _, Tryz.func35, rfl, by decide⟩ .nil
  have g36 : ∀ t ∈ l, ∀ u ∈ m, dcall (QF [(35, s35 n)]) 35 [.agg t.cells, .agg u.cells] = some (.lit (.bool (Qfd t u))) := fun t ht u hu =>
    Qj8 _ rfl t u (by have := QaF l t ht; omega) (by have := QaF l t ht; omega) (by have := QaF m u hu; omega)
  generalize QF [(35, s35 n)] = T at *
  refine Dwp.step tT rfl fun K hK => ?_
  simp [QB, QE, Ql, QK, own, Qm, dop, QJ, eval, Qy, QG, Ex.then, Ex.inBlock, upd, QL, Tag.isNN, Qn, intCmp, Qz, QA, TyI.agg, Qb, Qs, Qd, Qr, QM, QC, Qp, mapOf, Qx, Qo, Qe, Qk, Qg, Qu, DV.cells, Qt, Qh, Qq, Qv, rowsOf, Qw, Qf, Qa, Qa.go, Qi, Qj, Qc, goInt, init, QZ, QI.and, QI.one]
  refine hK _ _ ?_ rfl; clear hK K
  refine Dwp.seq ?_
  refine Dwp.step tT rfl fun K hK => ?_
  by_cases hlen : l.length = m.length
  case neg =>
    have hlen' : ((l.length : Int) != (m.length : Int)) = true := by simp; omega
    simp [QB, QE, Ql, QK, own, Qm, dop, QJ, eval, Qy, QG, Ex.then, Ex.inBlock, upd, QL, Tag.isNN, Qn, intCmp, Qz, QA, TyI.agg, Qb, Qs, Qd, Qr, QM, QC, Qp, mapOf, Qx, Qo, Qe, Qk, Qg, Qu, DV.cells, Qt, Qh, Qq, Qv, rowsOf, Qw, Qf, Qa, Qa.go, Qi, Qj, Qc, goInt, init, QaL, Qjv, hlen']
    refine hK _ _ ?_ rfl; clear hK K
    refine Dwp.condT (by simp [eval, upd]) ?_
    refine Dwp.step tT rfl fun K hK => ?_
    simp [QB, QE, Ql, QK, own, Qm, dop, QJ, eval, Qy, QG, Ex.then, Ex.inBlock, upd, QL, Tag.isNN, Qn, intCmp, Qz, QA, TyI.agg, Qb, Qs, Qd, Qr, QM, QC, Qp, mapOf, Qx, Qo, Qe, Qk, Qg, Qu, DV.cells, Qt, Qh, Qq, Qv, rowsOf, Qw, Qf, Qa, Qa.go, Qi, Qj, Qc, goInt]
    refine hK _ _ (Dwp.ret ?_) rfl
    have : Qca l m = false := Qc6 fun e => hlen (by rw [e])
    simp [Q4, QH, QX, frz, Q0, QY, Ex.then, upd, Enc.bool, this]
  simp [QB, QE, Ql, QK, own, Qm, dop, QJ, eval, Qy, QG, Ex.then, Ex.inBlock, upd, QL, Tag.isNN, Qn, intCmp, Qz, QA, TyI.agg, Qb, Qs, Qd, Qr, QM, QC, Qp, mapOf, Qx, Qo, Qe, Qk, Qg, Qu, DV.cells, Qt, Qh, Qq, Qv, rowsOf, Qw, Qf, Qa, Qa.go, Qi, Qj, Qc, goInt, init, QaL, Qjv, hlen]
  refine hK _ _ ?_ rfl; clear hK K
  refine Dwp.condF (by simp [eval, upd]) (Dwp.skip ?_)
  refine Dwp.seq ?_
  refine Dwp.step tT rfl fun K hK => ?_
  simp [QB, QE, Ql, QK, own, Qm, dop, QJ, eval, Qy, QG, Ex.then, Ex.inBlock, upd, QL, Tag.isNN, Qn, intCmp, Qz, QA, TyI.agg, Qb, Qs, Qd, Qr, QM, QC, Qp, mapOf, Qx, Qo, Qe, Qk, Qg, Qu, DV.cells, Qt, Qh, Qq, Qv, rowsOf, Qw, Qf, Qa, Qa.go, Qi, Qj, Qc, goInt, init, QaL, Qjv, hlen]
  refine hK _ _ ?_ rfl; clear hK K
  refine Dwp.range tT m.length (fun i a σ => a 1 = .slice 6 .none (m.map Tm.cells) ∧ a 2 = .lit (.func (.func 35) #[] #[]) ∧ a 15 = .slice 6 .none (l.map Tm.cells) ∧ l.take i = m.take i) ⟨rfl, rfl, rfl⟩ ⟨rfl, rfl, rfl⟩ ⟨rfl, rfl, rfl⟩ (by decide) (by decide) (by omega) (by simp [upd]) (by simp [upd]) ⟨by simp [upd, init, Qjv], by simp [upd, init, Enc.fn], by simp [upd, init, Qjv], by simp⟩ ?_ ?_
  · rintro i a σ hi hidx hlen2 ⟨k1, k2, k15, htk⟩
    have hil : i < l.length := by omega
    obtain ⟨o, ho⟩ : ∃ o, o = l[i] := ⟨_, rfl⟩
    obtain ⟨p, hp⟩ : ∃ p, p = m[i] := ⟨_, rfl⟩
    have g := g36 o (by rw [ho]; exact List.getElem_mem hil) p (by rw [hp]; exact List.getElem_mem hi)
    refine Dwp.step tT rfl fun K hK => ?_
    simp [QB, QE, Ql, QK, own, Qm, dop, QJ, eval, Qy, QG, Ex.then, Ex.inBlock, upd, QL, Tag.isNN, Qn, intCmp, Qz, QA, TyI.agg, Qb, Qs, Qd, Qr, QM, QC, Qp, mapOf, Qx, Qo, Qe, Qk, Qg, Qu, DV.cells, Qt, Qh, Qq, Qv, rowsOf, Qw, Qf, Qa, Qa.go, Qi, Qj, Qc, goInt, hidx, k15, QaL, Qar, hil, ← ho, setT, Tm.cells_len, Qah]
    refine hK _ _ ?_ rfl; clear hK K
    refine Dwp.step tT rfl fun K hK => ?_
    simp [QB, QE, Ql, QK, own, Qm, dop, QJ, eval, Qy, QG, Ex.then, Ex.inBlock, upd, QL, Tag.isNN, Qn, intCmp, Qz, QA, TyI.agg, Qb, Qs, Qd, Qr, QM, QC, Qp, mapOf, Qx, Qo, Qe, Qk, Qg, Qu, DV.cells, Qt, Qh, Qq, Qv, rowsOf, Qw, Qf, Qa, Qa.go, Qi, Qj, Qc, goInt, k1, QaL, Qar, hi, ← hp, setT, Tm.cells_len, Qah]
    refine hK _ _ ?_ rfl; clear hK K
    refine Dwp.step tT rfl fun K hK => ?_
    by_cases he : o = p
    · rw [beqT_iff.2 he] at g
      simp [QB, QE, Ql, QK, own, Qm, dop, QJ, eval, Qy, QG, Ex.then, Ex.inBlock, upd, QL, Tag.isNN, Qn, intCmp, Qz, QA, TyI.agg, Qb, Qs, Qd, Qr, QM, QC, Qp, mapOf, Qx, Qo, Qe, Qk, Qg, Qu, DV.cells, Qt, Qh, Qq, Qv, rowsOf, Qw, Qf, Qa, Qa.go, Qi, Qj, Qc, goInt, k2, Qar, g, Tm.cells_len, Qah]
      refine hK _ _ ?_ rfl
      refine Dwp.condF (by simp [eval, upd]) (Dwp.skip ?_)
      exact ⟨by simp [upd, hidx], by simp [upd, hlen2], by simp [upd, k1], by simp [upd, k2], by simp [upd, k15], take_eq_succT hil hi htk (by rw [← ho, ← hp]; exact he)⟩
    · rw [QaY he] at g
      simp [QB, QE, Ql, QK, own, Qm, dop, QJ, eval, Qy, QG, Ex.then, Ex.inBlock, upd, QL, Tag.isNN, Qn, intCmp, Qz, QA, TyI.agg, Qb, Qs, Qd, Qr, QM, QC, Qp, mapOf, Qx, Qo, Qe, Qk, Qg, Qu, DV.cells, Qt, Qh, Qq, Qv, rowsOf, Qw, Qf, Qa, Qa.go, Qi, Qj, Qc, goInt, k2, Qar, g, Tm.cells_len, Qah]
      refine hK _ _ ?_ rfl
      refine Dwp.condT (by simp [eval, upd]) ?_
      refine Dwp.step tT rfl fun K hK => ?_
      simp [QB, QE, Ql, QK, own, Qm, dop, QJ, eval, Qy, QG, Ex.then, Ex.inBlock, upd, QL, Tag.isNN, Qn, intCmp, Qz, QA, TyI.agg, Qb, Qs, Qd, Qr, QM, QC, Qp, mapOf, Qx, Qo, Qe, Qk, Qg, Qu, DV.cells, Qt, Qh, Qq, Qv, rowsOf, Qw, Qf, Qa, Qa.go, Qi, Qj, Qc, goInt]
      refine hK _ _ (Dwp.ret ?_) rfl
      have : Qca l m = false := Qc6 fun e => he (by subst e; rw [ho, hp])
      simp [Q4, QH, QX, frz, Q0, QY, Qi8, Ex.then, upd, Enc.bool, this]
  · rintro a σ hidx hlen2 ⟨k1, k2, k15, htk⟩
    have : l = m := by rwa [List.take_of_length_le (by omega), List.take_of_length_le (by omega)] at htk
    refine Dwp.step tT rfl fun K hK => ?_
    simp [QB, QE, Ql, QK, own, Qm, dop, QJ, eval, Qy, QG, Ex.then, Ex.inBlock, upd, QL, Tag.isNN, Qn, intCmp, Qz, QA, TyI.agg, Qb, Qs, Qd, Qr, QM, QC, Qp, mapOf, Qx, Qo, Qe, Qk, Qg, Qu, DV.cells, Qt, Qh, Qq, Qv, rowsOf, Qw, Qf, Qa, Qa.go, Qi, Qj, Qc, goInt]
    refine hK _ _ (Dwp.ret ?_) rfl
    simp [Q4, QH, QX, frz, Q0, QY, Ex.then, upd, Enc.bool, Qeq.2 this]
set_option maxHeartbeats 2000000 in
theorem c35 (n : Nat) (cB : QD Tryz.prog 90 (s90 n)) : QD Tryz.prog 35 (s35 (n + 1)) := by
  refine QD.of_sp (T := QF [(90, s90 n)]) Tryz.func35 rfl (Nat.le_of_ble_eq_true rfl) fun E xx y hy => ?_
  obtain ⟨⟨k, nn, x, s, ks, r⟩, ⟨k', nn', x', s', ks', r'⟩⟩ := xx
  simp only [] at hy
  split at hy
  case isFalse => cases hy
  next hlim =>
  simp only [tsz] at hlim
  obtain ⟨hn, hl, hm⟩ := hlim
  cases hy
  have tT : QP Tryz.prog (QF [(90, s90 n)]) := .cons ⟨cB, Tryz.f90, _, Tryz.func90, rfl, by decide⟩ .nil
  have g1 := QjU (QF [(90, s90 n)]) rfl ks ks' (by omega) (by omega) (by omega)
  have g2 := QjU (QF [(90, s90 n)]) rfl r r' (by omega) (by omega) (by omega)
  generalize QF [(90, s90 n)] = T at *
  have fin : ∀ (b : Bool) (a : Nat → DV) (σ : St), a 4 = .lit (.bool b) → Qfd (.mk k nn x s ks r) (.mk k' nn' x' s' ks' r') = b → Q4 Tryz.prog Tryz.f35.results Enc.bool (Qfd (.mk k nn x s ks r) (.mk k' nn' x' s' ks' r')) Ex.ret a σ := by
    intro b a σ h2 hb
    refine ⟨.inr rfl, .lit (.bool b), ?_, by simp [hb, Q4, QH, QX, frz, Q0, QY, Enc.bool]⟩
    show QH Tryz.prog σ a [ResultVar.tmp 4] = _
    simp [QH, QX, h2]
  simp only [QR, QI.and, QI.one, tmC, Q5]
  refine Dwp.step tT rfl fun K hK => ?_
  simp [QB, QE, Ql, QK, own, Qm, dop, QJ, eval, Qy, QG, Ex.then, Ex.inBlock, upd, QL, Tag.isNN, Qn, intCmp, Qz, QA, TyI.agg, Qb, Qs, Qd, Qr, QM, QC, Qp, mapOf, Qx, Qo, Qe, Qk, Qg, Qu, DV.cells, Qt, Qh, Qq, Qv, rowsOf, Qw, Qf, Qa, Qa.go, Qi, Qj, Qc, goInt, init, Q5]
  refine hK _ _ ?_ rfl; clear hK K
  refine Dwp.step tT rfl fun K hK => ?_
  repeat ((first | refine QG.stepD rfl rfl ?_ | refine QG.stepG rfl rfl rfl ?_ | refine QG.stepN rfl rfl ?_ | refine QG.stepGN rfl rfl rfl ?_); intro K1 hK1; simp [QW, QO, QK, dop, eval, Qy, upd, Qb, Qs, Qz, QA, TyI.agg, Qd, Qr, Qk, Qg, QC, QM, goInt, QL, intCmp, Qn, Tag.isNN, Qc, DV.cells, Qf, Qt, Qh, Qbp, ty3, ty9, QaL, Qar]; refine hK1 _ _ ?_; clear hK1 K1)
  by_cases h1 : k = k'
  case neg =>
    have h1n : (k == k') = false := by simpa using h1
    repeat ((first | refine QG.stepD rfl rfl ?_ | refine QG.stepG rfl rfl rfl ?_ | refine QG.stepN rfl rfl ?_ | refine QG.stepGN rfl rfl rfl ?_); intro K1 hK1; simp [QW, QO, QK, dop, eval, Qy, upd, Qb, Qs, Qz, QA, TyI.agg, Qd, Qr, Qk, Qg, QC, QM, goInt, QL, intCmp, Qn, Tag.isNN, Qc, DV.cells, Qf, Qt, Qh, Qbp, ty3, ty9, QaL, Qar, h1n]; refine hK1 _ _ ?_; clear hK1 K1)
    refine QG.done (hK _ _ (Dwp.ret ?_) rfl)
    exact fin false _ _ (by simp [upd]) (QaY fun e => h1 (by cases e; rfl))
  have h1p : (k == k') = true := by simpa using h1
  repeat ((first | refine QG.stepD rfl rfl ?_ | refine QG.stepG rfl rfl rfl ?_ | refine QG.stepN rfl rfl ?_ | refine QG.stepGN rfl rfl rfl ?_); intro K1 hK1; simp [QW, QO, QK, dop, eval, Qy, upd, Qb, Qs, Qz, QA, TyI.agg, Qd, Qr, Qk, Qg, QC, QM, goInt, QL, intCmp, Qn, Tag.isNN, Qc, DV.cells, Qf, Qt, Qh, Qbp, ty3, ty9, QaL, Qar, h1p]; refine hK1 _ _ ?_; clear hK1 K1)
  by_cases h2 : nn = nn'
  case neg =>
    have h2n : (nn == nn') = false := by simpa using h2
    repeat ((first | refine QG.stepD rfl rfl ?_ | refine QG.stepG rfl rfl rfl ?_ | refine QG.stepN rfl rfl ?_ | refine QG.stepGN rfl rfl rfl ?_); intro K1 hK1; simp [QW, QO, QK, dop, eval, Qy, upd, Qb, Qs, Qz, QA, TyI.agg, Qd, Qr, Qk, Qg, QC, QM, goInt, QL, intCmp, Qn, Tag.isNN, Qc, DV.cells, Qf, Qt, Qh, Qbp, ty3, ty9, QaL, Qar, h2n]; refine hK1 _ _ ?_; clear hK1 K1)
    refine QG.done (hK _ _ (Dwp.ret ?_) rfl)
    exact fin false _ _ (by simp [upd]) (QaY fun e => h2 (by cases e; rfl))
  have h2p : (nn == nn') = true := by simpa using h2
  repeat ((first | refine QG.stepD rfl rfl ?_ | refine QG.stepG rfl rfl rfl ?_ | refine QG.stepN rfl rfl ?_ | refine QG.stepGN rfl rfl rfl ?_); intro K1 hK1; simp [QW, QO, QK, dop, eval, Qy, upd, Qb, Qs, Qz, QA, TyI.agg, Qd, Qr, Qk, Qg, QC, QM, goInt, QL, intCmp, Qn, Tag.isNN, Qc, DV.cells, Qf, Qt, Qh, Qbp, ty3, ty9, QaL, Qar, h2p]; refine hK1 _ _ ?_; clear hK1 K1)
  by_cases h3 : x = x'
  case neg =>
    repeat ((first | refine QG.stepD rfl rfl ?_ | refine QG.stepG rfl rfl rfl ?_ | refine QG.stepN rfl rfl ?_ | refine QG.stepGN rfl rfl rfl ?_); intro K1 hK1; simp [QW, QO, QK, dop, eval, Qy, upd, Qb, Qs, Qz, QA, TyI.agg, Qd, Qr, Qk, Qg, QC, QM, goInt, QL, intCmp, Qn, Tag.isNN, Qc, DV.cells, Qf, Qt, Qh, Qbp, ty3, ty9, QaL, Qar, h3]; refine hK1 _ _ ?_; clear hK1 K1)
    refine QG.done (hK _ _ (Dwp.ret ?_) rfl)
    exact fin false _ _ (by simp [upd]) (QaY fun e => h3 (by cases e; rfl))
  repeat ((first | refine QG.stepD rfl rfl ?_ | refine QG.stepG rfl rfl rfl ?_ | refine QG.stepN rfl rfl ?_ | refine QG.stepGN rfl rfl rfl ?_); intro K1 hK1; simp [QW, QO, QK, dop, eval, Qy, upd, Qb, Qs, Qz, QA, TyI.agg, Qd, Qr, Qk, Qg, QC, QM, goInt, QL, intCmp, Qn, Tag.isNN, Qc, DV.cells, Qf, Qt, Qh, Qbp, ty3, ty9, QaL, Qar, h3]; refine hK1 _ _ ?_; clear hK1 K1)
  by_cases h4 : s = s'
  case neg =>
    repeat ((first | refine QG.stepD rfl rfl ?_ | refine QG.stepG rfl rfl rfl ?_ | refine QG.stepN rfl rfl ?_ | refine QG.stepGN rfl rfl rfl ?_); intro K1 hK1; simp [QW, QO, QK, dop, eval, Qy, upd, Qb, Qs, Qz, QA, TyI.agg, Qd, Qr, Qk, Qg, QC, QM, goInt, QL, intCmp, Qn, Tag.isNN, Qc, DV.cells, Qf, Qt, Qh, Qbp, ty3, ty9, QaL, Qar, h4]; refine hK1 _ _ ?_; clear hK1 K1)
    refine QG.done (hK _ _ (Dwp.ret ?_) rfl)
    exact fin false _ _ (by simp [upd]) (QaY fun e => h4 (by cases e; rfl))
  repeat ((first | refine QG.stepD rfl rfl ?_ | refine QG.stepG rfl rfl rfl ?_ | refine QG.stepN rfl rfl ?_ | refine QG.stepGN rfl rfl rfl ?_); intro K1 hK1; simp [QW, QO, QK, dop, eval, Qy, upd, Qb, Qs, Qz, QA, TyI.agg, Qd, Qr, Qk, Qg, QC, QM, goInt, QL, intCmp, Qn, Tag.isNN, Qc, DV.cells, Qf, Qt, Qh, Qbp, ty3, ty9, QaL, Qar, h4]; refine hK1 _ _ ?_; clear hK1 K1)
  by_cases h5 : ks = ks'
  case neg =>
    rw [Qc6 h5] at g1
    repeat ((first | refine QG.stepD rfl rfl ?_ | refine QG.stepG rfl rfl rfl ?_ | refine QG.stepN rfl rfl ?_ | refine QG.stepGN rfl rfl rfl ?_); intro K1 hK1; simp [QW, QO, QK, dop, eval, Qy, upd, Qb, Qs, Qz, QA, TyI.agg, Qd, Qr, Qk, Qg, QC, QM, goInt, QL, intCmp, Qn, Tag.isNN, Qc, DV.cells, Qf, Qt, Qh, Qbp, ty3, ty9, QaL, Qar, Qm, h3, h4, g1, g2]; refine hK1 _ _ ?_; clear hK1 K1)
    refine QG.done (hK _ _ (Dwp.ret ?_) rfl)
    exact fin false _ _ (by simp [upd]) (QaY fun e => h5 (by cases e; rfl))
  rw [Qeq.2 h5] at g1
  repeat ((first | refine QG.stepD rfl rfl ?_ | refine QG.stepG rfl rfl rfl ?_ | refine QG.stepN rfl rfl ?_ | refine QG.stepGN rfl rfl rfl ?_); intro K1 hK1; simp [QW, QO, QK, dop, eval, Qy, upd, Qb, Qs, Qz, QA, TyI.agg, Qd, Qr, Qk, Qg, QC, QM, goInt, QL, intCmp, Qn, Tag.isNN, Qc, DV.cells, Qf, Qt, Qh, Qbp, ty3, ty9, QaL, Qar, Qm, h3, h4, g1, g2]; refine hK1 _ _ ?_; clear hK1 K1)
  refine QG.done (hK _ _ (Dwp.ret ?_) rfl)
  exact fin (Qca r r') _ _ (by simp [upd, g2]) (by simp [Qfd, beqB, h1, h2, h3, h4, Qeq.2 h5])
theorem c35_0 : QD Tryz.prog 35 (s35 0) := by
  refine QD.of_sp (T := QF []) Tryz.func35 rfl (Nat.le_of_ble_eq_true rfl) fun E xx y hy => ?_
  obtain ⟨t, u⟩ := xx
  simp only [] at hy
  split at hy
  · next h => have := Qhr t; omega
  · cases hy
theorem QgP : ∀ n, QD Tryz.prog 35 (s35 n) ∧ QD Tryz.prog 90 (s90 n)
  | 0 => ⟨c35_0, c90 0 c35_0⟩
  | n + 1 => have h := c35 n (QgP n).2; ⟨h, c90 (n + 1) h⟩
theorem e35 : Go.FA.Good Tryz.prog (35, s35 tlim) := ⟨(QgP tlim).1, Tryz.f35, _, Tryz.func35, rfl, by decide⟩
end Go.Proofs.Yt






namespace Go.Proofs.Yt
open Go Go.FA Go.Proofs Go.RowKit
set_option linter.unusedSimpArgs false
set_option maxRecDepth 100000
mutual
def okT : Tm → Prop
  | .mk _ _ t s ks r => t.size ≤ lim ∧ s.size ≤ lim ∧ ks.length ≤ 16777216 ∧ r.length ≤ 16777216 ∧ Qgk ks ∧ Qgk r
def Qgk : List Tm → Prop
  | [] => True
  | t :: l => okT t ∧ Qgk l
end
theorem Qde : ∀ (l : List Tm) (t : Tm), Qgk l → t ∈ l → okT t
  | x :: l, t, h, hm => by
    simp only [Qgk] at h
    rcases List.mem_cons.1 hm with rfl | hm
    · exact h.1
    · exact Qde l t h.2 hm
def QbI (t s : ByteArray) : Int := 1 + ((t.size : Int) + (s.size : Int)).tdiv 50
theorem Qg7 (t s : ByteArray) : 1 ≤ QbI t s := by
  unfold QbI
  have : 0 ≤ ((t.size : Int) + (s.size : Int)).tdiv 50 := Int.tdiv_nonneg (by omega) (by omega)
  omega
theorem tcost_le (t s : ByteArray) (h1 : t.size ≤ lim) (h2 : s.size ≤ lim) : QbI t s ≤ 1 + 2 * lim := by
  unfold QbI
  rw [Int.tdiv_eq_ediv_of_nonneg (by omega)]
  unfold lim at *
  omega
mutual
def QdA : Tm → Int → Int → Int
  | .mk _ _ t s ks r, a, d => if a - QbI t s < 0 then -1 else if 80 < d + 1 then -1 else Qbe r (Qbe ks (a - QbI t s) (d + 1)) (d + 1)
def Qbe : List Tm → Int → Int → Int
  | [], a, _ => a
  | t :: l, a, d => if QdA t a d < 0 then -1 else Qbe l (QdA t a d) d
end
def Qat (l : List Tm) (a d : Int) : Int := if 80 < d then -1 else Qbe l a d
mutual
theorem partsT_bd : ∀ (t : Tm) (a d : Int), -1 ≤ a → -1 ≤ QdA t a d ∧ QdA t a d ≤ a
  | .mk _ _ t s ks r, a, d, h => by
    rw [QdA]
    split
    · omega
    · next hh =>
      split
      · omega
      · have h1 := QcE ks (a - QbI t s) (d + 1) (by omega)
        have h2 := QcE r _ (d + 1) h1.1
        have h3 := Qg7 t s
        omega
theorem QcE : ∀ (l : List Tm) (a d : Int), -1 ≤ a → -1 ≤ Qbe l a d ∧ Qbe l a d ≤ a
  | [], a, d, h => by rw [Qbe]; omega
  | t :: l, a, d, h => by
    rw [Qbe]
    have h1 := partsT_bd t a d h
    split
    · omega
    · have h2 := QcE l _ d h1.1
      omega
end
theorem QgL (l : List Tm) (a d : Int) (h : -1 ≤ a) : -1 ≤ Qat l a d ∧ Qat l a d ≤ a := by
  unfold Qat
  have := QcE l a d h
  split <;> omega
open Classical in
noncomputable def Qjw (n : Nat) : Sp := sp (QZ Enc.tms (Enc.int .i64) (Enc.int .i64)) (Enc.int .i64) (fun x => if Qc8 x.1 < n ∧ Qgk x.1 ∧ x.1.length ≤ 16777216 ∧ -1 ≤ x.2.1 ∧ x.2.1 ≤ 1099511627776 ∧ 0 ≤ x.2.2 ∧ x.2.2 ≤ 81 then some (Qat x.1 x.2.1 x.2.2) else none)
theorem call123 {n : Nat} (T : Tab) (hT : T 123 = some (Qjw n)) (l : List Tm) (a d : Int) (h1 : Qc8 l < n) (h2 : Qgk l) (h3 : l.length ≤ 16777216) (h4 : -1 ≤ a) (h5 : a ≤ 1099511627776) (h6 : 0 ≤ d) (h7 : d ≤ 81) : dcall T 123 [.slice 6 .none (l.map Tm.cells), .lit (.int .i64 a), .lit (.int .i64 d)] = some (.lit (.int .i64 (Qat l a d))) :=
  Qgx (A := Enc.tms) (B := Enc.int .i64) (C := Enc.int .i64) (D := Enc.int .i64) hT (if_pos ⟨h1, h2, h3, h4, h5, h6, h7⟩)
theorem Qi3 {n : Int} (h0 : -4611686018427387904 < n) (h : n < 4611686018427387904) : IntKind.i64.wrap n = n := by
  simp [IntKind.wrap, IntKind.bits, IntKind.signed]; omega
theorem partsT_eq (k n : Int) (t s : ByteArray) (ks r : List Tm) (a d : Int) (h : ¬ a - QbI t s < 0) : QdA (.mk k n t s ks r) a d = Qat r (Qat ks (a - QbI t s) (d + 1)) (d + 1) := by
  rw [QdA, if_neg h]
  unfold Qat
  split <;> rfl
theorem partsT_neg (k n : Int) (t s : ByteArray) (ks r : List Tm) (a d : Int) (h : a - QbI t s < 0) : QdA (.mk k n t s ks r) a d = -1 := by
  rw [QdA, if_pos h]
set_option maxHeartbeats 2000000 in
theorem c123 (n : Nat) (cB : QD Tryz.prog 123 (Qjw n)) : QD Tryz.prog 123 (Qjw (n + 1)) := by
  refine QD.of_sp (T := QF [(123, Qjw n)]) Tryz.func123 rfl (Nat.le_of_ble_eq_true rfl) fun E xx y hy => ?_
  obtain ⟨l, a0, d⟩ := xx
  simp only [] at hy
  split at hy
  case isFalse => cases hy
  next hlim =>
  obtain ⟨hn, hok, hl, ha1, ha2, hd1, hd2⟩ := hlim
  cases hy
  have tT : QP Tryz.prog (QF [(123, Qjw n)]) := .cons ⟨cB, Tryz.f123, _, Tryz.func123, rfl, by decide⟩ .nil
  have gc := fun (l : List Tm) (a d : Int) => call123 (n := n) (QF [(123, Qjw n)]) rfl l a d
  generalize QF [(123, Qjw n)] = T at *
  refine Dwp.step tT rfl fun K hK => ?_
  simp [QB, QE, Ql, QK, own, Qm, dop, QJ, eval, Qy, QG, Ex.then, Ex.inBlock, upd, QL, Tag.isNN, Qn, intCmp, Qz, QA, TyI.agg, Qb, Qs, Qd, Qr, QM, QC, Qp, mapOf, Qx, Qo, Qe, Qk, Qg, Qu, DV.cells, Qt, Qh, Qq, Qv, rowsOf, Qw, Qf, Qa, Qa.go, Qi, Qj, Qc, goInt, init, QZ, QI.and, QI.one, Enc.int]
  refine hK _ _ ?_ rfl; clear hK K
  refine Dwp.seq ?_
  refine Dwp.step tT rfl fun K hK => ?_
  by_cases hd : 80 < d
  · simp [QB, QE, Ql, QK, own, Qm, dop, QJ, eval, Qy, QG, Ex.then, Ex.inBlock, upd, QL, Tag.isNN, Qn, intCmp, Qz, QA, TyI.agg, Qb, Qs, Qd, Qr, QM, QC, Qp, mapOf, Qx, Qo, Qe, Qk, Qg, Qu, DV.cells, Qt, Qh, Qq, Qv, rowsOf, Qw, Qf, Qa, Qa.go, Qi, Qj, Qc, goInt, ty3, init, hd]
    refine hK _ _ ?_ rfl; clear hK K
    refine Dwp.condT (by simp [eval, upd]) ?_
    refine Dwp.step tT rfl fun K hK => ?_
    simp [QB, QE, Ql, QK, own, Qm, dop, QJ, eval, Qy, QG, Ex.then, Ex.inBlock, upd, QL, Tag.isNN, Qn, intCmp, Qz, QA, TyI.agg, Qb, Qs, Qd, Qr, QM, QC, Qp, mapOf, Qx, Qo, Qe, Qk, Qg, Qu, DV.cells, Qt, Qh, Qq, Qv, rowsOf, Qw, Qf, Qa, Qa.go, Qi, Qj, Qc, goInt]
    refine hK _ _ (Dwp.ret ?_) rfl
    simp [Q4, QH, QX, frz, Q0, QY, Ex.then, Ex.inBlock, upd, Enc.int, Qat, hd]
  simp [QB, QE, Ql, QK, own, Qm, dop, QJ, eval, Qy, QG, Ex.then, Ex.inBlock, upd, QL, Tag.isNN, Qn, intCmp, Qz, QA, TyI.agg, Qb, Qs, Qd, Qr, QM, QC, Qp, mapOf, Qx, Qo, Qe, Qk, Qg, Qu, DV.cells, Qt, Qh, Qq, Qv, rowsOf, Qw, Qf, Qa, Qa.go, Qi, Qj, Qc, goInt, ty3, init, hd]
  refine hK _ _ ?_ rfl; clear hK K
  refine Dwp.condF (by simp [eval, upd]) (Dwp.skip ?_)
  refine Dwp.seq ?_
  refine Dwp.step tT rfl fun K hK => ?_
  simp [QB, QE, Ql, QK, own, Qm, dop, QJ, eval, Qy, QG, Ex.then, Ex.inBlock, upd, QL, Tag.isNN, Qn, intCmp, Qz, QA, TyI.agg, Qb, Qs, Qd, Qr, QM, QC, Qp, mapOf, Qx, Qo, Qe, Qk, Qg, Qu, DV.cells, Qt, Qh, Qq, Qv, rowsOf, Qw, Qf, Qa, Qa.go, Qi, Qj, Qc, goInt, init, QaL, Qjv]
  refine hK _ _ ?_ rfl; clear hK K
  refine Dwp.range tT l.length (fun i a σ => ∃ b : Int, -1 ≤ b ∧ b ≤ 1099511627776 ∧ a 1 = .lit (.int .i64 b) ∧ a 2 = .lit (.int .i64 d) ∧ a 11 = .slice 6 .none (l.map Tm.cells) ∧ Qbe l a0 d = Qbe (l.drop i) b d) ⟨rfl, rfl, rfl⟩ ⟨rfl, rfl, rfl⟩ ⟨rfl, rfl, rfl⟩ (by decide) (by decide) (by omega) (by simp [upd]) (by simp [upd]) ⟨a0, ha1, ha2, by simp [upd, init], by simp [upd, init], by simp [upd, init, Qjv], by simp⟩ ?_ ?_
  · rintro i a σ hi hidx hlen2 ⟨b, hb1, hb2, k1, k2, k11, hc⟩
    obtain ⟨o, ho⟩ : ∃ o, o = l[i] := ⟨_, rfl⟩
    have hom : o ∈ l := by rw [ho]; exact List.getElem_mem hi
    have hz := QaF l o hom
    have hko := Qde l o hok hom
    rw [List.drop_eq_getElem_cons hi, ← ho, Qbe] at hc
    obtain ⟨k, nn, x, s, ks, r⟩ := o
    rw [tsz] at hz
    rw [okT] at hko
    obtain ⟨hx, hs, hks, hr, oks, okr⟩ := hko
    have hp := Qg7 x s
    have hq := tcost_le x s hx hs
    unfold lim at hx hs hq
    have w1 : IntKind.i64.wrap ((x.size : Int) + (s.size : Int)) = (x.size : Int) + (s.size : Int) := Qi3 (by omega) (by omega)
    have hcost : QbI x s = 1 + ((x.size : Int) + (s.size : Int)).tdiv 50 := rfl
    have w2 : IntKind.i64.wrap (((x.size : Int) + (s.size : Int)).tdiv 50) = ((x.size : Int) + (s.size : Int)).tdiv 50 := Qi3 (by omega) (by omega)
    have w3 : IntKind.i64.wrap (1 + ((x.size : Int) + (s.size : Int)).tdiv 50) = QbI x s := by rw [hcost]; exact Qi3 (by omega) (by omega)
    have w4 : IntKind.i64.wrap (b - QbI x s) = b - QbI x s := Qi3 (by omega) (by omega)
    have w5 : IntKind.i64.wrap (d + 1) = d + 1 := Qi3 (by omega) (by omega)
    refine Dwp.step tT rfl fun K hK => ?_
    simp [QB, QE, Ql, QK, own, Qm, dop, QJ, eval, Qy, QG, Ex.then, Ex.inBlock, upd, QL, Tag.isNN, Qn, intCmp, Qz, QA, TyI.agg, Qb, Qs, Qd, Qr, QM, QC, Qp, mapOf, Qx, Qo, Qe, Qk, Qg, Qu, DV.cells, Qt, Qh, Qq, Qv, rowsOf, Qw, Qf, Qa, Qa.go, Qi, Qj, Qc, goInt, hidx, k11, QaL, Qar, hi, ← ho, setT, Tm.cells_len, Qah]
    refine hK _ _ ?_ rfl; clear hK K
    refine Dwp.step tT rfl fun K hK => ?_
    simp [QB, QE, Ql, QK, own, Qm, dop, QJ, eval, Qy, QG, Ex.then, Ex.inBlock, upd, QL, Tag.isNN, Qn, intCmp, Qz, QA, TyI.agg, Qb, Qs, Qd, Qr, QM, QC, Qp, mapOf, Qx, Qo, Qe, Qk, Qg, Qu, DV.cells, Qt, Qh, Qq, Qv, rowsOf, Qw, Qf, Qa, Qa.go, Qi, Qj, Qc, goInt, k1, ty9, ty3, Qar, Qe8, Q5, w1, w2, w3, w4]
    refine hK _ _ ?_ rfl; clear hK K
    refine Dwp.seq ?_
    refine Dwp.step tT rfl fun K hK => ?_
    by_cases hneg : b - QbI x s < 0
    · simp [QB, QE, Ql, QK, own, Qm, dop, QJ, eval, Qy, QG, Ex.then, Ex.inBlock, upd, QL, Tag.isNN, Qn, intCmp, Qz, QA, TyI.agg, Qb, Qs, Qd, Qr, QM, QC, Qp, mapOf, Qx, Qo, Qe, Qk, Qg, Qu, DV.cells, Qt, Qh, Qq, Qv, rowsOf, Qw, Qf, Qa, Qa.go, Qi, Qj, Qc, goInt, ty3, hneg]
      refine hK _ _ ?_ rfl; clear hK K
      refine Dwp.condT (by simp [eval, upd]) ?_
      refine Dwp.step tT rfl fun K hK => ?_
      simp [QB, QE, Ql, QK, own, Qm, dop, QJ, eval, Qy, QG, Ex.then, Ex.inBlock, upd, QL, Tag.isNN, Qn, intCmp, Qz, QA, TyI.agg, Qb, Qs, Qd, Qr, QM, QC, Qp, mapOf, Qx, Qo, Qe, Qk, Qg, Qu, DV.cells, Qt, Qh, Qq, Qv, rowsOf, Qw, Qf, Qa, Qa.go, Qi, Qj, Qc, goInt]
      refine hK _ _ (Dwp.ret ?_) rfl
      rw [partsT_neg _ _ _ _ _ _ _ _ hneg] at hc
      simp at hc
      simp [Q4, QH, QX, frz, Q0, QY, Qi8, Ex.then, Ex.inBlock, upd, Enc.int, Qat, hd, hc]
    rw [partsT_eq _ _ _ _ _ _ _ _ hneg] at hc
    have q1 := QgL ks (b - QbI x s) (d + 1) (by omega)
    have q2 := QgL r (Qat ks (b - QbI x s) (d + 1)) (d + 1) (by omega)
    have g1 := gc ks (b - QbI x s) (d + 1) (by omega) oks hks (by omega) (by omega) (by omega) (by omega)
    have g2 := gc r (Qat ks (b - QbI x s) (d + 1)) (d + 1) (by omega) okr hr (by omega) (by omega) (by omega) (by omega)
    generalize Qat r (Qat ks (b - QbI x s) (d + 1)) (d + 1) = v at *
    generalize Qat ks (b - QbI x s) (d + 1) = u at *
    simp [QB, QE, Ql, QK, own, Qm, dop, QJ, eval, Qy, QG, Ex.then, Ex.inBlock, upd, QL, Tag.isNN, Qn, intCmp, Qz, QA, TyI.agg, Qb, Qs, Qd, Qr, QM, QC, Qp, mapOf, Qx, Qo, Qe, Qk, Qg, Qu, DV.cells, Qt, Qh, Qq, Qv, rowsOf, Qw, Qf, Qa, Qa.go, Qi, Qj, Qc, goInt, ty3, hneg]
    refine hK _ _ ?_ rfl; clear hK K
    refine Dwp.condF (by simp [eval, upd]) (Dwp.skip ?_)
    refine Dwp.step tT rfl fun K hK => ?_
    simp [QB, QE, Ql, QK, own, Qm, dop, QJ, eval, Qy, QG, Ex.then, Ex.inBlock, upd, QL, Tag.isNN, Qn, intCmp, Qz, QA, TyI.agg, Qb, Qs, Qd, Qr, QM, QC, Qp, mapOf, Qx, Qo, Qe, Qk, Qg, Qu, DV.cells, Qt, Qh, Qq, Qv, rowsOf, Qw, Qf, Qa, Qa.go, Qi, Qj, Qc, goInt, k2, QaL, Qar, ty3, Q5, w5, g1]
    refine hK _ _ ?_ rfl; clear hK K
    refine Dwp.step tT rfl fun K hK => ?_
    simp [QB, QE, Ql, QK, own, Qm, dop, QJ, eval, Qy, QG, Ex.then, Ex.inBlock, upd, QL, Tag.isNN, Qn, intCmp, Qz, QA, TyI.agg, Qb, Qs, Qd, Qr, QM, QC, Qp, mapOf, Qx, Qo, Qe, Qk, Qg, Qu, DV.cells, Qt, Qh, Qq, Qv, rowsOf, Qw, Qf, Qa, Qa.go, Qi, Qj, Qc, goInt, k2, QaL, Qar, ty3, Q5, w5, g2]
    refine hK _ _ ?_ rfl; clear hK K
    refine Dwp.step tT rfl fun K hK => ?_
    by_cases hv : v < 0
    · simp [QB, QE, Ql, QK, own, Qm, dop, QJ, eval, Qy, QG, Ex.then, Ex.inBlock, upd, QL, Tag.isNN, Qn, intCmp, Qz, QA, TyI.agg, Qb, Qs, Qd, Qr, QM, QC, Qp, mapOf, Qx, Qo, Qe, Qk, Qg, Qu, DV.cells, Qt, Qh, Qq, Qv, rowsOf, Qw, Qf, Qa, Qa.go, Qi, Qj, Qc, goInt, ty3, hv]
      refine hK _ _ ?_ rfl; clear hK K
      refine Dwp.condT (by simp [eval, upd]) ?_
      refine Dwp.step tT rfl fun K hK => ?_
      simp [QB, QE, Ql, QK, own, Qm, dop, QJ, eval, Qy, QG, Ex.then, Ex.inBlock, upd, QL, Tag.isNN, Qn, intCmp, Qz, QA, TyI.agg, Qb, Qs, Qd, Qr, QM, QC, Qp, mapOf, Qx, Qo, Qe, Qk, Qg, Qu, DV.cells, Qt, Qh, Qq, Qv, rowsOf, Qw, Qf, Qa, Qa.go, Qi, Qj, Qc, goInt]
      refine hK _ _ (Dwp.ret ?_) rfl
      simp [hv] at hc
      simp [Q4, QH, QX, frz, Q0, QY, Qi8, Ex.then, Ex.inBlock, upd, Enc.int, Qat, hd, hc]
    · simp [QB, QE, Ql, QK, own, Qm, dop, QJ, eval, Qy, QG, Ex.then, Ex.inBlock, upd, QL, Tag.isNN, Qn, intCmp, Qz, QA, TyI.agg, Qb, Qs, Qd, Qr, QM, QC, Qp, mapOf, Qx, Qo, Qe, Qk, Qg, Qu, DV.cells, Qt, Qh, Qq, Qv, rowsOf, Qw, Qf, Qa, Qa.go, Qi, Qj, Qc, goInt, ty3, hv]
      refine hK _ _ ?_ rfl; clear hK K
      refine Dwp.condF (by simp [eval, upd]) (Dwp.skip ?_)
      rw [if_neg hv] at hc
      exact ⟨by simp [upd, hidx], by simp [upd, hlen2], v, by omega, by omega, by simp [upd], by simp [upd, k2], by simp [upd, k11], hc⟩
  · rintro a σ hidx hlen2 ⟨b, hb1, hb2, k1, k2, k11, hc⟩
    rw [List.drop_eq_nil_of_le (Nat.le_refl _), Qbe] at hc
    refine Dwp.step tT rfl fun K hK => ?_
    simp [QB, QE, Ql, QK, own, Qm, dop, QJ, eval, Qy, QG, Ex.then, Ex.inBlock, upd, QL, Tag.isNN, Qn, intCmp, Qz, QA, TyI.agg, Qb, Qs, Qd, Qr, QM, QC, Qp, mapOf, Qx, Qo, Qe, Qk, Qg, Qu, DV.cells, Qt, Qh, Qq, Qv, rowsOf, Qw, Qf, Qa, Qa.go, Qi, Qj, Qc, goInt, k1]
    refine hK _ _ (Dwp.ret ?_) rfl
    simp [Q4, QH, QX, frz, Q0, QY, Ex.then, Ex.inBlock, upd, Enc.int, Qat, hd, hc]
theorem c123_0 : QD Tryz.prog 123 (Qjw 0) := by
  refine QD.of_sp (T := QF []) Tryz.func123 rfl (Nat.le_of_ble_eq_true rfl) fun E xx y hy => ?_
  obtain ⟨t, u⟩ := xx
  simp only [] at hy
  split at hy
  · next h => omega
  · cases hy
theorem parts_all : ∀ n, QD Tryz.prog 123 (Qjw n)
  | 0 => c123_0
  | n + 1 => c123 n (parts_all n)
end Go.Proofs.Yt
namespace Go.Proofs.Yt
open Go Go.FA Go.Proofs Go.RowKit Go.ChangeShapes
open YtfpejlbfdpeofaaGreatDoor
set_option linter.unusedSimpArgs false
set_option maxRecDepth 100000
theorem bulk_leT {H : Type} {l : List (DataW H)} (hk : Rows.uptoSmall H l = true) : Rows.uptoBulkAll l ≤ 1048576 := of_decide_eq_true hk
mutual
theorem QjV : ∀ t : Tm, tsz t ≤ szTm t
  | .mk k n x s ks r => by have := Qdj ks; have := Qdj r; simp only [tsz, szTm]; omega
theorem Qdj : ∀ l : List Tm, Qc8 l ≤ Qfg l
  | [] => by simp [Qc8, Qfg]
  | t :: l => by have := QjV t; have := Qdj l; simp only [Qc8, Qfg]; omega
end
mutual
theorem Qj0 : ∀ t : Tm, szTm t ≤ 1048576 → okT t
  | .mk k n x s ks r, h => by
    simp only [szTm] at h
    have h1 := Qhf ks (by omega)
    have h2 := Qhf r (by omega)
    have h3 := Qdj ks; have h4 := Qbk ks; have h5 := Qdj r; have h6 := Qbk r
    simp only [okT]
    unfold lim
    exact ⟨by omega, by omega, by omega, by omega, h1, h2⟩
theorem Qhf : ∀ l : List Tm, Qfg l ≤ 1048576 → Qgk l
  | [], _ => by simp [Qgk]
  | t :: l, h => by
    simp only [Qfg] at h
    exact ⟨Qj0 t (by omega), Qhf l (by omega)⟩
end
theorem Qke {t : Tm} (h : szTm t ≤ 1048576) : okT t ∧ tsz t ≤ tlim := ⟨Qj0 t h, by have := QjV t; unfold tlim; omega⟩
abbrev laidL : List (String × DataW Unit) := [("math/bits.deBruijn32tab", Rows.laid_math_bits_deBruijn32tab), ("math/bits.deBruijn64tab", Rows.laid_math_bits_deBruijn64tab), ("internal/strconv.uint64pow10", Rows.laid_internal_strconv_uint64pow10)]
theorem gPow : Tryz.prog.globalNamed "internal/strconv.uint64pow10" = some 0 := by kernel_rfl
theorem gPowType : (Tryz.prog.globals[0]?).map (·.type) = some 270 := by kernel_rfl
theorem under270 : Tryz.prog.underlying 270 = some (.array 20 218) := by kernel_rfl
theorem under218 : Tryz.prog.underlying 218 = some (.int .u64) := by kernel_rfl
theorem cells218 : Tryz.prog.cellsOf 218 = 1 := by kernel_rfl
theorem cells270 : Tryz.prog.cellsOf 270 = 20 := by kernel_rfl
theorem glob_of_laid {W : World} (h : laidMet Tryz.prog laidL W) : Qit (Qdf W) W := by
  obtain ⟨ps, ⟨_, _, _, _, _, _, _, _, _, _, ⟨_, _, _, _, _, _, _, _, _, _, ⟨g, t, cs, fuel, p, q, hg, ht, hvar, hd, _, _⟩, _⟩, _⟩, _⟩ := h
  obtain rfl := Option.some.inj (gPow.symm.trans hg)
  obtain rfl := Option.some.inj (gPowType.symm.trans ht)
  have hcs := Lib.cells_of_tab (zs := Lib.pow10Tab) (k := .u64) under270 under218 cells218 cells270 hd
  unfold World.var? at hvar
  rw [gPow] at hvar
  simp only [Option.bind_some] at hvar
  intro p' hp'
  have hp2 : p' ∈ [((0 : Nat), Lib.pow10Tab.map fun z => Value.int .u64 z)] := hp'
  simp only [List.mem_singleton] at hp2
  subst hp2
  split at hvar
  · next cs' e f hheap =>
    simp only [Option.some.injEq] at hvar
    subst hvar
    refine ⟨?_, e, f, ?_⟩
    · show 0 < W.heap.size
      rcases Nat.lt_or_ge 0 W.heap.size with q | q
      · exact q
      · rw [Array.getElem?_eq_none q] at hheap; cases hheap
    · simp only []
      rw [← hcs]; simpa using hheap
  · cases hvar
end Go.Proofs.Yt
namespace Go.Proofs.Yt
open Go Go.FA Go.Proofs Go.RowKit Go.ChangeShapes
open YtfpejlbfdpeofaaGreatDoor
set_option maxRecDepth 100000
theorem Qfq : Tryz.prog.readableRec 30 = true := by kernel_rfl
theorem QiU : 30 < Tryz.prog.types.size := of_decide_eq_true (by kernel_rfl)
def valsOf : DataW Unit → Array Value
  | .agg l => (l.map fun d => match d with | .lit (.int k n) => Value.int k n | _ => Value.int .i64 0).toArray
  | _ => #[]
def setCells (x : Array Value) : Obj → Obj
  | .cells _ t fz => .cells x t fz
  | o => o
noncomputable def laidWorld (os : Os) : World :=
  { World.holding Tryz.prog os ⟨#[], #[], []⟩ with heap := (((World.holding Tryz.prog os ⟨#[], #[], []⟩).heap.modify 0 (setCells (valsOf Rows.laid_internal_strconv_uint64pow10))).modify 2 (setCells (valsOf Rows.laid_math_bits_deBruijn32tab))).modify 3 (setCells (valsOf Rows.laid_math_bits_deBruijn64tab)) }
end Go.Proofs.Yt
namespace Go.Proofs.Yt
open Go Go.FA Go.Proofs Go.RowKit
set_option linter.unusedSimpArgs false
set_option maxRecDepth 100000
open Classical in
noncomputable def s123a : Sp := sp (QZ Enc.tms (Enc.int .i64) (Enc.int .i64)) (Enc.int .i64) (fun x => if Qgk x.1 ∧ x.1.length ≤ 16777216 ∧ -1 ≤ x.2.1 ∧ x.2.1 ≤ 1099511627776 ∧ 0 ≤ x.2.2 ∧ x.2.2 ≤ 81 then some (Qat x.1 x.2.1 x.2.2) else none)
theorem c123a : QD Tryz.prog 123 s123a := by
  intro args r hr
  unfold s123a sp at hr
  cases hd : (QZ Enc.tms (Enc.int .i64) (Enc.int .i64)).dec args with
  | none => simp [hd] at hr
  | some x =>
    refine parts_all (Qc8 x.1 + 1) args r ?_
    unfold Qjw sp
    rw [hd] at hr ⊢
    simp only [Option.bind_some] at hr ⊢
    split at hr
    · next h => rw [if_pos ⟨by omega, h⟩]; exact hr
    · simp at hr
theorem e123a : Go.FA.Good Tryz.prog (123, s123a) := ⟨c123a, Tryz.f123, _, Tryz.func123, rfl, by decide⟩
theorem call123a (T : Tab) (hT : T 123 = some s123a) (l : List Tm) (a d : Int) (h2 : Qgk l) (h3 : l.length ≤ 16777216) (h4 : -1 ≤ a) (h5 : a ≤ 1099511627776) (h6 : 0 ≤ d) (h7 : d ≤ 81) : dcall T 123 [.slice 6 .none (l.map Tm.cells), .lit (.int .i64 a), .lit (.int .i64 d)] = some (.lit (.int .i64 (Qat l a d))) :=
  Qgx (A := Enc.tms) (B := Enc.int .i64) (C := Enc.int .i64) (D := Enc.int .i64) hT (if_pos ⟨h2, h3, h4, h5, h6, h7⟩)
open Classical in
noncomputable def s73 : Sp := sp (QR (Enc.int .i64) Enc.tms) Enc.bool (fun x => if Qgk x.2 ∧ x.2.length ≤ 16777216 ∧ -1 ≤ x.1 ∧ x.1 ≤ 1099511627776 then some (decide (0 ≤ Qat x.2 x.1 0)) else none)
theorem call73 (T : Tab) (hT : T 73 = some s73) (a : Int) (l : List Tm) (h2 : Qgk l) (h3 : l.length ≤ 16777216) (h4 : -1 ≤ a) (h5 : a ≤ 1099511627776) : dcall T 73 [.lit (.int .i64 a), .slice 6 .none (l.map Tm.cells)] = some (.lit (.bool (decide (0 ≤ Qat l a 0)))) :=
  Qb6 (A := Enc.int .i64) (B := Enc.tms) (C := Enc.bool) hT (if_pos ⟨h2, h3, h4, h5⟩)
theorem c73 : QD Tryz.prog 73 s73 := by
  refine QD.of_sp (T := QF [(123, s123a)]) Tryz.func73 rfl (Nat.le_of_ble_eq_true rfl) fun E xx y hy => ?_
  obtain ⟨a, l⟩ := xx
  simp only [] at hy
  split at hy
  case isFalse => cases hy
  next hlim =>
  obtain ⟨hok, hl, h1, h2⟩ := hlim
  cases hy
  have tT : QP Tryz.prog (QF [(123, s123a)]) := .cons e123a .nil
  have g := call123a (QF [(123, s123a)]) rfl l a 0 hok hl h1 h2 (by omega) (by omega)
  generalize QF [(123, s123a)] = T at *
  refine Dwp.step tT rfl fun K hK => ?_
  simp [QB, QE, Ql, QK, own, Qm, dop, QJ, eval, Qy, QG, Ex.then, Ex.inBlock, upd, QL, Tag.isNN, Qn, intCmp, Qz, QA, TyI.agg, Qb, Qs, Qd, Qr, QM, QC, Qp, mapOf, Qx, Qo, Qe, Qk, Qg, Qu, DV.cells, Qt, Qh, Qq, Qv, rowsOf, Qw, Qf, Qa, Qa.go, Qi, Qj, Qc, goInt, init, QR, QI.and, QI.one, Enc.int]
  refine hK _ _ ?_ rfl; clear hK K
  refine Dwp.step tT rfl fun K hK => ?_
  simp [QB, QE, Ql, QK, own, Qm, dop, QJ, eval, Qy, QG, Ex.then, Ex.inBlock, upd, QL, Tag.isNN, Qn, intCmp, Qz, QA, TyI.agg, Qb, Qs, Qd, Qr, QM, QC, Qp, mapOf, Qx, Qo, Qe, Qk, Qg, Qu, DV.cells, Qt, Qh, Qq, Qv, rowsOf, Qw, Qf, Qa, Qa.go, Qi, Qj, Qc, goInt, init, Qjv, ty3, g]
  refine hK _ _ (Dwp.ret ?_) rfl
  simp [Q4, QH, QX, frz, Q0, QY, Ex.then, upd, Enc.bool]
theorem e73 : Go.FA.Good Tryz.prog (73, s73) := ⟨c73, Tryz.f73, _, Tryz.func73, rfl, by decide⟩
open Classical in
noncomputable def s21 : Sp := sp (QS Enc.tms) Enc.bool (fun l => if Qgk l ∧ l.length ≤ 16777216 then some (decide (0 ≤ Qat l 2600 0)) else none)
theorem QjW (T : Tab) (hT : T 21 = some s21) (t : Tm) (h : okT t) : dcall T 21 [.slice 6 .full [t.cells]] = some (.lit (.bool (decide (0 ≤ Qat [t] 2600 0)))) := by
  have h1 : Qgk [t] := by simp [Qgk, h]
  have hd : (QS Enc.tms).dec [.slice 6 .full [t.cells]] = some [t] := by
    simp [QS, QI.one, Enc.tms, Enc.slice, Qai, QI.tm, Tm.dec_cells]
  simp [dcall, hT, s21, sp, hd, h1, Enc.bool]
theorem c21 : QD Tryz.prog 21 s21 := by
  refine QD.of_sp (T := QF [(73, s73)]) Tryz.func21 rfl (Nat.le_of_ble_eq_true rfl) fun E l y hy => ?_
  split at hy
  case isFalse => cases hy
  next hlim =>
  obtain ⟨hok, hl⟩ := hlim
  cases hy
  have tT : QP Tryz.prog (QF [(73, s73)]) := .cons e73 .nil
  have g := call73 (QF [(73, s73)]) rfl 2600 l hok hl (by omega) (by omega)
  generalize QF [(73, s73)] = T at *
  refine Dwp.step tT rfl fun K hK => ?_
  simp [QB, QE, Ql, QK, own, Qm, dop, QJ, eval, Qy, QG, Ex.then, Ex.inBlock, upd, QL, Tag.isNN, Qn, intCmp, Qz, QA, TyI.agg, Qb, Qs, Qd, Qr, QM, QC, Qp, mapOf, Qx, Qo, Qe, Qk, Qg, Qu, DV.cells, Qt, Qh, Qq, Qv, rowsOf, Qw, Qf, Qa, Qa.go, Qi, Qj, Qc, goInt, init, QS, QI.one]
  refine hK _ _ ?_ rfl; clear hK K
  refine Dwp.step tT rfl fun K hK => ?_
  simp [QB, QE, Ql, QK, own, Qm, dop, QJ, eval, Qy, QG, Ex.then, Ex.inBlock, upd, QL, Tag.isNN, Qn, intCmp, Qz, QA, TyI.agg, Qb, Qs, Qd, Qr, QM, QC, Qp, mapOf, Qx, Qo, Qe, Qk, Qg, Qu, DV.cells, Qt, Qh, Qq, Qv, rowsOf, Qw, Qf, Qa, Qa.go, Qi, Qj, Qc, goInt, init, Qjv, ty3, g]
  refine hK _ _ (Dwp.ret ?_) rfl
  simp [Q4, QH, QX, frz, Q0, QY, Ex.then, upd, Enc.bool]
theorem e21 : Go.FA.Good Tryz.prog (21, s21) := ⟨c21, Tryz.f21, _, Tryz.func21, rfl, by decide⟩
theorem QjE {α : Type} (l : List α) : ((l.length : Int) == 0) = l.isEmpty := by cases l <;> simp; omega
theorem len_nil {α : Type} {l : List α} (h : l ≠ []) : ((l.length : Int) == 0) = false := by cases l <;> simp_all; omega
end Go.Proofs.Yt
namespace Go.Proofs.Yt
open Go Go.FA Go.Proofs
set_option linter.unusedSimpArgs false
set_option maxRecDepth 100000
def Qjf (c : Int) : Bool := decide (48 ≤ c) && decide (c ≤ 57)
def okAt (s : ByteArray) (j : Nat) : Prop := ∃ h : j < s.size, (letter (s[j].toNat : Int) || (decide (j ≠ 0) && (Qjf (s[j].toNat : Int) || (s[j].toNat : Int) == 95))) = true
theorem QeZ (c : Int) : Qa4 c = (letter c || (Qjf c || c == 95)) := by unfold Qa4 Qjf; simp [Bool.or_assoc]
theorem isName_iff (s : ByteArray) : Q3 s = true ↔ 1 ≤ s.size ∧ s.size ≤ 40 ∧ ∀ j, j < s.size → okAt s j := by
  unfold Q3 Qgl
  have hsz : s.size = s.data.toList.length := by simp
  have hget : ∀ j (h : j < s.size), s.data.toList[j]'(by omega) = s[j] := fun j h => rfl
  simp only [Bool.and_eq_true, decide_eq_true_eq, List.all_eq_true]
  cases hl : s.data.toList with
  | nil =>
    rw [hl] at hsz
    simp only [List.length_nil] at hsz
    simp [hsz]
  | cons c r =>
    have hpos : 0 < s.size := by rw [hsz, hl]; simp
    have hc : s[0] = c := by rw [← hget 0 hpos]; simp [hl]
    constructor
    · rintro ⟨⟨h1, h2⟩, h3⟩
      refine ⟨hpos, h1, fun j hj => ⟨hj, ?_⟩⟩
      by_cases h0 : j = 0
      · subst h0
        have h2' : letter (c.toNat : Int) = true := h2
        rw [hc, h2']; simp
      · have hm : s[j] ∈ c :: r := by rw [← hl, ← hget j hj]; exact List.getElem_mem _
        have := h3 _ hm
        rw [QeZ] at this
        simpa [h0] using this
    · rintro ⟨h1, h2, h3⟩
      refine ⟨⟨h2, ?_⟩, fun b hb => ?_⟩
      · obtain ⟨h, h4⟩ := h3 0 hpos
        rw [hc] at h4; simpa using h4
      · obtain ⟨j, hj, rfl⟩ := List.getElem_of_mem (hl ▸ hb : b ∈ s.data.toList)
        have hj' : j < s.size := by omega
        obtain ⟨_, h4⟩ := h3 j hj'
        rw [QeZ, hget j hj']
        rw [Bool.or_eq_true] at h4 ⊢
        rcases h4 with q | q
        · exact .inl q
        · simp only [Bool.and_eq_true] at q; exact .inr q.2
end Go.Proofs.Yt

namespace Go.Proofs.Yt
open Go Go.FA Go.Proofs Go.RowKit
set_option linter.unusedSimpArgs false
set_option maxRecDepth 100000
def Qh8 (s : ByteArray) : Int := if h : 0 < s.size then (s[0].toNat : Int) else 0
def idB (s : ByteArray) : Bool := Q3 s && (decide (97 ≤ Qh8 s) && (decide (Qh8 s ≤ 122) && (!decide (s = ⟨#[116, 114, 117, 101]⟩) && !decide (s = ⟨#[102, 97, 108, 115, 101]⟩))))
theorem isName_pos {s : ByteArray} (h : Q3 s = true) : 0 < s.size := ((isName_iff s).1 h).1
theorem list_getY {s : ByteArray} {j : Nat} (h : j < s.size) : s.data.toList[j]'(by simpa using h) = s[j] := rfl
theorem QgC (p : Int → Bool) (s : ByteArray) : Qgl p s = true ↔ ∀ j, (h : j < s.size) → p (s[j].toNat : Int) = true := by
  unfold Qgl
  rw [List.all_eq_true]
  constructor
  · intro h j hj
    exact h _ (by rw [← list_getY hj]; exact List.getElem_mem _)
  · intro h b hb
    obtain ⟨j, hj, rfl⟩ := List.getElem_of_mem hb
    have hj' : j < s.size := by simpa using hj
    exact h j hj'
def Qa6 (c : Int) : Bool := !(decide (c < 32) || (decide (126 < c) || (c == 34 || c == 92)))
def charAt (s : ByteArray) (j : Nat) : Prop := ∃ h : j < s.size, Qa6 (s[j].toNat : Int) = true
def Qc1 (s : ByteArray) : Bool := Qgl Qa6 s && decide (s.size ≤ 200)
end Go.Proofs.Yt
















namespace Go.Proofs.Yt
open Go Go.FA Go.Proofs
set_option linter.unusedSimpArgs false
set_option maxRecDepth 100000
theorem Qcs (s : ByteArray) (i j : Nat) : (s.extract i j).data.toList = (s.data.toList.take j).drop i := by
  simp [ByteArray.data_extract, List.extract_eq_take_drop, List.drop_take]
end Go.Proofs.Yt
namespace Go.Proofs.Yt
open Go Go.FA Go.Proofs
set_option linter.unusedSimpArgs false
set_option maxRecDepth 100000
section
variable (s : SigD) (a b : ByteArray)
variable {s a b}
theorem Qbs {x : ByteArray} (h : Q3 x = true) : x.size ≤ 40 := by
  unfold Q3 at h; simp only [Bool.and_eq_true, decide_eq_true_eq] at h; exact h.1.1
end
end Go.Proofs.Yt



namespace Go.Proofs.Yt
open Go Go.FA Go.Proofs
set_option linter.unusedSimpArgs false
set_option maxRecDepth 100000
def Enc.str2 : Enc (ByteArray × ByteArray) := Enc.tup (QR Enc.str Enc.str)
end Go.Proofs.Yt
