/- Contracts of functions of the program, by a machine over abstract values; part 24. No condition beyond those of each theorem. -/
import Derived.Test.YtfpejlbfdpeofaaGreatDoorSm22
set_option linter.unusedVariables false
set_option linter.unusedSimpArgs false
namespace Go.Proofs.Yt
open Go Go.FA Go.Proofs Go.RowKit Go.Proofs.Y
set_option maxRecDepth 1000000
theorem hc8 {g : Nat} {xs : List DV} {d : DV} {s' : EvS} (h : call8 1000 g xs = some (d, s')) : HC Tryz.prog g xs σ0 (fun d2 σ2 => d2 = d ∧ σ2 = s'.st) := by
  have := HC.of_ev mixed T8ok H7ok unnamed 1000 h
  rw [st0] at this; exact this
theorem QfF {l : List UInt8} {e : Int} {r : Option (DV × EvS)} (h : Qjl l e r = true) : ∃ s', r = some (.tuple [.lit (.string ⟨l.toArray⟩), .lit (.int .i64 e)], s') := by
  unfold Qjl at h
  split at h
  · next s k s' =>
    simp only [Bool.and_eq_true, decide_eq_true_eq] at h
    rw [Qfq h.1, h.2]; exact ⟨s', rfl⟩
  · simp at h
theorem isTupB_spec {b : Bool} {e : Int} {r : Option (DV × EvS)} (h : QkC b e r = true) : ∃ s', r = some (.tuple [.lit (.bool b), .lit (.int .i64 e)], s') := by
  unfold QkC at h
  split at h
  · next s k s' =>
    simp only [Bool.and_eq_true, decide_eq_true_eq, beq_iff_eq] at h
    rw [h.1, h.2]; exact ⟨s', rfl⟩
  · simp at h
theorem Qe2 {b : Bool} {r : Option (DV × EvS)} (h : isLit (.bool b) r = true) : ∃ s', r = some (.lit (.bool b), s') := by
  unfold isLit at h
  split at h
  · next c s' d q =>
    simp only [beq_iff_eq] at h
    cases q; subst h; exact ⟨s', rfl⟩
  · simp at h
def one2 (s0 : SigD) (t0 : Tm) (x : SigD × Tm) : Bool := QjD x.1 s0 && QkU x.2 t0
theorem QcN {s0 : SigD} {t0 : Tm} {x : SigD × Tm} (h : one2 s0 t0 x = true) : x = (s0, t0) := by
  simp only [one2, Bool.and_eq_true] at h
  exact Prod.ext (beqSig_spec h.1) (QdB _ _ h.2)
def s29x : Sp := sp (QR Enc.sigd Enc.tm) Enc.strErr (fun x => if one2 QfZ (sumT (QkQ 1) (QkQ 2)) x then some (⟨#[69, 120, 112]⟩, 0) else if one2 QfZ nopeT x then some (⟨#[]⟩, 13) else none)
theorem c29x : Qb Tryz.prog 29 s29x := by
  refine Qb.of_hc fun x y hy => ?_
  split at hy
  · next h =>
    have := QcN h; subst this
    simp only [Option.some.injEq] at hy; subst hy
    obtain ⟨s', hr⟩ := QfF k29a
    refine (hc8 hr).mono ?_
    rintro d σ' ⟨rfl, rfl⟩
    simp [Enc.strErr, Enc.tup, QR, Ql.and, Ql.one, Enc.str, Enc.i64, Enc.int, frz, Q0, Q2]
  · split at hy
    · next h =>
      have := QcN h; subst this
      simp only [Option.some.injEq] at hy; subst hy
      obtain ⟨s', hr⟩ := QfF k29b
      refine (hc8 hr).mono ?_
      rintro d σ' ⟨rfl, rfl⟩
      simp [Enc.strErr, Enc.tup, QR, Ql.and, Ql.one, Enc.str, Enc.i64, Enc.int, frz, Q0, Q2]
    · simp at hy
def s31x : Sp := sp (QR Enc.sigd Enc.tm) Enc.boolErr (fun x => if one2 QfZ (QkQ 3) x then some (true, 0) else none)
theorem c31x : Qb Tryz.prog 31 s31x := by
  refine Qb.of_hc fun x y hy => ?_
  split at hy
  · next h =>
    have := QcN h; subst this
    simp only [Option.some.injEq] at hy; subst hy
    obtain ⟨s', hr⟩ := isTupB_spec k31
    refine (hc8 hr).mono ?_
    rintro d σ' ⟨rfl, rfl⟩
    simp [Enc.boolErr, Enc.tup, QR, Ql.and, Ql.one, Enc.bool, Enc.i64, Enc.int, frz, Q0, Q2]
  · simp at hy
def s25x : Sp := sp (QR Enc.sigd Enc.tm) Enc.bool (fun x => if one2 QfZ t0T x then some false else none)
theorem c25x : Qb Tryz.prog 25 s25x := by
  refine Qb.of_hc fun x y hy => ?_
  split at hy
  · next h =>
    have := QcN h; subst this
    simp only [Option.some.injEq] at hy; subst hy
    obtain ⟨s', hr⟩ := Qe2 k25
    refine (hc8 hr).mono ?_
    rintro d σ' ⟨rfl, rfl⟩
    simp [Enc.bool, frz, Q0, Q2]
  · simp at hy
def s27x : Sp := sp (QR Enc.sigd Enc.tm) Enc.bool (fun x => if one2 QfZ (sumT (QkQ 1) (QkQ 2)) x then some true else none)
theorem c27x : Qb Tryz.prog 27 s27x := by
  refine Qb.of_hc fun x y hy => ?_
  split at hy
  · next h =>
    have := QcN h; subst this
    simp only [Option.some.injEq] at hy; subst hy
    obtain ⟨s', hr⟩ := Qe2 k27
    refine (hc8 hr).mono ?_
    rintro d σ' ⟨rfl, rfl⟩
    simp [Enc.bool, frz, Q0, Q2]
  · simp at hy
end Go.Proofs.Yt
