/- Contracts of functions of the program, by a machine over abstract values; part 25. No condition beyond those of each theorem. -/
import Derived.Test.YtfpejlbfdpeofaaGreatDoorSm23
set_option linter.unusedVariables false
set_option linter.unusedSimpArgs false
namespace Go.Proofs.Yt
open Go Go.FA Go.Proofs Go.RowKit Go.Proofs.Y
set_option maxRecDepth 1000000
noncomputable def Qjq {β : Type} (B : Enc β) (q : β → Bool) (r : Option (DV × EvS)) : Bool := match r with
  | some (d, s) => match B.dec (frz s.st d) with
    | some y => q y
    | none => false
  | none => false
theorem hc_dec {β : Type} {B : Enc β} {q : β → Bool} {y : β} {g : Nat} {xs : List DV} (heq : ∀ a, q a = true → a = y) (h : Qjq B q (call8 1000 g xs) = true) : HC Tryz.prog g xs σ0 (fun d σ' => B.dec (frz σ' d) = some y) := by
  unfold Qjq at h
  split at h
  · next d s hc =>
    split at h
    · next y' hy =>
      refine (hc8 hc).mono ?_
      rintro d2 σ2 ⟨rfl, rfl⟩
      rw [hy, heq _ h]
    · simp at h
  · simp at h
def argT (t : Tm) : List DV := (Ql.one Enc.tm).enc t
def Enc.intErr : Enc (Int × Int) := Enc.tup (QR Enc.i64 Enc.i64)
def eqII (a b : Int) (x : Int × Int) : Bool := decide (x.1 = a) && decide (x.2 = b)
theorem QhU {a b : Int} (x : Int × Int) (h : eqII a b x = true) : x = (a, b) := by
  simp only [eqII, Bool.and_eq_true, decide_eq_true_eq] at h
  exact Prod.ext h.1 h.2
def eqLE (l : List ByteArray) (e : Int) (x : List ByteArray × Int) : Bool := decide (x.1.map (·.data.toList) = l.map (·.data.toList)) && decide (x.2 = e)
theorem eqLE_spec {l : List ByteArray} {e : Int} (x : List ByteArray × Int) (h : eqLE l e x = true) : x = (l, e) := by
  simp only [eqLE, Bool.and_eq_true, decide_eq_true_eq] at h
  refine Prod.ext ?_ h.2
  have hinj : ∀ a b : ByteArray, a.data.toList = b.data.toList → a = b := fun a b q => by cases a; cases b; simp only [ByteArray.mk.injEq]; exact Array.ext' q
  have : ∀ (u v : List ByteArray), u.map (·.data.toList) = v.map (·.data.toList) → u = v := by
    intro u
    induction u with
    | nil => intro v hv; cases v with
      | nil => rfl
      | cons a v => simp at hv
    | cons a u ih => intro v hv; cases v with
      | nil => simp at hv
      | cons b v =>
        simp only [List.map_cons, List.cons.injEq] at hv
        rw [hinj a b hv.1, ih v hv.2]
  exact this _ _ h.1
end Go.Proofs.Yt
