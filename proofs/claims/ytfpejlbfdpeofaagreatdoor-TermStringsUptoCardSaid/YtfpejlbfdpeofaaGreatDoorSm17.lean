/- Contracts of functions of the program, by a machine over abstract values; part 18. No condition beyond those of each theorem. -/
import Derived.Test.YtfpejlbfdpeofaaGreatDoorSm16
set_option linter.unusedVariables false
set_option linter.unusedSimpArgs false
namespace Go.Proofs.Yt
open Go Go.FA Go.Proofs Go.RowKit Go.Proofs.Y
set_option maxRecDepth 1000000
set_option linter.unusedSimpArgs false
def beqOp (a b : OpD) : Bool := decide (a.name = b.name) && decide (a.args = b.args) && decide (a.sort = b.sort) && decide (a.pieces = b.pieces) && decide (a.prec = b.prec) && decide (a.assoc = b.assoc) && decide (a.strict = b.strict)
theorem beqOp_spec {a b : OpD} (h : beqOp a b = true) : a = b := by
  simp only [beqOp, Bool.and_eq_true, decide_eq_true_eq] at h
  obtain ⟨⟨⟨⟨⟨⟨h1, h2⟩, h3⟩, h4⟩, h5⟩, h6⟩, h7⟩ := h
  cases a; cases b; simp_all
def QeU : List OpD → List OpD → Bool
  | [], [] => true
  | a :: xs, b :: ys => beqOp a b && QeU xs ys
  | _, _ => false
theorem Qc0 : ∀ {xs ys : List OpD}, QeU xs ys = true → xs = ys
  | [], [], _ => rfl
  | a :: xs, b :: ys, h => by
    simp only [QeU, Bool.and_eq_true] at h
    rw [beqOp_spec h.1, Qc0 h.2]
  | [], _ :: _, h => by simp [QeU] at h
  | _ :: _, [], h => by simp [QeU] at h
def Qjc (a b : SigD) : Bool := decide (a.sorts = b.sorts) && decide (a.below = b.below) && QeU a.ops b.ops && QeU a.funs b.funs && decide (a.values = b.values)
theorem beqSig_spec {a b : SigD} (h : Qjc a b = true) : a = b := by
  simp only [Qjc, Bool.and_eq_true, decide_eq_true_eq] at h
  obtain ⟨⟨⟨⟨h1, h2⟩, h3⟩, h4⟩, h5⟩ := h
  have := Qc0 h3; have := Qc0 h4
  cases a; cases b; simp_all
def Qff : SigD := ⟨[⟨#[69, 120, 112]⟩], [⟨⟨#[73, 110, 116]⟩, ⟨#[69, 120, 112]⟩⟩], [⟨⟨#[112, 108, 117, 115]⟩, [⟨#[69, 120, 112]⟩, ⟨#[69, 120, 112]⟩], ⟨#[69, 120, 112]⟩, [], 0, 0, []⟩], [], [⟨#[73, 110, 116]⟩]⟩
def sumT (a b : Tm) : Tm := .mk 5 0 ⟨#[112, 108, 117, 115]⟩ ⟨#[]⟩ [a, b] []
def QjC (n : Int) : Tm := QiP 1 n [] []
def nopeT : Tm := QiP 5 0 [110, 111, 112, 101] []
def isLit (v : Value) (r : Option (DV × EvS)) : Bool := match r, v with
  | some (.lit (.bool b), _), .bool c => b == c
  | _, _ => false
def QhD (l : List UInt8) (e : Int) (r : Option (DV × EvS)) : Bool := match r with
  | some (.tuple [.lit (.string s), .lit (.int .i64 k)], _) => beqB s ⟨l.toArray⟩ && decide (k = e)
  | _ => false
def Qjg (b : Bool) (e : Int) (r : Option (DV × EvS)) : Bool := match r with
  | some (.tuple [.lit (.bool c), .lit (.int .i64 k)], _) => (c == b) && decide (k = e)
  | _ => false
abbrev QiX (s : SigD) (t : Tm) : List DV := (QR Enc.sigd Enc.tm).enc (s, t)
end Go.Proofs.Yt
