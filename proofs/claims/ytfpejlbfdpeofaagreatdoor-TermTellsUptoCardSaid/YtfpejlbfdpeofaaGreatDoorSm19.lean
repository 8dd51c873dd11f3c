/- Contracts of functions of the program, by a machine over abstract values; part 20. No condition beyond those of each theorem. -/
import Derived.Test.YtfpejlbfdpeofaaGreatDoorSm18
set_option linter.unusedVariables false
set_option linter.unusedSimpArgs false
namespace Go.Proofs.Yt
open Go Go.FA Go.Proofs Go.RowKit Go.Proofs.Y
set_option maxRecDepth 1000000
def beqOp (a b : OpD) : Bool := decide (a.name = b.name) && decide (a.args = b.args) && decide (a.sort = b.sort) && decide (a.pieces = b.pieces) && decide (a.prec = b.prec) && decide (a.assoc = b.assoc) && decide (a.strict = b.strict)
theorem beqOp_spec {a b : OpD} (h : beqOp a b = true) : a = b := by
  simp only [beqOp, Bool.and_eq_true, decide_eq_true_eq] at h
  obtain ⟨⟨⟨⟨⟨⟨h1, h2⟩, h3⟩, h4⟩, h5⟩, h6⟩, h7⟩ := h
  cases a; cases b; simp_all
def Qfl : List OpD → List OpD → Bool
  | [], [] => true
  | a :: xs, b :: ys => beqOp a b && Qfl xs ys
  | _, _ => false
theorem QdA : ∀ {xs ys : List OpD}, Qfl xs ys = true → xs = ys
  | [], [], _ => rfl
  | a :: xs, b :: ys, h => by
    simp only [Qfl, Bool.and_eq_true] at h
    rw [beqOp_spec h.1, QdA h.2]
  | [], _ :: _, h => by simp [Qfl] at h
  | _ :: _, [], h => by simp [Qfl] at h
def QjD (a b : SigD) : Bool := decide (a.sorts = b.sorts) && decide (a.below = b.below) && Qfl a.ops b.ops && Qfl a.funs b.funs && decide (a.values = b.values)
theorem beqSig_spec {a b : SigD} (h : QjD a b = true) : a = b := by
  simp only [QjD, Bool.and_eq_true, decide_eq_true_eq] at h
  obtain ⟨⟨⟨⟨h1, h2⟩, h3⟩, h4⟩, h5⟩ := h
  have := QdA h3; have := QdA h4
  cases a; cases b; simp_all
def QfZ : SigD := ⟨[⟨#[69, 120, 112]⟩], [⟨⟨#[73, 110, 116]⟩, ⟨#[69, 120, 112]⟩⟩], [⟨⟨#[112, 108, 117, 115]⟩, [⟨#[69, 120, 112]⟩, ⟨#[69, 120, 112]⟩], ⟨#[69, 120, 112]⟩, [], 0, 0, []⟩], [], [⟨#[73, 110, 116]⟩]⟩
def sumT (a b : Tm) : Tm := .mk 5 0 ⟨#[112, 108, 117, 115]⟩ ⟨#[]⟩ [a, b] []
def QkQ (n : Int) : Tm := Qkr 1 n [] []
def nopeT : Tm := Qkr 5 0 [110, 111, 112, 101] []
def isLit (v : Value) (r : Option (DV × EvS)) : Bool := match r, v with
  | some (.lit (.bool b), _), .bool c => b == c
  | _, _ => false
def Qjl (l : List UInt8) (e : Int) (r : Option (DV × EvS)) : Bool := match r with
  | some (.tuple [.lit (.string s), .lit (.int .i64 k)], _) => beqB s ⟨l.toArray⟩ && decide (k = e)
  | _ => false
def QkC (b : Bool) (e : Int) (r : Option (DV × EvS)) : Bool := match r with
  | some (.tuple [.lit (.bool c), .lit (.int .i64 k)], _) => (c == b) && decide (k = e)
  | _ => false
abbrev Qkq (s : SigD) (t : Tm) : List DV := (QR Enc.sigd Enc.tm).enc (s, t)
end Go.Proofs.Yt
