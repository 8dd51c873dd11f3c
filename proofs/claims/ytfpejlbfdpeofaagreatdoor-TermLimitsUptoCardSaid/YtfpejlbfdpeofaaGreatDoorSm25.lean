/- Contracts of functions of the program, by a machine over abstract values; part 26. No condition beyond those of each theorem. -/
import Derived.Test.YtfpejlbfdpeofaaGreatDoorSm24
set_option linter.unusedVariables false
set_option linter.unusedSimpArgs false
namespace Go.Proofs.Yt
open Go Go.FA Go.Proofs Go.RowKit Go.ChangeShapes
open YtfpejlbfdpeofaaGreatDoor
set_option linter.unusedSimpArgs false
set_option maxRecDepth 100000
theorem law7 (H : Type) (enc : TypeId × Value → H) (W : World) (base : Nat) (args : Array Value) (ds gs : List (DataW H)) (before : List MemPlace)
    (hval : ∀ (j : Nat) t v, Tryz.f7.params[j]? = some t → args[j]? = some v → Value.okWide Tryz.prog W .any base t v)
    (hW : DataW.Whole enc Tryz.prog Tryz.f7.params.toList Rows.termLimitsSpec.vars false W args.toList ds gs before) (hk : Rows.uptoSmall H (ds ++ gs) = true) (hL : laidMet Tryz.prog laidL W) :
    Calls Tryz.prog 7 args W fun e W' => ∃ v, e = .returned v ∧ Rows.termLimitsSpec.post enc Tryz.prog Tryz.f7 false true false false W args v W' := by
  have hW' := hW
  obtain ⟨p, q, hA0, hV, rfl, hfz, hnd⟩ := hW
  have hA : DataW.TrodAll enc Tryz.prog W 0 (fun _ => true) true [5, 5] args.toList ds p := hA0
  obtain ⟨rfl, rfl⟩ := trodVars_none hV
  obtain ⟨y, h1, h2⟩ := (ARd.cons argU8 (ARd.one argU8)) base args.toList ds p (fun j t v a b => hval j t v (by simpa using a) (by simpa using b)) hA
  have hb := bulk_leT hk
  simp only [List.append_nil] at hb
  have h3 := Nat.le_trans h2 hb
  clear h2 hb
  obtain ⟨v0, vs0, d0, ds0, p0, q0, ha0, rfl, rfl, hd0, hr0⟩ := trodAll_cons hA
  obtain ⟨v1, vs1, d1, ds1, p1, q1, ha1, rfl, rfl, hd1, hr1⟩ := trodAll_cons hr0
  obtain ⟨rfl, rfl, rfl⟩ := trodAll_nil hr1
  refine law_post laidOut_ (glob_of_laid hL) cL7 (dvs := [(Enc.int .u8).enc y.1, (Enc.int .u8).enc y.2]) (t := 4) ?_ rfl ?_ ⟨rfl, rfl, rfl⟩ rfl (QaP ty4) hW' h1
  · have e : args.toList = [.int .u8 y.1, .int .u8 y.2] := by
      have h4 : QT (QdP W) W [.lit (.int .u8 y.1), .lit (.int .u8 y.2)] args.toList := h1
      match args.toList, h4 with
      | [a, b], h4 =>
        simp only [QT, QO] at h4
        rw [h4.1, h4.2.1]
    have hb1 := u8_range (hval 0 5 (.int .u8 y.1) rfl (by rw [← Array.getElem?_toList, e]; rfl))
    have hb2 := u8_range (hval 1 5 (.int .u8 y.2) rfl (by rw [← Array.getElem?_toList, e]; rfl))
    have hc : 0 ≤ y.1 ∧ y.1 ≤ 255 ∧ 0 ≤ y.2 ∧ y.2 ≤ 255 := ⟨hb1.1, hb1.2, hb2.1, hb2.2⟩
    simp only [sT7, sp, QS, QM.and, QM.one, Enc.de, List.take, List.drop, List.length_cons, List.length_nil, Option.bind_some, if_pos hc]; rfl
  · intro t ht
    have ht' : t ∈ ([5, 5] : List TypeId) := ht
    simp only [List.mem_cons, List.not_mem_nil, or_false] at ht'
    rcases ht' with rfl | rfl
    · exact ⟨readable5, types5⟩
    · exact ⟨readable5, types5⟩
theorem laid_met7 (os : Os) : laidMet Tryz.prog laidL ((laidWorld os).forCall (fun _ _ => 0) ⟨#[], #[.int .u8 0, .int .u8 0], []⟩).memory :=
  laidMet_of_run' 8 (by kernel_rfl) (by kernel_rfl)
theorem reads7 (os : Os) {H : Type} (enc : TypeId × Value → H) : ∃ places, DataW.whole enc Tryz.prog ((laidWorld os).forCall (fun _ _ => 0) ⟨#[], #[.int .u8 0, .int .u8 0], []⟩).memory Tryz.f7.params.toList Rows.termLimitsSpec.vars false (#[.int .u8 0, .int .u8 0] : Array Value).toList 8 = some ([.lit (.int .u8 0), .lit (.int .u8 0)], [], places) :=
  ⟨[], by kernel_rfl⟩
theorem lifted7 (os : Os) (started : os.Started) (H : Type) (enc : TypeId × Value → H) (F : Stop.Interp) :
    ReturnsInHanded {} Tryz.checked os 7 .any ((Rows.OpenSpec.upto Rows.termLimitsSpec).preRow enc Tryz.prog Tryz.f7 Rows.termLimitsUptoRow.domain false Rows.termLimitsUptoRow.laid) (((Rows.OpenSpec.upto Rows.termLimitsSpec).at F).post enc Tryz.prog Tryz.f7 false true false false) := by
  obtain ⟨places, hx⟩ := reads7 os enc
  refine returnsInHanded_of_row (C := Tryz.checked) (s := Rows.OpenSpec.upto Rows.termLimitsSpec) own_ started (by kernel_rfl) Tryz.func7
    (witness_row_at (enc := enc) (C := Tryz.checked) false (laidWorld os) #[.int .u8 0, .int .u8 0] rfl (by kernel_rfl) (by kernel_rfl) (by kernel_rfl)
      (OpenSpec.preRow_of_cond 8 hx (by kernel_rfl) (fun k hk => by cases hk; kernel_rfl) (by kernel_rfl) (laid_met7 os))) ?_
  intro W base args ds gs before hval hW _ hcond _ hL _ _
  exact law7 H enc W base args ds gs before hval hW (hcond _ rfl) hL
end Go.Proofs.Yt
