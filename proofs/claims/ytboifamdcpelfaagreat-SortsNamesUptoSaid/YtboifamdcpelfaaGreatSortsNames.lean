/- SortsNames returns true, and its arguments read behind the call as before, for every two signatures and pair of names that are read with a bulk of at most 1048576 (the statement SortsNamesUptoSaid). Conditions: those of the given row, no others. -/
import Derived.Test.YtboifamdcpelfaaGreatSm5
namespace Go.Proofs.Yt
open Go Go.FA Go.Proofs Go.RowKit Go.ChangeShapes
open YtboifamdcpelfaaGreat
set_option linter.unusedVariables false
set_option linter.unusedSimpArgs false
set_option maxRecDepth 100000

theorem law6 (H : Type) (enc : TypeId × Value → H) (W : World) (base : Nat) (args : Array Value) (ds gs : List (DataW H)) (before : List MemPlace)
    (hval : ∀ (j : Nat) t v, Tryz.f6.params[j]? = some t → args[j]? = some v → Value.okWide Tryz.prog W .any base t v)
    (hW : DataW.Whole enc Tryz.prog Tryz.f6.params.toList Rows.sortsNamesSpec.vars false W args.toList ds gs before) (hk : Rows.uptoSmall H (ds ++ gs) = true) :
    Calls Tryz.prog 6 args W fun e W' => ∃ v, e = .returned v ∧ Rows.sortsNamesSpec.post enc Tryz.prog Tryz.f6 false true false false W args v W' := by
  have hW' := hW
  obtain ⟨p, q, hA0, hV, rfl, hfz, hnd⟩ := hW
  have hA : DataW.TrodAll enc Tryz.prog W 0 (fun _ => true) true [26, 26, 46] args.toList ds p := hA0
  obtain ⟨rfl, rfl⟩ := trodVars_none hV
  obtain ⟨y, h1, h2⟩ := (ARd.cons argSig (ARd.cons argSig (ARd.one argPair))) base args.toList ds p (fun j t v a b => hval j t v (by simpa using a) (by simpa using b)) hA
  have hb := bulk_le hk
  simp only [List.append_nil] at hb
  have hb2 : Rows.uptoBulkAll ds ≤ 1048576 := hb
  have h3 := Nat.le_trans h2 hb2
  have hy0 : (y.1).ok2 := sig_ok2 (by first | omega | (simp only [] at h3; omega))
  have hy1 : (y.2.1).ok2 := sig_ok2 (by first | omega | (simp only [] at h3; omega))
  have hyp : okPair (y.2.2) := by
    have hz := h3
    simp only [szS] at hz
    exact ⟨by omega, by omega⟩
  have hcond : y.1.ok2 ∧ y.2.1.ok2 ∧ okPair y.2.2 := ⟨hy0, hy1, hyp⟩
  obtain ⟨v0, vs0, d0, ds0, p0, q0, ha0, rfl, rfl, hd0, hr0⟩ := trodAll_cons hA
  obtain ⟨v1, vs1, d1, ds1, p1, q1, ha1, rfl, rfl, hd1, hr1⟩ := trodAll_cons hr0
  obtain ⟨v2, vs2, d2, ds2, p2, q2, ha2, rfl, rfl, hd2, hr2⟩ := trodAll_cons hr1
  obtain ⟨rfl, rfl, rfl⟩ := trodAll_nil hr2
  refine law_post laidOut_ c6 (dvs := [Enc.sigd.enc y.1, Enc.sigd.enc y.2.1, Enc.pair.enc y.2.2]) (t := 4) ?_ rfl ?_ ⟨rfl, rfl, rfl⟩ rfl (under_of_ty ty4) hW' h1
  · simp only [s6, sp, arg3, EncR.and, EncR.one, Enc.pair.de, Enc.sigd.de, List.take, List.drop, List.length_cons, List.length_nil, Option.bind_some, if_pos hcond]; rfl
  · intro t ht
    have ht' : t ∈ ([26, 26, 46] : List TypeId) := ht
    simp only [List.mem_cons, List.not_mem_nil, or_false] at ht'
    rcases ht' with rfl | rfl | rfl
    · exact ⟨readable26, types26⟩
    · exact ⟨readable26, types26⟩
    · exact ⟨readable46, types46⟩

set_option maxRecDepth 100000 in
theorem lifted6 (os : Os) (started : os.Started) (H : Type) (enc : TypeId × Value → H) (F : Stop.Interp) :
    ReturnsInHanded {} Tryz.checked os 6 .any ((Rows.OpenSpec.upto Rows.sortsNamesSpec).pre6 enc Tryz.prog Tryz.f6 Rows.sortsNamesUptoRow.domain false) (((Rows.OpenSpec.upto Rows.sortsNamesSpec).at F).post enc Tryz.prog Tryz.f6 false true false false) := by
  refine returnsInHanded_of_cond (C := Tryz.checked) (s := Rows.OpenSpec.upto Rows.sortsNamesSpec) (k := Rows.uptoSmall) rfl own_ started (by kernel_rfl) Tryz.func6
    (OpenSpec.witness (enc := enc) (C := Tryz.checked) (s := Rows.OpenSpec.upto Rows.sortsNamesSpec) (k := Rows.uptoSmall) rfl false ⟨#[], #[.agg #[.slice none 0 0, .slice none 0 0, .slice none 0 0, .slice none 0 0, .slice none 0 0], .agg #[.slice none 0 0, .slice none 0 0, .slice none 0 0, .slice none 0 0, .slice none 0 0], .agg #[.string ⟨#[]⟩, .string ⟨#[]⟩]], []⟩ 8 (by kernel_rfl) (by kernel_rfl) (by kernel_rfl)
      (x := ([.agg [.nil, .nil, .nil, .nil, .nil], .agg [.nil, .nil, .nil, .nil, .nil], .agg [.lit (.string []), .lit (.string [])]], [], [])) (by kernel_rfl) rfl (by kernel_rfl)) ?_
  intro W base args ds gs before hval hW _ hk _
  exact law6 H enc W base args ds gs before hval hW hk

theorem over6 : Rows.sortsNamesUptoRow.holds Tryz.pinned (Rows.OpenSpec.upto Rows.sortsNamesSpec) :=
  OpenClaim.holds_of_cond 6 Tryz.f6 rfl rfl rfl rfl rfl rfl rfl ⟨rfl, rfl, rfl, rfl, rfl⟩ rfl rfl rfl rfl rfl (by kernel_rfl) Tryz.func6 (by kernel_rfl)
    (of_decide_eq_true (by kernel_rfl)) (by unfold Func.isWrapper; first | (rw [if_pos (by decide +kernel)]; kernel_rfl) | (rw [if_neg (by decide +kernel)]; exact ⟨rfl, rfl⟩))
    (fun os started H enc _ F => lifted6 os started H enc F)
end Go.Proofs.Yt
namespace Go.Proofs.YtboifamdcpelfaaGreat
theorem sortsNamesUpto : Rows.SortsNamesUptoSaid := Go.Proofs.Yt.over6
end Go.Proofs.YtboifamdcpelfaaGreat
