/- SortsFinds returns true, and its arguments read behind the call as before, for every signature and name that are read with a bulk of at most 1048576 (the statement SortsFindsUptoSaid). Conditions: those of the given row, no others. -/
import Derived.Test.YtboifamdcpelfaaGreatSm5
namespace Go.Proofs.Yt
open Go Go.FA Go.Proofs Go.RowKit Go.ChangeShapes
open YtboifamdcpelfaaGreat
set_option linter.unusedVariables false
set_option linter.unusedSimpArgs false
set_option maxRecDepth 100000

theorem law5 (H : Type) (enc : TypeId × Value → H) (W : World) (base : Nat) (args : Array Value) (ds gs : List (DataW H)) (before : List MemPlace)
    (hval : ∀ (j : Nat) t v, Tryz.f5.params[j]? = some t → args[j]? = some v → Value.okWide Tryz.prog W .any base t v)
    (hW : DataW.Whole enc Tryz.prog Tryz.f5.params.toList Rows.sortsFindsSpec.vars false W args.toList ds gs before) (hk : Rows.uptoSmall H (ds ++ gs) = true) :
    Calls Tryz.prog 5 args W fun e W' => ∃ v, e = .returned v ∧ Rows.sortsFindsSpec.post enc Tryz.prog Tryz.f5 false true false false W args v W' := by
  have hW' := hW
  obtain ⟨p, q, hA0, hV, rfl, hfz, hnd⟩ := hW
  have hA : DataW.TrodAll enc Tryz.prog W 0 (fun _ => true) true [26, 9] args.toList ds p := hA0
  obtain ⟨rfl, rfl⟩ := trodVars_none hV
  obtain ⟨y, h1, h2⟩ := (ARd.cons argSig (ARd.one argStr)) base args.toList ds p (fun j t v a b => hval j t v (by simpa using a) (by simpa using b)) hA
  have hb := bulk_le hk
  simp only [List.append_nil] at hb
  have hb2 : Rows.uptoBulkAll ds ≤ 1048576 := hb
  have h3 := Nat.le_trans h2 hb2
  have hy0 : (y.1).ok2 := sig_ok2 (by first | omega | (simp only [] at h3; omega))
  obtain ⟨v0, vs0, d0, ds0, p0, q0, ha0, rfl, rfl, hd0, hr0⟩ := trodAll_cons hA
  obtain ⟨v1, vs1, d1, ds1, p1, q1, ha1, rfl, rfl, hd1, hr1⟩ := trodAll_cons hr0
  obtain ⟨rfl, rfl, rfl⟩ := trodAll_nil hr1
  refine law_post laidOut_ c5 (dvs := [Enc.sigd.enc y.1, Enc.str.enc y.2]) (t := 4) ?_ rfl ?_ ⟨rfl, rfl, rfl⟩ rfl (under_of_ty ty4) hW' h1
  · simp only [s5, sp, arg2, EncR.and, EncR.one, Enc.sigd.de, Enc.str.de, List.take, List.drop, List.length_cons, List.length_nil, Option.bind_some, if_pos hy0]; rfl
  · intro t ht
    have ht' : t ∈ ([26, 9] : List TypeId) := ht
    simp only [List.mem_cons, List.not_mem_nil, or_false] at ht'
    rcases ht' with rfl | rfl
    · exact ⟨readable26, types26⟩
    · exact ⟨readable9, types9⟩

set_option maxRecDepth 100000 in
theorem lifted5 (os : Os) (started : os.Started) (H : Type) (enc : TypeId × Value → H) (F : Stop.Interp) :
    ReturnsInHanded {} Tryz.checked os 5 .any ((Rows.OpenSpec.upto Rows.sortsFindsSpec).pre6 enc Tryz.prog Tryz.f5 Rows.sortsFindsUptoRow.domain false) (((Rows.OpenSpec.upto Rows.sortsFindsSpec).at F).post enc Tryz.prog Tryz.f5 false true false false) := by
  refine returnsInHanded_of_cond (C := Tryz.checked) (s := Rows.OpenSpec.upto Rows.sortsFindsSpec) (k := Rows.uptoSmall) rfl own_ started (by kernel_rfl) Tryz.func5
    (OpenSpec.witness (enc := enc) (C := Tryz.checked) (s := Rows.OpenSpec.upto Rows.sortsFindsSpec) (k := Rows.uptoSmall) rfl false ⟨#[], #[.agg #[.slice none 0 0, .slice none 0 0, .slice none 0 0, .slice none 0 0, .slice none 0 0], .string ⟨#[]⟩], []⟩ 8 (by kernel_rfl) (by kernel_rfl) (by kernel_rfl)
      (x := ([.agg [.nil, .nil, .nil, .nil, .nil], .lit (.string [])], [], [])) (by kernel_rfl) rfl (by kernel_rfl)) ?_
  intro W base args ds gs before hval hW _ hk _
  exact law5 H enc W base args ds gs before hval hW hk

theorem over5 : Rows.sortsFindsUptoRow.holds Tryz.pinned (Rows.OpenSpec.upto Rows.sortsFindsSpec) :=
  OpenClaim.holds_of_cond 5 Tryz.f5 rfl rfl rfl rfl rfl rfl rfl ⟨rfl, rfl, rfl, rfl, rfl⟩ rfl rfl rfl rfl rfl (by kernel_rfl) Tryz.func5 (by kernel_rfl)
    (of_decide_eq_true (by kernel_rfl)) (by unfold Func.isWrapper; first | (rw [if_pos (by decide +kernel)]; kernel_rfl) | (rw [if_neg (by decide +kernel)]; exact ⟨rfl, rfl⟩))
    (fun os started H enc _ F => lifted5 os started H enc F)
end Go.Proofs.Yt
namespace Go.Proofs.YtboifamdcpelfaaGreat
theorem sortsFindsUpto : Rows.SortsFindsUptoSaid := Go.Proofs.Yt.over5
end Go.Proofs.YtboifamdcpelfaaGreat
