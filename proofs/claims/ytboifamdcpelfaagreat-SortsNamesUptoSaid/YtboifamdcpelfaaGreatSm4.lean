/- Contracts of functions of the program, by a machine over abstract values; part 5. No condition beyond those of each theorem. -/
import Derived.Test.YtboifamdcpelfaaGreatSm3
namespace Go.Proofs.Yt
open Go Go.FA Go.Proofs
set_option linter.unusedVariables false
set_option linter.unusedSimpArgs false
set_option maxRecDepth 100000

/-- the reference's letters, digits and names -/
def s83 : Sp := sp (arg1 (Enc.int .u8)) Enc.bool (fun c => some (letter c))
attribute [local simp] drunL drunO dwanted dopS own plainOf dop dput eval ofVal Then Ex.then Ex.inBlock upd dbin Tag.isNN nilTest intCmp dload dpart TyI.agg dfieldAddr dfield dindexAddr dindex dlen lenOk dlookup mapOf keyFits dmapUpdate dcallee dbuiltin dstore DV.cells dslice dboundOk dappend appTag rowsOf elemOk growLimit dbuildCells dbuildCells.go structOk fieldsOk dbuildRows goInt
theorem c83 : CallSound Tryz.prog 83 s83 := by
  refine CallSound.of_sp (T := tabOf []) Tryz.func83 rfl (Nat.le_of_ble_eq_true rfl) fun E c y hy => ?_
  simp at hy; subst hy
  refine Dwp.step tab0 rfl fun K hK => ?_
  simp [dcall, tabOf, setAt]
  refine hK _ _ ?_ rfl; clear hK K
  refine Dwp.step tab0 rfl fun K hK => ?_
  by_cases h1 : 97 ≤ c <;> by_cases h2 : c ≤ 122 <;> by_cases h3 : 65 ≤ c <;> by_cases h4 : c ≤ 90 <;>
    simp [dcall, tabOf, setAt, init, arg1, arg2, arg3, EncR.one, EncR.and, Enc.bool, Enc.int, Enc.str, Enc.strs, Enc.slice, Enc.agg, Enc.tup, Enc.err, Enc.fn, h1, h2, h3, h4] <;> refine hK _ _ (Dwp.ret ?_) rfl <;> simp [Done, dresults, dres, frz, frz1, frz2, init, arg1, arg2, arg3, EncR.one, EncR.and, Enc.bool, Enc.int, Enc.str, Enc.strs, Enc.slice, Enc.agg, Enc.tup, Enc.err, Enc.fn, upd, letter, h1, h2, h3, h4]
theorem e83 : Go.FA.Good Tryz.prog (83, s83) := ⟨c83, Tryz.f83, _, Tryz.func83, rfl, by decide⟩
def digitB (c : Int) : Bool := decide (48 ≤ c) && decide (c ≤ 57)
def s84 : Sp := sp (arg1 (Enc.int .u8)) Enc.bool (fun c => some (digitB c))
theorem c84 : CallSound Tryz.prog 84 s84 := by
  refine CallSound.of_sp (T := tabOf []) Tryz.func84 rfl (Nat.le_of_ble_eq_true rfl) fun E c y hy => ?_
  simp at hy; subst hy
  refine Dwp.step tab0 rfl fun K hK => ?_
  simp [dcall, tabOf, setAt]
  refine hK _ _ ?_ rfl; clear hK K
  refine Dwp.step tab0 rfl fun K hK => ?_
  by_cases h1 : 48 ≤ c <;> by_cases h2 : c ≤ 57 <;>
    simp [dcall, tabOf, setAt, init, arg1, arg2, arg3, EncR.one, EncR.and, Enc.bool, Enc.int, Enc.str, Enc.strs, Enc.slice, Enc.agg, Enc.tup, Enc.err, Enc.fn, h1, h2] <;> refine hK _ _ (Dwp.ret ?_) rfl <;> simp [Done, dresults, dres, frz, frz1, frz2, init, arg1, arg2, arg3, EncR.one, EncR.and, Enc.bool, Enc.int, Enc.str, Enc.strs, Enc.slice, Enc.agg, Enc.tup, Enc.err, Enc.fn, upd, digitB, h1, h2]
theorem e84 : Go.FA.Good Tryz.prog (84, s84) := ⟨c84, Tryz.f84, _, Tryz.func84, rfl, by decide⟩
theorem call83 (T : Tab) (hT : T 83 = some s83) (c : Int) : dcall T 83 [.lit (.int .u8 c)] = some (.lit (.bool (letter c))) :=
  dcall1 (A := Enc.int .u8) (B := Enc.bool) hT rfl
theorem call84 (T : Tab) (hT : T 84 = some s84) (c : Int) : dcall T 84 [.lit (.int .u8 c)] = some (.lit (.bool (digitB c))) :=
  dcall1 (A := Enc.int .u8) (B := Enc.bool) hT rfl

def okAt (s : ByteArray) (j : Nat) : Prop := ∃ h : j < s.size, (letter (s[j].toNat : Int) || (decide (j ≠ 0) && (digitB (s[j].toNat : Int) || (s[j].toNat : Int) == 95))) = true
theorem nameByte_eq (c : Int) : nameByte c = (letter c || (digitB c || c == 95)) := by unfold nameByte digitB; simp [Bool.or_assoc]
theorem isName_iff (s : ByteArray) : isName s = true ↔ 1 ≤ s.size ∧ s.size ≤ 40 ∧ ∀ j, j < s.size → okAt s j := by
  unfold isName allB
  have hsz : s.size = s.data.toList.length := by simp
  have hget : ∀ j (h : j < s.size), s.data.toList[j]'(by omega) = s[j] := fun j h => rfl
  simp only [Bool.and_eq_true, decide_eq_true_eq, List.all_eq_true]
  cases hl : s.data.toList with
  | nil =>
    rw [hl] at hsz
    simp only [List.length_nil] at hsz
    simp [hsz]
  | cons c r =>
    have hpos : 0 < s.size := by rw [hsz, hl]; simp
    have hc : s[0] = c := by rw [← hget 0 hpos]; simp [hl]
    constructor
    · rintro ⟨⟨h1, h2⟩, h3⟩
      refine ⟨hpos, h1, fun j hj => ⟨hj, ?_⟩⟩
      by_cases h0 : j = 0
      · subst h0
        have h2' : letter (c.toNat : Int) = true := h2
        rw [hc, h2']; simp
      · have hm : s[j] ∈ c :: r := by rw [← hl, ← hget j hj]; exact List.getElem_mem _
        have := h3 _ hm
        rw [nameByte_eq] at this
        simpa [h0] using this
    · rintro ⟨h1, h2, h3⟩
      refine ⟨⟨h2, ?_⟩, fun b hb => ?_⟩
      · obtain ⟨h, h4⟩ := h3 0 hpos
        rw [hc] at h4; simpa using h4
      · obtain ⟨j, hj, rfl⟩ := List.getElem_of_mem (hl ▸ hb : b ∈ s.data.toList)
        have hj' : j < s.size := by omega
        obtain ⟨_, h4⟩ := h3 j hj'
        rw [nameByte_eq, hget j hj']
        rw [Bool.or_eq_true] at h4 ⊢
        rcases h4 with q | q
        · exact .inl q
        · simp only [Bool.and_eq_true] at q; exact .inr q.2
def s39 : Sp := sp (arg1 Enc.str) Enc.bool (fun s => if s.size ≤ lim then some (isName s) else none)
abbrev T39 : Tab := tabOf [(83, s83), (84, s84)]
theorem t39 : TabOk Tryz.prog T39 := .cons e83 (.cons e84 .nil)
theorem c39 : CallSound Tryz.prog 39 s39 := by
  refine CallSound.of_sp (T := T39) Tryz.func39 rfl (Nat.le_of_ble_eq_true rfl) fun E s y hy => ?_
  split at hy
  case isFalse => cases hy
  next hlim =>
  cases hy
  unfold lim at hlim
  have g83 := call83 T39 rfl
  have g84 := call84 T39 rfl
  have tT := t39
  generalize T39 = T at *
  refine Dwp.step tT rfl fun K hK => ?_
  simp [init, arg1, EncR.one, Enc.str]
  refine hK _ _ ?_ rfl; clear hK K
  refine Dwp.seq ?_
  refine Dwp.step tT rfl fun K hK => ?_
  simp [init, ty9]
  refine hK _ _ ?_ rfl; clear hK K
  refine Dwp.range tT s.size (fun i a σ => a 0 = .lit (.string s) ∧ ∀ j, j < i → okAt s j) ⟨rfl, rfl, rfl⟩ ⟨rfl, rfl, rfl⟩ ⟨rfl, rfl, rfl⟩ (by decide) (by decide) (by omega) (by simp [upd]) (by simp [upd]) (by simp [upd, init]) ?_ ?_
  · rintro i a σ hi hidx hlen ⟨h0, hok⟩
    refine Dwp.step tT rfl fun K hK => ?_
    simp [hidx]
    refine hK _ _ ?_ rfl; clear hK K
    have hb := bget s i hi
    obtain ⟨c, hc⟩ : ∃ c : Int, c = (s[i].toNat : Int) := ⟨_, rfl⟩
    have hdef : okAt s i ↔ (letter c || (decide (i ≠ 0) && (digitB c || c == 95))) = true := by
      rw [hc]; exact ⟨fun ⟨_, q⟩ => q, fun q => ⟨hi, q⟩⟩
    refine Dwp.step tT rfl fun K hK => ?_
    have good : ∀ a' σ', (a' 30 = .lit (.bool false) ∧ a' 0 = .lit (.string s) ∧ a' 5 = .lit (.int .i64 s.size) ∧ a' 6 = .lit (.int .i64 i)) → okAt s i → σ'.n = σ.n + 1 + 2 → K a' σ' := by
      rintro a' σ' ⟨h30, h0, h5, h6⟩ ho hn
      refine hK _ _ ?_ hn
      refine Dwp.condF (by simp [eval, h30]) (Dwp.skip ?_)
      refine ⟨h6, h5, by simp [upd, h0], fun j hj => ?_⟩
      rcases Nat.lt_succ_iff_lt_or_eq.1 hj with q | rfl
      · exact hok j q
      · exact ho
    have bad : ∀ a' σ', a' 30 = .lit (.bool true) → ¬ okAt s i → σ'.n = σ.n + 1 + 2 → K a' σ' := by
      intro a' σ' h30 ho hn
      refine hK _ _ ?_ hn
      refine Dwp.condT (by simp [eval, h30]) ?_
      refine Dwp.step tT rfl fun K hK => ?_
      simp []
      refine hK _ _ (Dwp.ret ?_) rfl
      have hf : isName s = false := by
        cases q : isName s with
        | false => rfl
        | true => exact absurd (((isName_iff s).1 q).2.2 i hi) ho
      simp [Done, dresults, dres, frz, frz1, frz2, Round, Ex.then, upd, Enc.bool, hf]
    rw [hc] at hdef
    clear hc
    by_cases q1 : letter (s[i].toNat : Int) = true
    · simp [h0, hidx, ty9, hb, g83, q1]
      exact good _ _ (by simp [upd, h0, hidx, hlen]) (hdef.2 (by simp [q1])) rfl
    · have q1' : letter (s[i].toNat : Int) = false := by simpa using q1
      by_cases q2 : i = 0
      · subst q2
        simp [h0, hidx, ty9, hb, g83, q1']
        exact bad _ _ (by simp [upd]) (fun q => by have := hdef.1 q; simp [q1'] at this) rfl
      · have q2' : ((i : Int) == 0) = false := by simp; omega
        by_cases q3 : digitB (s[i].toNat : Int) = true
        · simp [h0, hidx, ty9, hb, g83, g84, q1', q2', q3]
          exact good _ _ (by simp [upd, h0, hidx, hlen]) (hdef.2 (by simp [q3, q2])) rfl
        · have q3' : digitB (s[i].toNat : Int) = false := by simpa using q3
          by_cases q4 : (s[i].toNat : Int) = 95
          · have q4' : ((s[i].toNat : Int) != 95) = false := by simpa using q4
            simp [h0, hidx, ty9, hb, g83, g84, q1', q2', q3', q4']
            exact good _ _ (by simp [upd, h0, hidx, hlen]) (hdef.2 (by simp [q2, q4])) rfl
          · have q4' : ((s[i].toNat : Int) != 95) = true := by simpa using q4
            simp [h0, hidx, ty9, hb, g83, g84, q1', q2', q3', q4']
            exact bad _ _ (by simp [upd]) (fun q => by have := hdef.1 q; simp [q1', q3', q4] at this) rfl
  · rintro a σ hidx hlen ⟨h0, hok⟩
    have hi := isName_iff s
    refine Dwp.step tT rfl fun K hK => ?_
    by_cases q1 : 1 ≤ s.size
    · by_cases q2 : s.size ≤ 40
      · have : isName s = true := hi.2 ⟨q1, q2, hok⟩
        have q1' : (1 : Int) ≤ (s.size : Int) := by omega
        have q2' : (s.size : Int) ≤ 40 := by omega
        simp [h0, ty9, q1', q2']
        refine hK _ _ (Dwp.ret ?_) rfl
        simp [Done, dresults, dres, frz, frz1, frz2, Ex.then, upd, Enc.bool, this]
      · have : isName s = false := by
          cases q : isName s with
          | false => rfl
          | true => exact absurd (hi.1 q).2.1 q2
        have q1' : (1 : Int) ≤ (s.size : Int) := by omega
        have q2' : ¬ (s.size : Int) ≤ 40 := by omega
        simp [h0, ty9, q1', q2']
        refine hK _ _ (Dwp.ret ?_) rfl
        simp [Done, dresults, dres, frz, frz1, frz2, Ex.then, upd, Enc.bool, this]
    · have : isName s = false := by
        cases q : isName s with
        | false => rfl
        | true => exact absurd (hi.1 q).1 q1
      have q1' : ¬ (1 : Int) ≤ (s.size : Int) := by omega
      simp [h0, ty9, q1']
      refine hK _ _ (Dwp.ret ?_) rfl
      simp [Done, dresults, dres, frz, frz1, frz2, Ex.then, upd, Enc.bool, this]
theorem e39 : Go.FA.Good Tryz.prog (39, s39) := ⟨c39, Tryz.f39, _, Tryz.func39, rfl, by decide⟩
end Go.Proofs.Yt
namespace Go.Proofs.Yt
open Go Go.FA Go.Proofs
set_option linter.unusedVariables false
set_option linter.unusedSimpArgs false
set_option maxRecDepth 100000

def builtIns : List ByteArray := [⟨#[97, 100, 100]⟩, ⟨#[97, 110, 100]⟩, ⟨#[99, 97, 116]⟩, ⟨#[100, 101, 108]⟩, ⟨#[100, 105, 118]⟩, ⟨#[101, 113]⟩, ⟨#[103, 101]⟩, ⟨#[103, 101, 116]⟩, ⟨#[103, 116]⟩, ⟨#[104, 97, 115]⟩, ⟨#[105, 115]⟩, ⟨#[105, 115, 118, 97, 108, 117, 101]⟩, ⟨#[106, 111, 105, 110]⟩, ⟨#[107, 101, 121, 115]⟩, ⟨#[108, 101]⟩, ⟨#[108, 101, 110, 103, 116, 104]⟩, ⟨#[108, 116]⟩, ⟨#[109, 111, 100]⟩, ⟨#[109, 117, 108]⟩, ⟨#[110, 101]⟩, ⟨#[110, 101, 103]⟩, ⟨#[110, 111, 116]⟩, ⟨#[111, 114]⟩, ⟨#[112, 105, 99, 107]⟩, ⟨#[112, 117, 116]⟩, ⟨#[115, 105, 122, 101]⟩, ⟨#[115, 117, 98]⟩, ⟨#[116, 101, 120, 116]⟩]
def s79 : Sp := spOwn EncR.unit (EncR.one Enc.str) (fun _ => some builtIns)
attribute [local simp] drunL drunO dwanted dopS own plainOf dop dput eval ofVal Then Ex.then Ex.inBlock upd dbin Tag.isNN nilTest intCmp dload dpart TyI.agg dfieldAddr dfield dindexAddr dindex dlen lenOk dlookup mapOf keyFits dmapUpdate dcallee dbuiltin dstore DV.cells dslice dboundOk dappend appTag rowsOf elemOk growLimit dbuildCells dbuildCells.go structOk fieldsOk dbuildRows goInt
theorem c79 : CallSound Tryz.prog 79 s79 := by
  refine CallSound.of_full (T := tabOf []) Tryz.func79 rfl (Nat.le_of_ble_eq_true rfl) fun E xx y hy => ?_
  simp only [Option.some.injEq] at hy
  subst hy
  have tT := tab0 (P := Tryz.prog)
  refine Dwp.step tT rfl fun K hK => ?_
  simp [dcall, tabOf, setAt]
  refine hK _ _ ?_ rfl; clear hK K
  refine Dwp.step tT rfl fun K hK => ?_
  simp [dcall, tabOf, setAt, ty22, ty9]
  refine hK _ _ (Dwp.ret ?_) rfl
  simp [DoneFull, dresults, dres, upd, EncR.one, Enc.str, builtIns, decRows0]
theorem e79 : Go.FA.Good Tryz.prog (79, s79) := ⟨c79, Tryz.f79, _, Tryz.func79, rfl, by decide⟩
theorem call79 (T : Tab) (hT : T 79 = some s79) : dcall T 79 [] = some (.slice 1 (.tok 0 0) (rows1 builtIns)) := by
  simp [dcall, hT, s79, spOwn, EncR.unit, EncR.one, Enc.str]
theorem builtIns_mem (x : ByteArray) : decide (x ∈ builtIns) = builtIn x := by
  unfold builtIn
  have h : ∀ y ∈ builtIns, y ∈ bins := by decide
  have h' : ∀ y ∈ bins, y ∈ builtIns := by decide
  rw [Bool.eq_iff_iff]; simp only [decide_eq_true_eq]; exact ⟨h x, h' x⟩
def s37 : Sp := sp (arg1 Enc.str) Enc.bool (fun x => some (builtIn x))
abbrev T37 : Tab := tabOf [(79, s79), (42, s42)]
theorem t37 : TabOk Tryz.prog T37 := .cons e79 (.cons e42 .nil)
theorem c37 : CallSound Tryz.prog 37 s37 := by
  refine CallSound.of_sp (T := T37) Tryz.func37 rfl (Nat.le_of_ble_eq_true rfl) fun E x y hy => ?_
  simp only [Option.some.injEq] at hy
  subst hy
  have g79 := call79 T37 rfl
  have g42 := fun tag => call42 T37 rfl builtIns x (by decide) tag
  have tT := t37
  generalize T37 = T at *
  simp only [builtIns_mem] at g42
  refine Dwp.step tT rfl fun K hK => ?_
  simp [init, arg1, EncR.one, Enc.str]
  refine hK _ _ ?_ rfl; clear hK K
  refine Dwp.step tT rfl fun K hK => ?_
  simp [init, g79, g42]
  refine hK _ _ (Dwp.ret ?_) rfl
  simp [Done, dresults, dres, frz, frz1, frz2, upd, Enc.bool]
theorem e37 : Go.FA.Good Tryz.prog (37, s37) := ⟨c37, Tryz.f37, _, Tryz.func37, rfl, by decide⟩
theorem call37 (T : Tab) (hT : T 37 = some s37) (x : ByteArray) : dcall T 37 [.lit (.string x)] = some (.lit (.bool (builtIn x))) :=
  dcall1 (A := Enc.str) (B := Enc.bool) hT rfl

def s48 : Sp := sp (arg2 Enc.sigd Enc.str) Enc.bool (fun x => if x.1.sorts.length ≤ 1048576 then some (decide (x.2 ∈ x.1.all)) else none)
abbrev T48 : Tab := tabOf [(85, s85), (42, s42)]
theorem t48 : TabOk Tryz.prog T48 := .cons e85 (.cons e42 .nil)
theorem c48 : CallSound Tryz.prog 48 s48 := by
  refine CallSound.of_sp (T := T48) Tryz.func48 rfl (Nat.le_of_ble_eq_true rfl) fun E xx y hy => ?_
  obtain ⟨s, x⟩ := xx
  simp only [] at hy
  split at hy
  case isFalse => cases hy
  next hl =>
  cases hy
  have g85 := call85 T48 rfl
  have g1 := fun tag => call42 T48 rfl always x (by decide) tag
  have g2 := fun tag => call42 T48 rfl s.sorts x hl tag
  have tT := t48
  generalize T48 = T at *
  have hall : x ∈ s.all ↔ (x ∈ always ∨ x ∈ s.sorts) := by unfold SigD.all; rw [List.mem_append, always_mem]
  refine Dwp.step tT rfl fun K hK => ?_
  simp [init, arg2, EncR.and, EncR.one, Enc.sigd, Enc.agg, Enc.str]
  refine hK _ _ ?_ rfl; clear hK K
  refine Dwp.step tT rfl fun K hK => ?_
  by_cases q1 : x ∈ always
  · simp [init, g85, g1, q1]
    refine hK _ _ (Dwp.ret ?_) rfl
    simp [Done, dresults, dres, frz, frz1, frz2, upd, Enc.bool, hall, q1]
  · by_cases q2 : x ∈ s.sorts <;> simp [init, g85, g1, q1, ty26, ty22, strsC, g2, q2] <;> refine hK _ _ (Dwp.ret ?_) rfl <;> simp [Done, dresults, dres, frz, frz1, frz2, upd, Enc.bool, hall, q1, q2]
theorem e48 : Go.FA.Good Tryz.prog (48, s48) := ⟨c48, Tryz.f48, _, Tryz.func48, rfl, by decide⟩
theorem call48 (T : Tab) (hT : T 48 = some s48) (s : SigD) (x : ByteArray) (h : s.sorts.length ≤ 1048576) : dcall T 48 [.agg (EncR.sigd.enc s), .lit (.string x)] = some (.lit (.bool (decide (x ∈ s.all)))) :=
  dcall2 (A := Enc.sigd) (B := Enc.str) (C := Enc.bool) (x := s) (y := x) hT (if_pos h)

def s49 : Sp := sp (arg1 Enc.strs) Enc.bool (fun l => if l.length ≤ 1048576 then some (decide l.Nodup) else none)
abbrev T49 : Tab := tabOf [(42, s42)]
theorem t49 : TabOk Tryz.prog T49 := .cons e42 .nil
theorem nodup_take_succ {α : Type} {l : List α} {i : Nat} (h : i < l.length) : (l.take (i + 1)).Nodup ↔ (l.take i).Nodup ∧ l[i] ∉ l.take i := by
  rw [List.take_succ_eq_append_getElem h, List.nodup_append]
  constructor
  · rintro ⟨h1, _, h3⟩; exact ⟨h1, fun q => h3 _ q _ (by simp) rfl⟩
  · rintro ⟨h1, h2⟩; exact ⟨h1, by simp, fun a ha b hb e => by simp at hb; subst hb; subst e; exact h2 ha⟩
theorem nodup_take {α : Type} {l : List α} (h : l.Nodup) (i : Nat) : (l.take i).Nodup := h.sublist (List.take_sublist i l)
theorem c49 : CallSound Tryz.prog 49 s49 := by
  refine CallSound.of_sp (T := T49) Tryz.func49 rfl (Nat.le_of_ble_eq_true rfl) fun E l y hy => ?_
  split at hy
  case isFalse => cases hy
  next hl =>
  cases hy
  have g42 := fun m x h tag => call42 T49 rfl m x h tag
  have tT := t49
  generalize T49 = T at *
  refine Dwp.step tT rfl fun K hK => ?_
  simp [init, arg1, EncR.one]
  refine hK _ _ ?_ rfl; clear hK K
  refine Dwp.seq ?_
  refine Dwp.step tT rfl fun K hK => ?_
  simp [init, ty22, strsC]
  refine hK _ _ ?_ rfl; clear hK K
  refine Dwp.range tT l.length (fun i a σ => a 0 = .slice 1 .none (rows1 l) ∧ (l.take i).Nodup) ⟨rfl, rfl, rfl⟩ ⟨rfl, rfl, rfl⟩ ⟨rfl, rfl, rfl⟩ (by decide) (by decide) (by omega) (by simp [upd]) (by simp [upd]) (by simp [upd, init, strsC]) ?_ ?_
  · rintro i a σ hi hidx hlen ⟨h0, hnd⟩
    refine Dwp.step tT rfl fun K hK => ?_
    simp [hidx]
    refine hK _ _ ?_ rfl; clear hK K
    have hmin : min i l.length = i := by omega
    have g := g42 (l.take i) l[i] (by simp; omega) .none
    refine Dwp.drawStep [] mixed tT rfl (by decide) fun K hK => ?_
    have hi' : i ≤ l.length := by omega
    simp only [rows1, List.map_take] at g
    by_cases q : l[i] ∈ l.take i
    · simp only [q, decide_true] at g
      simp [drunT, touch, touchP, h0, ty22, ty9, hi, hi', g]
      refine hK _ _ ?_ rfl; clear hK K
      refine Dwp.condT (by simp [eval, upd]) ?_
      refine Dwp.step tT rfl fun K hK => ?_
      simp []
      refine hK _ _ (Dwp.ret ?_) rfl
      have : ¬ l.Nodup := fun e => ((nodup_take_succ hi).1 (nodup_take e (i + 1))).2 q
      simp [Done, dresults, dres, frz, frz1, frz2, Round, Ex.then, upd, Enc.bool, this]
    · simp only [q, decide_false] at g
      simp [drunT, touch, touchP, h0, ty22, ty9, hi, hi', g]
      refine hK _ _ ?_ rfl; clear hK K
      refine Dwp.condF (by simp [eval, upd]) (Dwp.skip ?_)
      exact ⟨by simp [upd, hidx], by simp [upd, hlen], by simp [upd, h0], (nodup_take_succ hi).2 ⟨hnd, q⟩⟩
  · rintro a σ hidx hlen ⟨h0, hnd⟩
    rw [List.take_length] at hnd
    refine Dwp.step tT rfl fun K hK => ?_
    simp []
    refine hK _ _ (Dwp.ret ?_) rfl
    simp [Done, dresults, dres, frz, frz1, frz2, Ex.then, upd, Enc.bool, hnd]
theorem e49 : Go.FA.Good Tryz.prog (49, s49) := ⟨c49, Tryz.f49, _, Tryz.func49, rfl, by decide⟩
theorem call49 (T : Tab) (hT : T 49 = some s49) (d : DV) (l : List ByteArray) (hd : Enc.strs.dec d = some l) (h : l.length ≤ 1048576) : dcall T 49 [d] = some (.lit (.bool (decide l.Nodup))) := by
  simp [dcall, hT, s49, sp, arg1, EncR.one, hd, h, Enc.bool]
def s91 : Sp := sp (arg2 Enc.sigd Enc.opd) Enc.bool (fun x => if x.1.sorts.length ≤ 1048576 ∧ x.2.args.length ≤ 1048576 then some (okArgs (newBook x.1) x.2) else none)
abbrev T91 : Tab := tabOf [(48, s48)]
theorem t91 : TabOk Tryz.prog T91 := .cons e48 .nil
theorem c91 : CallSound Tryz.prog 91 s91 := by
  refine CallSound.of_sp (T := T91) Tryz.func91 rfl (Nat.le_of_ble_eq_true rfl) fun E xx y hy => ?_
  obtain ⟨s, o⟩ := xx
  simp only [] at hy
  split at hy
  case isFalse => cases hy
  next hl =>
  obtain ⟨h1, h2⟩ := hl
  cases hy
  have g48 := fun x => call48 T91 rfl s x h1
  have tT := t91
  generalize T91 = T at *
  refine Dwp.step tT rfl fun K hK => ?_
  simp [init, arg2, EncR.and, EncR.one, Enc.sigd, Enc.opd, Enc.agg]
  refine hK _ _ ?_ rfl; clear hK K
  refine Dwp.seq ?_
  refine Dwp.step tT rfl fun K hK => ?_
  simp [ty38, ty22, strsC]
  refine hK _ _ ?_ rfl; clear hK K
  refine Dwp.range tT o.args.length (fun i a σ => a 2 = .row (EncR.sigd.enc s) 0 ∧ a 3 = .row (EncR.opd.enc o) 0 ∧ a 8 = .slice 1 .none (rows1 o.args) ∧ ∀ x ∈ o.args.take i, x ∈ s.all) ⟨rfl, rfl, rfl⟩ ⟨rfl, rfl, rfl⟩ ⟨rfl, rfl, rfl⟩ (by decide) (by decide) (by omega) (by simp [upd]) (by simp [upd]) (by simp [upd]) ?_ ?_
  · rintro i a σ hi hidx hlen ⟨k2, k3, k8, hall⟩
    refine Dwp.step tT rfl fun K hK => ?_
    simp [hidx, k8, ty22, ty9, hi]
    refine hK _ _ ?_ rfl; clear hK K
    have g := g48 o.args[i]
    refine Dwp.step tT rfl fun K hK => ?_
    by_cases q : o.args[i] ∈ s.all
    · simp only [q, decide_true] at g
      simp [k2, ty26, g]
      refine hK _ _ ?_ rfl; clear hK K
      refine Dwp.condF (by simp [eval, upd]) (Dwp.skip ?_)
      refine ⟨by simp [upd, hidx], by simp [upd, hlen], by simp [upd, k2], by simp [upd, k3], by simp [upd, k8], fun x hx => ?_⟩
      rcases (mem_take_succ hi x).1 hx with e | e
      · exact hall x e
      · rw [e]; exact q
    · simp only [q, decide_false] at g
      simp [k2, ty26, g]
      refine hK _ _ ?_ rfl; clear hK K
      refine Dwp.condT (by simp [eval, upd]) ?_
      refine Dwp.step tT rfl fun K hK => ?_
      simp []
      refine hK _ _ (Dwp.ret ?_) rfl
      have hf : okArgs (newBook s) o = false := by
        unfold okArgs
        have : o.args.all (newBook s).has = false := by
          rw [List.all_eq_false]; exact ⟨_, List.getElem_mem hi, by rw [book_has]; simp [q]⟩
        rw [this, Bool.and_false]
      simp [Done, dresults, dres, frz, frz1, frz2, Round, Ex.then, upd, Enc.bool, hf]
  · rintro a σ hidx hlen ⟨k2, k3, k8, hall⟩
    rw [List.take_length] at hall
    have ht : o.args.all (newBook s).has = true := by
      rw [List.all_eq_true]; intro x hx; rw [book_has]; simpa using hall x hx
    have hd : (decide ((o.args.length : Int) ≤ 8)) = decide (o.args.length ≤ 8) := by
      rw [Bool.eq_iff_iff]; simp only [decide_eq_true_eq]; omega
    refine Dwp.step tT rfl fun K hK => ?_
    simp [k3, ty38, ty22, strsC]
    refine hK _ _ (Dwp.ret ?_) rfl
    simp [Done, dresults, dres, frz, frz1, frz2, Ex.then, upd, Enc.bool, okArgs, ht, hd]
theorem e91 : Go.FA.Good Tryz.prog (91, s91) := ⟨c91, Tryz.f91, _, Tryz.func91, rfl, by decide⟩
theorem call91 (T : Tab) (hT : T 91 = some s91) (s : SigD) (o : OpD) (h : s.sorts.length ≤ 1048576) (h' : o.args.length ≤ 1048576) : dcall T 91 [.agg (EncR.sigd.enc s), .agg (EncR.opd.enc o)] = some (.lit (.bool (okArgs (newBook s) o))) :=
  dcall2 (A := Enc.sigd) (B := Enc.opd) (C := Enc.bool) (x := s) (y := o) hT (if_pos ⟨h, h'⟩)
end Go.Proofs.Yt
namespace Go.Proofs.Yt
open Go Go.FA Go.Proofs
set_option linter.unusedVariables false
set_option linter.unusedSimpArgs false
set_option maxRecDepth 100000

def byteAt (s : ByteArray) (j : Nat) : Int := ((s[j]?).map fun c => (c.toNat : Int)).getD 0
theorem byteAt_get {s : ByteArray} {j : Nat} (h : j < s.size) : byteAt s j = (s[j].toNat : Int) := by unfold byteAt; rw [bget s j h]; rfl
def frameB (s : ByteArray) : Bool := decide (3 ≤ s.size) && (byteAt s (s.size - 2) == 39) && decide (49 ≤ byteAt s (s.size - 1)) && decide (byteAt s (s.size - 1) ≤ 56)
def frameF (s : ByteArray) : ByteArray × ByteArray := if frameB s then (s.extract 0 (s.size - 2), s.extract (s.size - 2) s.size) else (s, ⟨#[]⟩)
def Enc.str2 : Enc (ByteArray × ByteArray) := Enc.tup (arg2 Enc.str Enc.str)
def s118 : Sp := sp (arg1 Enc.str) Enc.str2 (fun s => if s.size ≤ lim then some (frameF s) else none)
attribute [local simp] drunL drunO dwanted dopS own plainOf dop dput eval ofVal Then Ex.then Ex.inBlock upd dbin Tag.isNN nilTest intCmp dload dpart TyI.agg dfieldAddr dfield dindexAddr dindex dlen lenOk dlookup mapOf keyFits dmapUpdate dcallee dbuiltin dstore DV.cells dslice dboundOk dappend appTag rowsOf elemOk growLimit dbuildCells dbuildCells.go structOk fieldsOk dbuildRows goInt
theorem c118 : CallSound Tryz.prog 118 s118 := by
  refine CallSound.of_sp (T := tabOf []) Tryz.func118 rfl (Nat.le_of_ble_eq_true rfl) fun E s y hy => ?_
  split at hy
  case isFalse => cases hy
  next hl =>
  cases hy
  unfold lim at hl
  have tT := tab0 (P := Tryz.prog)
  refine Dwp.step tT rfl fun K hK => ?_
  simp [init, arg1, EncR.one, Enc.str]
  refine hK _ _ ?_ rfl; clear hK K
  refine Dwp.step tT rfl fun K hK => ?_
  simp [init, ty9]
  refine hK _ _ ?_ rfl; clear hK K
  refine Dwp.seq ?_
  refine Dwp.step tT rfl fun K hK => ?_
  have no : ∀ a' σ', a' 29 = .lit (.bool false) → a' 0 = .lit (.string s) → frameB s = false → σ'.n = σ0.n + 2 + 3 → K a' σ' := by
    intro a' σ' h29 h0 hf hn
    refine hK _ _ ?_ hn
    refine Dwp.condF (by simp [eval, h29]) (Dwp.skip ?_)
    refine Dwp.step tT rfl fun K hK => ?_
    simp [h0]
    refine hK _ _ (Dwp.ret ?_) rfl
    simp [Done, dresults, dres, frz, frz1, frz2, upd, Enc.str2, Enc.tup, arg2, EncR.and, EncR.one, Enc.str, frameF, hf]
  by_cases q1 : 3 ≤ s.size
  case neg =>
    have q1' : ¬ (3 : Int) ≤ (s.size : Int) := by omega
    simp [init, ty9, q1']
    exact no _ _ (by simp [upd]) (by simp [upd, init]) (by simp [frameB, q1]) rfl
  have q1' : (3 : Int) ≤ (s.size : Int) := by omega
  have w2 : IntKind.i64.wrap ((s.size : Int) - 2) = ((s.size - 2 : Nat) : Int) := by rw [wrap_small (n := (s.size : Int) - 2) (by omega) (by omega)]; omega
  have w1 : IntKind.i64.wrap ((s.size : Int) - 1) = ((s.size - 1 : Nat) : Int) := by rw [wrap_small (n := (s.size : Int) - 1) (by omega) (by omega)]; omega
  have l2 : s.size - 2 < s.size := by omega
  have l1 : s.size - 1 < s.size := by omega
  have b2 := bget s (s.size - 2) l2
  have b1 := bget s (s.size - 1) l1
  have y2 := byteAt_get l2
  have y1 := byteAt_get l1
  by_cases q2 : byteAt s (s.size - 2) = 39
  case neg =>
    have q2' : ((s[s.size - 2].toNat : Int) == 39) = false := by rw [← y2]; simpa using q2
    simp [init, ty9, q1', w2, b2, q2']
    exact no _ _ (by simp [upd]) (by simp [upd, init]) (by simp [frameB, q2]) rfl
  have q2' : ((s[s.size - 2].toNat : Int) == 39) = true := by rw [← y2]; simpa using q2
  by_cases q3 : 49 ≤ byteAt s (s.size - 1)
  case neg =>
    have q3' : ¬ (49 : Int) ≤ (s[s.size - 1].toNat : Int) := by rw [← y1]; exact q3
    simp [init, ty9, q1', w2, w1, b2, b1, q2', q3']
    exact no _ _ (by simp [upd]) (by simp [upd, init]) (by simp [frameB, q3]) rfl
  have q3' : (49 : Int) ≤ (s[s.size - 1].toNat : Int) := by rw [← y1]; exact q3
  by_cases q4 : byteAt s (s.size - 1) ≤ 56
  case neg =>
    have q4' : ¬ (s[s.size - 1].toNat : Int) ≤ 56 := by rw [← y1]; exact q4
    simp [init, ty9, q1', w2, w1, b2, b1, q2', q3', q4']
    exact no _ _ (by simp [upd]) (by simp [upd, init]) (by simp [frameB, q4]) rfl
  have q4' : (s[s.size - 1].toNat : Int) ≤ 56 := by rw [← y1]; exact q4
  have hf : frameB s = true := by simp [frameB, q1, q2, q3, q4]
  simp [init, ty9, q1', w2, w1, b2, b1, q2', q3', q4']
  refine hK _ _ ?_ rfl
  refine Dwp.condT (by simp [eval, upd]) ?_
  refine Dwp.drawStep [] mixed tT rfl (by decide) fun K hK => ?_
  have l2' : s.size - 2 ≤ s.size := by omega
  have l2i : ((s.size - 2 : Nat) : Int) ≤ (s.size : Int) := by omega
  simp [drunT, touch, touchP, init, ty9, w2, l2', l2i]
  refine hK _ _ (Dwp.ret ?_) rfl
  simp [Done, dresults, dres, frz, frz1, frz2, Ex.then, upd, Enc.str2, Enc.tup, arg2, EncR.and, EncR.one, Enc.str, frameF, hf]
theorem e118 : Go.FA.Good Tryz.prog (118, s118) := ⟨c118, Tryz.f118, _, Tryz.func118, rfl, by decide⟩
theorem call118 (T : Tab) (hT : T 118 = some s118) (s : ByteArray) (h : s.size ≤ lim) : dcall T 118 [.lit (.string s)] = some (.tuple [.lit (.string (frameF s).1), .lit (.string (frameF s).2)]) :=
  dcall1 (A := Enc.str) (B := Enc.str2) hT (if_pos h)
theorem call39 (T : Tab) (hT : T 39 = some s39) (s : ByteArray) (h : s.size ≤ lim) : dcall T 39 [.lit (.string s)] = some (.lit (.bool (isName s))) :=
  dcall1 (A := Enc.str) (B := Enc.bool) hT (if_pos h)

theorem list_get {s : ByteArray} {j : Nat} (h : j < s.size) : s.data.toList[j]'(by simpa using h) = s[j] := rfl
/-- the reference's names of operators are the code's -/
theorem frame_ok (s : ByteArray) : isName (frameF s).1 = okOp s := by
  have hsz : s.size = s.data.toList.length := by simp
  by_cases hf : frameB s = true
  · have hf' := hf
    unfold frameB at hf
    simp only [Bool.and_eq_true, decide_eq_true_eq, beq_iff_eq] at hf
    obtain ⟨⟨⟨h3, h39⟩, h49⟩, h56⟩ := hf
    obtain ⟨p, hp⟩ : ∃ p, p = s.data.toList.take (s.size - 2) := ⟨_, rfl⟩
    have l2 : s.size - 2 < s.size := by omega
    have l1 : s.size - 1 < s.size := by omega
    rw [byteAt_get l2] at h39
    rw [byteAt_get l1] at h49 h56
    have hc39 : s[s.size - 2] = 39 := by
      have : s[s.size - 2].toNat = 39 := by omega
      exact UInt8.toNat_inj.1 this
    have hsplit : s.data.toList = p ++ [39, s[s.size - 1]] := by
      have e1 : s.data.toList = s.data.toList.take (s.size - 2) ++ s.data.toList.drop (s.size - 2) := (List.take_append_drop _ _).symm
      have e2 : s.data.toList.drop (s.size - 2) = [39, s[s.size - 1]] := by
        rw [List.drop_eq_getElem_cons (by omega), List.drop_eq_getElem_cons (by omega), List.drop_of_length_le (by omega)]
        rw [list_get l2, hc39]
        congr 2
        have : s.size - 2 + 1 = s.size - 1 := by omega
        simp only [this]; exact list_get l1
      rw [e2, ← hp] at e1; exact e1
    have hfr : (frameF s).1.data.toList = p := by
      unfold frameF; rw [if_pos hf']
      simp only [extract_list, List.drop_zero]; exact hp.symm
    by_cases hm : ∀ b ∈ p, b ≠ 39
    · -- the first mark is this one
      have hcut : (cutMark s).1.data.toList = p := by
        rw [cut_list, hsplit]; exact while_append hm (.inr rfl)
      have heq : (frameF s).1 = (cutMark s).1 := ba_ext (by rw [hfr, hcut])
      unfold okOp
      rw [heq]
      have hd : digit (cutMark s).2.1 = true := by
        have hmark : mark s = (p.length : Int) := by
          unfold mark
          rcases indexByte_while s.data.toList with ⟨e1, e2⟩ | ⟨i, e1, e2, e3⟩
          · rw [← cut_list, hcut, hsplit] at e2
            have := congrArg List.length e2; simp at this
          · rw [e1]
            rw [← cut_list, hcut] at e3
            have := congrArg List.length e3
            rw [List.length_take] at this; omega
        unfold cutMark
        rw [hmark]
        simp only [Int.natCast_nonneg, if_true, Int.toNat_natCast]
        unfold digit
        rw [extract_list, hsplit]
        have : s.size = p.length + 2 := by rw [hsz, hsplit]; simp
        rw [List.take_of_length_le (by simp [this])]
        have e : (p ++ [39, s[s.size - 1]]).drop (p.length + 1) = [s[s.size - 1]] := by
          rw [List.drop_append]; simp
        rw [e]
        simp only [Bool.and_eq_true, decide_eq_true_eq]
        exact ⟨h49, h56⟩
      rw [hd]; simp
    · have h1 : isName (frameF s).1 = false := by
        cases q : isName (frameF s).1 with
        | false => rfl
        | true =>
          have := name_noMark q
          unfold noMark at this
          rw [hfr] at this; exact absurd this hm
      rw [h1]
      -- an earlier mark: what stands behind it is longer than a digit
      cases q : okOp s with
      | false => rfl
      | true =>
        exfalso
        have h2 := (okOp_rest q).1
        have hm' : ∃ b ∈ p, b = 39 := by
          apply Classical.byContradiction; intro hno
          exact hm fun b hb e => hno ⟨b, hb, e⟩
        obtain ⟨b, hb, rfl⟩ := hm'
        have hlen : ∀ (x d : List UInt8), 39 ∈ x → d.length < ((x ++ d).dropWhile (· != 39)).length := by
          intro x d hx
          induction x with
          | nil => cases hx
          | cons c x ih =>
            by_cases hc : c = 39
            · subst hc; simp; omega
            · have hcb : (c != 39) = true := by simpa using hc
              simp only [List.cons_append, List.dropWhile_cons, hcb, if_true]
              rcases List.mem_cons.1 hx with e | e
              · exact absurd e.symm hc
              · exact ih e
        have := hlen p [39, s[s.size - 1]] hb
        rw [← hsplit] at this
        simp at this h2; omega
  · have hff : (frameF s).1 = s := by unfold frameF; rw [if_neg hf]
    rw [hff]
    cases q : isName s with
    | true =>
      have hn := name_noMark q
      have hw := while_append (x := s.data.toList) (d := []) hn (.inl rfl)
      rw [List.append_nil] at hw
      have hmark : mark s = -1 := by
        unfold mark
        rcases indexByte_while s.data.toList with ⟨e1, e2⟩ | ⟨i, e1, e2, e3⟩
        · exact e1
        · rw [hw] at e3
          have := congrArg List.length e3
          rw [List.length_take] at this; omega
      unfold okOp cutMark
      rw [hmark]
      simp [q]
    | false =>
      symm
      cases hq : okOp s with
      | false => rfl
      | true =>
        exfalso
        have hq2 := hq
        unfold okOp at hq2
        simp only [Bool.and_eq_true, Bool.or_eq_true, Bool.not_eq_true'] at hq2
        obtain ⟨h1, h2⟩ := hq2
        rcases indexByte_while s.data.toList with ⟨e1, e2⟩ | ⟨i, e1, e2, e3⟩
        · have hm : mark s = -1 := e1
          have hc : cutMark s = (s, ⟨#[]⟩, false) := by unfold cutMark; rw [hm]; simp
          rw [hc, q] at h1; cases h1
        · have hm : mark s = (i : Int) := e1
          have hc : cutMark s = (s.extract 0 i, s.extract (i + 1) s.size, true) := by unfold cutMark; rw [hm]; simp
          rw [hc] at h1 h2
          simp only [Bool.true_eq_false, false_or] at h2
          unfold digit at h2
          split at h2
          · next c hl =>
            rw [extract_list] at hl
            have hlen := congrArg List.length hl
            simp only [List.length_drop, List.length_take, List.length_cons, List.length_nil] at hlen
            have hn1 : s.size = i + 2 := by omega
            have hi1 := (isName_iff _).1 h1
            have hsi : (s.extract 0 i).size = i := by simp [ByteArray.size_extract]; omega
            have hipos : 1 ≤ i := by have h11 : 1 ≤ (s.extract 0 i).size := hi1.1; omega
            apply hf
            unfold frameB
            have l2 : s.size - 2 < s.size := by omega
            have l1 : s.size - 1 < s.size := by omega
            rw [byteAt_get l2, byteAt_get l1]
            have e2' : s[s.size - 2] = 39 := by
              have hd := drop_head s.data.toList
              rw [← takeWhile_dropWhile_len, e3, List.length_take, Nat.min_eq_left (by omega)] at hd
              rcases hd with hd | hd
              · have := congrArg List.length hd; simp at this; omega
              · rw [List.drop_eq_getElem_cons (by omega)] at hd
                simp only [List.head?_cons, Option.some.injEq] at hd
                rw [← hd, ← list_get l2]
                congr 1; omega
            have e1' : s[s.size - 1] = c := by
              have hc2 : (s.data.toList.drop (i + 1))[0]? = some c := by
                rw [List.take_of_length_le (by omega)] at hl; rw [hl]; rfl
              rw [List.getElem?_drop, Nat.add_zero, List.getElem?_eq_getElem (by omega)] at hc2
              simp only [Option.some.injEq] at hc2
              rw [← hc2, ← list_get l1]
              congr 1; omega
            rw [e2', e1']
            simp only [Bool.and_eq_true, decide_eq_true_eq] at h2
            simp only [Bool.and_eq_true, decide_eq_true_eq, beq_iff_eq]
            exact ⟨⟨⟨by omega, rfl⟩, h2.1⟩, h2.2⟩
          · cases h2
def s90 : Sp := sp (arg1 Enc.str) Enc.bool (fun s => if s.size ≤ 1048576 then some (okOp s) else none)
abbrev T90 : Tab := tabOf [(118, s118), (39, s39)]
theorem t90 : TabOk Tryz.prog T90 := .cons e118 (.cons e39 .nil)
theorem c90 : CallSound Tryz.prog 90 s90 := by
  refine CallSound.of_sp (T := T90) Tryz.func90 rfl (Nat.le_of_ble_eq_true rfl) fun E s y hy => ?_
  split at hy
  case isFalse => cases hy
  next hl =>
  cases hy
  have hl1 : s.size ≤ lim := by unfold lim; omega
  have hl2 : (frameF s).1.size ≤ lim := by
    unfold frameF; split
    · simp only [ByteArray.size_extract]; unfold lim; omega
    · exact hl1
  have g1 := call118 T90 rfl s hl1
  have g2 := call39 T90 rfl (frameF s).1 hl2
  rw [frame_ok] at g2
  have tT := t90
  generalize T90 = T at *
  refine Dwp.step tT rfl fun K hK => ?_
  simp [init, arg1, EncR.one, Enc.str]
  refine hK _ _ ?_ rfl; clear hK K
  refine Dwp.step tT rfl fun K hK => ?_
  simp [init, g1]
  refine hK _ _ ?_ rfl; clear hK K
  refine Dwp.step tT rfl fun K hK => ?_
  simp [g2]
  refine hK _ _ (Dwp.ret ?_) rfl
  simp [Done, dresults, dres, frz, frz1, frz2, upd, Enc.bool]
theorem e90 : Go.FA.Good Tryz.prog (90, s90) := ⟨c90, Tryz.f90, _, Tryz.func90, rfl, by decide⟩
theorem call90 (T : Tab) (hT : T 90 = some s90) (s : ByteArray) (h : s.size ≤ 1048576) : dcall T 90 [.lit (.string s)] = some (.lit (.bool (okOp s))) :=
  dcall1 (A := Enc.str) (B := Enc.bool) hT (if_pos h)
end Go.Proofs.Yt
namespace Go.Proofs.Yt
open Go Go.FA Go.Proofs
set_option linter.unusedVariables false
set_option linter.unusedSimpArgs false
set_option maxRecDepth 100000

def signAt (s : ByteArray) (j : Nat) : Prop := ∃ h : j < s.size, signByte (s[j].toNat : Int) = true
theorem allB_iff (p : Int → Bool) (s : ByteArray) : allB p s = true ↔ ∀ j, (h : j < s.size) → p (s[j].toNat : Int) = true := by
  unfold allB
  rw [List.all_eq_true]
  constructor
  · intro h j hj
    exact h _ (by rw [← list_get hj]; exact List.getElem_mem _)
  · intro h b hb
    obtain ⟨j, hj, rfl⟩ := List.getElem_of_mem hb
    have hj' : j < s.size := by simpa using hj
    exact h j hj'
theorem signByte_iff (c : Int) : signByte c = true ↔ (¬ c < 33 ∧ ¬ 126 < c ∧ letter c = false ∧ digitB c = false ∧ ¬ c = 95 ∧ ¬ c = 34 ∧ ¬ c = 39 ∧ ¬ c = 92) := by
  unfold signByte
  rw [nameByte_eq]
  cases letter c <;> cases digitB c <;> simp <;> omega
def s119 : Sp := sp (arg1 Enc.str) Enc.bool (fun s => if s.size ≤ lim then some (isPiece s) else none)
abbrev T119 : Tab := tabOf [(39, s39), (83, s83), (84, s84)]
theorem t119 : TabOk Tryz.prog T119 := .cons e39 (.cons e83 (.cons e84 .nil))
attribute [local simp] drunL drunO dwanted dopS own plainOf dop dput eval ofVal Then Ex.then Ex.inBlock upd dbin Tag.isNN nilTest intCmp dload dpart TyI.agg dfieldAddr dfield dindexAddr dindex dlen lenOk dlookup mapOf keyFits dmapUpdate dcallee dbuiltin dstore DV.cells dslice dboundOk dappend appTag rowsOf elemOk growLimit dbuildCells dbuildCells.go structOk fieldsOk dbuildRows goInt
theorem c119 : CallSound Tryz.prog 119 s119 := by
  refine CallSound.of_sp (T := T119) Tryz.func119 rfl (Nat.le_of_ble_eq_true rfl) fun E s y hy => ?_
  split at hy
  case isFalse => cases hy
  next hlim =>
  cases hy
  have g39 := call39 T119 rfl s hlim
  have g83 := call83 T119 rfl
  have g84 := call84 T119 rfl
  have tT := t119
  generalize T119 = T at *
  unfold lim at hlim
  refine Dwp.step tT rfl fun K hK => ?_
  simp [init, arg1, EncR.one, Enc.str]
  refine hK _ _ ?_ rfl; clear hK K
  refine Dwp.seq ?_
  refine Dwp.step tT rfl fun K hK => ?_
  by_cases h1 : 0 < s.size
  case neg =>
    have h1' : (s.size : Int) < 1 := by omega
    simp [init, ty9, h1']
    refine hK _ _ ?_ rfl; clear hK K
    refine Dwp.condT (by simp [eval, upd]) ?_
    refine Dwp.step tT rfl fun K hK => ?_
    simp []
    refine hK _ _ (Dwp.ret ?_) rfl
    simp [Done, dresults, dres, frz, frz1, frz2, Ex.then, upd, Enc.bool, isPiece, h1]
  have h1' : ¬ (s.size : Int) < 1 := by omega
  by_cases h2 : s.size ≤ 20
  case neg =>
    have h2' : (20 : Int) < (s.size : Int) := by omega
    simp [init, ty9, h1', h2']
    refine hK _ _ ?_ rfl; clear hK K
    refine Dwp.condT (by simp [eval, upd]) ?_
    refine Dwp.step tT rfl fun K hK => ?_
    simp []
    refine hK _ _ (Dwp.ret ?_) rfl
    simp [Done, dresults, dres, frz, frz1, frz2, Ex.then, upd, Enc.bool, isPiece, h2]
  have h2' : ¬ (20 : Int) < (s.size : Int) := by omega
  simp [init, ty9, h1', h2']
  refine hK _ _ ?_ rfl; clear hK K
  refine Dwp.condF (by simp [eval, upd]) (Dwp.skip ?_)
  refine Dwp.seq ?_
  refine Dwp.step tT rfl fun K hK => ?_
  by_cases h3 : isName s = true
  · simp [init, g39, h3]
    refine hK _ _ ?_ rfl; clear hK K
    refine Dwp.condT (by simp [eval, upd]) ?_
    refine Dwp.step tT rfl fun K hK => ?_
    simp []
    refine hK _ _ (Dwp.ret ?_) rfl
    simp [Done, dresults, dres, frz, frz1, frz2, Ex.then, upd, Enc.bool, isPiece, h1, h2, h3]
  have h3' : isName s = false := by simpa using h3
  simp [init, g39, h3']
  refine hK _ _ ?_ rfl; clear hK K
  refine Dwp.condF (by simp [eval, upd]) (Dwp.skip ?_)
  refine Dwp.seq ?_
  refine Dwp.step tT rfl fun K hK => ?_
  simp [init, ty9]
  refine hK _ _ ?_ rfl; clear hK K
  have hp : isPiece s = allB signByte s := by simp [isPiece, h1, h2, h3']
  refine Dwp.range tT s.size (fun i a σ => a 0 = .lit (.string s) ∧ ∀ j, j < i → signAt s j) ⟨rfl, rfl, rfl⟩ ⟨rfl, rfl, rfl⟩ ⟨rfl, rfl, rfl⟩ (by decide) (by decide) (by omega) (by simp [upd]) (by simp [upd]) (by simp [upd, init]) ?_ ?_
  · rintro i a σ hi hidx hlen ⟨h0, hok⟩
    refine Dwp.step tT rfl fun K hK => ?_
    simp [hidx]
    refine hK _ _ ?_ rfl; clear hK K
    have hb := bget s i hi
    refine Dwp.step tT rfl fun K hK => ?_
    simp [h0, ty9, hb]
    refine hK _ _ ?_ rfl; clear hK K
    obtain ⟨c, hc⟩ : ∃ c : Int, c = (s[i].toNat : Int) := ⟨_, rfl⟩
    have hdef : signAt s i ↔ signByte c = true := by
      rw [hc]; exact ⟨fun ⟨_, q⟩ => q, fun q => ⟨hi, q⟩⟩
    rw [← hc]
    refine Dwp.step tT rfl fun K hK => ?_
    have bad : ∀ a' σ', a' 52 = .lit (.bool true) → signByte c = false → σ'.n = σ.n + 1 + 2 + 4 → K a' σ' := by
      intro a' σ' h52 ho hn
      refine hK _ _ ?_ hn
      refine Dwp.condT (by simp [eval, h52]) ?_
      refine Dwp.step tT rfl fun K hK => ?_
      simp []
      refine hK _ _ (Dwp.ret ?_) rfl
      have hf : allB signByte s = false := by
        cases q : allB signByte s with
        | false => rfl
        | true =>
          have := (allB_iff _ _).1 q i hi
          rw [← hc, ho] at this; cases this
      simp [Done, dresults, dres, frz, frz1, frz2, Round, Ex.then, upd, Enc.bool, hp, hf]
    have good : ∀ a' σ', (a' 52 = .lit (.bool false) ∧ a' 0 = .lit (.string s) ∧ a' 16 = .lit (.int .i64 s.size) ∧ a' 17 = .lit (.int .i64 i)) → signByte c = true → σ'.n = σ.n + 1 + 2 + 4 → K a' σ' := by
      rintro a' σ' ⟨h52, h0, h16, h17⟩ ho hn
      refine hK _ _ ?_ hn
      refine Dwp.condF (by simp [eval, h52]) (Dwp.skip ?_)
      refine ⟨h17, h16, by simp [upd, h0], fun j hj => ?_⟩
      rcases Nat.lt_succ_iff_lt_or_eq.1 hj with q | rfl
      · exact hok j q
      · exact hdef.2 ho
    have hsb := signByte_iff c
    clear hdef
    repeat (first
      | (refine Then.stepD rfl rfl (fun K1 hK1 => ?_); simp [Then1, Guarded, ty9, g83, g84]; refine hK1 _ _ ?_; clear hK1 K1)
      | (refine Then.stepG rfl rfl rfl (fun K1 hK1 => ?_); simp [Then1, Guarded, ty9, g83, g84]; refine hK1 _ _ ?_; clear hK1 K1)
      | (refine Then.stepN rfl rfl (fun K1 hK1 => ?_); simp [Then1, Guarded, ty9, g83, g84]; refine hK1 _ _ ?_; clear hK1 K1)
      | (refine Then.stepGN rfl rfl rfl (fun K1 hK1 => ?_); simp [Then1, Guarded, ty9, g83, g84]; refine hK1 _ _ ?_; clear hK1 K1))
    by_cases q1 : c < 33
    case pos =>
      repeat (first
        | (refine Then.stepD rfl rfl (fun K1 hK1 => ?_); simp [Then1, Guarded, ty9, g83, g84, q1]; refine hK1 _ _ ?_; clear hK1 K1)
        | (refine Then.stepG rfl rfl rfl (fun K1 hK1 => ?_); simp [Then1, Guarded, ty9, g83, g84, q1]; refine hK1 _ _ ?_; clear hK1 K1)
        | (refine Then.stepN rfl rfl (fun K1 hK1 => ?_); simp [Then1, Guarded, ty9, g83, g84, q1]; refine hK1 _ _ ?_; clear hK1 K1)
        | (refine Then.stepGN rfl rfl rfl (fun K1 hK1 => ?_); simp [Then1, Guarded, ty9, g83, g84, q1]; refine hK1 _ _ ?_; clear hK1 K1))
      refine Then.done (bad _ _ (by simp [upd, q1]) ?_ rfl)
      cases h : signByte c with
      | false => rfl
      | true => have := hsb.1 h; simp [q1] at this
    repeat (first
      | (refine Then.stepD rfl rfl (fun K1 hK1 => ?_); simp [Then1, Guarded, q1, ty9, g83, g84]; refine hK1 _ _ ?_; clear hK1 K1)
      | (refine Then.stepG rfl rfl rfl (fun K1 hK1 => ?_); simp [Then1, Guarded, q1, ty9, g83, g84]; refine hK1 _ _ ?_; clear hK1 K1)
      | (refine Then.stepN rfl rfl (fun K1 hK1 => ?_); simp [Then1, Guarded, q1, ty9, g83, g84]; refine hK1 _ _ ?_; clear hK1 K1)
      | (refine Then.stepGN rfl rfl rfl (fun K1 hK1 => ?_); simp [Then1, Guarded, q1, ty9, g83, g84]; refine hK1 _ _ ?_; clear hK1 K1))
    by_cases q2 : 126 < c
    case pos =>
      repeat (first
        | (refine Then.stepD rfl rfl (fun K1 hK1 => ?_); simp [Then1, Guarded, ty9, g83, g84, q2]; refine hK1 _ _ ?_; clear hK1 K1)
        | (refine Then.stepG rfl rfl rfl (fun K1 hK1 => ?_); simp [Then1, Guarded, ty9, g83, g84, q2]; refine hK1 _ _ ?_; clear hK1 K1)
        | (refine Then.stepN rfl rfl (fun K1 hK1 => ?_); simp [Then1, Guarded, ty9, g83, g84, q2]; refine hK1 _ _ ?_; clear hK1 K1)
        | (refine Then.stepGN rfl rfl rfl (fun K1 hK1 => ?_); simp [Then1, Guarded, ty9, g83, g84, q2]; refine hK1 _ _ ?_; clear hK1 K1))
      refine Then.done (bad _ _ (by simp [upd, q2]) ?_ rfl)
      cases h : signByte c with
      | false => rfl
      | true => have := hsb.1 h; simp [q2] at this
    repeat (first
      | (refine Then.stepD rfl rfl (fun K1 hK1 => ?_); simp [Then1, Guarded, q2, ty9, g83, g84]; refine hK1 _ _ ?_; clear hK1 K1)
      | (refine Then.stepG rfl rfl rfl (fun K1 hK1 => ?_); simp [Then1, Guarded, q2, ty9, g83, g84]; refine hK1 _ _ ?_; clear hK1 K1)
      | (refine Then.stepN rfl rfl (fun K1 hK1 => ?_); simp [Then1, Guarded, q2, ty9, g83, g84]; refine hK1 _ _ ?_; clear hK1 K1)
      | (refine Then.stepGN rfl rfl rfl (fun K1 hK1 => ?_); simp [Then1, Guarded, q2, ty9, g83, g84]; refine hK1 _ _ ?_; clear hK1 K1))
    by_cases q3 : letter c = true
    case pos =>
      repeat (first
        | (refine Then.stepD rfl rfl (fun K1 hK1 => ?_); simp [Then1, Guarded, ty9, g83, g84, q3]; refine hK1 _ _ ?_; clear hK1 K1)
        | (refine Then.stepG rfl rfl rfl (fun K1 hK1 => ?_); simp [Then1, Guarded, ty9, g83, g84, q3]; refine hK1 _ _ ?_; clear hK1 K1)
        | (refine Then.stepN rfl rfl (fun K1 hK1 => ?_); simp [Then1, Guarded, ty9, g83, g84, q3]; refine hK1 _ _ ?_; clear hK1 K1)
        | (refine Then.stepGN rfl rfl rfl (fun K1 hK1 => ?_); simp [Then1, Guarded, ty9, g83, g84, q3]; refine hK1 _ _ ?_; clear hK1 K1))
      refine Then.done (bad _ _ (by simp [upd, q3]) ?_ rfl)
      cases h : signByte c with
      | false => rfl
      | true => have := hsb.1 h; simp [q3] at this
    have q3f : letter c = false := by simpa using q3
    repeat (first
      | (refine Then.stepD rfl rfl (fun K1 hK1 => ?_); simp [Then1, Guarded, q3f, ty9, g83, g84]; refine hK1 _ _ ?_; clear hK1 K1)
      | (refine Then.stepG rfl rfl rfl (fun K1 hK1 => ?_); simp [Then1, Guarded, q3f, ty9, g83, g84]; refine hK1 _ _ ?_; clear hK1 K1)
      | (refine Then.stepN rfl rfl (fun K1 hK1 => ?_); simp [Then1, Guarded, q3f, ty9, g83, g84]; refine hK1 _ _ ?_; clear hK1 K1)
      | (refine Then.stepGN rfl rfl rfl (fun K1 hK1 => ?_); simp [Then1, Guarded, q3f, ty9, g83, g84]; refine hK1 _ _ ?_; clear hK1 K1))
    by_cases q4 : digitB c = true
    case pos =>
      repeat (first
        | (refine Then.stepD rfl rfl (fun K1 hK1 => ?_); simp [Then1, Guarded, ty9, g83, g84, q4]; refine hK1 _ _ ?_; clear hK1 K1)
        | (refine Then.stepG rfl rfl rfl (fun K1 hK1 => ?_); simp [Then1, Guarded, ty9, g83, g84, q4]; refine hK1 _ _ ?_; clear hK1 K1)
        | (refine Then.stepN rfl rfl (fun K1 hK1 => ?_); simp [Then1, Guarded, ty9, g83, g84, q4]; refine hK1 _ _ ?_; clear hK1 K1)
        | (refine Then.stepGN rfl rfl rfl (fun K1 hK1 => ?_); simp [Then1, Guarded, ty9, g83, g84, q4]; refine hK1 _ _ ?_; clear hK1 K1))
      refine Then.done (bad _ _ (by simp [upd, q4]) ?_ rfl)
      cases h : signByte c with
      | false => rfl
      | true => have := hsb.1 h; simp [q4] at this
    have q4f : digitB c = false := by simpa using q4
    repeat (first
      | (refine Then.stepD rfl rfl (fun K1 hK1 => ?_); simp [Then1, Guarded, q4f, ty9, g83, g84]; refine hK1 _ _ ?_; clear hK1 K1)
      | (refine Then.stepG rfl rfl rfl (fun K1 hK1 => ?_); simp [Then1, Guarded, q4f, ty9, g83, g84]; refine hK1 _ _ ?_; clear hK1 K1)
      | (refine Then.stepN rfl rfl (fun K1 hK1 => ?_); simp [Then1, Guarded, q4f, ty9, g83, g84]; refine hK1 _ _ ?_; clear hK1 K1)
      | (refine Then.stepGN rfl rfl rfl (fun K1 hK1 => ?_); simp [Then1, Guarded, q4f, ty9, g83, g84]; refine hK1 _ _ ?_; clear hK1 K1))
    by_cases q5 : c = 95
    case pos =>
      have q5t : (c == 95) = true := by simpa using q5
      repeat (first
        | (refine Then.stepD rfl rfl (fun K1 hK1 => ?_); simp [Then1, Guarded, ty9, g83, g84, q5t]; refine hK1 _ _ ?_; clear hK1 K1)
        | (refine Then.stepG rfl rfl rfl (fun K1 hK1 => ?_); simp [Then1, Guarded, ty9, g83, g84, q5t]; refine hK1 _ _ ?_; clear hK1 K1)
        | (refine Then.stepN rfl rfl (fun K1 hK1 => ?_); simp [Then1, Guarded, ty9, g83, g84, q5t]; refine hK1 _ _ ?_; clear hK1 K1)
        | (refine Then.stepGN rfl rfl rfl (fun K1 hK1 => ?_); simp [Then1, Guarded, ty9, g83, g84, q5t]; refine hK1 _ _ ?_; clear hK1 K1))
      refine Then.done (bad _ _ (by simp [upd, q5t]) ?_ rfl)
      cases h : signByte c with
      | false => rfl
      | true => have := hsb.1 h; simp [q5] at this
    have q5f : (c == 95) = false := by simpa using q5
    repeat (first
      | (refine Then.stepD rfl rfl (fun K1 hK1 => ?_); simp [Then1, Guarded, q5f, ty9, g83, g84]; refine hK1 _ _ ?_; clear hK1 K1)
      | (refine Then.stepG rfl rfl rfl (fun K1 hK1 => ?_); simp [Then1, Guarded, q5f, ty9, g83, g84]; refine hK1 _ _ ?_; clear hK1 K1)
      | (refine Then.stepN rfl rfl (fun K1 hK1 => ?_); simp [Then1, Guarded, q5f, ty9, g83, g84]; refine hK1 _ _ ?_; clear hK1 K1)
      | (refine Then.stepGN rfl rfl rfl (fun K1 hK1 => ?_); simp [Then1, Guarded, q5f, ty9, g83, g84]; refine hK1 _ _ ?_; clear hK1 K1))
    by_cases q6 : c = 34
    case pos =>
      have q6t : (c == 34) = true := by simpa using q6
      repeat (first
        | (refine Then.stepD rfl rfl (fun K1 hK1 => ?_); simp [Then1, Guarded, ty9, g83, g84, q6t]; refine hK1 _ _ ?_; clear hK1 K1)
        | (refine Then.stepG rfl rfl rfl (fun K1 hK1 => ?_); simp [Then1, Guarded, ty9, g83, g84, q6t]; refine hK1 _ _ ?_; clear hK1 K1)
        | (refine Then.stepN rfl rfl (fun K1 hK1 => ?_); simp [Then1, Guarded, ty9, g83, g84, q6t]; refine hK1 _ _ ?_; clear hK1 K1)
        | (refine Then.stepGN rfl rfl rfl (fun K1 hK1 => ?_); simp [Then1, Guarded, ty9, g83, g84, q6t]; refine hK1 _ _ ?_; clear hK1 K1))
      refine Then.done (bad _ _ (by simp [upd, q6t]) ?_ rfl)
      cases h : signByte c with
      | false => rfl
      | true => have := hsb.1 h; simp [q6] at this
    have q6f : (c == 34) = false := by simpa using q6
    repeat (first
      | (refine Then.stepD rfl rfl (fun K1 hK1 => ?_); simp [Then1, Guarded, q6f, ty9, g83, g84]; refine hK1 _ _ ?_; clear hK1 K1)
      | (refine Then.stepG rfl rfl rfl (fun K1 hK1 => ?_); simp [Then1, Guarded, q6f, ty9, g83, g84]; refine hK1 _ _ ?_; clear hK1 K1)
      | (refine Then.stepN rfl rfl (fun K1 hK1 => ?_); simp [Then1, Guarded, q6f, ty9, g83, g84]; refine hK1 _ _ ?_; clear hK1 K1)
      | (refine Then.stepGN rfl rfl rfl (fun K1 hK1 => ?_); simp [Then1, Guarded, q6f, ty9, g83, g84]; refine hK1 _ _ ?_; clear hK1 K1))
    by_cases q7 : c = 39
    case pos =>
      have q7t : (c == 39) = true := by simpa using q7
      repeat (first
        | (refine Then.stepD rfl rfl (fun K1 hK1 => ?_); simp [Then1, Guarded, ty9, g83, g84, q7t]; refine hK1 _ _ ?_; clear hK1 K1)
        | (refine Then.stepG rfl rfl rfl (fun K1 hK1 => ?_); simp [Then1, Guarded, ty9, g83, g84, q7t]; refine hK1 _ _ ?_; clear hK1 K1)
        | (refine Then.stepN rfl rfl (fun K1 hK1 => ?_); simp [Then1, Guarded, ty9, g83, g84, q7t]; refine hK1 _ _ ?_; clear hK1 K1)
        | (refine Then.stepGN rfl rfl rfl (fun K1 hK1 => ?_); simp [Then1, Guarded, ty9, g83, g84, q7t]; refine hK1 _ _ ?_; clear hK1 K1))
      refine Then.done (bad _ _ (by simp [upd, q7t]) ?_ rfl)
      cases h : signByte c with
      | false => rfl
      | true => have := hsb.1 h; simp [q7] at this
    have q7f : (c == 39) = false := by simpa using q7
    repeat (first
      | (refine Then.stepD rfl rfl (fun K1 hK1 => ?_); simp [Then1, Guarded, q7f, ty9, g83, g84]; refine hK1 _ _ ?_; clear hK1 K1)
      | (refine Then.stepG rfl rfl rfl (fun K1 hK1 => ?_); simp [Then1, Guarded, q7f, ty9, g83, g84]; refine hK1 _ _ ?_; clear hK1 K1)
      | (refine Then.stepN rfl rfl (fun K1 hK1 => ?_); simp [Then1, Guarded, q7f, ty9, g83, g84]; refine hK1 _ _ ?_; clear hK1 K1)
      | (refine Then.stepGN rfl rfl rfl (fun K1 hK1 => ?_); simp [Then1, Guarded, q7f, ty9, g83, g84]; refine hK1 _ _ ?_; clear hK1 K1))
    by_cases q8 : c = 92
    case pos =>
      have q8t : (c == 92) = true := by simpa using q8
      repeat (first
        | (refine Then.stepD rfl rfl (fun K1 hK1 => ?_); simp [Then1, Guarded, ty9, g83, g84, q8t]; refine hK1 _ _ ?_; clear hK1 K1)
        | (refine Then.stepG rfl rfl rfl (fun K1 hK1 => ?_); simp [Then1, Guarded, ty9, g83, g84, q8t]; refine hK1 _ _ ?_; clear hK1 K1)
        | (refine Then.stepN rfl rfl (fun K1 hK1 => ?_); simp [Then1, Guarded, ty9, g83, g84, q8t]; refine hK1 _ _ ?_; clear hK1 K1)
        | (refine Then.stepGN rfl rfl rfl (fun K1 hK1 => ?_); simp [Then1, Guarded, ty9, g83, g84, q8t]; refine hK1 _ _ ?_; clear hK1 K1))
      refine Then.done (bad _ _ (by simp [upd, q8t]) ?_ rfl)
      cases h : signByte c with
      | false => rfl
      | true => have := hsb.1 h; simp [q8] at this
    have q8f : (c == 92) = false := by simpa using q8
    repeat (first
      | (refine Then.stepD rfl rfl (fun K1 hK1 => ?_); simp [Then1, Guarded, q8f, ty9, g83, g84]; refine hK1 _ _ ?_; clear hK1 K1)
      | (refine Then.stepG rfl rfl rfl (fun K1 hK1 => ?_); simp [Then1, Guarded, q8f, ty9, g83, g84]; refine hK1 _ _ ?_; clear hK1 K1)
      | (refine Then.stepN rfl rfl (fun K1 hK1 => ?_); simp [Then1, Guarded, q8f, ty9, g83, g84]; refine hK1 _ _ ?_; clear hK1 K1)
      | (refine Then.stepGN rfl rfl rfl (fun K1 hK1 => ?_); simp [Then1, Guarded, q8f, ty9, g83, g84]; refine hK1 _ _ ?_; clear hK1 K1))
    refine Then.done (good _ _ (by simp [upd, h0, hidx, hlen, q8f]) ?_ rfl)
    exact hsb.2 ⟨q1, q2, q3f, q4f, q5, q6, q7, q8⟩
  · rintro a σ hidx hlen ⟨h0, hok⟩
    have hall : allB signByte s = true := (allB_iff _ _).2 fun j hj => by obtain ⟨_, q⟩ := hok j hj; exact q
    refine Dwp.step tT rfl fun K hK => ?_
    simp []
    refine hK _ _ (Dwp.ret ?_) rfl
    simp [Done, dresults, dres, frz, frz1, frz2, Ex.then, upd, Enc.bool, hp, hall]
theorem e119 : Go.FA.Good Tryz.prog (119, s119) := ⟨c119, Tryz.f119, _, Tryz.func119, rfl, by decide⟩
theorem call119 (T : Tab) (hT : T 119 = some s119) (s : ByteArray) (h : s.size ≤ lim) : dcall T 119 [.lit (.string s)] = some (.lit (.bool (isPiece s))) :=
  dcall1 (A := Enc.str) (B := Enc.bool) hT (if_pos h)
end Go.Proofs.Yt
namespace Go.Proofs.Yt
open Go Go.FA Go.Proofs
set_option linter.unusedVariables false
set_option linter.unusedSimpArgs false
set_option maxRecDepth 100000

abbrev rowsI (l : List Int) : List (List DV) := l.map fun n => [DV.lit (.int .i64 n)]
def s93 : Sp := sp (arg1 Enc.opd) Enc.bool (fun o => if o.fits then some (okStrict o) else none)
attribute [local simp] drunL drunO dwanted dopS own plainOf dop dput eval ofVal Then Ex.then Ex.inBlock upd dbin Tag.isNN nilTest intCmp dload dpart TyI.agg dfieldAddr dfield dindexAddr dindex dlen lenOk dlookup mapOf keyFits dmapUpdate dcallee dbuiltin dstore DV.cells dslice dboundOk dappend appTag rowsOf elemOk growLimit dbuildCells dbuildCells.go structOk fieldsOk dbuildRows goInt
theorem c93 : CallSound Tryz.prog 93 s93 := by
  refine CallSound.of_sp (T := tabOf []) Tryz.func93 rfl (Nat.le_of_ble_eq_true rfl) fun E o y hy => ?_
  split at hy
  case isFalse => cases hy
  next hfit =>
  obtain ⟨l1, l2, l3⟩ := hfit
  cases hy
  have tT := tab0 (P := Tryz.prog)
  have no : ∀ (a : Nat → DV) (σ : St), a 2 = .lit (.bool false) → okStrict o = false → Done Tryz.prog Tryz.f93.results Enc.bool (okStrict o) Ex.ret a σ := by
    intro a σ h2 hne
    refine ⟨.inr rfl, .lit (.bool false), ?_, by simp [hne, Done, dresults, dres, frz, frz1, frz2, Enc.bool]⟩
    show dresults Tryz.prog σ a [ResultVar.tmp 2] = _
    simp [dresults, dres, h2]
  refine Dwp.step tT rfl fun K hK => ?_
  simp [init, arg1, EncR.one, Enc.opd, Enc.agg]
  refine hK _ _ ?_ rfl; clear hK K
  refine Dwp.seq ?_
  refine Dwp.step tT rfl fun K hK => ?_
  simp [ty38, ty36, intsC]
  refine hK _ _ ?_ rfl; clear hK K
  refine Dwp.range tT o.strict.length (fun i a σ => a 1 = .row (EncR.opd.enc o) 0 ∧ a 8 = .slice 1 .none (rowsI o.strict) ∧ (∀ n ∈ o.strict.take i, 1 ≤ n ∧ n ≤ o.args.length) ∧ (o.strict.take i).Nodup) ⟨rfl, rfl, rfl⟩ ⟨rfl, rfl, rfl⟩ ⟨rfl, rfl, rfl⟩ (by decide) (by decide) (by omega) (by simp [upd]) (by simp [upd]) (by simp [upd]) ?_ ?_
  · rintro i a σ hi hidx hlen ⟨k1, k8, hall, hnd⟩
    refine Dwp.step tT rfl fun K hK => ?_
    simp [hidx, k8, ty36, ty3, hi]
    refine hK _ _ ?_ rfl; clear hK K
    obtain ⟨n, hn⟩ : ∃ n, n = o.strict[i] := ⟨_, rfl⟩
    rw [← hn]
    refine Dwp.seq ?_
    have bad : ¬ (1 ≤ n ∧ n ≤ (o.args.length : Int)) → okStrict o = false := by
      intro hb
      unfold okStrict
      have : (o.strict.all fun n => decide (1 ≤ n) && decide (n ≤ (o.args.length : Int))) = false := by
        rw [List.all_eq_false]
        refine ⟨n, hn ▸ List.getElem_mem hi, ?_⟩
        simp only [Bool.and_eq_true, decide_eq_true_eq]; exact hb
      rw [this, Bool.false_and]
    refine Dwp.step tT rfl fun K hK => ?_
    by_cases q1 : n < 1
    · simp [q1]
      refine hK _ _ ?_ rfl; clear hK K
      refine Dwp.condT (by simp [eval, upd]) ?_
      refine Dwp.step tT rfl fun K hK => ?_
      simp []
      refine hK _ _ (Dwp.ret ?_) rfl
      exact no _ _ (by simp [upd]) (bad (by omega))
    by_cases q2 : (o.args.length : Int) < n
    · simp [q1, k1, ty38, ty22, strsC, q2]
      refine hK _ _ ?_ rfl; clear hK K
      refine Dwp.condT (by simp [eval, upd]) ?_
      refine Dwp.step tT rfl fun K hK => ?_
      simp []
      refine hK _ _ (Dwp.ret ?_) rfl
      exact no _ _ (by simp [upd]) (bad (by omega))
    simp [q1, k1, ty38, ty22, strsC, q2]
    refine hK _ _ ?_ rfl; clear hK K
    refine Dwp.condF (by simp [eval, upd]) (Dwp.skip ?_)
    refine Dwp.step tT rfl fun K hK => ?_
    have hi' : i ≤ o.strict.length := by omega
    have hmin : min i o.strict.length = i := by omega
    simp [k1, ty38, ty36, ty3, intsC, hi', hmin]
    refine hK _ _ ?_ rfl; clear hK K
    refine Dwp.range tT i (fun k a σ => a 1 = .row (EncR.opd.enc o) 0 ∧ a 8 = .slice 1 .none (rowsI o.strict) ∧ a 9 = .lit (.int .i64 o.strict.length) ∧ a 10 = .lit (.int .i64 i) ∧ a 4 = .lit (.int .i64 n) ∧ a 27 = .slice 1 .none (rowsI (o.strict.take i)) ∧ n ∉ (o.strict.take i).take k)
      ⟨rfl, rfl, rfl⟩ ⟨rfl, rfl, rfl⟩ ⟨rfl, rfl, rfl⟩ (by decide) (by decide) (by omega) (by simp [upd]) (by simp [upd]) ⟨by simp [upd, k1], by simp [upd, k8], by simp [upd, hlen], by simp [upd, hidx], by simp [upd], by simp [upd, List.map_take], by simp⟩ ?_ ?_
    · rintro k a σ hk hidx hlen ⟨k1, k8, k9, k10, k4, k27, hno⟩
      have hkl : k < (o.strict.take i).length := by rw [List.length_take]; omega
      obtain ⟨l, hl⟩ : ∃ l, l = o.strict.take i := ⟨_, rfl⟩
      rw [← hl] at hkl k27 hno
      refine Dwp.step tT rfl fun K hK => ?_
      simp [hidx, k27, ty36, ty3, hkl]
      refine hK _ _ ?_ rfl; clear hK K
      refine Dwp.step tT rfl fun K hK => ?_
      by_cases q : l[k] = n
      · simp [k4, q]
        refine hK _ _ ?_ rfl; clear hK K
        refine Dwp.condT (by simp [eval, upd]) ?_
        refine Dwp.step tT rfl fun K hK => ?_
        simp []
        refine hK _ _ (Dwp.ret ?_) rfl
        refine no _ _ (by simp [upd]) ?_
        unfold okStrict
        have : ¬ o.strict.Nodup := by
          intro e
          have h1 := ((nodup_take_succ hi).1 (nodup_take e (i + 1))).2
          rw [← hn, ← hl] at h1
          exact h1 (q ▸ List.getElem_mem hkl)
        simp [this]
      · have q' : (l[k] == n) = false := by simpa using q
        simp [k4, q']
        refine hK _ _ ?_ rfl; clear hK K
        refine Dwp.condF (by simp [eval, upd]) (Dwp.skip ?_)
        refine ⟨by simp [upd, hidx], by simp [upd, hlen], by simp [upd, k1], by simp [upd, k8], by simp [upd, k9], by simp [upd, k10], by simp [upd, k4], by simp [upd, k27, hl], ?_⟩
        rw [← hl, mem_take_succ hkl]
        rintro (e | e)
        · exact hno e
        · exact q e.symm
    · rintro a σ hidx hlen ⟨k1, k8, k9, k10, k4, k27, hno⟩
      rw [List.take_of_length_le (by rw [List.length_take]; omega)] at hno
      refine ⟨by simp [upd, k10], by simp [upd, k9], by simp [upd, k1], by simp [upd, k8], fun m hm => ?_, (nodup_take_succ hi).2 ⟨hnd, hn ▸ hno⟩⟩
      rcases (mem_take_succ hi m).1 hm with e | e
      · exact hall m e
      · rw [e, ← hn]; omega
  · rintro a σ hidx hlen ⟨k1, k8, hall, hnd⟩
    rw [List.take_length] at hall hnd
    have hok : okStrict o = true := by
      unfold okStrict
      simp only [Bool.and_eq_true, List.all_eq_true, decide_eq_true_eq]
      exact ⟨hall, hnd⟩
    refine Dwp.step tT rfl fun K hK => ?_
    simp []
    refine hK _ _ (Dwp.ret ?_) rfl
    simp [Done, dresults, dres, frz, frz1, frz2, Ex.then, upd, Enc.bool, hok]
theorem e93 : Go.FA.Good Tryz.prog (93, s93) := ⟨c93, Tryz.f93, _, Tryz.func93, rfl, by decide⟩
theorem call93 (T : Tab) (hT : T 93 = some s93) (o : OpD) (h : o.fits) : dcall T 93 [.agg (EncR.opd.enc o)] = some (.lit (.bool (okStrict o))) :=
  dcall1 (A := Enc.opd) (B := Enc.bool) (x := o) hT (if_pos h)
end Go.Proofs.Yt
namespace Go.Proofs.Yt
open Go Go.FA Go.Proofs
set_option linter.unusedVariables false
set_option linter.unusedSimpArgs false
set_option maxRecDepth 100000

def OpD.short (o : OpD) : Prop := o.fits ∧ ∀ p ∈ o.pieces, p.text.size ≤ 1048576
instance (o : OpD) : Decidable o.short := by unfold OpD.short; infer_instance
def s92 : Sp := sp (arg1 Enc.opd) Enc.bool (fun o => if o.short then some (okPieces o && okBinding o) else none)
abbrev T92 : Tab := tabOf [(119, s119), (60, s60)]
theorem t92 : TabOk Tryz.prog T92 := .cons e119 (.cons e60 .nil)
theorem pieArgs_length : ∀ {l : List Pie} {r : List ByteArray}, pieArgs l = some r → r.length ≤ l.length
  | [], r, h => by simp [pieArgs] at h; subst h; simp
  | p :: l, r, h => by
    simp only [pieArgs] at h
    split at h
    · split at h
      · have := pieArgs_length h; simp; omega
      · cases h
    · split at h
      · obtain ⟨b, hb, rfl⟩ := Option.map_eq_some_iff.1 h
        have := pieArgs_length hb; simp; omega
      · cases h
attribute [local simp] drunL drunO dwanted dopS own plainOf dop dput eval ofVal Then Ex.then Ex.inBlock upd dbin Tag.isNN nilTest intCmp dload dpart TyI.agg dfieldAddr dfield dindexAddr dindex dlen lenOk dlookup mapOf keyFits dmapUpdate dcallee dbuiltin dstore DV.cells dslice dboundOk dappend appTag rowsOf elemOk growLimit dbuildCells dbuildCells.go structOk fieldsOk dbuildRows goInt
set_option maxHeartbeats 2000000 in
theorem c92 : CallSound Tryz.prog 92 s92 := by
  refine CallSound.of_sp (T := T92) Tryz.func92 rfl (Nat.le_of_ble_eq_true rfl) fun E o y hy => ?_
  split at hy
  case isFalse => cases hy
  next hfit =>
  obtain ⟨⟨l1, l2, l3⟩, l4⟩ := hfit
  cases hy
  have g119 := call119 T92 rfl
  have g60 : ∀ (d : DV) (l : List ByteArray), Enc.strs.dec d = some l → l.length ≤ 1048576 → dcall T92 60 [d, Enc.strs.enc o.args] = some (.lit (.bool (decide (l = o.args)))) := by
    intro d l hd hl
    have h0 := Enc.strs.de o.args
    simp [dcall, T92, tabOf, s60, sp, arg2, EncR.and, EncR.one, hd, h0, hl, l1, Enc.bool]
  have tT := t92
  generalize T92 = T at *
  have no : ∀ (a : Nat → DV) (σ : St), a 2 = .lit (.bool false) → okPieces o = false → Done Tryz.prog Tryz.f92.results Enc.bool (okPieces o && okBinding o) Ex.ret a σ := by
    intro a σ h2 hne
    refine ⟨.inr rfl, .lit (.bool false), ?_, by simp [hne, Done, dresults, dres, frz, frz1, frz2, Enc.bool]⟩
    show dresults Tryz.prog σ a [ResultVar.tmp 2] = _
    simp [dresults, dres, h2]
  have hnone : pieArgs o.pieces = none → okPieces o = false := by
    intro h
    unfold okPieces
    have h0 : ¬ o.pieces.length = 0 := by
      intro e; rw [List.eq_nil_of_length_eq_zero e] at h; cases h
    rw [if_neg h0]
    split
    · rfl
    · rw [h]; rfl
  refine Dwp.step tT rfl fun K hK => ?_
  simp [init, arg1, EncR.one, Enc.opd, Enc.agg]
  refine hK _ _ ?_ rfl; clear hK K
  refine Dwp.step tT rfl fun K hK => ?_
  simp []
  refine hK _ _ ?_ rfl; clear hK K
  refine Dwp.seq ?_
  refine Dwp.step tT rfl fun K hK => ?_
  simp [ty38, ty34, piesC]
  refine hK _ _ ?_ rfl; clear hK K
  refine Dwp.range tT o.pieces.length (fun i a σ => ∃ acc, a 1 = .row (EncR.opd.enc o) 0 ∧ a 7 = .slice 2 .none (o.pieces.map EncR.pie.enc) ∧ pieArgs o.pieces = (pieArgs (o.pieces.drop i)).map (acc ++ ·) ∧ acc.length ≤ i ∧ Acc σ 1 (rows1 acc) (a 3))
    ⟨rfl, rfl, rfl⟩ ⟨rfl, rfl, rfl⟩ ⟨rfl, rfl, rfl⟩ (by decide) (by decide) (by omega) (by simp [upd]) (by simp [upd]) ⟨[], by simp [upd], by simp [upd], by simp, by simp, .inl ⟨rfl, by simp [upd]⟩⟩ ?_ ?_
  · rintro i a σ hi hidx hlen ⟨acc, k1, k7, hpa, hacc, k3⟩
    rw [List.drop_eq_getElem_cons hi, pieArgs] at hpa
    have hsz := l4 o.pieces[i] (List.getElem_mem hi)
    have g := g119 o.pieces[i].text (by unfold lim; omega)
    obtain ⟨p, hp⟩ : ∃ p, p = o.pieces[i] := ⟨_, rfl⟩
    rw [← hp] at hpa hsz g
    have pie0 : (EncR.pie.enc p)[0]? = some (.lit (.string p.text)) := rfl
    have pie1 : (EncR.pie.enc p)[1]? = some (.lit (.string p.sort)) := rfl
    have setP : setAt [DV.lit (.string ⟨#[]⟩), .lit (.string ⟨#[]⟩)] 0 (EncR.pie.enc p) = EncR.pie.enc p := rfl
    refine Dwp.step tT rfl fun K hK => ?_
    simp [hidx, k7, ty34, ty69, hi, ← hp, setP]
    refine hK _ _ ?_ rfl; clear hK K
    refine Dwp.block ?_
    refine Dwp.step tT rfl fun K hK => ?_
    by_cases q1 : p.sort = ⟨#[]⟩
    · simp [ty69, ty9, pie0, pie1, q1]
      refine hK _ _ ?_ rfl; clear hK K
      refine Dwp.condF (by simp [eval, upd]) ?_
      refine Dwp.step tT rfl fun K hK => ?_
      simp [ty69, ty9, pie0, pie1, q1]
      refine hK _ _ ?_ rfl; clear hK K
      refine Dwp.condF (by simp [eval, upd]) ?_
      refine Dwp.step tT rfl fun K hK => ?_
      rw [if_pos q1] at hpa
      by_cases q2 : isPiece p.text = true
      · rw [if_pos q2] at hpa
        rw [q2] at g
        simp [ty69, ty9, pie0, pie1, g]
        refine hK _ _ ?_ rfl; clear hK K
        refine Dwp.condF (by simp [eval, upd]) (Dwp.skip ?_)
        exact ⟨by simp [upd, hidx], by simp [upd, hlen], acc, by simp [upd, k1], by simp [upd, k7], hpa, by omega, by simp only [upd]; exact k3.toks rfl⟩
      · rw [if_neg q2] at hpa
        have q2' : isPiece p.text = false := by simpa using q2
        rw [q2'] at g
        simp [ty69, ty9, pie0, pie1, g]
        refine hK _ _ ?_ rfl; clear hK K
        refine Dwp.condT (by simp [eval, upd]) ?_
        refine Dwp.step tT rfl fun K hK => ?_
        simp []
        refine hK _ _ (Dwp.ret ?_) rfl
        exact no _ _ (by simp [upd]) (hnone (by simpa using hpa))
    · rw [if_neg q1] at hpa
      by_cases q2 : p.text = ⟨#[]⟩
      · rw [if_pos q2] at hpa
        simp [ty69, ty9, pie0, pie1, q1, q2]
        refine hK _ _ ?_ rfl; clear hK K
        refine Dwp.condF (by simp [eval, upd]) ?_
        refine Dwp.step tT rfl fun K hK => ?_
        simp [ty69, ty9, pie0, pie1, q1]
        refine hK _ _ ?_ rfl; clear hK K
        refine Dwp.condT (by simp [eval, upd]) ?_
        refine Dwp.reg tT rfl fun K hK => ?_
        have hpa' : pieArgs o.pieces = (pieArgs (o.pieces.drop (i + 1))).map ((acc ++ [p.sort]) ++ ·) := by
          rw [hpa]; cases pieArgs (o.pieces.drop (i + 1)) <;> simp
        have hsmall : acc.length + 1 ≤ 16777216 := by omega
        rcases k3 with ⟨hr, k3⟩ | ⟨tk, gg, k3, hg⟩
        · simp at hr; subst hr
          simp [k3, ty69, ty9, ty22, pie0, pie1]
          refine hK _ _ ?_ rfl; clear hK K
          exact ⟨by simp [upd, hidx], by simp [upd, hlen], _, by simp [upd, k1], by simp [upd, k7], hpa', by simp <;> omega, .inr ⟨_, _, by simp [upd]; exact ⟨rfl, rfl⟩, by simp [upd]⟩⟩
        · simp [k3, hg, ty69, ty9, ty22, hsmall, pie0, pie1]
          refine hK _ _ ?_ rfl; clear hK K
          exact ⟨by simp [upd, hidx], by simp [upd, hlen], _, by simp [upd, k1], by simp [upd, k7], hpa', by simp <;> omega, .inr ⟨_, _, by simp [upd]; exact ⟨rfl, rfl⟩, by simp [upd]⟩⟩
      · rw [if_neg q2] at hpa
        simp [ty69, ty9, pie0, pie1, q1, q2]
        refine hK _ _ ?_ rfl; clear hK K
        refine Dwp.condT (by simp [eval, upd]) ?_
        refine Dwp.step tT rfl fun K hK => ?_
        simp []
        refine hK _ _ (Dwp.ret ?_) rfl
        exact no _ _ (by simp [upd]) (hnone (by simpa using hpa))
  · rintro a σ hidx hlen ⟨acc, k1, k7, hpa, hacc, k3⟩
    rw [List.drop_eq_nil_of_le (Nat.le_refl _)] at hpa
    have hpa2 : pieArgs o.pieces = some acc := by rw [hpa]; simp [pieArgs]
    have g := g60 (a 3) acc (k3.dec (A := EncR.one Enc.str) (strs_dec acc)) (by omega)
    have fin : ∀ (a : Nat → DV) (σ : St) (b : Bool), a 2 = .lit (.bool b) → (okPieces o && okBinding o) = b → Done Tryz.prog Tryz.f92.results Enc.bool (okPieces o && okBinding o) Ex.ret a σ := by
      intro a σ b h2 hne
      refine ⟨.inr rfl, .lit (.bool b), ?_, by rw [hne]; rfl⟩
      show dresults Tryz.prog σ a [ResultVar.tmp 2] = _
      simp [dresults, dres, h2]
    refine Dwp.seq ?_
    refine Dwp.step tT rfl fun K hK => ?_
    by_cases h0 : o.pieces.length = 0
    · have h0' : ((o.pieces.length : Int) == 0) = true := by simp [h0]
      have hp : okPieces o = true := by unfold okPieces; rw [if_pos h0]
      simp [k1, ty38, ty34, piesC, h0']
      refine hK _ _ ?_ rfl; clear hK K
      refine Dwp.condT (by simp [eval, upd]) ?_
      refine Dwp.step tT rfl fun K hK => ?_
      by_cases h1 : o.prec = 0
      · have h1' : (o.prec == 0) = true := by simp [h1]
        simp [k1, ty38, ty3, ty35, h1']
        refine hK _ _ (Dwp.ret ?_) rfl
        refine fin _ _ (o.assoc == 0) (by simp [upd]) ?_
        rw [hp]; unfold okBinding; rw [if_pos h1, Bool.true_and]; rfl
      · have h1' : (o.prec == 0) = false := by simpa using h1
        simp [k1, ty38, ty3, ty35, h1']
        refine hK _ _ (Dwp.ret ?_) rfl
        refine fin _ _ false (by simp [upd]) ?_
        rw [hp]; unfold okBinding; rw [if_neg h1]; simp [h0]
    have h0' : ((o.pieces.length : Int) == 0) = false := beq_false_of_ne (by omega)
    simp [k1, ty38, ty34, piesC, h0']
    refine hK _ _ ?_ rfl; clear hK K
    refine Dwp.condF (by simp [eval, upd]) (Dwp.skip ?_)
    refine Dwp.step tT rfl fun K hK => ?_
    by_cases q1 : o.pieces.length ≤ 20
    case neg =>
      have q1' : ¬ (o.pieces.length : Int) ≤ 20 := by omega
      repeat (first
        | (refine Then.stepD rfl rfl (fun K1 hK1 => ?_); simp [Then1, Guarded, k1, ty38, ty34, piesC, q1']; refine hK1 _ _ ?_; clear hK1 K1)
        | (refine Then.stepG rfl rfl rfl (fun K1 hK1 => ?_); simp [Then1, Guarded, k1, ty38, ty34, piesC, q1']; refine hK1 _ _ ?_; clear hK1 K1)
        | (refine Then.stepN rfl rfl (fun K1 hK1 => ?_); simp [Then1, Guarded, k1, ty38, ty34, piesC, q1']; refine hK1 _ _ ?_; clear hK1 K1)
        | (refine Then.stepGN rfl rfl rfl (fun K1 hK1 => ?_); simp [Then1, Guarded, k1, ty38, ty34, piesC, q1']; refine hK1 _ _ ?_; clear hK1 K1))
      refine Then.done (hK _ _ (Dwp.ret ?_) rfl)
      exact fin _ _ false (by simp [upd]) (by unfold okPieces; rw [if_neg h0, if_pos (by omega)]; rfl)
    have q1' : (o.pieces.length : Int) ≤ 20 := by omega
    by_cases q2 : acc = o.args
    case neg =>
      simp only [q2, decide_false] at g
      repeat (first
        | (refine Then.stepD rfl rfl (fun K1 hK1 => ?_); simp [Then1, Guarded, k1, ty38, ty34, ty22, piesC, q1', g]; refine hK1 _ _ ?_; clear hK1 K1)
        | (refine Then.stepG rfl rfl rfl (fun K1 hK1 => ?_); simp [Then1, Guarded, k1, ty38, ty34, ty22, piesC, q1', g]; refine hK1 _ _ ?_; clear hK1 K1)
        | (refine Then.stepN rfl rfl (fun K1 hK1 => ?_); simp [Then1, Guarded, k1, ty38, ty34, ty22, piesC, q1', g]; refine hK1 _ _ ?_; clear hK1 K1)
        | (refine Then.stepGN rfl rfl rfl (fun K1 hK1 => ?_); simp [Then1, Guarded, k1, ty38, ty34, ty22, piesC, q1', g]; refine hK1 _ _ ?_; clear hK1 K1))
      refine Then.done (hK _ _ (Dwp.ret ?_) rfl)
      exact fin _ _ false (by simp [upd]) (by unfold okPieces; rw [if_neg h0, if_neg (by omega), hpa2]; simp [q2])
    simp only [q2, decide_true] at g
    have hp : okPieces o = true := by unfold okPieces; rw [if_neg h0, if_neg (by omega), hpa2]; simp [q2]
    by_cases q3 : 0 ≤ o.prec
    case neg =>
      repeat (first
        | (refine Then.stepD rfl rfl (fun K1 hK1 => ?_); simp [Then1, Guarded, k1, ty38, ty34, ty22, ty3, piesC, q1', g, q3]; refine hK1 _ _ ?_; clear hK1 K1)
        | (refine Then.stepG rfl rfl rfl (fun K1 hK1 => ?_); simp [Then1, Guarded, k1, ty38, ty34, ty22, ty3, piesC, q1', g, q3]; refine hK1 _ _ ?_; clear hK1 K1)
        | (refine Then.stepN rfl rfl (fun K1 hK1 => ?_); simp [Then1, Guarded, k1, ty38, ty34, ty22, ty3, piesC, q1', g, q3]; refine hK1 _ _ ?_; clear hK1 K1)
        | (refine Then.stepGN rfl rfl rfl (fun K1 hK1 => ?_); simp [Then1, Guarded, k1, ty38, ty34, ty22, ty3, piesC, q1', g, q3]; refine hK1 _ _ ?_; clear hK1 K1))
      refine Then.done (hK _ _ (Dwp.ret ?_) rfl)
      refine fin _ _ false (by simp [upd]) ?_
      rw [hp]; unfold okBinding; rw [if_neg (by omega)]; simp; omega
    by_cases q4 : o.prec ≤ 20
    case neg =>
      repeat (first
        | (refine Then.stepD rfl rfl (fun K1 hK1 => ?_); simp [Then1, Guarded, k1, ty38, ty34, ty22, ty3, piesC, q1', g, q3, q4]; refine hK1 _ _ ?_; clear hK1 K1)
        | (refine Then.stepG rfl rfl rfl (fun K1 hK1 => ?_); simp [Then1, Guarded, k1, ty38, ty34, ty22, ty3, piesC, q1', g, q3, q4]; refine hK1 _ _ ?_; clear hK1 K1)
        | (refine Then.stepN rfl rfl (fun K1 hK1 => ?_); simp [Then1, Guarded, k1, ty38, ty34, ty22, ty3, piesC, q1', g, q3, q4]; refine hK1 _ _ ?_; clear hK1 K1)
        | (refine Then.stepGN rfl rfl rfl (fun K1 hK1 => ?_); simp [Then1, Guarded, k1, ty38, ty34, ty22, ty3, piesC, q1', g, q3, q4]; refine hK1 _ _ ?_; clear hK1 K1))
      refine Then.done (hK _ _ (Dwp.ret ?_) rfl)
      refine fin _ _ false (by simp [upd]) ?_
      rw [hp]; unfold okBinding; rw [if_neg (by omega)]; simp; omega
    by_cases q5 : 0 ≤ o.assoc
    case neg =>
      repeat (first
        | (refine Then.stepD rfl rfl (fun K1 hK1 => ?_); simp [Then1, Guarded, k1, ty38, ty34, ty22, ty3, ty35, piesC, q1', g, q3, q4, q5]; refine hK1 _ _ ?_; clear hK1 K1)
        | (refine Then.stepG rfl rfl rfl (fun K1 hK1 => ?_); simp [Then1, Guarded, k1, ty38, ty34, ty22, ty3, ty35, piesC, q1', g, q3, q4, q5]; refine hK1 _ _ ?_; clear hK1 K1)
        | (refine Then.stepN rfl rfl (fun K1 hK1 => ?_); simp [Then1, Guarded, k1, ty38, ty34, ty22, ty3, ty35, piesC, q1', g, q3, q4, q5]; refine hK1 _ _ ?_; clear hK1 K1)
        | (refine Then.stepGN rfl rfl rfl (fun K1 hK1 => ?_); simp [Then1, Guarded, k1, ty38, ty34, ty22, ty3, ty35, piesC, q1', g, q3, q4, q5]; refine hK1 _ _ ?_; clear hK1 K1))
      refine Then.done (hK _ _ (Dwp.ret ?_) rfl)
      refine fin _ _ false (by simp [upd]) ?_
      rw [hp]; unfold okBinding; split <;> simp <;> omega
    by_cases q6 : o.assoc ≤ 2
    case neg =>
      repeat (first
        | (refine Then.stepD rfl rfl (fun K1 hK1 => ?_); simp [Then1, Guarded, k1, ty38, ty34, ty22, ty3, ty35, piesC, q1', g, q3, q4, q5, q6]; refine hK1 _ _ ?_; clear hK1 K1)
        | (refine Then.stepG rfl rfl rfl (fun K1 hK1 => ?_); simp [Then1, Guarded, k1, ty38, ty34, ty22, ty3, ty35, piesC, q1', g, q3, q4, q5, q6]; refine hK1 _ _ ?_; clear hK1 K1)
        | (refine Then.stepN rfl rfl (fun K1 hK1 => ?_); simp [Then1, Guarded, k1, ty38, ty34, ty22, ty3, ty35, piesC, q1', g, q3, q4, q5, q6]; refine hK1 _ _ ?_; clear hK1 K1)
        | (refine Then.stepGN rfl rfl rfl (fun K1 hK1 => ?_); simp [Then1, Guarded, k1, ty38, ty34, ty22, ty3, ty35, piesC, q1', g, q3, q4, q5, q6]; refine hK1 _ _ ?_; clear hK1 K1))
      refine Then.done (hK _ _ (Dwp.ret ?_) rfl)
      refine fin _ _ false (by simp [upd]) ?_
      rw [hp]; unfold okBinding; split <;> simp <;> omega
    by_cases q7 : 0 < o.prec
    case pos =>
      repeat (first
        | (refine Then.stepD rfl rfl (fun K1 hK1 => ?_); simp [Then1, Guarded, k1, ty38, ty34, ty22, ty3, ty35, piesC, q1', g, q3, q4, q5, q6, q7]; refine hK1 _ _ ?_; clear hK1 K1)
        | (refine Then.stepG rfl rfl rfl (fun K1 hK1 => ?_); simp [Then1, Guarded, k1, ty38, ty34, ty22, ty3, ty35, piesC, q1', g, q3, q4, q5, q6, q7]; refine hK1 _ _ ?_; clear hK1 K1)
        | (refine Then.stepN rfl rfl (fun K1 hK1 => ?_); simp [Then1, Guarded, k1, ty38, ty34, ty22, ty3, ty35, piesC, q1', g, q3, q4, q5, q6, q7]; refine hK1 _ _ ?_; clear hK1 K1)
        | (refine Then.stepGN rfl rfl rfl (fun K1 hK1 => ?_); simp [Then1, Guarded, k1, ty38, ty34, ty22, ty3, ty35, piesC, q1', g, q3, q4, q5, q6, q7]; refine hK1 _ _ ?_; clear hK1 K1))
      refine Then.done (hK _ _ (Dwp.ret ?_) rfl)
      refine fin _ _ true (by simp [upd]) ?_
      rw [hp]; unfold okBinding; rw [if_neg (by omega)]; simp; omega
    repeat (first
      | (refine Then.stepD rfl rfl (fun K1 hK1 => ?_); simp [Then1, Guarded, k1, ty38, ty34, ty22, ty3, ty35, piesC, q1', g, q3, q4, q5, q6, q7]; refine hK1 _ _ ?_; clear hK1 K1)
      | (refine Then.stepG rfl rfl rfl (fun K1 hK1 => ?_); simp [Then1, Guarded, k1, ty38, ty34, ty22, ty3, ty35, piesC, q1', g, q3, q4, q5, q6, q7]; refine hK1 _ _ ?_; clear hK1 K1)
      | (refine Then.stepN rfl rfl (fun K1 hK1 => ?_); simp [Then1, Guarded, k1, ty38, ty34, ty22, ty3, ty35, piesC, q1', g, q3, q4, q5, q6, q7]; refine hK1 _ _ ?_; clear hK1 K1)
      | (refine Then.stepGN rfl rfl rfl (fun K1 hK1 => ?_); simp [Then1, Guarded, k1, ty38, ty34, ty22, ty3, ty35, piesC, q1', g, q3, q4, q5, q6, q7]; refine hK1 _ _ ?_; clear hK1 K1))
    refine Then.done (hK _ _ (Dwp.ret ?_) rfl)
    refine fin _ _ (o.assoc == 0) (by simp [upd]) ?_
    rw [hp]; unfold okBinding; rw [if_pos (by omega), Bool.true_and]; rfl
theorem e92 : Go.FA.Good Tryz.prog (92, s92) := ⟨c92, Tryz.f92, _, Tryz.func92, rfl, by decide⟩
theorem call92 (T : Tab) (hT : T 92 = some s92) (o : OpD) (h : o.short) : dcall T 92 [.agg (EncR.opd.enc o)] = some (.lit (.bool (okPieces o && okBinding o))) :=
  dcall1 (A := Enc.opd) (B := Enc.bool) (x := o) hT (if_pos h)
end Go.Proofs.Yt
namespace Go.Proofs.Yt
open Go Go.FA Go.Proofs
set_option linter.unusedVariables false
set_option linter.unusedSimpArgs false
set_option maxRecDepth 100000

/-- sizes, with those of the sorts' names and of what operators write -/
def SigD.ok2 (s : SigD) : Prop := s.ok ∧ (∀ x ∈ s.sorts, x.size ≤ 1048576) ∧ ∀ o ∈ s.ops, ∀ p ∈ o.pieces, p.text.size ≤ 1048576
instance (s : SigD) : Decidable s.ok2 := by unfold SigD.ok2; infer_instance
theorem okSorts_iff (l : List ByteArray) : okSorts l = true ↔ (∀ x ∈ l, isName x = true ∧ x ∉ always) ∧ l.Nodup := by
  unfold okSorts
  simp only [Bool.and_eq_true, List.all_eq_true, decide_eq_true_eq, List.nodup_append]
  constructor
  · rintro ⟨h1, _, h3, h4⟩
    exact ⟨fun x hx => ⟨h1 x hx, fun hm => h4 x ((always_mem x).1 hm) x hx rfl⟩, h3⟩
  · rintro ⟨h1, h2⟩
    refine ⟨fun x hx => (h1 x hx).1, by decide, h2, fun a ha b hb e => ?_⟩
    subst e
    exact (h1 a hb).2 ((always_mem a).2 ha)
def s45 : Sp := sp (arg1 Enc.sigd) Enc.bool (fun s => if s.ok2 then some (decide (s.sorts.length ≤ 40) && okSorts s.sorts) else none)
abbrev T45 : Tab := tabOf [(39, s39), (85, s85), (42, s42), (49, s49)]
theorem t45 : TabOk Tryz.prog T45 := .cons e39 (.cons e85 (.cons e42 (.cons e49 .nil)))
attribute [local simp] drunL drunO dwanted dopS own plainOf dop dput eval ofVal Then Ex.then Ex.inBlock upd dbin Tag.isNN nilTest intCmp dload dpart TyI.agg dfieldAddr dfield dindexAddr dindex dlen lenOk dlookup mapOf keyFits dmapUpdate dcallee dbuiltin dstore DV.cells dslice dboundOk dappend appTag rowsOf elemOk growLimit dbuildCells dbuildCells.go structOk fieldsOk dbuildRows goInt
theorem c45 : CallSound Tryz.prog 45 s45 := by
  refine CallSound.of_sp (T := T45) Tryz.func45 rfl (Nat.le_of_ble_eq_true rfl) fun E s y hy => ?_
  split at hy
  case isFalse => cases hy
  next hok =>
  obtain ⟨hok, hsz, _⟩ := hok
  cases hy
  have hl := hok.1
  have g39 := fun x h => call39 T45 rfl x h
  have g85 := call85 T45 rfl
  have g42 := fun x tag => call42 T45 rfl always x (by decide) tag
  have g49 := call49 T45 rfl (Enc.strs.enc s.sorts) s.sorts (Enc.strs.de _) hl
  have tT := t45
  generalize T45 = T at *
  have hiff := okSorts_iff s.sorts
  have fin : ∀ (a : Nat → DV) (σ : St) (b : Bool), a 2 = .lit (.bool b) → (decide (s.sorts.length ≤ 40) && okSorts s.sorts) = b → Done Tryz.prog Tryz.f45.results Enc.bool (decide (s.sorts.length ≤ 40) && okSorts s.sorts) Ex.ret a σ := by
    intro a σ b h2 hne
    refine ⟨.inr rfl, .lit (.bool b), ?_, by rw [hne]; rfl⟩
    show dresults Tryz.prog σ a [ResultVar.tmp 2] = _
    simp [dresults, dres, h2]
  refine Dwp.step tT rfl fun K hK => ?_
  simp [init, arg1, EncR.one, Enc.sigd, Enc.agg]
  refine hK _ _ ?_ rfl; clear hK K
  refine Dwp.seq ?_
  refine Dwp.step tT rfl fun K hK => ?_
  simp [ty26, ty22, strsC]
  refine hK _ _ ?_ rfl; clear hK K
  refine Dwp.range tT s.sorts.length (fun i a σ => a 1 = .row (EncR.sigd.enc s) 0 ∧ a 6 = .slice 1 .none (rows1 s.sorts) ∧ ∀ x ∈ s.sorts.take i, isName x = true ∧ x ∉ always) ⟨rfl, rfl, rfl⟩ ⟨rfl, rfl, rfl⟩ ⟨rfl, rfl, rfl⟩ (by decide) (by decide) (by omega) (by simp [upd]) (by simp [upd]) (by simp [upd]) ?_ ?_
  · rintro i a σ hi hidx hlen ⟨k1, k6, hall⟩
    refine Dwp.step tT rfl fun K hK => ?_
    simp [hidx, k6, ty22, ty9, hi]
    refine hK _ _ ?_ rfl; clear hK K
    obtain ⟨x, hx⟩ : ∃ x, x = s.sorts[i] := ⟨_, rfl⟩
    have hxm : x ∈ s.sorts := hx ▸ List.getElem_mem hi
    have g := g39 x (by have := hsz x hxm; unfold lim; omega)
    rw [← hx]
    have bad : ¬ (isName x = true ∧ x ∉ always) → (decide (s.sorts.length ≤ 40) && okSorts s.sorts) = false := by
      intro hb
      cases q : okSorts s.sorts with
      | false => simp
      | true => exact absurd ((hiff.1 q).1 x hxm) hb
    refine Dwp.step tT rfl fun K hK => ?_
    by_cases q1 : isName x = true
    case neg =>
      have q1' : isName x = false := by simpa using q1
      simp [g, q1']
      refine hK _ _ ?_ rfl; clear hK K
      refine Dwp.condT (by simp [eval, upd]) ?_
      refine Dwp.step tT rfl fun K hK => ?_
      simp []
      refine hK _ _ (Dwp.ret ?_) rfl
      exact fin _ _ false (by simp [upd]) (bad fun q => q1 q.1)
    by_cases q2 : x ∈ always
    · simp [g, q1, g85, g42, q2]
      refine hK _ _ ?_ rfl; clear hK K
      refine Dwp.condT (by simp [eval, upd]) ?_
      refine Dwp.step tT rfl fun K hK => ?_
      simp []
      refine hK _ _ (Dwp.ret ?_) rfl
      exact fin _ _ false (by simp [upd]) (bad fun q => q.2 q2)
    · simp [g, q1, g85, g42, q2]
      refine hK _ _ ?_ rfl; clear hK K
      refine Dwp.condF (by simp [eval, upd]) (Dwp.skip ?_)
      refine ⟨by simp [upd, hidx], by simp [upd, hlen], by simp [upd, k1], by simp [upd, k6], fun z hz => ?_⟩
      rcases (mem_take_succ hi z).1 hz with e | e
      · exact hall z e
      · rw [e, ← hx]; exact ⟨q1, q2⟩
  · rintro a σ hidx hlen ⟨k1, k6, hall⟩
    rw [List.take_length] at hall
    refine Dwp.step tT rfl fun K hK => ?_
    by_cases q1 : s.sorts.length ≤ 40
    · have q1' : (s.sorts.length : Int) ≤ 40 := by omega
      rw [strsC] at g49
      simp [k1, ty26, ty22, strsC, q1', g49]
      refine hK _ _ (Dwp.ret ?_) rfl
      refine fin _ _ (decide s.sorts.Nodup) (by simp [upd]) ?_
      rw [Bool.eq_iff_iff]
      simp only [Bool.and_eq_true, decide_eq_true_eq]
      exact ⟨fun h => (hiff.1 h.2).2, fun h => ⟨q1, hiff.2 ⟨hall, h⟩⟩⟩
    · have q1' : ¬ (s.sorts.length : Int) ≤ 40 := by omega
      simp [k1, ty26, ty22, strsC, q1']
      refine hK _ _ (Dwp.ret ?_) rfl
      exact fin _ _ false (by simp [upd]) (by simp [q1])
theorem e45 : Go.FA.Good Tryz.prog (45, s45) := ⟨c45, Tryz.f45, _, Tryz.func45, rfl, by decide⟩
theorem call45 (T : Tab) (hT : T 45 = some s45) (s : SigD) (h : s.ok2) : dcall T 45 [.agg (EncR.sigd.enc s)] = some (.lit (.bool (decide (s.sorts.length ≤ 40) && okSorts s.sorts))) :=
  dcall1 (A := Enc.sigd) (B := Enc.bool) (x := s) hT (if_pos h)

/-- what the reference asks of all operators and functions -/
def opsOk (s : SigD) : Bool := s.ops.all (fun o => !badOp (newBook s) o) && s.funs.all (fun o => !badFun (newBook s) o) && decide ((opNames s).length ≤ 200) && decide (opNames s).Nodup
def s47 : Sp := sp (arg1 Enc.sigd) Enc.bool (fun s => if s.ok2 ∧ okSorts s.sorts = true then some (opsOk s) else none)
abbrev T47 : Tab := tabOf [(90, s90), (37, s37), (91, s91), (42, s42), (92, s92), (93, s93), (39, s39), (48, s48), (49, s49)]
theorem t47 : TabOk Tryz.prog T47 := .cons e90 (.cons e37 (.cons e91 (.cons e42 (.cons e92 (.cons e93 (.cons e39 (.cons e48 (.cons e49 .nil))))))))
theorem decl_of {s : SigD} (h : okSorts s.sorts = true) (x : ByteArray) : (newBook s).decl x = decide (x ∈ s.sorts) := by
  have h2 := ((okSorts_iff _).1 h).1
  unfold Book.decl
  rw [book_has]
  unfold SigD.all
  by_cases hx : x ∈ s.sorts
  · have := (h2 x hx).2; rw [always_mem] at this; simp [hx, this]
  · by_cases hg : x ∈ given <;> simp [hx, hg]
set_option maxHeartbeats 4000000 in
theorem c47 : CallSound Tryz.prog 47 s47 := by
  refine CallSound.of_sp (T := T47) Tryz.func47 rfl (Nat.le_of_ble_eq_true rfl) fun E s y hy => ?_
  split at hy
  case isFalse => cases hy
  next hok =>
  obtain ⟨⟨hok, hsz, htx⟩, hso⟩ := hok
  cases hy
  obtain ⟨l1, l2, l3, l4, l5⟩ := id hok
  obtain ⟨f1, f2⟩ := hok.fits
  have g90 := call90 T47 rfl
  have g37 := call37 T47 rfl
  have g91 := fun o h => call91 T47 rfl s o l1 h
  have g42 := fun x => call42 T47 rfl s.sorts x l1 .none
  have g92 := call92 T47 rfl
  have g93 := call93 T47 rfl
  have g39 := fun x h => call39 T47 rfl x h
  have g48 := fun x => call48 T47 rfl s x l1
  have g49 := call49 T47 rfl
  have tT := t47
  generalize T47 = T at *
  have fin : ∀ (a : Nat → DV) (σ : St) (b : Bool), a 2 = .lit (.bool b) → opsOk s = b → Done Tryz.prog Tryz.f47.results Enc.bool (opsOk s) Ex.ret a σ := by
    intro a σ b h2 hne
    refine ⟨.inr rfl, .lit (.bool b), ?_, by rw [hne]; rfl⟩
    show dresults Tryz.prog σ a [ResultVar.tmp 2] = _
    simp [dresults, dres, h2]
  have setP : ∀ o, setAt noOpD 0 (EncR.opd.enc o) = EncR.opd.enc o := fun _ => rfl
  simp only [noOpD] at setP
  refine Dwp.step tT rfl fun K hK => ?_
  simp [init, arg1, EncR.one, Enc.sigd, Enc.agg]
  refine hK _ _ ?_ rfl; clear hK K
  refine Dwp.step tT rfl fun K hK => ?_
  simp []
  refine hK _ _ ?_ rfl; clear hK K
  refine Dwp.seq ?_
  refine Dwp.step tT rfl fun K hK => ?_
  simp [ty26, ty24, opsC]
  refine hK _ _ ?_ rfl; clear hK K
  refine Dwp.range tT s.ops.length (fun i a σ => ∃ acc, acc = (s.ops.take i).map (·.name) ∧ a 1 = .row (EncR.sigd.enc s) 0 ∧ a 9 = .slice 7 .none (s.ops.map EncR.opd.enc) ∧ Acc σ 1 (rows1 acc) (a 3) ∧ ∀ o ∈ s.ops.take i, badOp (newBook s) o = false)
    ⟨rfl, rfl, rfl⟩ ⟨rfl, rfl, rfl⟩ ⟨rfl, rfl, rfl⟩ (by decide) (by decide) (by omega) (by simp [upd]) (by simp [upd]) ⟨[], by simp, by simp [upd], by simp [upd], .inl ⟨by simp, by simp [upd]⟩, by simp⟩ ?_ ?_
  · rintro i a σ hi hidx hlen ⟨acc, hacc, k1, k9, k3, hall⟩
    have hal : acc.length + 1 ≤ 16777216 := by rw [hacc]; simp; omega
    obtain ⟨o, ho⟩ : ∃ o, o = s.ops[i] := ⟨_, rfl⟩
    have hom : o ∈ s.ops := ho ▸ List.getElem_mem hi
    have hacc' : acc ++ [o.name] = (s.ops.take (i + 1)).map (·.name) := by
      rw [hacc, ho, List.take_succ_eq_append_getElem hi]; simp only [List.map_append, List.map_cons, List.map_nil, List.append_assoc]
    obtain ⟨z1, z2, z3, z4⟩ := l5 o (.inl hom)
    have isBad : badOp (newBook s) o = true → opsOk s = false := fun q => by
      unfold opsOk
      have : s.ops.all (fun o => !badOp (newBook s) o) = false := by
        rw [List.all_eq_false]; exact ⟨o, hom, by simp [q]⟩
      rw [this]; simp
    refine Dwp.step tT rfl fun K hK => ?_
    simp [hidx, k9, ty24, ty38, hi, ← ho, setP]
    refine hK _ _ ?_ rfl; clear hK K
    refine Dwp.step tT rfl fun K hK => ?_
    have rest : ∀ a' σ', (a' 1 = .row (EncR.sigd.enc s) 0 ∧ a' 9 = .slice 7 .none (s.ops.map EncR.opd.enc) ∧ a' 10 = .lit (.int .i64 s.ops.length) ∧ a' 11 = .lit (.int .i64 i) ∧ a' 5 = .ptr (σ.n + 1 + 2) 0 ∧ σ'.objs (σ.n + 1 + 2) = some (.cells 38 (EncR.opd.enc o)) ∧ Acc σ' 1 (rows1 (acc ++ [o.name])) (a' 3)) → σ'.n = σ.n + 1 + 4 → K a' σ' := by
      rintro a' σ' ⟨k1, k9, k10, k11, k5, hobj, k3⟩ hn
      refine hK _ _ ?_ hn
      clear hK K
      refine Dwp.step tT rfl fun K hK => ?_
      have bad : ∀ a2 σ2, a2 52 = .lit (.bool true) → badOp (newBook s) o = true → σ2.n = σ.n + 1 + 4 + 6 → K a2 σ2 := by
        intro a2 σ2 h52 hb hn
        refine hK _ _ ?_ hn
        refine Dwp.condT (by simp [eval, h52]) ?_
        refine Dwp.step tT rfl fun K hK => ?_
        simp []
        refine hK _ _ (Dwp.ret ?_) rfl
        exact fin _ _ false (by simp [upd]) (isBad hb)
      have good : ∀ a2 σ2, (a2 52 = .lit (.bool false) ∧ a2 1 = .row (EncR.sigd.enc s) 0 ∧ a2 9 = .slice 7 .none (s.ops.map EncR.opd.enc) ∧ a2 10 = .lit (.int .i64 s.ops.length) ∧ a2 11 = .lit (.int .i64 i) ∧ a2 3 = a' 3) → σ2.toks = σ'.toks → badOp (newBook s) o = false → σ2.n = σ.n + 1 + 4 + 6 → K a2 σ2 := by
        rintro a2 σ2 ⟨h52, k1, k9, k10, k11, h3⟩ ht hb hn
        refine hK _ _ ?_ hn
        refine Dwp.condF (by simp [eval, h52]) (Dwp.skip ?_)
        refine ⟨k11, k10, acc ++ [o.name], hacc', by simp [upd, k1], by simp [upd, k9], ?_, fun p hp => ?_⟩
        · have : Acc σ2 1 (rows1 (acc ++ [o.name])) (a2 3) := by rw [h3]; exact k3.toks ht
          simp only [upd]; exact this.toks rfl
        · rcases (mem_take_succ hi p).1 hp with e | e
          · exact hall p e
          · rw [e, ← ho]; exact hb
      clear k3 hacc' hacc hall
      have a90 := g90 o.name z1
      have a37 := g37 o.name
      have a91 := g91 o z2
      have a42 := g42 o.sort
      have a92 := g92 o ⟨f1 o hom, htx o hom⟩
      have a93 := g93 o (f1 o hom)
      have hdef : badOp (newBook s) o = (!okOp o.name || builtIn o.name || !okArgs (newBook s) o || !decide (o.sort ∈ s.sorts) || !(okPieces o && okBinding o) || !okStrict o) := by unfold badOp; rw [decl_of hso]; simp [Bool.not_and, Bool.or_assoc]
      obtain ⟨pb, hpb⟩ : ∃ pb, pb = (okPieces o && okBinding o) := ⟨_, rfl⟩
      rw [← hpb] at a92 hdef
      repeat (first
        | (refine Then.stepD rfl rfl (fun K1 hK1 => ?_); simp [Then1, Guarded, k1, k5, hobj, ty38, ty26, ty9, ty22, ty3, ty35, ty34, ty36, a90, a37, a91, a42, a92, a93, strsC]; refine hK1 _ _ ?_; clear hK1 K1)
        | (refine Then.stepG rfl rfl rfl (fun K1 hK1 => ?_); simp [Then1, Guarded, k1, k5, hobj, ty38, ty26, ty9, ty22, ty3, ty35, ty34, ty36, a90, a37, a91, a42, a92, a93, strsC]; refine hK1 _ _ ?_; clear hK1 K1)
        | (refine Then.stepN rfl rfl (fun K1 hK1 => ?_); simp [Then1, Guarded, k1, k5, hobj, ty38, ty26, ty9, ty22, ty3, ty35, ty34, ty36, a90, a37, a91, a42, a92, a93, strsC]; refine hK1 _ _ ?_; clear hK1 K1)
        | (refine Then.stepGN rfl rfl rfl (fun K1 hK1 => ?_); simp [Then1, Guarded, k1, k5, hobj, ty38, ty26, ty9, ty22, ty3, ty35, ty34, ty36, a90, a37, a91, a42, a92, a93, strsC]; refine hK1 _ _ ?_; clear hK1 K1))
      cases q0 : okOp o.name with
      | false =>
        repeat (first
          | (refine Then.stepD rfl rfl (fun K1 hK1 => ?_); simp [Then1, Guarded, k1, k5, hobj, ty38, ty26, ty9, ty22, ty3, ty35, ty34, ty36, a90, a37, a91, a42, a92, a93, strsC, q0]; refine hK1 _ _ ?_; clear hK1 K1)
          | (refine Then.stepG rfl rfl rfl (fun K1 hK1 => ?_); simp [Then1, Guarded, k1, k5, hobj, ty38, ty26, ty9, ty22, ty3, ty35, ty34, ty36, a90, a37, a91, a42, a92, a93, strsC, q0]; refine hK1 _ _ ?_; clear hK1 K1)
          | (refine Then.stepN rfl rfl (fun K1 hK1 => ?_); simp [Then1, Guarded, k1, k5, hobj, ty38, ty26, ty9, ty22, ty3, ty35, ty34, ty36, a90, a37, a91, a42, a92, a93, strsC, q0]; refine hK1 _ _ ?_; clear hK1 K1)
          | (refine Then.stepGN rfl rfl rfl (fun K1 hK1 => ?_); simp [Then1, Guarded, k1, k5, hobj, ty38, ty26, ty9, ty22, ty3, ty35, ty34, ty36, a90, a37, a91, a42, a92, a93, strsC, q0]; refine hK1 _ _ ?_; clear hK1 K1))
        refine Then.done (bad _ _ (by simp [upd]) ?_ rfl)
        rw [hdef, q0]; simp
      | true =>
      repeat (first
        | (refine Then.stepD rfl rfl (fun K1 hK1 => ?_); simp [Then1, Guarded, k1, k5, hobj, ty38, ty26, ty9, ty22, ty3, ty35, ty34, ty36, a90, a37, a91, a42, a92, a93, strsC, q0]; refine hK1 _ _ ?_; clear hK1 K1)
        | (refine Then.stepG rfl rfl rfl (fun K1 hK1 => ?_); simp [Then1, Guarded, k1, k5, hobj, ty38, ty26, ty9, ty22, ty3, ty35, ty34, ty36, a90, a37, a91, a42, a92, a93, strsC, q0]; refine hK1 _ _ ?_; clear hK1 K1)
        | (refine Then.stepN rfl rfl (fun K1 hK1 => ?_); simp [Then1, Guarded, k1, k5, hobj, ty38, ty26, ty9, ty22, ty3, ty35, ty34, ty36, a90, a37, a91, a42, a92, a93, strsC, q0]; refine hK1 _ _ ?_; clear hK1 K1)
        | (refine Then.stepGN rfl rfl rfl (fun K1 hK1 => ?_); simp [Then1, Guarded, k1, k5, hobj, ty38, ty26, ty9, ty22, ty3, ty35, ty34, ty36, a90, a37, a91, a42, a92, a93, strsC, q0]; refine hK1 _ _ ?_; clear hK1 K1))
      cases q1 : builtIn o.name with
      | true =>
        repeat (first
          | (refine Then.stepD rfl rfl (fun K1 hK1 => ?_); simp [Then1, Guarded, k1, k5, hobj, ty38, ty26, ty9, ty22, ty3, ty35, ty34, ty36, a90, a37, a91, a42, a92, a93, strsC, q1]; refine hK1 _ _ ?_; clear hK1 K1)
          | (refine Then.stepG rfl rfl rfl (fun K1 hK1 => ?_); simp [Then1, Guarded, k1, k5, hobj, ty38, ty26, ty9, ty22, ty3, ty35, ty34, ty36, a90, a37, a91, a42, a92, a93, strsC, q1]; refine hK1 _ _ ?_; clear hK1 K1)
          | (refine Then.stepN rfl rfl (fun K1 hK1 => ?_); simp [Then1, Guarded, k1, k5, hobj, ty38, ty26, ty9, ty22, ty3, ty35, ty34, ty36, a90, a37, a91, a42, a92, a93, strsC, q1]; refine hK1 _ _ ?_; clear hK1 K1)
          | (refine Then.stepGN rfl rfl rfl (fun K1 hK1 => ?_); simp [Then1, Guarded, k1, k5, hobj, ty38, ty26, ty9, ty22, ty3, ty35, ty34, ty36, a90, a37, a91, a42, a92, a93, strsC, q1]; refine hK1 _ _ ?_; clear hK1 K1))
        refine Then.done (bad _ _ (by simp [upd]) ?_ rfl)
        rw [hdef, q1]; simp
      | false =>
      repeat (first
        | (refine Then.stepD rfl rfl (fun K1 hK1 => ?_); simp [Then1, Guarded, k1, k5, hobj, ty38, ty26, ty9, ty22, ty3, ty35, ty34, ty36, a90, a37, a91, a42, a92, a93, strsC, q1]; refine hK1 _ _ ?_; clear hK1 K1)
        | (refine Then.stepG rfl rfl rfl (fun K1 hK1 => ?_); simp [Then1, Guarded, k1, k5, hobj, ty38, ty26, ty9, ty22, ty3, ty35, ty34, ty36, a90, a37, a91, a42, a92, a93, strsC, q1]; refine hK1 _ _ ?_; clear hK1 K1)
        | (refine Then.stepN rfl rfl (fun K1 hK1 => ?_); simp [Then1, Guarded, k1, k5, hobj, ty38, ty26, ty9, ty22, ty3, ty35, ty34, ty36, a90, a37, a91, a42, a92, a93, strsC, q1]; refine hK1 _ _ ?_; clear hK1 K1)
        | (refine Then.stepGN rfl rfl rfl (fun K1 hK1 => ?_); simp [Then1, Guarded, k1, k5, hobj, ty38, ty26, ty9, ty22, ty3, ty35, ty34, ty36, a90, a37, a91, a42, a92, a93, strsC, q1]; refine hK1 _ _ ?_; clear hK1 K1))
      cases q2 : okArgs (newBook s) o with
      | false =>
        repeat (first
          | (refine Then.stepD rfl rfl (fun K1 hK1 => ?_); simp [Then1, Guarded, k1, k5, hobj, ty38, ty26, ty9, ty22, ty3, ty35, ty34, ty36, a90, a37, a91, a42, a92, a93, strsC, q2]; refine hK1 _ _ ?_; clear hK1 K1)
          | (refine Then.stepG rfl rfl rfl (fun K1 hK1 => ?_); simp [Then1, Guarded, k1, k5, hobj, ty38, ty26, ty9, ty22, ty3, ty35, ty34, ty36, a90, a37, a91, a42, a92, a93, strsC, q2]; refine hK1 _ _ ?_; clear hK1 K1)
          | (refine Then.stepN rfl rfl (fun K1 hK1 => ?_); simp [Then1, Guarded, k1, k5, hobj, ty38, ty26, ty9, ty22, ty3, ty35, ty34, ty36, a90, a37, a91, a42, a92, a93, strsC, q2]; refine hK1 _ _ ?_; clear hK1 K1)
          | (refine Then.stepGN rfl rfl rfl (fun K1 hK1 => ?_); simp [Then1, Guarded, k1, k5, hobj, ty38, ty26, ty9, ty22, ty3, ty35, ty34, ty36, a90, a37, a91, a42, a92, a93, strsC, q2]; refine hK1 _ _ ?_; clear hK1 K1))
        refine Then.done (bad _ _ (by simp [upd]) ?_ rfl)
        rw [hdef, q2]; simp
      | true =>
      repeat (first
        | (refine Then.stepD rfl rfl (fun K1 hK1 => ?_); simp [Then1, Guarded, k1, k5, hobj, ty38, ty26, ty9, ty22, ty3, ty35, ty34, ty36, a90, a37, a91, a42, a92, a93, strsC, q2]; refine hK1 _ _ ?_; clear hK1 K1)
        | (refine Then.stepG rfl rfl rfl (fun K1 hK1 => ?_); simp [Then1, Guarded, k1, k5, hobj, ty38, ty26, ty9, ty22, ty3, ty35, ty34, ty36, a90, a37, a91, a42, a92, a93, strsC, q2]; refine hK1 _ _ ?_; clear hK1 K1)
        | (refine Then.stepN rfl rfl (fun K1 hK1 => ?_); simp [Then1, Guarded, k1, k5, hobj, ty38, ty26, ty9, ty22, ty3, ty35, ty34, ty36, a90, a37, a91, a42, a92, a93, strsC, q2]; refine hK1 _ _ ?_; clear hK1 K1)
        | (refine Then.stepGN rfl rfl rfl (fun K1 hK1 => ?_); simp [Then1, Guarded, k1, k5, hobj, ty38, ty26, ty9, ty22, ty3, ty35, ty34, ty36, a90, a37, a91, a42, a92, a93, strsC, q2]; refine hK1 _ _ ?_; clear hK1 K1))
      cases q3 : decide (o.sort ∈ s.sorts) with
      | false =>
        repeat (first
          | (refine Then.stepD rfl rfl (fun K1 hK1 => ?_); simp [Then1, Guarded, k1, k5, hobj, ty38, ty26, ty9, ty22, ty3, ty35, ty34, ty36, a90, a37, a91, a42, a92, a93, strsC, q3]; refine hK1 _ _ ?_; clear hK1 K1)
          | (refine Then.stepG rfl rfl rfl (fun K1 hK1 => ?_); simp [Then1, Guarded, k1, k5, hobj, ty38, ty26, ty9, ty22, ty3, ty35, ty34, ty36, a90, a37, a91, a42, a92, a93, strsC, q3]; refine hK1 _ _ ?_; clear hK1 K1)
          | (refine Then.stepN rfl rfl (fun K1 hK1 => ?_); simp [Then1, Guarded, k1, k5, hobj, ty38, ty26, ty9, ty22, ty3, ty35, ty34, ty36, a90, a37, a91, a42, a92, a93, strsC, q3]; refine hK1 _ _ ?_; clear hK1 K1)
          | (refine Then.stepGN rfl rfl rfl (fun K1 hK1 => ?_); simp [Then1, Guarded, k1, k5, hobj, ty38, ty26, ty9, ty22, ty3, ty35, ty34, ty36, a90, a37, a91, a42, a92, a93, strsC, q3]; refine hK1 _ _ ?_; clear hK1 K1))
        refine Then.done (bad _ _ (by simp [upd]) ?_ rfl)
        rw [hdef, q3]; simp
      | true =>
      repeat (first
        | (refine Then.stepD rfl rfl (fun K1 hK1 => ?_); simp [Then1, Guarded, k1, k5, hobj, ty38, ty26, ty9, ty22, ty3, ty35, ty34, ty36, a90, a37, a91, a42, a92, a93, strsC, q3]; refine hK1 _ _ ?_; clear hK1 K1)
        | (refine Then.stepG rfl rfl rfl (fun K1 hK1 => ?_); simp [Then1, Guarded, k1, k5, hobj, ty38, ty26, ty9, ty22, ty3, ty35, ty34, ty36, a90, a37, a91, a42, a92, a93, strsC, q3]; refine hK1 _ _ ?_; clear hK1 K1)
        | (refine Then.stepN rfl rfl (fun K1 hK1 => ?_); simp [Then1, Guarded, k1, k5, hobj, ty38, ty26, ty9, ty22, ty3, ty35, ty34, ty36, a90, a37, a91, a42, a92, a93, strsC, q3]; refine hK1 _ _ ?_; clear hK1 K1)
        | (refine Then.stepGN rfl rfl rfl (fun K1 hK1 => ?_); simp [Then1, Guarded, k1, k5, hobj, ty38, ty26, ty9, ty22, ty3, ty35, ty34, ty36, a90, a37, a91, a42, a92, a93, strsC, q3]; refine hK1 _ _ ?_; clear hK1 K1))
      cases q4 : pb with
      | false =>
        repeat (first
          | (refine Then.stepD rfl rfl (fun K1 hK1 => ?_); simp [Then1, Guarded, k1, k5, hobj, ty38, ty26, ty9, ty22, ty3, ty35, ty34, ty36, a90, a37, a91, a42, a92, a93, strsC, q4]; refine hK1 _ _ ?_; clear hK1 K1)
          | (refine Then.stepG rfl rfl rfl (fun K1 hK1 => ?_); simp [Then1, Guarded, k1, k5, hobj, ty38, ty26, ty9, ty22, ty3, ty35, ty34, ty36, a90, a37, a91, a42, a92, a93, strsC, q4]; refine hK1 _ _ ?_; clear hK1 K1)
          | (refine Then.stepN rfl rfl (fun K1 hK1 => ?_); simp [Then1, Guarded, k1, k5, hobj, ty38, ty26, ty9, ty22, ty3, ty35, ty34, ty36, a90, a37, a91, a42, a92, a93, strsC, q4]; refine hK1 _ _ ?_; clear hK1 K1)
          | (refine Then.stepGN rfl rfl rfl (fun K1 hK1 => ?_); simp [Then1, Guarded, k1, k5, hobj, ty38, ty26, ty9, ty22, ty3, ty35, ty34, ty36, a90, a37, a91, a42, a92, a93, strsC, q4]; refine hK1 _ _ ?_; clear hK1 K1))
        refine Then.done (bad _ _ (by simp [upd]) ?_ rfl)
        rw [hdef, q4]; simp
      | true =>
      repeat (first
        | (refine Then.stepD rfl rfl (fun K1 hK1 => ?_); simp [Then1, Guarded, k1, k5, hobj, ty38, ty26, ty9, ty22, ty3, ty35, ty34, ty36, a90, a37, a91, a42, a92, a93, strsC, q4]; refine hK1 _ _ ?_; clear hK1 K1)
        | (refine Then.stepG rfl rfl rfl (fun K1 hK1 => ?_); simp [Then1, Guarded, k1, k5, hobj, ty38, ty26, ty9, ty22, ty3, ty35, ty34, ty36, a90, a37, a91, a42, a92, a93, strsC, q4]; refine hK1 _ _ ?_; clear hK1 K1)
        | (refine Then.stepN rfl rfl (fun K1 hK1 => ?_); simp [Then1, Guarded, k1, k5, hobj, ty38, ty26, ty9, ty22, ty3, ty35, ty34, ty36, a90, a37, a91, a42, a92, a93, strsC, q4]; refine hK1 _ _ ?_; clear hK1 K1)
        | (refine Then.stepGN rfl rfl rfl (fun K1 hK1 => ?_); simp [Then1, Guarded, k1, k5, hobj, ty38, ty26, ty9, ty22, ty3, ty35, ty34, ty36, a90, a37, a91, a42, a92, a93, strsC, q4]; refine hK1 _ _ ?_; clear hK1 K1))
      cases q5 : okStrict o with
      | false =>
        repeat (first
          | (refine Then.stepD rfl rfl (fun K1 hK1 => ?_); simp [Then1, Guarded, k1, k5, hobj, ty38, ty26, ty9, ty22, ty3, ty35, ty34, ty36, a90, a37, a91, a42, a92, a93, strsC, q5]; refine hK1 _ _ ?_; clear hK1 K1)
          | (refine Then.stepG rfl rfl rfl (fun K1 hK1 => ?_); simp [Then1, Guarded, k1, k5, hobj, ty38, ty26, ty9, ty22, ty3, ty35, ty34, ty36, a90, a37, a91, a42, a92, a93, strsC, q5]; refine hK1 _ _ ?_; clear hK1 K1)
          | (refine Then.stepN rfl rfl (fun K1 hK1 => ?_); simp [Then1, Guarded, k1, k5, hobj, ty38, ty26, ty9, ty22, ty3, ty35, ty34, ty36, a90, a37, a91, a42, a92, a93, strsC, q5]; refine hK1 _ _ ?_; clear hK1 K1)
          | (refine Then.stepGN rfl rfl rfl (fun K1 hK1 => ?_); simp [Then1, Guarded, k1, k5, hobj, ty38, ty26, ty9, ty22, ty3, ty35, ty34, ty36, a90, a37, a91, a42, a92, a93, strsC, q5]; refine hK1 _ _ ?_; clear hK1 K1))
        refine Then.done (bad _ _ (by simp [upd, q5]) ?_ rfl)
        rw [hdef, q5]; simp
      | true =>
      repeat (first
        | (refine Then.stepD rfl rfl (fun K1 hK1 => ?_); simp [Then1, Guarded, k1, k5, hobj, ty38, ty26, ty9, ty22, ty3, ty35, ty34, ty36, a90, a37, a91, a42, a92, a93, strsC, q5]; refine hK1 _ _ ?_; clear hK1 K1)
        | (refine Then.stepG rfl rfl rfl (fun K1 hK1 => ?_); simp [Then1, Guarded, k1, k5, hobj, ty38, ty26, ty9, ty22, ty3, ty35, ty34, ty36, a90, a37, a91, a42, a92, a93, strsC, q5]; refine hK1 _ _ ?_; clear hK1 K1)
        | (refine Then.stepN rfl rfl (fun K1 hK1 => ?_); simp [Then1, Guarded, k1, k5, hobj, ty38, ty26, ty9, ty22, ty3, ty35, ty34, ty36, a90, a37, a91, a42, a92, a93, strsC, q5]; refine hK1 _ _ ?_; clear hK1 K1)
        | (refine Then.stepGN rfl rfl rfl (fun K1 hK1 => ?_); simp [Then1, Guarded, k1, k5, hobj, ty38, ty26, ty9, ty22, ty3, ty35, ty34, ty36, a90, a37, a91, a42, a92, a93, strsC, q5]; refine hK1 _ _ ?_; clear hK1 K1))
      refine Then.done (good _ _ (by simp [upd, k1, k9, k10, k11, q5]) rfl ?_ rfl)
      rw [hdef, q0, q1, q2, q3, q4, q5]; rfl
    rcases k3 with ⟨hr, k3⟩ | ⟨tk, gg, k3, hg⟩
    · have hr' : acc = [] := by simpa using hr
      have hnil : rows1 (acc ++ [o.name]) = [[.lit (.string o.name)]] := by rw [hr']; rfl
      simp [k3, ty38, ty9, ty22]
      refine rest _ _ ⟨by simp [upd, k1], by simp [upd, k9], by simp [upd, hlen], by simp [upd, hidx], by simp [upd], by simp [upd], .inr ⟨_, _, by rw [hnil]; simp [upd]; exact ⟨rfl, rfl⟩, by simp [upd]⟩⟩ rfl
    · simp [k3, hg, ty38, ty9, ty22, hal]
      refine rest _ _ ⟨by simp [upd, k1], by simp [upd, k9], by simp [upd, hlen], by simp [upd, hidx], by simp [upd], by simp [upd], .inr ⟨_, _, by simp [upd]; exact ⟨rfl, rfl⟩, by simp [upd]⟩⟩ rfl
  rintro a σ hidx hlen ⟨acc, hacc, k1, k9, k3, hops⟩
  rw [List.take_length] at hops hacc
  subst hacc
  refine Dwp.seq ?_
  refine Dwp.step tT rfl fun K hK => ?_
  simp [k1, ty26, ty24, opsC]
  refine hK _ _ ?_ rfl; clear hK K
  refine Dwp.range tT s.funs.length (fun i a σ => ∃ acc, acc = s.ops.map (·.name) ++ (s.funs.take i).map (·.name) ∧ a 1 = .row (EncR.sigd.enc s) 0 ∧ a 55 = .slice 7 .none (s.funs.map EncR.opd.enc) ∧ Acc σ 1 (rows1 acc) (a 3) ∧ ∀ o ∈ s.funs.take i, badFun (newBook s) o = false)
    ⟨rfl, rfl, rfl⟩ ⟨rfl, rfl, rfl⟩ ⟨rfl, rfl, rfl⟩ (by decide) (by decide) (by omega) (by simp [upd]) (by simp [upd]) ⟨s.ops.map (·.name), by simp, by simp [upd, k1], by simp [upd], by simp only [upd]; exact k3.toks rfl, by simp⟩ ?_ ?_
  · rintro i a σ hi hidx hlen ⟨acc, hacc, k1, k9, k3, hall⟩
    have hal : acc.length + 1 ≤ 16777216 := by rw [hacc]; simp; omega
    obtain ⟨o, ho⟩ : ∃ o, o = s.funs[i] := ⟨_, rfl⟩
    have hom : o ∈ s.funs := ho ▸ List.getElem_mem hi
    have hacc' : acc ++ [o.name] = s.ops.map (·.name) ++ (s.funs.take (i + 1)).map (·.name) := by
      rw [hacc, ho, List.take_succ_eq_append_getElem hi]; simp only [List.map_append, List.map_cons, List.map_nil, List.append_assoc]
    obtain ⟨z1, z2, z3, z4⟩ := l5 o (.inr hom)
    have isBad : badFun (newBook s) o = true → opsOk s = false := fun q => by
      unfold opsOk
      have : s.funs.all (fun o => !badFun (newBook s) o) = false := by
        rw [List.all_eq_false]; exact ⟨o, hom, by simp [q]⟩
      rw [this]; simp
    refine Dwp.step tT rfl fun K hK => ?_
    simp [hidx, k9, ty24, ty38, hi, ← ho, setP]
    refine hK _ _ ?_ rfl; clear hK K
    refine Dwp.step tT rfl fun K hK => ?_
    have rest : ∀ a' σ', (a' 1 = .row (EncR.sigd.enc s) 0 ∧ a' 55 = .slice 7 .none (s.funs.map EncR.opd.enc) ∧ a' 56 = .lit (.int .i64 s.funs.length) ∧ a' 57 = .lit (.int .i64 i) ∧ a' 7 = .ptr (σ.n + 1 + 2) 0 ∧ σ'.objs (σ.n + 1 + 2) = some (.cells 38 (EncR.opd.enc o)) ∧ Acc σ' 1 (rows1 (acc ++ [o.name])) (a' 3)) → σ'.n = σ.n + 1 + 4 → K a' σ' := by
      rintro a' σ' ⟨k1, k9, k10, k11, k5, hobj, k3⟩ hn
      refine hK _ _ ?_ hn
      clear hK K
      refine Dwp.step tT rfl fun K hK => ?_
      have bad : ∀ a2 σ2, a2 109 = .lit (.bool true) → badFun (newBook s) o = true → σ2.n = σ.n + 1 + 4 + 6 → K a2 σ2 := by
        intro a2 σ2 h52 hb hn
        refine hK _ _ ?_ hn
        refine Dwp.condT (by simp [eval, h52]) ?_
        refine Dwp.step tT rfl fun K hK => ?_
        simp []
        refine hK _ _ (Dwp.ret ?_) rfl
        exact fin _ _ false (by simp [upd]) (isBad hb)
      have good : ∀ a2 σ2, (a2 109 = .lit (.bool false) ∧ a2 1 = .row (EncR.sigd.enc s) 0 ∧ a2 55 = .slice 7 .none (s.funs.map EncR.opd.enc) ∧ a2 56 = .lit (.int .i64 s.funs.length) ∧ a2 57 = .lit (.int .i64 i) ∧ a2 3 = a' 3) → σ2.toks = σ'.toks → badFun (newBook s) o = false → σ2.n = σ.n + 1 + 4 + 6 → K a2 σ2 := by
        rintro a2 σ2 ⟨h52, k1, k9, k10, k11, h3⟩ ht hb hn
        refine hK _ _ ?_ hn
        refine Dwp.condF (by simp [eval, h52]) (Dwp.skip ?_)
        refine ⟨k11, k10, acc ++ [o.name], hacc', by simp [upd, k1], by simp [upd, k9], ?_, fun p hp => ?_⟩
        · have : Acc σ2 1 (rows1 (acc ++ [o.name])) (a2 3) := by rw [h3]; exact k3.toks ht
          simp only [upd]; exact this.toks rfl
        · rcases (mem_take_succ hi p).1 hp with e | e
          · exact hall p e
          · rw [e, ← ho]; exact hb
      clear k3 hacc' hacc hall
      have dne : ∀ n : Int, decide (n ≠ 0) = (n != 0) := fun n => by rw [Bool.eq_iff_iff]; simp
      have a39 := g39 o.name (by unfold lim; omega)
      have a37 := g37 o.name
      have a91 := g91 o z2
      have a48 := g48 o.sort
      have c0 : ((0 : Int) < (o.pieces.length : Int)) = (0 < o.pieces.length) := by simp
      have c1 : ((0 : Int) < (o.strict.length : Int)) = (0 < o.strict.length) := by simp
      have hdef : badFun (newBook s) o = (!isName o.name || builtIn o.name || !okArgs (newBook s) o || !decide (o.sort ∈ s.all) || decide (0 < o.pieces.length) || (o.prec != 0) || (o.assoc != 0) || decide (0 < o.strict.length)) := by unfold badFun; rw [book_has, dne, dne]
      repeat (first
        | (refine Then.stepD rfl rfl (fun K1 hK1 => ?_); simp [Then1, Guarded, k1, k5, hobj, ty38, ty26, ty9, ty22, ty3, ty35, ty34, ty36, a39, a37, a91, a48, c0, c1, piesC, intsC]; refine hK1 _ _ ?_; clear hK1 K1)
        | (refine Then.stepG rfl rfl rfl (fun K1 hK1 => ?_); simp [Then1, Guarded, k1, k5, hobj, ty38, ty26, ty9, ty22, ty3, ty35, ty34, ty36, a39, a37, a91, a48, c0, c1, piesC, intsC]; refine hK1 _ _ ?_; clear hK1 K1)
        | (refine Then.stepN rfl rfl (fun K1 hK1 => ?_); simp [Then1, Guarded, k1, k5, hobj, ty38, ty26, ty9, ty22, ty3, ty35, ty34, ty36, a39, a37, a91, a48, c0, c1, piesC, intsC]; refine hK1 _ _ ?_; clear hK1 K1)
        | (refine Then.stepGN rfl rfl rfl (fun K1 hK1 => ?_); simp [Then1, Guarded, k1, k5, hobj, ty38, ty26, ty9, ty22, ty3, ty35, ty34, ty36, a39, a37, a91, a48, c0, c1, piesC, intsC]; refine hK1 _ _ ?_; clear hK1 K1))
      cases q0 : isName o.name with
      | false =>
        repeat (first
          | (refine Then.stepD rfl rfl (fun K1 hK1 => ?_); simp [Then1, Guarded, k1, k5, hobj, ty38, ty26, ty9, ty22, ty3, ty35, ty34, ty36, a39, a37, a91, a48, c0, c1, piesC, intsC, q0]; refine hK1 _ _ ?_; clear hK1 K1)
          | (refine Then.stepG rfl rfl rfl (fun K1 hK1 => ?_); simp [Then1, Guarded, k1, k5, hobj, ty38, ty26, ty9, ty22, ty3, ty35, ty34, ty36, a39, a37, a91, a48, c0, c1, piesC, intsC, q0]; refine hK1 _ _ ?_; clear hK1 K1)
          | (refine Then.stepN rfl rfl (fun K1 hK1 => ?_); simp [Then1, Guarded, k1, k5, hobj, ty38, ty26, ty9, ty22, ty3, ty35, ty34, ty36, a39, a37, a91, a48, c0, c1, piesC, intsC, q0]; refine hK1 _ _ ?_; clear hK1 K1)
          | (refine Then.stepGN rfl rfl rfl (fun K1 hK1 => ?_); simp [Then1, Guarded, k1, k5, hobj, ty38, ty26, ty9, ty22, ty3, ty35, ty34, ty36, a39, a37, a91, a48, c0, c1, piesC, intsC, q0]; refine hK1 _ _ ?_; clear hK1 K1))
        refine Then.done (bad _ _ (by simp [upd]) ?_ rfl)
        rw [hdef, q0]; simp
      | true =>
      repeat (first
        | (refine Then.stepD rfl rfl (fun K1 hK1 => ?_); simp [Then1, Guarded, k1, k5, hobj, ty38, ty26, ty9, ty22, ty3, ty35, ty34, ty36, a39, a37, a91, a48, c0, c1, piesC, intsC, q0]; refine hK1 _ _ ?_; clear hK1 K1)
        | (refine Then.stepG rfl rfl rfl (fun K1 hK1 => ?_); simp [Then1, Guarded, k1, k5, hobj, ty38, ty26, ty9, ty22, ty3, ty35, ty34, ty36, a39, a37, a91, a48, c0, c1, piesC, intsC, q0]; refine hK1 _ _ ?_; clear hK1 K1)
        | (refine Then.stepN rfl rfl (fun K1 hK1 => ?_); simp [Then1, Guarded, k1, k5, hobj, ty38, ty26, ty9, ty22, ty3, ty35, ty34, ty36, a39, a37, a91, a48, c0, c1, piesC, intsC, q0]; refine hK1 _ _ ?_; clear hK1 K1)
        | (refine Then.stepGN rfl rfl rfl (fun K1 hK1 => ?_); simp [Then1, Guarded, k1, k5, hobj, ty38, ty26, ty9, ty22, ty3, ty35, ty34, ty36, a39, a37, a91, a48, c0, c1, piesC, intsC, q0]; refine hK1 _ _ ?_; clear hK1 K1))
      cases q1 : builtIn o.name with
      | true =>
        repeat (first
          | (refine Then.stepD rfl rfl (fun K1 hK1 => ?_); simp [Then1, Guarded, k1, k5, hobj, ty38, ty26, ty9, ty22, ty3, ty35, ty34, ty36, a39, a37, a91, a48, c0, c1, piesC, intsC, q1]; refine hK1 _ _ ?_; clear hK1 K1)
          | (refine Then.stepG rfl rfl rfl (fun K1 hK1 => ?_); simp [Then1, Guarded, k1, k5, hobj, ty38, ty26, ty9, ty22, ty3, ty35, ty34, ty36, a39, a37, a91, a48, c0, c1, piesC, intsC, q1]; refine hK1 _ _ ?_; clear hK1 K1)
          | (refine Then.stepN rfl rfl (fun K1 hK1 => ?_); simp [Then1, Guarded, k1, k5, hobj, ty38, ty26, ty9, ty22, ty3, ty35, ty34, ty36, a39, a37, a91, a48, c0, c1, piesC, intsC, q1]; refine hK1 _ _ ?_; clear hK1 K1)
          | (refine Then.stepGN rfl rfl rfl (fun K1 hK1 => ?_); simp [Then1, Guarded, k1, k5, hobj, ty38, ty26, ty9, ty22, ty3, ty35, ty34, ty36, a39, a37, a91, a48, c0, c1, piesC, intsC, q1]; refine hK1 _ _ ?_; clear hK1 K1))
        refine Then.done (bad _ _ (by simp [upd]) ?_ rfl)
        rw [hdef, q1]; simp
      | false =>
      repeat (first
        | (refine Then.stepD rfl rfl (fun K1 hK1 => ?_); simp [Then1, Guarded, k1, k5, hobj, ty38, ty26, ty9, ty22, ty3, ty35, ty34, ty36, a39, a37, a91, a48, c0, c1, piesC, intsC, q1]; refine hK1 _ _ ?_; clear hK1 K1)
        | (refine Then.stepG rfl rfl rfl (fun K1 hK1 => ?_); simp [Then1, Guarded, k1, k5, hobj, ty38, ty26, ty9, ty22, ty3, ty35, ty34, ty36, a39, a37, a91, a48, c0, c1, piesC, intsC, q1]; refine hK1 _ _ ?_; clear hK1 K1)
        | (refine Then.stepN rfl rfl (fun K1 hK1 => ?_); simp [Then1, Guarded, k1, k5, hobj, ty38, ty26, ty9, ty22, ty3, ty35, ty34, ty36, a39, a37, a91, a48, c0, c1, piesC, intsC, q1]; refine hK1 _ _ ?_; clear hK1 K1)
        | (refine Then.stepGN rfl rfl rfl (fun K1 hK1 => ?_); simp [Then1, Guarded, k1, k5, hobj, ty38, ty26, ty9, ty22, ty3, ty35, ty34, ty36, a39, a37, a91, a48, c0, c1, piesC, intsC, q1]; refine hK1 _ _ ?_; clear hK1 K1))
      cases q2 : okArgs (newBook s) o with
      | false =>
        repeat (first
          | (refine Then.stepD rfl rfl (fun K1 hK1 => ?_); simp [Then1, Guarded, k1, k5, hobj, ty38, ty26, ty9, ty22, ty3, ty35, ty34, ty36, a39, a37, a91, a48, c0, c1, piesC, intsC, q2]; refine hK1 _ _ ?_; clear hK1 K1)
          | (refine Then.stepG rfl rfl rfl (fun K1 hK1 => ?_); simp [Then1, Guarded, k1, k5, hobj, ty38, ty26, ty9, ty22, ty3, ty35, ty34, ty36, a39, a37, a91, a48, c0, c1, piesC, intsC, q2]; refine hK1 _ _ ?_; clear hK1 K1)
          | (refine Then.stepN rfl rfl (fun K1 hK1 => ?_); simp [Then1, Guarded, k1, k5, hobj, ty38, ty26, ty9, ty22, ty3, ty35, ty34, ty36, a39, a37, a91, a48, c0, c1, piesC, intsC, q2]; refine hK1 _ _ ?_; clear hK1 K1)
          | (refine Then.stepGN rfl rfl rfl (fun K1 hK1 => ?_); simp [Then1, Guarded, k1, k5, hobj, ty38, ty26, ty9, ty22, ty3, ty35, ty34, ty36, a39, a37, a91, a48, c0, c1, piesC, intsC, q2]; refine hK1 _ _ ?_; clear hK1 K1))
        refine Then.done (bad _ _ (by simp [upd]) ?_ rfl)
        rw [hdef, q2]; simp
      | true =>
      repeat (first
        | (refine Then.stepD rfl rfl (fun K1 hK1 => ?_); simp [Then1, Guarded, k1, k5, hobj, ty38, ty26, ty9, ty22, ty3, ty35, ty34, ty36, a39, a37, a91, a48, c0, c1, piesC, intsC, q2]; refine hK1 _ _ ?_; clear hK1 K1)
        | (refine Then.stepG rfl rfl rfl (fun K1 hK1 => ?_); simp [Then1, Guarded, k1, k5, hobj, ty38, ty26, ty9, ty22, ty3, ty35, ty34, ty36, a39, a37, a91, a48, c0, c1, piesC, intsC, q2]; refine hK1 _ _ ?_; clear hK1 K1)
        | (refine Then.stepN rfl rfl (fun K1 hK1 => ?_); simp [Then1, Guarded, k1, k5, hobj, ty38, ty26, ty9, ty22, ty3, ty35, ty34, ty36, a39, a37, a91, a48, c0, c1, piesC, intsC, q2]; refine hK1 _ _ ?_; clear hK1 K1)
        | (refine Then.stepGN rfl rfl rfl (fun K1 hK1 => ?_); simp [Then1, Guarded, k1, k5, hobj, ty38, ty26, ty9, ty22, ty3, ty35, ty34, ty36, a39, a37, a91, a48, c0, c1, piesC, intsC, q2]; refine hK1 _ _ ?_; clear hK1 K1))
      cases q3 : decide (o.sort ∈ s.all) with
      | false =>
        repeat (first
          | (refine Then.stepD rfl rfl (fun K1 hK1 => ?_); simp [Then1, Guarded, k1, k5, hobj, ty38, ty26, ty9, ty22, ty3, ty35, ty34, ty36, a39, a37, a91, a48, c0, c1, piesC, intsC, q3]; refine hK1 _ _ ?_; clear hK1 K1)
          | (refine Then.stepG rfl rfl rfl (fun K1 hK1 => ?_); simp [Then1, Guarded, k1, k5, hobj, ty38, ty26, ty9, ty22, ty3, ty35, ty34, ty36, a39, a37, a91, a48, c0, c1, piesC, intsC, q3]; refine hK1 _ _ ?_; clear hK1 K1)
          | (refine Then.stepN rfl rfl (fun K1 hK1 => ?_); simp [Then1, Guarded, k1, k5, hobj, ty38, ty26, ty9, ty22, ty3, ty35, ty34, ty36, a39, a37, a91, a48, c0, c1, piesC, intsC, q3]; refine hK1 _ _ ?_; clear hK1 K1)
          | (refine Then.stepGN rfl rfl rfl (fun K1 hK1 => ?_); simp [Then1, Guarded, k1, k5, hobj, ty38, ty26, ty9, ty22, ty3, ty35, ty34, ty36, a39, a37, a91, a48, c0, c1, piesC, intsC, q3]; refine hK1 _ _ ?_; clear hK1 K1))
        refine Then.done (bad _ _ (by simp [upd]) ?_ rfl)
        rw [hdef, q3]; simp
      | true =>
      repeat (first
        | (refine Then.stepD rfl rfl (fun K1 hK1 => ?_); simp [Then1, Guarded, k1, k5, hobj, ty38, ty26, ty9, ty22, ty3, ty35, ty34, ty36, a39, a37, a91, a48, c0, c1, piesC, intsC, q3]; refine hK1 _ _ ?_; clear hK1 K1)
        | (refine Then.stepG rfl rfl rfl (fun K1 hK1 => ?_); simp [Then1, Guarded, k1, k5, hobj, ty38, ty26, ty9, ty22, ty3, ty35, ty34, ty36, a39, a37, a91, a48, c0, c1, piesC, intsC, q3]; refine hK1 _ _ ?_; clear hK1 K1)
        | (refine Then.stepN rfl rfl (fun K1 hK1 => ?_); simp [Then1, Guarded, k1, k5, hobj, ty38, ty26, ty9, ty22, ty3, ty35, ty34, ty36, a39, a37, a91, a48, c0, c1, piesC, intsC, q3]; refine hK1 _ _ ?_; clear hK1 K1)
        | (refine Then.stepGN rfl rfl rfl (fun K1 hK1 => ?_); simp [Then1, Guarded, k1, k5, hobj, ty38, ty26, ty9, ty22, ty3, ty35, ty34, ty36, a39, a37, a91, a48, c0, c1, piesC, intsC, q3]; refine hK1 _ _ ?_; clear hK1 K1))
      cases q4 : decide (0 < o.pieces.length) with
      | true =>
        repeat (first
          | (refine Then.stepD rfl rfl (fun K1 hK1 => ?_); simp [Then1, Guarded, k1, k5, hobj, ty38, ty26, ty9, ty22, ty3, ty35, ty34, ty36, a39, a37, a91, a48, c0, c1, piesC, intsC, q4]; refine hK1 _ _ ?_; clear hK1 K1)
          | (refine Then.stepG rfl rfl rfl (fun K1 hK1 => ?_); simp [Then1, Guarded, k1, k5, hobj, ty38, ty26, ty9, ty22, ty3, ty35, ty34, ty36, a39, a37, a91, a48, c0, c1, piesC, intsC, q4]; refine hK1 _ _ ?_; clear hK1 K1)
          | (refine Then.stepN rfl rfl (fun K1 hK1 => ?_); simp [Then1, Guarded, k1, k5, hobj, ty38, ty26, ty9, ty22, ty3, ty35, ty34, ty36, a39, a37, a91, a48, c0, c1, piesC, intsC, q4]; refine hK1 _ _ ?_; clear hK1 K1)
          | (refine Then.stepGN rfl rfl rfl (fun K1 hK1 => ?_); simp [Then1, Guarded, k1, k5, hobj, ty38, ty26, ty9, ty22, ty3, ty35, ty34, ty36, a39, a37, a91, a48, c0, c1, piesC, intsC, q4]; refine hK1 _ _ ?_; clear hK1 K1))
        refine Then.done (bad _ _ (by simp [upd]) ?_ rfl)
        rw [hdef, q4]; simp
      | false =>
      repeat (first
        | (refine Then.stepD rfl rfl (fun K1 hK1 => ?_); simp [Then1, Guarded, k1, k5, hobj, ty38, ty26, ty9, ty22, ty3, ty35, ty34, ty36, a39, a37, a91, a48, c0, c1, piesC, intsC, q4]; refine hK1 _ _ ?_; clear hK1 K1)
        | (refine Then.stepG rfl rfl rfl (fun K1 hK1 => ?_); simp [Then1, Guarded, k1, k5, hobj, ty38, ty26, ty9, ty22, ty3, ty35, ty34, ty36, a39, a37, a91, a48, c0, c1, piesC, intsC, q4]; refine hK1 _ _ ?_; clear hK1 K1)
        | (refine Then.stepN rfl rfl (fun K1 hK1 => ?_); simp [Then1, Guarded, k1, k5, hobj, ty38, ty26, ty9, ty22, ty3, ty35, ty34, ty36, a39, a37, a91, a48, c0, c1, piesC, intsC, q4]; refine hK1 _ _ ?_; clear hK1 K1)
        | (refine Then.stepGN rfl rfl rfl (fun K1 hK1 => ?_); simp [Then1, Guarded, k1, k5, hobj, ty38, ty26, ty9, ty22, ty3, ty35, ty34, ty36, a39, a37, a91, a48, c0, c1, piesC, intsC, q4]; refine hK1 _ _ ?_; clear hK1 K1))
      cases q5 : (o.prec != 0) with
      | true =>
        repeat (first
          | (refine Then.stepD rfl rfl (fun K1 hK1 => ?_); simp [Then1, Guarded, k1, k5, hobj, ty38, ty26, ty9, ty22, ty3, ty35, ty34, ty36, a39, a37, a91, a48, c0, c1, piesC, intsC, q5]; refine hK1 _ _ ?_; clear hK1 K1)
          | (refine Then.stepG rfl rfl rfl (fun K1 hK1 => ?_); simp [Then1, Guarded, k1, k5, hobj, ty38, ty26, ty9, ty22, ty3, ty35, ty34, ty36, a39, a37, a91, a48, c0, c1, piesC, intsC, q5]; refine hK1 _ _ ?_; clear hK1 K1)
          | (refine Then.stepN rfl rfl (fun K1 hK1 => ?_); simp [Then1, Guarded, k1, k5, hobj, ty38, ty26, ty9, ty22, ty3, ty35, ty34, ty36, a39, a37, a91, a48, c0, c1, piesC, intsC, q5]; refine hK1 _ _ ?_; clear hK1 K1)
          | (refine Then.stepGN rfl rfl rfl (fun K1 hK1 => ?_); simp [Then1, Guarded, k1, k5, hobj, ty38, ty26, ty9, ty22, ty3, ty35, ty34, ty36, a39, a37, a91, a48, c0, c1, piesC, intsC, q5]; refine hK1 _ _ ?_; clear hK1 K1))
        refine Then.done (bad _ _ (by simp [upd]) ?_ rfl)
        rw [hdef, q5]; simp
      | false =>
      repeat (first
        | (refine Then.stepD rfl rfl (fun K1 hK1 => ?_); simp [Then1, Guarded, k1, k5, hobj, ty38, ty26, ty9, ty22, ty3, ty35, ty34, ty36, a39, a37, a91, a48, c0, c1, piesC, intsC, q5]; refine hK1 _ _ ?_; clear hK1 K1)
        | (refine Then.stepG rfl rfl rfl (fun K1 hK1 => ?_); simp [Then1, Guarded, k1, k5, hobj, ty38, ty26, ty9, ty22, ty3, ty35, ty34, ty36, a39, a37, a91, a48, c0, c1, piesC, intsC, q5]; refine hK1 _ _ ?_; clear hK1 K1)
        | (refine Then.stepN rfl rfl (fun K1 hK1 => ?_); simp [Then1, Guarded, k1, k5, hobj, ty38, ty26, ty9, ty22, ty3, ty35, ty34, ty36, a39, a37, a91, a48, c0, c1, piesC, intsC, q5]; refine hK1 _ _ ?_; clear hK1 K1)
        | (refine Then.stepGN rfl rfl rfl (fun K1 hK1 => ?_); simp [Then1, Guarded, k1, k5, hobj, ty38, ty26, ty9, ty22, ty3, ty35, ty34, ty36, a39, a37, a91, a48, c0, c1, piesC, intsC, q5]; refine hK1 _ _ ?_; clear hK1 K1))
      cases q6 : (o.assoc != 0) with
      | true =>
        repeat (first
          | (refine Then.stepD rfl rfl (fun K1 hK1 => ?_); simp [Then1, Guarded, k1, k5, hobj, ty38, ty26, ty9, ty22, ty3, ty35, ty34, ty36, a39, a37, a91, a48, c0, c1, piesC, intsC, q6]; refine hK1 _ _ ?_; clear hK1 K1)
          | (refine Then.stepG rfl rfl rfl (fun K1 hK1 => ?_); simp [Then1, Guarded, k1, k5, hobj, ty38, ty26, ty9, ty22, ty3, ty35, ty34, ty36, a39, a37, a91, a48, c0, c1, piesC, intsC, q6]; refine hK1 _ _ ?_; clear hK1 K1)
          | (refine Then.stepN rfl rfl (fun K1 hK1 => ?_); simp [Then1, Guarded, k1, k5, hobj, ty38, ty26, ty9, ty22, ty3, ty35, ty34, ty36, a39, a37, a91, a48, c0, c1, piesC, intsC, q6]; refine hK1 _ _ ?_; clear hK1 K1)
          | (refine Then.stepGN rfl rfl rfl (fun K1 hK1 => ?_); simp [Then1, Guarded, k1, k5, hobj, ty38, ty26, ty9, ty22, ty3, ty35, ty34, ty36, a39, a37, a91, a48, c0, c1, piesC, intsC, q6]; refine hK1 _ _ ?_; clear hK1 K1))
        refine Then.done (bad _ _ (by simp [upd]) ?_ rfl)
        rw [hdef, q6]; simp
      | false =>
      repeat (first
        | (refine Then.stepD rfl rfl (fun K1 hK1 => ?_); simp [Then1, Guarded, k1, k5, hobj, ty38, ty26, ty9, ty22, ty3, ty35, ty34, ty36, a39, a37, a91, a48, c0, c1, piesC, intsC, q6]; refine hK1 _ _ ?_; clear hK1 K1)
        | (refine Then.stepG rfl rfl rfl (fun K1 hK1 => ?_); simp [Then1, Guarded, k1, k5, hobj, ty38, ty26, ty9, ty22, ty3, ty35, ty34, ty36, a39, a37, a91, a48, c0, c1, piesC, intsC, q6]; refine hK1 _ _ ?_; clear hK1 K1)
        | (refine Then.stepN rfl rfl (fun K1 hK1 => ?_); simp [Then1, Guarded, k1, k5, hobj, ty38, ty26, ty9, ty22, ty3, ty35, ty34, ty36, a39, a37, a91, a48, c0, c1, piesC, intsC, q6]; refine hK1 _ _ ?_; clear hK1 K1)
        | (refine Then.stepGN rfl rfl rfl (fun K1 hK1 => ?_); simp [Then1, Guarded, k1, k5, hobj, ty38, ty26, ty9, ty22, ty3, ty35, ty34, ty36, a39, a37, a91, a48, c0, c1, piesC, intsC, q6]; refine hK1 _ _ ?_; clear hK1 K1))
      cases q7 : decide (0 < o.strict.length) with
      | true =>
        repeat (first
          | (refine Then.stepD rfl rfl (fun K1 hK1 => ?_); simp [Then1, Guarded, k1, k5, hobj, ty38, ty26, ty9, ty22, ty3, ty35, ty34, ty36, a39, a37, a91, a48, c0, c1, piesC, intsC, q7]; refine hK1 _ _ ?_; clear hK1 K1)
          | (refine Then.stepG rfl rfl rfl (fun K1 hK1 => ?_); simp [Then1, Guarded, k1, k5, hobj, ty38, ty26, ty9, ty22, ty3, ty35, ty34, ty36, a39, a37, a91, a48, c0, c1, piesC, intsC, q7]; refine hK1 _ _ ?_; clear hK1 K1)
          | (refine Then.stepN rfl rfl (fun K1 hK1 => ?_); simp [Then1, Guarded, k1, k5, hobj, ty38, ty26, ty9, ty22, ty3, ty35, ty34, ty36, a39, a37, a91, a48, c0, c1, piesC, intsC, q7]; refine hK1 _ _ ?_; clear hK1 K1)
          | (refine Then.stepGN rfl rfl rfl (fun K1 hK1 => ?_); simp [Then1, Guarded, k1, k5, hobj, ty38, ty26, ty9, ty22, ty3, ty35, ty34, ty36, a39, a37, a91, a48, c0, c1, piesC, intsC, q7]; refine hK1 _ _ ?_; clear hK1 K1))
        refine Then.done (bad _ _ (by simp [upd, q7]) ?_ rfl)
        rw [hdef, q7]; simp
      | false =>
      repeat (first
        | (refine Then.stepD rfl rfl (fun K1 hK1 => ?_); simp [Then1, Guarded, k1, k5, hobj, ty38, ty26, ty9, ty22, ty3, ty35, ty34, ty36, a39, a37, a91, a48, c0, c1, piesC, intsC, q7]; refine hK1 _ _ ?_; clear hK1 K1)
        | (refine Then.stepG rfl rfl rfl (fun K1 hK1 => ?_); simp [Then1, Guarded, k1, k5, hobj, ty38, ty26, ty9, ty22, ty3, ty35, ty34, ty36, a39, a37, a91, a48, c0, c1, piesC, intsC, q7]; refine hK1 _ _ ?_; clear hK1 K1)
        | (refine Then.stepN rfl rfl (fun K1 hK1 => ?_); simp [Then1, Guarded, k1, k5, hobj, ty38, ty26, ty9, ty22, ty3, ty35, ty34, ty36, a39, a37, a91, a48, c0, c1, piesC, intsC, q7]; refine hK1 _ _ ?_; clear hK1 K1)
        | (refine Then.stepGN rfl rfl rfl (fun K1 hK1 => ?_); simp [Then1, Guarded, k1, k5, hobj, ty38, ty26, ty9, ty22, ty3, ty35, ty34, ty36, a39, a37, a91, a48, c0, c1, piesC, intsC, q7]; refine hK1 _ _ ?_; clear hK1 K1))
      refine Then.done (good _ _ (by simp [upd, k1, k9, k10, k11, q7]) rfl ?_ rfl)
      rw [hdef, q0, q1, q2, q3, q4, q5, q6, q7]; rfl
    rcases k3 with ⟨hr, k3⟩ | ⟨tk, gg, k3, hg⟩
    · have hr' : acc = [] := by simpa using hr
      have hnil : rows1 (acc ++ [o.name]) = [[.lit (.string o.name)]] := by rw [hr']; rfl
      simp [k3, ty38, ty9, ty22]
      refine rest _ _ ⟨by simp [upd, k1], by simp [upd, k9], by simp [upd, hlen], by simp [upd, hidx], by simp [upd], by simp [upd], .inr ⟨_, _, by rw [hnil]; simp [upd]; exact ⟨rfl, rfl⟩, by simp [upd]⟩⟩ rfl
    · simp [k3, hg, ty38, ty9, ty22, hal]
      refine rest _ _ ⟨by simp [upd, k1], by simp [upd, k9], by simp [upd, hlen], by simp [upd, hidx], by simp [upd], by simp [upd], .inr ⟨_, _, by simp [upd]; exact ⟨rfl, rfl⟩, by simp [upd]⟩⟩ rfl
  rintro a σ hidx hlen ⟨acc, hacc, k1, k9, k3, hfuns⟩
  rw [List.take_length] at hfuns hacc
  have hnames : acc = opNames s := by rw [hacc]; unfold opNames; simp
  have hal : acc.length ≤ 1048576 := by rw [hacc]; simp; omega
  have g := g49 (a 3) acc (k3.dec (A := EncR.one Enc.str) (strs_dec acc)) hal
  have hfin : opsOk s = (decide (acc.length ≤ 200) && decide acc.Nodup) := by
    unfold opsOk
    have h1 : s.ops.all (fun o => !badOp (newBook s) o) = true := by rw [List.all_eq_true]; intro o ho; simp [hops o ho]
    have h2 : s.funs.all (fun o => !badFun (newBook s) o) = true := by rw [List.all_eq_true]; intro o ho; simp [hfuns o ho]
    rw [h1, h2, hnames]; simp
  have ha3 : (a 3 = .lit (.slice none 0 0) ∧ acc.length = 0) ∨ ∃ tk gg, a 3 = .slice 1 (.tok tk gg) (rows1 acc) := by
    rcases k3 with ⟨hr, k3⟩ | ⟨tk, gg, k3, hg⟩
    · have hr' : acc = [] := by simpa using hr
      exact .inl ⟨k3, by rw [hr']; rfl⟩
    · exact .inr ⟨tk, gg, k3⟩
  clear k3
  refine Dwp.step tT rfl fun K hK => ?_
  by_cases q1 : acc.length ≤ 200
  · have q1' : (acc.length : Int) ≤ 200 := by omega
    have hq : opsOk s = decide acc.Nodup := by rw [hfin]; simp [q1]
    rcases ha3 with ⟨k3, h0⟩ | ⟨tk, gg, k3⟩
    · rw [k3] at g
      simp [k3, ty22, g]
      refine hK _ _ (Dwp.ret ?_) rfl
      exact fin _ _ _ (by simp [upd]) hq
    · rw [k3] at g
      simp [k3, ty22, q1', g]
      refine hK _ _ (Dwp.ret ?_) rfl
      exact fin _ _ _ (by simp [upd]) hq
  · have q1' : ¬ (acc.length : Int) ≤ 200 := by omega
    have hq : opsOk s = false := by rw [hfin]; simp [q1]
    rcases ha3 with ⟨k3, h0⟩ | ⟨tk, gg, k3⟩
    · omega
    · simp [k3, ty22, q1']
      refine hK _ _ (Dwp.ret ?_) rfl
      exact fin _ _ false (by simp [upd]) hq
theorem e47 : Go.FA.Good Tryz.prog (47, s47) := ⟨c47, Tryz.f47, _, Tryz.func47, rfl, by decide⟩
theorem call47 (T : Tab) (hT : T 47 = some s47) (s : SigD) (h : s.ok2) (h' : okSorts s.sorts = true) : dcall T 47 [.agg (EncR.sigd.enc s)] = some (.lit (.bool (opsOk s))) :=
  dcall1 (A := Enc.sigd) (B := Enc.bool) (x := s) hT (if_pos ⟨h, h'⟩)
end Go.Proofs.Yt
namespace Go.Proofs.Yt
open Go Go.FA Go.Proofs
set_option linter.unusedVariables false
set_option linter.unusedSimpArgs false
set_option maxRecDepth 100000

/-- the reference's way up -/
def addF (x : ByteArray) (out : List ByteArray) (b : Bel) : List ByteArray := if b.low = x then (if b.high ∈ out then out else out ++ [b.high]) else out
def addAll (below : List Bel) (x : ByteArray) (out : List ByteArray) : List ByteArray := below.foldl (addF x) out
def reachG (below : List Bel) : Nat → Nat → List ByteArray → Option (List ByteArray)
  | 0, _, _ => none
  | n + 1, i, out => match out[i]? with
    | some x => reachG below n (i + 1) (addAll below x out)
    | none => some out
theorem addF_grow (x : ByteArray) (out : List ByteArray) (b : Bel) : ∃ e, addF x out b = out ++ e ∧ e.length ≤ 1 := by
  unfold addF
  split
  · split
    · exact ⟨[], by simp, by simp⟩
    · exact ⟨[b.high], rfl, by simp⟩
  · exact ⟨[], by simp, by simp⟩
theorem addAll_grow (x : ByteArray) : ∀ (below : List Bel) (out : List ByteArray), ∃ e, addAll below x out = out ++ e ∧ e.length ≤ below.length
  | [], out => ⟨[], by simp [addAll], by simp⟩
  | b :: l, out => by
    obtain ⟨e1, h1, k1⟩ := addF_grow x out b
    obtain ⟨e2, h2, k2⟩ := addAll_grow x l (addF x out b)
    refine ⟨e1 ++ e2, ?_, by simp; omega⟩
    show addAll l x (addF x out b) = _
    rw [h2, h1, List.append_assoc]
/-- a slice that has no room left, or may be appended to -/
def AccF (σ : St) (k : Nat) (rows : List (List DV)) (d : DV) : Prop := d = .slice k .full rows ∨ ∃ tk g, d = .slice k (.tok tk g) rows ∧ σ.toks tk = some g
theorem AccF.toks {σ τ : St} {k : Nat} {rows : List (List DV)} {d : DV} (h : AccF σ k rows d) (e : τ.toks = σ.toks) : AccF τ k rows d := by
  unfold AccF; rw [e]; exact h
def s89 : Sp := sp (arg2 Enc.sigd Enc.str) Enc.strs (fun x => if x.1.below.length ≤ 250 then reachG x.1.below 300 0 [x.2] else none)
abbrev T89 : Tab := tabOf [(42, s42)]
theorem t89 : TabOk Tryz.prog T89 := .cons e42 .nil
attribute [local simp] drunL drunO dwanted dopS own plainOf dop dput eval ofVal Then Ex.then Ex.inBlock upd dbin Tag.isNN nilTest intCmp dload dpart TyI.agg dfieldAddr dfield dindexAddr dindex dlen lenOk dlookup mapOf keyFits dmapUpdate dcallee dbuiltin dstore DV.cells dslice dboundOk dappend appTag rowsOf elemOk growLimit dbuildCells dbuildCells.go structOk fieldsOk dbuildRows goInt
theorem c89 : CallSound Tryz.prog 89 s89 := by
  refine CallSound.of_sp (T := T89) Tryz.func89 rfl (Nat.le_of_ble_eq_true rfl) fun E xx y hy => ?_
  obtain ⟨s, nm⟩ := xx
  simp only [] at hy
  split at hy
  case isFalse => cases hy
  next hl =>
  have g42 := fun l x h tag => call42 T89 rfl l x h tag
  have tT := t89
  generalize T89 = T at *
  have setB : ∀ b, setAt [DV.lit (.string ⟨#[]⟩), .lit (.string ⟨#[]⟩)] 0 (EncR.bel.enc b) = EncR.bel.enc b := fun _ => rfl
  refine Dwp.step tT rfl fun K hK => ?_
  simp [init, arg2, EncR.and, EncR.one, Enc.sigd, Enc.agg, Enc.str]
  refine hK _ _ ?_ rfl; clear hK K
  refine Dwp.step tT rfl fun K hK => ?_
  simp [init, ty22, ty9]
  refine hK _ _ ?_ rfl; clear hK K
  refine Dwp.seq ?_
  refine Dwp.step tT rfl fun K hK => ?_
  simp []
  refine hK _ _ ?_ rfl; clear hK K
  refine Dwp.block (Dwp.loop (fun k a σ => ∃ i out, reachG s.below k i out = some y ∧ i + k = 300 ∧ out.length ≤ 1 + 250 * i ∧ a 2 = .row (EncR.sigd.enc s) 0 ∧ a 6 = .lit (.int .i64 i) ∧ AccF σ 1 (rows1 out) (a 5)) 300
    ⟨0, [nm], hy, by simp, by simp, by simp [upd], by simp [upd], .inl (by simp [upd])⟩ ?_)
  rintro k a σ ⟨i, out, hr, hik, hol, k2, k6, k5⟩
  have hd5 : ∃ tag, a 5 = .slice 1 tag (rows1 out) := by
    rcases k5 with q | ⟨tk, g, q, _⟩
    · exact ⟨_, q⟩
    · exact ⟨_, q⟩
  obtain ⟨tag, hd5⟩ := hd5
  refine Dwp.seq ?_
  refine Dwp.step tT rfl fun K hK => ?_
  simp [k6, hd5, ty22]
  refine hK _ _ ?_ rfl; clear hK K
  cases k with
  | zero => cases hr
  | succ k =>
  simp only [reachG] at hr
  by_cases hlt : i < out.length
  case neg =>
    rw [List.getElem?_eq_none (by omega)] at hr
    simp only [Option.some.injEq] at hr
    subst hr
    refine Dwp.condF (by simp [eval, upd, hlt]) (Dwp.exit ?_)
    simp only [Ex.then, Ex.inBlock, if_true]
    refine Dwp.step tT rfl fun K hK => ?_
    simp [hd5]
    refine hK _ _ (Dwp.ret ?_) rfl
    refine ⟨.inr rfl, .slice 1 tag (rows1 out), ?_, ?_⟩
    · show dresults Tryz.prog _ _ [ResultVar.tmp 4] = _
      simp [dresults, dres, upd]
    · show (if 1 = 1 then decRows (EncR.one Enc.str) (rows1 out) else none) = _
      rw [if_pos rfl]; exact decRows_enc (EncR.one Enc.str) out
  obtain ⟨x, hx⟩ : ∃ x, out[i]? = some x := ⟨out[i], List.getElem?_eq_getElem hlt⟩
  rw [hx] at hr
  simp only [] at hr
  refine Dwp.condT (by simp [eval, upd, hlt]) (Dwp.skip ?_)
  refine Dwp.seq (Dwp.block ?_)
  refine Dwp.step tT rfl fun K hK => ?_
  simp [k2, ty26, ty23, belsC]
  refine hK _ _ ?_ rfl; clear hK K
  refine Dwp.range tT s.below.length (fun m a σ => a 2 = .row (EncR.sigd.enc s) 0 ∧ a 6 = .lit (.int .i64 i) ∧ a 18 = .slice 2 .none (s.below.map EncR.bel.enc) ∧ AccF σ 1 (rows1 (addAll (s.below.take m) x out)) (a 5))
    ⟨rfl, rfl, rfl⟩ ⟨rfl, rfl, rfl⟩ ⟨rfl, rfl, rfl⟩ (by decide) (by decide) (by omega) (by simp [upd]) (by simp [upd]) ⟨by simp [upd, k2], by simp [upd, k6], by simp [upd], by simp only [upd]; exact k5.toks rfl⟩ ?_ ?_
  · rintro m a σ hm hidx hlen ⟨k2, k6, k18, k5⟩
    obtain ⟨b, hb⟩ : ∃ b, b = s.below[m] := ⟨_, rfl⟩
    obtain ⟨cur, hc⟩ : ∃ cur, cur = addAll (s.below.take m) x out := ⟨_, rfl⟩
    have hcur' : addAll (s.below.take (m + 1)) x out = addF x cur b := by
      unfold addAll at hc ⊢
      rw [List.take_succ_eq_append_getElem hm, List.foldl_append, ← hc, hb]; rfl
    obtain ⟨ext, hext, hextl⟩ := addAll_grow x (s.below.take m) out
    rw [← hc] at hext k5
    have hxc : cur[i]? = some x := by rw [hext, List.getElem?_append_left hlt]; exact hx
    have hcl : cur.length ≤ 16777215 := by
      rw [hext, List.length_append]
      rw [List.length_take] at hextl
      omega
    have hic : i < cur.length := by rw [hext, List.length_append]; omega
    have hxi : cur[i] = x := by have := List.getElem?_eq_getElem hic; rw [this] at hxc; simpa using hxc
    have hd5 : ∃ tag, a 5 = .slice 1 tag (rows1 cur) := by
      rcases k5 with q | ⟨tk, g, q, _⟩
      · exact ⟨_, q⟩
      · exact ⟨_, q⟩
    obtain ⟨tag, hd5⟩ := hd5
    have bel0 : (EncR.bel.enc b)[0]? = some (.lit (.string b.low)) := rfl
    have bel1 : (EncR.bel.enc b)[1]? = some (.lit (.string b.high)) := rfl
    refine Dwp.step tT rfl fun K hK => ?_
    simp [hidx, k18, ty23, ty78, hm, ← hb, setB]
    refine hK _ _ ?_ rfl; clear hK K
    have gcur := g42 cur b.high (by rw [hext, List.length_append]; rw [List.length_take] at hextl; omega) tag
    by_cases q1 : b.low = x
    case neg =>
      have hst : addF x cur b = cur := by unfold addF; rw [if_neg q1]
      refine Dwp.drawStep [.none, .robj] mixed tT rfl (by decide) fun K hK => ?_
      simp [drunT, touch, touchP, k6, hd5, ty78, ty9, ty22, bel0, hic, hxi, q1]
      refine hK _ _ ?_ rfl; clear hK K
      refine Dwp.condF (by simp [eval, upd]) (Dwp.skip ?_)
      refine ⟨by simp [upd, hidx], by simp [upd, hlen], by simp [upd, k2], by simp [upd, k6], by simp [upd, k18], ?_⟩
      rw [hcur', hst]
      simp only [upd]; exact k5.toks rfl
    by_cases q2 : b.high ∈ cur
    · have hst : addF x cur b = cur := by unfold addF; rw [if_pos q1, if_pos q2]
      simp only [q2, decide_true] at gcur
      refine Dwp.drawStep [.none, .robj, .none, .none, .none, .none, .none, .none, .none, .none, .robj] mixed tT rfl (by decide) fun K hK => ?_
      simp [drunT, touch, touchP, k6, hd5, ty78, ty9, ty22, bel0, bel1, hic, hxi, q1, gcur]
      refine hK _ _ ?_ rfl; clear hK K
      refine Dwp.condF (by simp [eval, upd]) (Dwp.skip ?_)
      refine ⟨by simp [upd, hidx], by simp [upd, hlen], by simp [upd, k2], by simp [upd, k6], by simp [upd, k18], ?_⟩
      rw [hcur', hst]
      simp only [upd]; exact k5.toks rfl
    · have hst : addF x cur b = cur ++ [b.high] := by unfold addF; rw [if_pos q1, if_neg q2]
      simp only [q2, decide_false] at gcur
      refine Dwp.drawStep [.none, .robj, .none, .none, .none, .none, .none, .none, .none, .none, .robj] mixed tT rfl (by decide) fun K hK => ?_
      simp [drunT, touch, touchP, k6, hd5, ty78, ty9, ty22, bel0, bel1, hic, hxi, q1, gcur]
      refine hK _ _ ?_ rfl; clear hK K
      refine Dwp.condT (by simp [eval, upd]) ?_
      refine Dwp.reg tT rfl fun K hK => ?_
      have hgr : cur.length + 1 ≤ 16777216 := by omega
      rcases k5 with k5 | ⟨tk, gg, k5, hg⟩
      · simp [k5, ty78, ty9, ty22, bel1, hgr]
        refine hK _ _ ?_ rfl; clear hK K
        refine ⟨by simp [upd, hidx], by simp [upd, hlen], by simp [upd, k2], by simp [upd, k6], by simp [upd, k18], ?_⟩
        rw [hcur', hst]
        exact .inr ⟨_, _, by simp [upd]; exact ⟨rfl, rfl⟩, by simp [upd]⟩
      · simp [k5, hg, ty78, ty9, ty22, bel1, hgr]
        refine hK _ _ ?_ rfl; clear hK K
        refine ⟨by simp [upd, hidx], by simp [upd, hlen], by simp [upd, k2], by simp [upd, k6], by simp [upd, k18], ?_⟩
        rw [hcur', hst]
        exact .inr ⟨_, _, by simp [upd]; exact ⟨rfl, rfl⟩, by simp [upd]⟩
  · rintro a σ hidx hlen ⟨k2, k6, k18, k5⟩
    rw [List.take_length] at k5
    obtain ⟨ext, hext, hextl⟩ := addAll_grow x s.below out
    have hw := wrap1 i (by omega)
    refine Dwp.reg tT rfl fun K hK => ?_
    simp [k6, hw]
    refine hK _ _ ?_ rfl; clear hK K
    refine ⟨k, by omega, i + 1, addAll s.below x out, hr, by omega, ?_, by simp [upd, k2], by simp [upd], ?_⟩
    · rw [hext, List.length_append]; omega
    · simp only [upd]; exact k5.toks rfl
theorem e89 : Go.FA.Good Tryz.prog (89, s89) := ⟨c89, Tryz.f89, _, Tryz.func89, rfl, by decide⟩
theorem call89 (T : Tab) (hT : T 89 = some s89) (s : SigD) (x : ByteArray) {l : List ByteArray} (h : s.below.length ≤ 250) (hl : reachG s.below 300 0 [x] = some l) : dcall T 89 [.agg (EncR.sigd.enc s), .lit (.string x)] = some (.slice 1 .none (rows1 l)) :=
  dcall2 (A := Enc.sigd) (B := Enc.str) (C := Enc.strs) (x := s) (y := x) hT (by simp only [if_pos h]; exact hl)
end Go.Proofs.Yt
namespace Go.Proofs.Yt
open Go Go.FA Go.Proofs
set_option linter.unusedVariables false
set_option linter.unusedSimpArgs false
set_option maxRecDepth 100000

inductive Up (l : List Bel) : ByteArray → ByteArray → Prop where
  | refl (x : ByteArray) : Up l x x
  | step {x z : ByteArray} (b : Bel) (h : b ∈ l) (hx : b.low = x) (t : Up l b.high z) : Up l x z
theorem Up.snoc {l : List Bel} {x y : ByteArray} (h : Up l x y) (b : Bel) (hb : b ∈ l) (hy : b.low = y) : Up l x b.high := by
  induction h with
  | refl => exact .step b hb hy (.refl _)
  | step c hc hx t ih => exact .step c hc hx (ih hy)
def cnt (l : List Bel) (out : List ByteArray) : Nat := (l.filter fun b => decide (b.high ∈ out)).length
theorem cnt_le (l : List Bel) (out : List ByteArray) : cnt l out ≤ l.length := List.length_filter_le _ _
theorem cnt_lt {l : List Bel} {out : List ByteArray} {b : Bel} (hb : b ∈ l) (hn : b.high ∉ out) : cnt l out < cnt l (out ++ [b.high]) := by
  unfold cnt
  have h : (l.filter fun c => decide (c.high ∈ out)) = (l.filter fun c => decide (c.high ∈ out ++ [b.high])).filter fun c => decide (c.high ∈ out) := by
    rw [List.filter_filter]
    apply List.filter_congr
    intro c _
    by_cases q : c.high ∈ out <;> simp [q]
  rw [h]
  exact List.length_filter_lt_length_iff_exists.2 ⟨b, by simp [hb], by simpa using hn⟩
theorem addAll_cnt {l : List Bel} (x : ByteArray) : ∀ (m : List Bel) (out : List ByteArray), (∀ b ∈ m, b ∈ l) → out.length ≤ 1 + cnt l out → (addAll m x out).length ≤ 1 + cnt l (addAll m x out)
  | [], out, _, h => h
  | b :: m, out, hm, h => by
    show (addAll m x (addF x out b)).length ≤ _
    refine addAll_cnt x m _ (fun c hc => hm c (by simp [hc])) ?_
    unfold addF
    split
    · split
      · exact h
      · next hn =>
        have := cnt_lt (l := l) (hm b (by simp)) hn
        simp only [List.length_append, List.length_cons, List.length_nil]; omega
    · exact h
theorem addAll_sub {x : ByteArray} : ∀ (m : List Bel) (out : List ByteArray) (z : ByteArray), z ∈ out → z ∈ addAll m x out := by
  intro m out z hz
  obtain ⟨e, he, _⟩ := addAll_grow x m out
  rw [he]; simp [hz]
theorem addAll_has {x : ByteArray} : ∀ (m : List Bel) (out : List ByteArray) (b : Bel), b ∈ m → b.low = x → b.high ∈ addAll m x out
  | [], _, _, h, _ => by cases h
  | c :: m, out, b, h, hx => by
    show b.high ∈ addAll m x (addF x out c)
    rcases List.mem_cons.1 h with rfl | h
    · apply addAll_sub
      unfold addF
      rw [if_pos hx]
      split
      · assumption
      · simp
    · exact addAll_has m _ b h hx
theorem addAll_from {x : ByteArray} : ∀ (m : List Bel) (out : List ByteArray) (z : ByteArray), z ∈ addAll m x out → z ∈ out ∨ ∃ b ∈ m, b.low = x ∧ b.high = z
  | [], _, _, h => .inl h
  | c :: m, out, z, h => by
    rcases addAll_from m (addF x out c) z h with q | ⟨b, hb, h1, h2⟩
    · unfold addF at q
      split at q
      · next hc =>
        split at q
        · exact .inl q
        · rcases List.mem_append.1 q with q | q
          · exact .inl q
          · simp at q; exact .inr ⟨c, by simp, hc, q.symm⟩
      · exact .inl q
    · exact .inr ⟨b, by simp [hb], h1, h2⟩
theorem reach_gen {l : List Bel} (hl : l.length ≤ 250) (x : ByteArray) : ∀ (n i : Nat) (out : List ByteArray), out.length ≤ 1 + cnt l out → i ≤ out.length → 252 ≤ n + i → x ∈ out → (∀ z ∈ out, Up l x z) → (∀ j y, j < i → out[j]? = some y → ∀ b ∈ l, b.low = y → b.high ∈ out) →
    ∃ r, reachG l n i out = some r ∧ r.length ≤ 251 ∧ x ∈ r ∧ (∀ z ∈ r, Up l x z) ∧ (∀ y ∈ r, ∀ b ∈ l, b.low = y → b.high ∈ r)
  | 0, i, out, h1, h2, h3, _, _, _ => by have := cnt_le l out; omega
  | n + 1, i, out, h1, h2, h3, h4, h5, h6 => by
    have hc := cnt_le l out
    simp only [reachG]
    cases hx : out[i]? with
    | none =>
      have hi : out.length ≤ i := List.getElem?_eq_none_iff.1 hx
      refine ⟨out, rfl, by omega, h4, h5, fun y hy b hb hbl => ?_⟩
      obtain ⟨j, hj, rfl⟩ := List.getElem_of_mem hy
      exact h6 j _ (by omega) (List.getElem?_eq_getElem hj) b hb hbl
    | some y =>
      have hi : i < out.length := by
        rcases Nat.lt_or_ge i out.length with q | q
        · exact q
        · rw [List.getElem?_eq_none q] at hx; cases hx
      have hy : y ∈ out := by rw [List.getElem?_eq_getElem hi] at hx; cases hx; exact List.getElem_mem hi
      obtain ⟨e, he, _⟩ := addAll_grow y l out
      refine reach_gen hl x n (i + 1) (addAll l y out) (addAll_cnt y l out (fun _ h => h) h1) (by rw [he, List.length_append]; omega) (by omega) (addAll_sub l out x h4) (fun z hz => ?_) (fun j w hj hw b hb hbl => ?_)
      · rcases addAll_from l out z hz with q | ⟨b, hb, q1, rfl⟩
        · exact h5 z q
        · exact (h5 y hy).snoc b hb q1
      · by_cases hji : j < i
        · rw [he, List.getElem?_append_left (by omega)] at hw
          exact addAll_sub l out _ (h6 j w hji hw b hb hbl)
        · obtain rfl : j = i := by omega
          rw [he, List.getElem?_append_left hi, hx] at hw
          cases hw
          exact addAll_has l out b hb hbl
theorem reach_some (l : List Bel) (hl : l.length ≤ 250) (x : ByteArray) : ∃ r, reachG l 300 0 [x] = some r ∧ r.length ≤ 251 ∧ ∀ z, z ∈ r ↔ Up l x z := by
  obtain ⟨r, h1, h2, h3, h4, h5⟩ := reach_gen hl x 300 0 [x] (by simp) (by simp) (by omega) (by simp) (fun z hz => by simp at hz; subst hz; exact .refl _) (fun j _ hj => by omega)
  have key : ∀ y z, Up l y z → y ∈ r → z ∈ r := by
    intro y z h
    induction h with
    | refl => exact id
    | step b hb hx t ih => exact fun hy => ih (h5 _ hy b hb hx)
  exact ⟨r, h1, h2, fun z => ⟨h4 z, fun h => key x z h h3⟩⟩
/-- the order by the reference's ways is that by the book's -/
theorem up_star {s : SigD} (hb : ∀ b ∈ s.below, b.low ∈ s.all) {x z : ByteArray} : Up s.below x z ↔ Star (newBook s) x z := by
  constructor
  · intro h
    induction h with
    | refl => exact .refl _
    | step b h hx t ih =>
      subst hx
      refine .step (y := b.high) ?_ ih
      rw [book_up, if_pos (hb b h)]
      unfold ups
      simp only [List.mem_map, List.mem_filter, decide_eq_true_eq]
      exact ⟨b, ⟨h, rfl⟩, rfl⟩
  · intro h
    induction h with
    | refl => exact .refl _
    | step hu t ih =>
      rw [book_up] at hu
      split at hu
      · unfold ups at hu
        simp only [List.mem_map, List.mem_filter, decide_eq_true_eq] at hu
        obtain ⟨b, ⟨h1, h2⟩, rfl⟩ := hu
        exact .step b h1 h2 ih
      · cases hu
theorem plus_up {s : SigD} (hb : ∀ b ∈ s.below, b.low ∈ s.all) {x z : ByteArray} : Plus (newBook s) x z ↔ ∃ b ∈ s.below, b.low = x ∧ Up s.below b.high z := by
  constructor
  · rintro ⟨y, hu, t⟩
    rw [book_up] at hu
    split at hu
    · unfold ups at hu
      simp only [List.mem_map, List.mem_filter, decide_eq_true_eq] at hu
      obtain ⟨b, ⟨h1, h2⟩, rfl⟩ := hu
      exact ⟨b, h1, h2, (up_star hb).2 t⟩
    · cases hu
  · rintro ⟨b, h, rfl, t⟩
    refine ⟨b.high, ?_, (up_star hb).1 t⟩
    rw [book_up, if_pos (hb b h)]
    unfold ups
    simp only [List.mem_map, List.mem_filter, decide_eq_true_eq]
    exact ⟨b, ⟨h, rfl⟩, rfl⟩
def belowOk (s : SigD) : Bool := decide (s.below.length ≤ 200) && decide (okBelow (newBook s) s.below = some true)
theorem belowOk_iff {s : SigD} : belowOk s = true ↔ s.below.length ≤ 200 ∧ (∀ y ∈ s.below, okBel (newBook s) y = true) ∧ s.below.Nodup ∧ ∀ b ∈ s.below, ¬ Up s.below b.high b.low := by
  unfold belowOk
  simp only [Bool.and_eq_true, decide_eq_true_eq]
  constructor
  · rintro ⟨h1, h2⟩
    obtain ⟨r, q1, q2⟩ := okBelow_some s h1
    rw [q1] at h2; cases h2
    obtain ⟨p1, p2, p3⟩ := q2.1 rfl
    have hlow : ∀ b ∈ s.below, b.low ∈ s.all := fun b hb => by
      have := p1 b hb; unfold okBel at this; simp only [Bool.and_eq_true, book_has, decide_eq_true_eq] at this; exact this.1.1
    exact ⟨h1, p1, p2, fun b hb hu => p3 b.low (hlow b hb) ((plus_up hlow).2 ⟨b, hb, rfl, hu⟩)⟩
  · rintro ⟨h1, p1, p2, p3⟩
    refine ⟨h1, ?_⟩
    obtain ⟨r, q1, q2⟩ := okBelow_some s h1
    have hlow : ∀ b ∈ s.below, b.low ∈ s.all := fun b hb => by
      have := p1 b hb; unfold okBel at this; simp only [Bool.and_eq_true, book_has, decide_eq_true_eq] at this; exact this.1.1
    rw [q1, q2.2 ⟨p1, p2, fun x hx hp => by obtain ⟨b, hb, rfl, hu⟩ := (plus_up hlow).1 hp; exact p3 b hb hu⟩]
end Go.Proofs.Yt
namespace Go.Proofs.Yt
open Go Go.FA Go.Proofs
set_option linter.unusedVariables false
set_option linter.unusedSimpArgs false
set_option maxRecDepth 100000

def s46 : Sp := sp (arg1 Enc.sigd) Enc.bool (fun s => if s.ok2 ∧ okSorts s.sorts = true ∧ s.below.length ≤ 250 then some (belowOk s) else none)
abbrev T46 : Tab := tabOf [(48, s48), (42, s42), (89, s89)]
theorem t46 : TabOk Tryz.prog T46 := .cons e48 (.cons e42 (.cons e89 .nil))
attribute [local simp] drunL drunO dwanted dopS own plainOf dop dput eval ofVal Then Ex.then Ex.inBlock upd dbin Tag.isNN nilTest intCmp dload dpart TyI.agg dfieldAddr dfield dindexAddr dindex dlen lenOk dlookup mapOf keyFits dmapUpdate dcallee dbuiltin dstore DV.cells dslice dboundOk dappend appTag rowsOf elemOk growLimit dbuildCells dbuildCells.go structOk fieldsOk dbuildRows goInt
set_option maxHeartbeats 1000000 in
theorem c46 : CallSound Tryz.prog 46 s46 := by
  refine CallSound.of_sp (T := T46) Tryz.func46 rfl (Nat.le_of_ble_eq_true rfl) fun E s y hy => ?_
  split at hy
  case isFalse => cases hy
  next hok =>
  obtain ⟨⟨hok, hsz, htx⟩, hso, hbl⟩ := hok
  cases hy
  have l1 := hok.1
  have g48 := fun x => call48 T46 rfl s x l1
  have g42s := fun x => call42 T46 rfl s.sorts x l1 .none
  have g42 := fun l x h => call42 T46 rfl l x h .none
  have g89 := fun x {l} h => call89 T46 rfl s x (l := l) hbl h
  have tT := t46
  generalize T46 = T at *
  have hiff := belowOk_iff (s := s)
  have setB : ∀ b, setAt [DV.lit (.string ⟨#[]⟩), .lit (.string ⟨#[]⟩)] 0 (EncR.bel.enc b) = EncR.bel.enc b := fun _ => rfl
  have bel0 : ∀ b, (EncR.bel.enc b)[0]? = some (.lit (.string b.low)) := fun _ => rfl
  have bel1 : ∀ b, (EncR.bel.enc b)[1]? = some (.lit (.string b.high)) := fun _ => rfl
  have fin : ∀ (a : Nat → DV) (σ : St) (b : Bool), a 2 = .lit (.bool b) → belowOk s = b → Done Tryz.prog Tryz.f46.results Enc.bool (belowOk s) Ex.ret a σ := by
    intro a σ b h2 hne
    refine ⟨.inr rfl, .lit (.bool b), ?_, by rw [hne]; rfl⟩
    show dresults Tryz.prog σ a [ResultVar.tmp 2] = _
    simp [dresults, dres, h2]
  have notOk : (belowOk s = true → False) → belowOk s = false := fun h => by
    cases q : belowOk s with
    | false => rfl
    | true => exact (h q).elim
  refine Dwp.step tT rfl fun K hK => ?_
  simp [init, arg1, EncR.one, Enc.sigd, Enc.agg]
  refine hK _ _ ?_ rfl; clear hK K
  refine Dwp.seq ?_
  refine Dwp.step tT rfl fun K hK => ?_
  simp [ty26, ty23, belsC]
  refine hK _ _ ?_ rfl; clear hK K
  refine Dwp.range tT s.below.length (fun i a σ => a 1 = .row (EncR.sigd.enc s) 0 ∧ a 10 = .slice 2 .none (s.below.map EncR.bel.enc) ∧ (∀ b ∈ s.below.take i, okBel (newBook s) b = true) ∧ (s.below.take i).Nodup)
    ⟨rfl, rfl, rfl⟩ ⟨rfl, rfl, rfl⟩ ⟨rfl, rfl, rfl⟩ (by decide) (by decide) (by omega) (by simp [upd]) (by simp [upd]) ⟨by simp [upd], by simp [upd], by simp, by simp⟩ ?_ ?_
  · rintro i a σ hi hidx hlen ⟨k1, k10, hall, hnd⟩
    obtain ⟨b, hb⟩ : ∃ b, b = s.below[i] := ⟨_, rfl⟩
    have hbm : b ∈ s.below := hb ▸ List.getElem_mem hi
    have hdef : okBel (newBook s) b = (decide (b.low ∈ s.all) && !decide (b.low = anyS) && decide (b.high ∈ s.sorts)) := by
      unfold okBel; rw [book_has, decl_of hso]
    have bad : okBel (newBook s) b = false → belowOk s = false := fun h => notOk fun q => by
      have := (hiff.1 q).2.1 b hbm; rw [h] at this; cases this
    have a48 := g48 b.low
    have a42 := g42s b.high
    refine Dwp.step tT rfl fun K hK => ?_
    simp [hidx, k10, ty23, ty78, hi, ← hb, setB]
    refine hK _ _ ?_ rfl; clear hK K
    refine Dwp.seq ?_
    refine Dwp.step tT rfl fun K hK => ?_
    by_cases q1 : b.low ∈ s.all
    case neg =>
      simp only [q1, decide_false] at a48
      simp [k1, ty26, ty78, ty9, bel0, a48]
      refine hK _ _ ?_ rfl; clear hK K
      refine Dwp.condT (by simp [eval, upd]) ?_
      refine Dwp.step tT rfl fun K hK => ?_
      simp []
      refine hK _ _ (Dwp.ret ?_) rfl
      exact fin _ _ false (by simp [upd]) (bad (by rw [hdef]; simp [q1]))
    simp only [q1, decide_true] at a48
    by_cases q2 : b.low = anyS
    · have q2' : b.low = ⟨#[65, 110, 121]⟩ := q2
      rw [q2'] at a48
      simp [k1, ty26, ty78, ty9, bel0, a48, q2']
      refine hK _ _ ?_ rfl; clear hK K
      refine Dwp.condT (by simp [eval, upd]) ?_
      refine Dwp.step tT rfl fun K hK => ?_
      simp []
      refine hK _ _ (Dwp.ret ?_) rfl
      exact fin _ _ false (by simp [upd]) (bad (by rw [hdef]; simp [q2]))
    have q2' : ¬ b.low = ⟨#[65, 110, 121]⟩ := q2
    by_cases q3 : b.high ∈ s.sorts
    case neg =>
      simp only [q3, decide_false] at a42
      simp [k1, ty26, ty22, ty78, ty9, bel0, bel1, strsC, a48, q2', a42]
      refine hK _ _ ?_ rfl; clear hK K
      refine Dwp.condT (by simp [eval, upd]) ?_
      refine Dwp.step tT rfl fun K hK => ?_
      simp []
      refine hK _ _ (Dwp.ret ?_) rfl
      exact fin _ _ false (by simp [upd]) (bad (by rw [hdef]; simp [q3]))
    simp only [q3, decide_true] at a42
    have hgood : okBel (newBook s) b = true := by rw [hdef]; simp [q1, q2, q3]
    simp [k1, ty26, ty22, ty78, ty9, bel0, bel1, strsC, a48, q2', a42]
    refine hK _ _ ?_ rfl; clear hK K
    refine Dwp.condF (by simp [eval, upd]) (Dwp.skip ?_)
    refine Dwp.step tT rfl fun K hK => ?_
    have hi' : i ≤ s.below.length := by omega
    have hmin : min i s.below.length = i := by omega
    simp [k1, ty26, ty23, ty78, belsC, hi', hmin]
    refine hK _ _ ?_ rfl; clear hK K
    obtain ⟨l, hl⟩ : ∃ l, l = s.below.take i := ⟨_, rfl⟩
    have hll : l.length = i := by rw [hl, List.length_take]; omega
    refine Dwp.range tT i (fun k a τ => a 1 = .row (EncR.sigd.enc s) 0 ∧ a 10 = .slice 2 .none (s.below.map EncR.bel.enc) ∧ a 11 = .lit (.int .i64 s.below.length) ∧ a 12 = .lit (.int .i64 i) ∧ a 38 = .slice 2 .none (l.map EncR.bel.enc) ∧ a 4 = .ptr (σ.n + 1 + 3) 0 ∧ τ.objs (σ.n + 1 + 3) = some (.cells 78 (EncR.bel.enc b)) ∧ σ.n + 1 + 3 < τ.n ∧ b ∉ l.take k)
      ⟨rfl, rfl, rfl⟩ ⟨rfl, rfl, rfl⟩ ⟨rfl, rfl, rfl⟩ (by decide) (by decide) (by omega) (by simp [upd]) (by simp [upd]) ⟨by simp [upd, k1], by simp [upd, k10], by simp [upd, hlen], by simp [upd, hidx], by simp [upd, hl, List.map_take], by simp [upd], by simp [upd], by simp <;> omega, by simp⟩ ?_ ?_
    · rintro k a τ hk hidx hlen ⟨k1, k10, k11, k12, k38, k4, hobj, hn, hno⟩
      have hkl : k < l.length := by omega
      obtain ⟨c, hc⟩ : ∃ c, c = l[k] := ⟨_, rfl⟩
      have hne : ¬ (σ.n + 1 = τ.n) := by omega
      have he := eqBelS b c
      refine Dwp.step tT rfl fun K hK => ?_
      simp [hidx, k38, ty23, ty78, hkl, ← hc, setB]
      refine hK _ _ ?_ rfl; clear hK K
      refine Dwp.step tT rfl fun K hK => ?_
      by_cases q : b = c
      · simp only [q, decide_true] at he
        simp [k4, hobj, hne, ty78, q, he]
        refine hK _ _ ?_ rfl; clear hK K
        refine Dwp.condT (by simp [eval, upd]) ?_
        refine Dwp.step tT rfl fun K hK => ?_
        simp []
        refine hK _ _ (Dwp.ret ?_) rfl
        refine fin _ _ false (by simp [upd]) (notOk fun e => ?_)
        have h1 := ((nodup_take_succ hi).1 (nodup_take (hiff.1 e).2.2.1 (i + 1))).2
        rw [← hb, ← hl] at h1
        exact h1 (by rw [q, hc]; exact List.getElem_mem hkl)
      · simp only [q, decide_false] at he
        simp [k4, hobj, hne, ty78, he]
        refine hK _ _ ?_ rfl; clear hK K
        refine Dwp.condF (by simp [eval, upd]) (Dwp.skip ?_)
        refine ⟨by simp [upd, hidx], by simp [upd, hlen], by simp [upd, k1], by simp [upd, k10], by simp [upd, k11], by simp [upd, k12], by simp [upd, k38], by simp [upd, k4], by simp [upd, hobj, hne], by simp <;> omega, ?_⟩
        rw [mem_take_succ hkl]
        rintro (e | e)
        · exact hno e
        · exact q (e.trans hc.symm)
    · rintro a τ hidx hlen ⟨k1, k10, k11, k12, k38, k4, hobj, hn, hno⟩
      rw [List.take_of_length_le (by omega)] at hno
      refine ⟨by simp [upd, k12], by simp [upd, k11], by simp [upd, k1], by simp [upd, k10], fun m hm => ?_, (nodup_take_succ hi).2 ⟨hnd, by rw [← hb, ← hl]; exact hno⟩⟩
      rcases (mem_take_succ hi m).1 hm with e | e
      · exact hall m e
      · rw [e, ← hb]; exact hgood
  rintro a σ hidx hlen ⟨k1, k10, hall, hnd⟩
  rw [List.take_length] at hall hnd
  refine Dwp.seq ?_
  refine Dwp.step tT rfl fun K hK => ?_
  simp [k1, ty26, ty23, belsC]
  refine hK _ _ ?_ rfl; clear hK K
  refine Dwp.range tT s.below.length (fun i a σ => a 1 = .row (EncR.sigd.enc s) 0 ∧ a 50 = .slice 2 .none (s.below.map EncR.bel.enc) ∧ ∀ b ∈ s.below.take i, ¬ Up s.below b.high b.low)
    ⟨rfl, rfl, rfl⟩ ⟨rfl, rfl, rfl⟩ ⟨rfl, rfl, rfl⟩ (by decide) (by decide) (by omega) (by simp [upd]) (by simp [upd]) ⟨by simp [upd, k1], by simp [upd], by simp⟩ ?_ ?_
  · rintro i a σ hi hidx hlen ⟨k1, k50, hup⟩
    obtain ⟨b, hb⟩ : ∃ b, b = s.below[i] := ⟨_, rfl⟩
    have hbm : b ∈ s.below := hb ▸ List.getElem_mem hi
    obtain ⟨r, r1, r2, r3⟩ := reach_some s.below hbl b.high
    have a89 := g89 b.high r1
    have a42 := g42 r b.low (by omega)
    refine Dwp.step tT rfl fun K hK => ?_
    simp [hidx, k50, ty23, ty78, hi, ← hb, setB]
    refine hK _ _ ?_ rfl; clear hK K
    refine Dwp.drawStep [.none, .none, .robj, .none, .none, .robj] mixed tT rfl (by decide) fun K hK => ?_
    by_cases q : b.low ∈ r
    · simp only [q, decide_true] at a42
      simp [drunT, touch, touchP, k1, ty26, ty78, ty9, bel0, bel1, a89, a42]
      refine hK _ _ ?_ rfl; clear hK K
      refine Dwp.condT (by simp [eval, upd]) ?_
      refine Dwp.step tT rfl fun K hK => ?_
      simp []
      refine hK _ _ (Dwp.ret ?_) rfl
      exact fin _ _ false (by simp [upd]) (notOk fun e => (hiff.1 e).2.2.2 b hbm ((r3 _).1 q))
    · simp only [q, decide_false] at a42
      simp [drunT, touch, touchP, k1, ty26, ty78, ty9, bel0, bel1, a89, a42]
      refine hK _ _ ?_ rfl; clear hK K
      refine Dwp.condF (by simp [eval, upd]) (Dwp.skip ?_)
      refine ⟨by simp [upd, hidx], by simp [upd, hlen], by simp [upd, k1], by simp [upd, k50], fun m hm => ?_⟩
      rcases (mem_take_succ hi m).1 hm with e | e
      · exact hup m e
      · rw [e, ← hb]; exact fun h => q ((r3 _).2 h)
  · rintro a σ hidx hlen ⟨k1, k50, hup⟩
    rw [List.take_length] at hup
    refine Dwp.step tT rfl fun K hK => ?_
    by_cases q : s.below.length ≤ 200
    · have q' : (s.below.length : Int) ≤ 200 := by omega
      simp [k1, ty26, ty23, belsC, q']
      refine hK _ _ (Dwp.ret ?_) rfl
      exact fin _ _ true (by simp [upd]) (hiff.2 ⟨q, hall, hnd, hup⟩)
    · have q' : ¬ (s.below.length : Int) ≤ 200 := by omega
      simp [k1, ty26, ty23, belsC, q']
      refine hK _ _ (Dwp.ret ?_) rfl
      exact fin _ _ false (by simp [upd]) (notOk fun e => q (hiff.1 e).1)
theorem e46 : Go.FA.Good Tryz.prog (46, s46) := ⟨c46, Tryz.f46, _, Tryz.func46, rfl, by decide⟩
theorem call46 (T : Tab) (hT : T 46 = some s46) (s : SigD) (h : s.ok2) (h1 : okSorts s.sorts = true) (h2 : s.below.length ≤ 250) : dcall T 46 [.agg (EncR.sigd.enc s)] = some (.lit (.bool (belowOk s))) :=
  dcall1 (A := Enc.sigd) (B := Enc.bool) (x := s) hT (if_pos ⟨h, h1, h2⟩)
end Go.Proofs.Yt
namespace Go.Proofs.Yt
open Go Go.FA Go.Proofs
set_option linter.unusedVariables false
set_option linter.unusedSimpArgs false
set_option maxRecDepth 100000

theorem vld_iff {s : SigD} (h : s.ok) : s.vld = true ↔ s.within = true ∧ okSorts s.sorts = true ∧ belowOk s = true ∧ opsOk s = true ∧ (∀ v ∈ s.values, v ∈ s.all) ∧ s.values.Nodup := by
  unfold SigD.vld
  cases hw : s.within with
  | false => simp
  | true =>
    have hw2 := hw
    simp only [SigD.within, Bool.and_eq_true, decide_eq_true_eq] at hw2
    obtain ⟨⟨w1, w2⟩, w3⟩ := hw2
    obtain ⟨r, q1, _⟩ := okBelow_some s w2
    have hb : belowOk s = r := by unfold belowOk; rw [q1]; cases r <;> simp [w2]
    have hn : (opNames s).length ≤ 200 := by unfold opNames; simp; omega
    unfold validB
    rw [if_pos (h.sizes hw), q1, hb]
    have ho : opsOk s = (!(s.ops.any (predB (false, newBook s))) && !(s.funs.any (predB (true, newBook s))) && decide (opNames s).Nodup) := by
      unfold opsOk
      rw [Bool.eq_iff_iff]
      simp [predB, hn, List.all_eq_true, List.any_eq_false]
    by_cases h3 : okSorts s.sorts = true
    · rw [if_pos h3]
      cases r with
      | false => simp
      | true =>
        rw [ho]
        simp only [Bool.true_and, decide_eq_true_eq, Option.some.injEq, Bool.and_eq_true, List.all_eq_true, book_has, h3, true_and]
        constructor
        · rintro ⟨⟨⟨⟨a, b⟩, c⟩, d⟩, e⟩; exact ⟨⟨⟨b, c⟩, a⟩, d, e⟩
        · rintro ⟨⟨⟨b, c⟩, a⟩, d, e⟩; exact ⟨⟨⟨⟨a, b⟩, c⟩, d⟩, e⟩
    · rw [if_neg h3]; simp [h3]
def s13 : Sp := sp (arg1 Enc.sigd) Enc.bool (fun s => if s.ok2 ∧ s.below.length ≤ 250 then some s.vld else none)
abbrev T13 : Tab := tabOf [(45, s45), (46, s46), (47, s47), (48, s48), (49, s49)]
theorem t13 : TabOk Tryz.prog T13 := .cons e45 (.cons e46 (.cons e47 (.cons e48 (.cons e49 .nil))))
attribute [local simp] drunL drunO dwanted dopS own plainOf dop dput eval ofVal Then Ex.then Ex.inBlock upd dbin Tag.isNN nilTest intCmp dload dpart TyI.agg dfieldAddr dfield dindexAddr dindex dlen lenOk dlookup mapOf keyFits dmapUpdate dcallee dbuiltin dstore DV.cells dslice dboundOk dappend appTag rowsOf elemOk growLimit dbuildCells dbuildCells.go structOk fieldsOk dbuildRows goInt
set_option maxHeartbeats 2000000 in
theorem c13 : CallSound Tryz.prog 13 s13 := by
  refine CallSound.of_sp (T := T13) Tryz.func13 rfl (Nat.le_of_ble_eq_true rfl) fun E s y hy => ?_
  split at hy
  case isFalse => cases hy
  next hok =>
  obtain ⟨hok2, hbl⟩ := hok
  cases hy
  have hok := hok2.1
  obtain ⟨l1, l2, l3, l4, _⟩ := id hok
  have g45 := call45 T13 rfl s hok2
  have g46 := fun h => call46 T13 rfl s hok2 h hbl
  have g47 := fun h => call47 T13 rfl s hok2 h
  have g48 := fun x => call48 T13 rfl s x l1
  have g49 := call49 T13 rfl (Enc.strs.enc s.values) s.values (Enc.strs.de _) l4
  have tT := t13
  generalize T13 = T at *
  have hiff := vld_iff hok
  have hw : s.within = true ↔ s.sorts.length ≤ 40 ∧ s.below.length ≤ 200 ∧ s.ops.length + s.funs.length ≤ 200 := by
    simp only [SigD.within, Bool.and_eq_true, decide_eq_true_eq, and_assoc]
  have fin : ∀ (a : Nat → DV) (σ : St) (b : Bool), a 2 = .lit (.bool b) → s.vld = b → Done Tryz.prog Tryz.f13.results Enc.bool s.vld Ex.ret a σ := by
    intro a σ b h2 hne
    refine ⟨.inr rfl, .lit (.bool b), ?_, by rw [hne]; rfl⟩
    show dresults Tryz.prog σ a [ResultVar.tmp 2] = _
    simp [dresults, dres, h2]
  have notOk : (s.vld = true → False) → s.vld = false := fun h => by
    cases q : s.vld with
    | false => rfl
    | true => exact (h q).elim
  have hsum : IntKind.i64.wrap ((s.ops.length : Int) + (s.funs.length : Int)) = (s.ops.length : Int) + (s.funs.length : Int) := wrap_small (n := (s.ops.length : Int) + (s.funs.length : Int)) (by omega) (by omega)
  refine Dwp.step tT rfl fun K hK => ?_
  simp [init, arg1, EncR.one, Enc.sigd, Enc.agg]
  refine hK _ _ ?_ rfl; clear hK K
  refine Dwp.seq ?_
  refine Dwp.step tT rfl fun K hK => ?_
  have bad : ∀ a' σ', a' 39 = .lit (.bool true) → s.vld = false → σ'.n = σ0.n + 2 → K a' σ' := by
    intro a' σ' h39 hv hn
    refine hK _ _ ?_ hn
    refine Dwp.condT (by simp [eval, h39]) ?_
    refine Dwp.step tT rfl fun K hK => ?_
    simp []
    refine hK _ _ (Dwp.ret ?_) rfl
    exact fin _ _ false (by simp [upd]) hv
  by_cases q0 : s.sorts.length ≤ 40
  case neg =>
    have q0n : (40 : Int) < (s.sorts.length : Int) := by omega
    repeat (first
      | (refine Then.stepD rfl rfl (fun K1 hK1 => ?_); simp [Then1, Guarded, ty26, ty22, ty23, ty24, strsC, belsC, opsC, hsum, q0n]; refine hK1 _ _ ?_; clear hK1 K1)
      | (refine Then.stepG rfl rfl rfl (fun K1 hK1 => ?_); simp [Then1, Guarded, ty26, ty22, ty23, ty24, strsC, belsC, opsC, hsum, q0n]; refine hK1 _ _ ?_; clear hK1 K1)
      | (refine Then.stepN rfl rfl (fun K1 hK1 => ?_); simp [Then1, Guarded, ty26, ty22, ty23, ty24, strsC, belsC, opsC, hsum, q0n]; refine hK1 _ _ ?_; clear hK1 K1)
      | (refine Then.stepGN rfl rfl rfl (fun K1 hK1 => ?_); simp [Then1, Guarded, ty26, ty22, ty23, ty24, strsC, belsC, opsC, hsum, q0n]; refine hK1 _ _ ?_; clear hK1 K1))
    refine Then.done (bad _ _ (by simp [upd]) (notOk fun e => ?_) rfl)
    have := hw.1 (hiff.1 e).1; omega
  have q0n : ¬ (40 : Int) < (s.sorts.length : Int) := by omega
  by_cases q1 : s.below.length ≤ 200
  case neg =>
    have q1n : (200 : Int) < (s.below.length : Int) := by omega
    repeat (first
      | (refine Then.stepD rfl rfl (fun K1 hK1 => ?_); simp [Then1, Guarded, ty26, ty22, ty23, ty24, strsC, belsC, opsC, hsum, q0n, q1n]; refine hK1 _ _ ?_; clear hK1 K1)
      | (refine Then.stepG rfl rfl rfl (fun K1 hK1 => ?_); simp [Then1, Guarded, ty26, ty22, ty23, ty24, strsC, belsC, opsC, hsum, q0n, q1n]; refine hK1 _ _ ?_; clear hK1 K1)
      | (refine Then.stepN rfl rfl (fun K1 hK1 => ?_); simp [Then1, Guarded, ty26, ty22, ty23, ty24, strsC, belsC, opsC, hsum, q0n, q1n]; refine hK1 _ _ ?_; clear hK1 K1)
      | (refine Then.stepGN rfl rfl rfl (fun K1 hK1 => ?_); simp [Then1, Guarded, ty26, ty22, ty23, ty24, strsC, belsC, opsC, hsum, q0n, q1n]; refine hK1 _ _ ?_; clear hK1 K1))
    refine Then.done (bad _ _ (by simp [upd]) (notOk fun e => ?_) rfl)
    have := hw.1 (hiff.1 e).1; omega
  have q1n : ¬ (200 : Int) < (s.below.length : Int) := by omega
  by_cases q2 : s.ops.length + s.funs.length ≤ 200
  case neg =>
    have q2n : (200 : Int) < (s.ops.length : Int) + (s.funs.length : Int) := by omega
    repeat (first
      | (refine Then.stepD rfl rfl (fun K1 hK1 => ?_); simp [Then1, Guarded, ty26, ty22, ty23, ty24, strsC, belsC, opsC, hsum, q0n, q1n, q2n]; refine hK1 _ _ ?_; clear hK1 K1)
      | (refine Then.stepG rfl rfl rfl (fun K1 hK1 => ?_); simp [Then1, Guarded, ty26, ty22, ty23, ty24, strsC, belsC, opsC, hsum, q0n, q1n, q2n]; refine hK1 _ _ ?_; clear hK1 K1)
      | (refine Then.stepN rfl rfl (fun K1 hK1 => ?_); simp [Then1, Guarded, ty26, ty22, ty23, ty24, strsC, belsC, opsC, hsum, q0n, q1n, q2n]; refine hK1 _ _ ?_; clear hK1 K1)
      | (refine Then.stepGN rfl rfl rfl (fun K1 hK1 => ?_); simp [Then1, Guarded, ty26, ty22, ty23, ty24, strsC, belsC, opsC, hsum, q0n, q1n, q2n]; refine hK1 _ _ ?_; clear hK1 K1))
    refine Then.done (bad _ _ (by simp [upd]) (notOk fun e => ?_) rfl)
    have := hw.1 (hiff.1 e).1; omega
  have q2n : ¬ (200 : Int) < (s.ops.length : Int) + (s.funs.length : Int) := by omega
  have hwt : s.within = true := hw.2 ⟨q0, q1, q2⟩
  by_cases q3 : okSorts s.sorts = true
  case neg =>
    have q3' : okSorts s.sorts = false := by simpa using q3
    simp only [q3', Bool.and_false] at g45
    repeat (first
      | (refine Then.stepD rfl rfl (fun K1 hK1 => ?_); simp [Then1, Guarded, ty26, ty22, ty23, ty24, strsC, belsC, opsC, hsum, q0n, q1n, q2n, g45]; refine hK1 _ _ ?_; clear hK1 K1)
      | (refine Then.stepG rfl rfl rfl (fun K1 hK1 => ?_); simp [Then1, Guarded, ty26, ty22, ty23, ty24, strsC, belsC, opsC, hsum, q0n, q1n, q2n, g45]; refine hK1 _ _ ?_; clear hK1 K1)
      | (refine Then.stepN rfl rfl (fun K1 hK1 => ?_); simp [Then1, Guarded, ty26, ty22, ty23, ty24, strsC, belsC, opsC, hsum, q0n, q1n, q2n, g45]; refine hK1 _ _ ?_; clear hK1 K1)
      | (refine Then.stepGN rfl rfl rfl (fun K1 hK1 => ?_); simp [Then1, Guarded, ty26, ty22, ty23, ty24, strsC, belsC, opsC, hsum, q0n, q1n, q2n, g45]; refine hK1 _ _ ?_; clear hK1 K1))
    refine Then.done (bad _ _ (by simp [upd]) (notOk fun e => q3 (hiff.1 e).2.1) rfl)
  have a46 := g46 q3
  have a47 := g47 q3
  simp only [q3, Bool.and_true, decide_eq_true q0] at g45
  by_cases q4 : belowOk s = true
  case neg =>
    have q4' : belowOk s = false := by simpa using q4
    simp only [q4'] at a46
    repeat (first
      | (refine Then.stepD rfl rfl (fun K1 hK1 => ?_); simp [Then1, Guarded, ty26, ty22, ty23, ty24, strsC, belsC, opsC, hsum, q0n, q1n, q2n, g45, a46]; refine hK1 _ _ ?_; clear hK1 K1)
      | (refine Then.stepG rfl rfl rfl (fun K1 hK1 => ?_); simp [Then1, Guarded, ty26, ty22, ty23, ty24, strsC, belsC, opsC, hsum, q0n, q1n, q2n, g45, a46]; refine hK1 _ _ ?_; clear hK1 K1)
      | (refine Then.stepN rfl rfl (fun K1 hK1 => ?_); simp [Then1, Guarded, ty26, ty22, ty23, ty24, strsC, belsC, opsC, hsum, q0n, q1n, q2n, g45, a46]; refine hK1 _ _ ?_; clear hK1 K1)
      | (refine Then.stepGN rfl rfl rfl (fun K1 hK1 => ?_); simp [Then1, Guarded, ty26, ty22, ty23, ty24, strsC, belsC, opsC, hsum, q0n, q1n, q2n, g45, a46]; refine hK1 _ _ ?_; clear hK1 K1))
    refine Then.done (bad _ _ (by simp [upd]) (notOk fun e => q4 (hiff.1 e).2.2.1) rfl)
  simp only [q4] at a46
  by_cases q5 : opsOk s = true
  case neg =>
    have q5' : opsOk s = false := by simpa using q5
    simp only [q5'] at a47
    repeat (first
      | (refine Then.stepD rfl rfl (fun K1 hK1 => ?_); simp [Then1, Guarded, ty26, ty22, ty23, ty24, strsC, belsC, opsC, hsum, q0n, q1n, q2n, g45, a46, a47]; refine hK1 _ _ ?_; clear hK1 K1)
      | (refine Then.stepG rfl rfl rfl (fun K1 hK1 => ?_); simp [Then1, Guarded, ty26, ty22, ty23, ty24, strsC, belsC, opsC, hsum, q0n, q1n, q2n, g45, a46, a47]; refine hK1 _ _ ?_; clear hK1 K1)
      | (refine Then.stepN rfl rfl (fun K1 hK1 => ?_); simp [Then1, Guarded, ty26, ty22, ty23, ty24, strsC, belsC, opsC, hsum, q0n, q1n, q2n, g45, a46, a47]; refine hK1 _ _ ?_; clear hK1 K1)
      | (refine Then.stepGN rfl rfl rfl (fun K1 hK1 => ?_); simp [Then1, Guarded, ty26, ty22, ty23, ty24, strsC, belsC, opsC, hsum, q0n, q1n, q2n, g45, a46, a47]; refine hK1 _ _ ?_; clear hK1 K1))
    refine Then.done (bad _ _ (by simp [upd]) (notOk fun e => q5 (hiff.1 e).2.2.2.1) rfl)
  simp only [q5] at a47
  repeat (first
    | (refine Then.stepD rfl rfl (fun K1 hK1 => ?_); simp [Then1, Guarded, ty26, ty22, ty23, ty24, strsC, belsC, opsC, hsum, q0n, q1n, q2n, g45, a46, a47]; refine hK1 _ _ ?_; clear hK1 K1)
    | (refine Then.stepG rfl rfl rfl (fun K1 hK1 => ?_); simp [Then1, Guarded, ty26, ty22, ty23, ty24, strsC, belsC, opsC, hsum, q0n, q1n, q2n, g45, a46, a47]; refine hK1 _ _ ?_; clear hK1 K1)
    | (refine Then.stepN rfl rfl (fun K1 hK1 => ?_); simp [Then1, Guarded, ty26, ty22, ty23, ty24, strsC, belsC, opsC, hsum, q0n, q1n, q2n, g45, a46, a47]; refine hK1 _ _ ?_; clear hK1 K1)
    | (refine Then.stepGN rfl rfl rfl (fun K1 hK1 => ?_); simp [Then1, Guarded, ty26, ty22, ty23, ty24, strsC, belsC, opsC, hsum, q0n, q1n, q2n, g45, a46, a47]; refine hK1 _ _ ?_; clear hK1 K1))
  refine Then.done (hK _ _ ?_ rfl)
  clear bad hK K
  refine Dwp.condF (by simp [eval, upd]) (Dwp.skip ?_)
  refine Dwp.seq ?_
  refine Dwp.step tT rfl fun K hK => ?_
  simp [ty26, ty22, strsC]
  refine hK _ _ ?_ rfl; clear hK K
  refine Dwp.range tT s.values.length (fun i a σ => a 1 = .row (EncR.sigd.enc s) 0 ∧ a 41 = .slice 1 .none (rows1 s.values) ∧ ∀ v ∈ s.values.take i, v ∈ s.all)
    ⟨rfl, rfl, rfl⟩ ⟨rfl, rfl, rfl⟩ ⟨rfl, rfl, rfl⟩ (by decide) (by decide) (by omega) (by simp [upd]) (by simp [upd]) ⟨by simp [upd], by simp [upd], by simp⟩ ?_ ?_
  · rintro i a σ hi hidx hlen ⟨k1, k41, hall⟩
    refine Dwp.step tT rfl fun K hK => ?_
    simp [hidx, k41, ty22, ty9, hi]
    refine hK _ _ ?_ rfl; clear hK K
    obtain ⟨v, hv⟩ : ∃ v, v = s.values[i] := ⟨_, rfl⟩
    have hvm : v ∈ s.values := hv ▸ List.getElem_mem hi
    have g := g48 v
    rw [← hv]
    refine Dwp.step tT rfl fun K hK => ?_
    by_cases q : v ∈ s.all
    · simp only [q, decide_true] at g
      simp [k1, ty26, g]
      refine hK _ _ ?_ rfl; clear hK K
      refine Dwp.condF (by simp [eval, upd]) (Dwp.skip ?_)
      refine ⟨by simp [upd, hidx], by simp [upd, hlen], by simp [upd, k1], by simp [upd, k41], fun z hz => ?_⟩
      rcases (mem_take_succ hi z).1 hz with e | e
      · exact hall z e
      · rw [e, ← hv]; exact q
    · simp only [q, decide_false] at g
      simp [k1, ty26, g]
      refine hK _ _ ?_ rfl; clear hK K
      refine Dwp.condT (by simp [eval, upd]) ?_
      refine Dwp.step tT rfl fun K hK => ?_
      simp []
      refine hK _ _ (Dwp.ret ?_) rfl
      exact fin _ _ false (by simp [upd]) (notOk fun e => q ((hiff.1 e).2.2.2.2.1 v hvm))
  · rintro a σ hidx hlen ⟨k1, k41, hall⟩
    rw [List.take_length] at hall
    rw [strsC] at g49
    refine Dwp.step tT rfl fun K hK => ?_
    simp [k1, ty26, ty22, strsC, g49]
    refine hK _ _ (Dwp.ret ?_) rfl
    refine fin _ _ (decide s.values.Nodup) (by simp [upd]) ?_
    rw [Bool.eq_iff_iff, hiff, decide_eq_true_eq]
    exact ⟨fun h => h.2.2.2.2.2, fun h => ⟨hwt, q3, q4, q5, hall, h⟩⟩
theorem e13 : Go.FA.Good Tryz.prog (13, s13) := ⟨c13, Tryz.f13, _, Tryz.func13, rfl, by decide⟩
theorem call13 (T : Tab) (hT : T 13 = some s13) (s : SigD) (h : s.ok2) (h1 : s.below.length ≤ 250) : dcall T 13 [.agg (EncR.sigd.enc s)] = some (.lit (.bool s.vld)) :=
  dcall1 (A := Enc.sigd) (B := Enc.bool) (x := s) hT (if_pos ⟨h, h1⟩)
end Go.Proofs.Yt
namespace Go.Proofs.Yt
open Go Go.FA Go.Proofs
set_option linter.unusedVariables false
set_option linter.unusedSimpArgs false
set_option maxRecDepth 100000

theorem few_below {s : SigD} (h : few s = true) : s.below.length ≤ 250 := by
  unfold few at h; simp only [Bool.and_eq_true, decide_eq_true_eq] at h; omega
def s3 : Sp := sp (arg1 Enc.sigd) Enc.bool (fun s => if s.ok2 then some true else none)
abbrev T3 : Tab := tabOf [(10, s10), (11, s11), (12, s12), (13, s13)]
theorem t3 : TabOk Tryz.prog T3 := .cons e10 (.cons e11 (.cons e12 (.cons e13 .nil)))
attribute [local simp] drunL drunO dwanted dopS own plainOf dop dput eval ofVal Then Ex.then Ex.inBlock upd dbin Tag.isNN nilTest intCmp dload dpart TyI.agg dfieldAddr dfield dindexAddr dindex dlen lenOk dlookup mapOf keyFits dmapUpdate dcallee dbuiltin dstore DV.cells dslice dboundOk dappend appTag rowsOf elemOk growLimit dbuildCells dbuildCells.go structOk fieldsOk dbuildRows goInt
theorem c3 : CallSound Tryz.prog 3 s3 := by
  refine CallSound.of_sp (T := T3) Tryz.func3 rfl (Nat.le_of_ble_eq_true rfl) fun E s y hy => ?_
  split at hy
  case isFalse => cases hy
  next hok =>
  cases hy
  have g10 := call10 T3 rfl hok.1
  have g11 := call11 T3 rfl
  have g12 := call12 T3 rfl hok.1
  have g13 := fun h => call13 T3 rfl s hok h
  have tT := t3
  generalize T3 = T at *
  have fin : ∀ (a : Nat → DV) (σ : St), a 2 = .lit (.bool true) → Done Tryz.prog Tryz.f3.results Enc.bool true Ex.ret a σ := by
    intro a σ h2
    refine ⟨.inr rfl, .lit (.bool true), ?_, rfl⟩
    show dresults Tryz.prog σ a [ResultVar.tmp 2] = _
    simp [dresults, dres, h2]
  refine Dwp.step tT rfl fun K hK => ?_
  simp [init, arg1, EncR.one, Enc.sigd, Enc.agg]
  refine hK _ _ ?_ rfl; clear hK K
  refine Dwp.seq ?_
  refine Dwp.step tT rfl fun K hK => ?_
  by_cases hf : few s = true
  case neg =>
    have hf' : few s = false := by simpa using hf
    simp [ty26, g10, hf']
    refine hK _ _ ?_ rfl; clear hK K
    refine Dwp.condT (by simp [eval, upd]) ?_
    refine Dwp.step tT rfl fun K hK => ?_
    simp [g11]
    refine hK _ _ (Dwp.ret ?_) rfl
    exact fin _ _ (by simp [upd])
  have g13' := g13 (few_below hf)
  simp [ty26, g10, hf]
  refine hK _ _ ?_ rfl; clear hK K
  refine Dwp.condF (by simp [eval, upd]) (Dwp.skip ?_)
  refine Dwp.drawStep [] mixed tT rfl (by decide) fun K hK => ?_
  simp [drunT, touch, touchP, ty26, ty4, g12, g13', g11]
  refine hK _ _ (Dwp.ret ?_) rfl
  exact fin _ _ (by simp [upd])
theorem e3 : Go.FA.Good Tryz.prog (3, s3) := ⟨c3, Tryz.f3, _, Tryz.func3, rfl, by decide⟩

/-- the reference's order -/
def underB (s : SigD) (x y : ByteArray) : Bool := decide (y = anyS) || (match reachG s.below 300 0 [x] with | some r => decide (y ∈ r) | none => false)
theorem underB_at {s : SigD} (h : s.ok) (hv : s.vld = true) {x y : ByteArray} (hx : x ∈ s.all) (hy : y ∈ s.all) : underB s x y = s.at x y := by
  have hf := vld_facts h hv
  obtain ⟨r, r1, _, r3⟩ := reach_some s.below (by have := hf.2.1; omega) x
  have hlow : ∀ b ∈ s.below, b.low ∈ s.all := fun b hb => by
    have := hf.2.2.2.1 b hb; unfold okBel at this; simp only [Bool.and_eq_true, book_has, decide_eq_true_eq] at this; exact this.1.1
  unfold underB
  rw [r1, Bool.eq_iff_iff, at_iff s h]
  simp only [Bool.or_eq_true, decide_eq_true_eq, r3, up_star hlow, hv, hx, hy, true_and]
  constructor
  · rintro (q | q)
    · exact .inl q
    · rcases q.cases' with e | e
      · exact .inr (.inl e)
      · exact .inr (.inr e)
  · rintro (q | q | q)
    · exact .inl q
    · subst q; exact .inr (.refl _)
    · exact .inr q.star
def s52 : Sp := sp (arg3 Enc.sigd Enc.str Enc.str) Enc.bool (fun x => if x.1.below.length ≤ 250 then some (underB x.1 x.2.1 x.2.2) else none)
abbrev T52 : Tab := tabOf [(89, s89), (42, s42)]
theorem t52 : TabOk Tryz.prog T52 := .cons e89 (.cons e42 .nil)
theorem c52 : CallSound Tryz.prog 52 s52 := by
  refine CallSound.of_sp (T := T52) Tryz.func52 rfl (Nat.le_of_ble_eq_true rfl) fun E xx y hy => ?_
  obtain ⟨s, x, z⟩ := xx
  simp only [] at hy
  split at hy
  case isFalse => cases hy
  next hbl =>
  cases hy
  obtain ⟨r, r1, r2, r3⟩ := reach_some s.below hbl x
  have g89 := call89 T52 rfl s x hbl r1
  have g42 := call42 T52 rfl r z (by omega) .none
  have tT := t52
  generalize T52 = T at *
  have hu : underB s x z = (decide (z = anyS) || decide (z ∈ r)) := by unfold underB; rw [r1]
  refine Dwp.step tT rfl fun K hK => ?_
  simp [init, arg3, EncR.and, EncR.one, Enc.sigd, Enc.agg, Enc.str]
  refine hK _ _ ?_ rfl; clear hK K
  refine Dwp.step tT rfl fun K hK => ?_
  by_cases q1 : z = anyS
  · have q1' : z = ⟨#[65, 110, 121]⟩ := q1
    simp [init, ty9, q1']
    refine hK _ _ (Dwp.ret ?_) rfl
    rw [q1] at hu
    simp [Done, dresults, dres, frz, frz1, frz2, upd, Enc.bool, ← q1', q1, hu]
  · have q1' : ¬ z = ⟨#[65, 110, 121]⟩ := q1
    simp [init, ty9, ty26, q1', g89, g42]
    refine hK _ _ (Dwp.ret ?_) rfl
    simp [Done, dresults, dres, frz, frz1, frz2, upd, Enc.bool, hu, q1]
theorem e52 : Go.FA.Good Tryz.prog (52, s52) := ⟨c52, Tryz.f52, _, Tryz.func52, rfl, by decide⟩
theorem call52 (T : Tab) (hT : T 52 = some s52) (s : SigD) (x y : ByteArray) (h : s.below.length ≤ 250) : dcall T 52 [.agg (EncR.sigd.enc s), .lit (.string x), .lit (.string y)] = some (.lit (.bool (underB s x y))) :=
  dcall3 (A := Enc.sigd) (B := Enc.str) (C := Enc.str) (D := Enc.bool) (x := s) (y := x) (u := y) hT (if_pos h)

/-- the error of what is asked of sorts -/
def sureE (s : SigD) (l : List ByteArray) : Int := if s.vld then (if l.all (fun x => decide (x ∈ s.all)) then 0 else 13) else 2
def s51 : Sp := sp (arg2 Enc.sigd Enc.strs) Enc.i64 (fun x => if x.1.ok2 ∧ x.1.below.length ≤ 250 ∧ x.2.length ≤ 1048576 then some (sureE x.1 x.2) else none)
abbrev T51 : Tab := tabOf [(13, s13), (48, s48)]
theorem t51 : TabOk Tryz.prog T51 := .cons e13 (.cons e48 .nil)
theorem c51 : CallSound Tryz.prog 51 s51 := by
  refine CallSound.of_sp (T := T51) Tryz.func51 rfl (Nat.le_of_ble_eq_true rfl) fun E xx y hy => ?_
  obtain ⟨s, l⟩ := xx
  simp only [] at hy
  split at hy
  case isFalse => cases hy
  next hh =>
  obtain ⟨hok, hbl, hl⟩ := hh
  cases hy
  have g13 := call13 T51 rfl s hok hbl
  have g48 := fun x => call48 T51 rfl s x hok.1.1
  have tT := t51
  generalize T51 = T at *
  have fin : ∀ (a : Nat → DV) (σ : St) (b : Int), a 4 = .lit (.int .i64 b) → sureE s l = b → Done Tryz.prog Tryz.f51.results Enc.i64 (sureE s l) Ex.ret a σ := by
    intro a σ b h2 hne
    refine ⟨.inr rfl, .lit (.int .i64 b), ?_, by rw [hne]; rfl⟩
    show dresults Tryz.prog σ a [ResultVar.tmp 4] = _
    simp [dresults, dres, h2]
  refine Dwp.step tT rfl fun K hK => ?_
  simp [init, arg2, EncR.and, EncR.one, Enc.sigd, Enc.agg]
  refine hK _ _ ?_ rfl; clear hK K
  refine Dwp.seq ?_
  refine Dwp.step tT rfl fun K hK => ?_
  cases hv : s.vld with
  | false =>
    rw [hv] at g13
    simp [ty26, g13]
    refine hK _ _ ?_ rfl; clear hK K
    refine Dwp.condT (by simp [eval, upd]) ?_
    refine Dwp.step tT rfl fun K hK => ?_
    simp []
    refine hK _ _ (Dwp.ret ?_) rfl
    exact fin _ _ 2 (by simp [upd]) (by unfold sureE; rw [hv]; rfl)
  | true =>
  rw [hv] at g13
  simp [ty26, g13]
  refine hK _ _ ?_ rfl; clear hK K
  refine Dwp.condF (by simp [eval, upd]) (Dwp.skip ?_)
  refine Dwp.seq ?_
  refine Dwp.step tT rfl fun K hK => ?_
  simp [init, ty22, strsC]
  refine hK _ _ ?_ rfl; clear hK K
  refine Dwp.range tT l.length (fun i a σ => a 2 = .row (EncR.sigd.enc s) 0 ∧ a 10 = .slice 1 .none (rows1 l) ∧ ∀ x ∈ l.take i, x ∈ s.all)
    ⟨rfl, rfl, rfl⟩ ⟨rfl, rfl, rfl⟩ ⟨rfl, rfl, rfl⟩ (by decide) (by decide) (by omega) (by simp [upd]) (by simp [upd]) ⟨by simp [upd], by simp [upd], by simp⟩ ?_ ?_
  · rintro i a σ hi hidx hlen ⟨k2, k10, hall⟩
    refine Dwp.step tT rfl fun K hK => ?_
    simp [hidx, k10, ty22, ty9, hi]
    refine hK _ _ ?_ rfl; clear hK K
    obtain ⟨v, hvv⟩ : ∃ v, v = l[i] := ⟨_, rfl⟩
    have g := g48 v
    rw [← hvv]
    refine Dwp.step tT rfl fun K hK => ?_
    by_cases q : v ∈ s.all
    · simp only [q, decide_true] at g
      simp [k2, ty26, g]
      refine hK _ _ ?_ rfl; clear hK K
      refine Dwp.condF (by simp [eval, upd]) (Dwp.skip ?_)
      refine ⟨by simp [upd, hidx], by simp [upd, hlen], by simp [upd, k2], by simp [upd, k10], fun z hz => ?_⟩
      rcases (mem_take_succ hi z).1 hz with e | e
      · exact hall z e
      · rw [e, ← hvv]; exact q
    · simp only [q, decide_false] at g
      simp [k2, ty26, g]
      refine hK _ _ ?_ rfl; clear hK K
      refine Dwp.condT (by simp [eval, upd]) ?_
      refine Dwp.step tT rfl fun K hK => ?_
      simp []
      refine hK _ _ (Dwp.ret ?_) rfl
      refine fin _ _ 13 (by simp [upd]) ?_
      unfold sureE; rw [hv, if_pos rfl, if_neg]
      rw [List.all_eq_true]
      intro h; exact q (by simpa using h v (hvv ▸ List.getElem_mem hi))
  · rintro a σ hidx hlen ⟨k2, k10, hall⟩
    rw [List.take_length] at hall
    refine Dwp.step tT rfl fun K hK => ?_
    simp []
    refine hK _ _ (Dwp.ret ?_) rfl
    refine fin _ _ 0 (by simp [upd]) ?_
    unfold sureE; rw [hv, if_pos rfl, if_pos]
    rw [List.all_eq_true]; intro x hx; simpa using hall x hx
theorem e51 : Go.FA.Good Tryz.prog (51, s51) := ⟨c51, Tryz.f51, _, Tryz.func51, rfl, by decide⟩
theorem call51 (T : Tab) (hT : T 51 = some s51) (s : SigD) (d : DV) (l : List ByteArray) (hd : Enc.strs.dec d = some l) (h : s.ok2) (h1 : s.below.length ≤ 250) (hl : l.length ≤ 1048576) : dcall T 51 [.agg (EncR.sigd.enc s), d] = some (.lit (.int .i64 (sureE s l))) := by
  simp [dcall, hT, s51, sp, arg2, EncR.and, EncR.one, Enc.sigd, Enc.agg, EncR.sigd.de, hd, h, h1, hl, Enc.i64, Enc.int]

def s53 : Sp := sp (arg3 Enc.sigd Enc.str Enc.str) Enc.bool (fun x => if x.1.below.length ≤ 250 then some (underB x.1 x.2.1 x.2.2 || underB x.1 x.2.2 x.2.1) else none)
abbrev T53 : Tab := tabOf [(52, s52)]
theorem t53 : TabOk Tryz.prog T53 := .cons e52 .nil
theorem c53 : CallSound Tryz.prog 53 s53 := by
  refine CallSound.of_sp (T := T53) Tryz.func53 rfl (Nat.le_of_ble_eq_true rfl) fun E xx y hy => ?_
  obtain ⟨s, x, z⟩ := xx
  simp only [] at hy
  split at hy
  case isFalse => cases hy
  next hbl =>
  cases hy
  have g1 := call52 T53 rfl s x z hbl
  have g2 := call52 T53 rfl s z x hbl
  have tT := t53
  generalize T53 = T at *
  refine Dwp.step tT rfl fun K hK => ?_
  simp [init, arg3, EncR.and, EncR.one, Enc.sigd, Enc.agg, Enc.str]
  refine hK _ _ ?_ rfl; clear hK K
  refine Dwp.step tT rfl fun K hK => ?_
  cases q : underB s x z <;> rw [q] at g1 <;> simp [init, ty26, g1, g2] <;> refine hK _ _ (Dwp.ret ?_) rfl <;> simp [Done, dresults, dres, frz, frz1, frz2, upd, Enc.bool, q]
theorem e53 : Go.FA.Good Tryz.prog (53, s53) := ⟨c53, Tryz.f53, _, Tryz.func53, rfl, by decide⟩
theorem call53 (T : Tab) (hT : T 53 = some s53) (s : SigD) (x y : ByteArray) (h : s.below.length ≤ 250) : dcall T 53 [.agg (EncR.sigd.enc s), .lit (.string x), .lit (.string y)] = some (.lit (.bool (underB s x y || underB s y x))) :=
  dcall3 (A := Enc.sigd) (B := Enc.str) (C := Enc.str) (D := Enc.bool) (x := s) (y := x) (u := y) hT (if_pos h)
def s57 : Sp := sp (arg2 Enc.sigd Enc.str) Enc.bool (fun x => if x.1.below.length ≤ 250 ∧ x.1.values.length ≤ 1048576 then some (x.1.values.any (underB x.1 x.2)) else none)
theorem c57 : CallSound Tryz.prog 57 s57 := by
  refine CallSound.of_sp (T := T53) Tryz.func57 rfl (Nat.le_of_ble_eq_true rfl) fun E xx y hy => ?_
  obtain ⟨s, x⟩ := xx
  simp only [] at hy
  split at hy
  case isFalse => cases hy
  next hbl =>
  obtain ⟨hbl, hl⟩ := hbl
  cases hy
  have g := fun v => call52 T53 rfl s x v hbl
  have tT := t53
  generalize T53 = T at *
  refine Dwp.step tT rfl fun K hK => ?_
  simp [init, arg2, EncR.and, EncR.one, Enc.sigd, Enc.agg, Enc.str]
  refine hK _ _ ?_ rfl; clear hK K
  refine Dwp.seq ?_
  refine Dwp.step tT rfl fun K hK => ?_
  simp [ty26, ty22, strsC]
  refine hK _ _ ?_ rfl; clear hK K
  refine Dwp.range tT s.values.length (fun i a σ => a 2 = .row (EncR.sigd.enc s) 0 ∧ a 1 = .lit (.string x) ∧ a 8 = .slice 1 .none (rows1 s.values) ∧ ∀ v ∈ s.values.take i, underB s x v = false)
    ⟨rfl, rfl, rfl⟩ ⟨rfl, rfl, rfl⟩ ⟨rfl, rfl, rfl⟩ (by decide) (by decide) (by omega) (by simp [upd]) (by simp [upd]) ⟨by simp [upd], by simp [upd, init], by simp [upd], by simp⟩ ?_ ?_
  · rintro i a σ hi hidx hlen ⟨k2, k1, k8, hall⟩
    refine Dwp.step tT rfl fun K hK => ?_
    simp [hidx, k8, ty22, ty9, hi]
    refine hK _ _ ?_ rfl; clear hK K
    obtain ⟨v, hv⟩ : ∃ v, v = s.values[i] := ⟨_, rfl⟩
    have gv := g v
    rw [← hv]
    refine Dwp.step tT rfl fun K hK => ?_
    cases q : underB s x v with
    | false =>
      rw [q] at gv
      simp [k1, k2, ty26, gv]
      refine hK _ _ ?_ rfl; clear hK K
      refine Dwp.condF (by simp [eval, upd]) (Dwp.skip ?_)
      refine ⟨by simp [upd, hidx], by simp [upd, hlen], by simp [upd, k2], by simp [upd, k1], by simp [upd, k8], fun z hz => ?_⟩
      rcases (mem_take_succ hi z).1 hz with e | e
      · exact hall z e
      · rw [e, ← hv]; exact q
    | true =>
      rw [q] at gv
      simp [k1, k2, ty26, gv]
      refine hK _ _ ?_ rfl; clear hK K
      refine Dwp.condT (by simp [eval, upd]) ?_
      refine Dwp.step tT rfl fun K hK => ?_
      simp []
      refine hK _ _ (Dwp.ret ?_) rfl
      have : s.values.any (underB s x) = true := by rw [List.any_eq_true]; exact ⟨v, hv ▸ List.getElem_mem hi, q⟩
      simp [Done, dresults, dres, frz, frz1, frz2, Round, Ex.then, upd, Enc.bool, this]
  · rintro a σ hidx hlen ⟨k2, k1, k8, hall⟩
    rw [List.take_length] at hall
    refine Dwp.step tT rfl fun K hK => ?_
    simp []
    refine hK _ _ (Dwp.ret ?_) rfl
    have : s.values.any (underB s x) = false := by rw [List.any_eq_false]; intro v hv; rw [hall v hv]; simp
    simp [Done, dresults, dres, frz, frz1, frz2, Ex.then, upd, Enc.bool, this]
theorem e57 : Go.FA.Good Tryz.prog (57, s57) := ⟨c57, Tryz.f57, _, Tryz.func57, rfl, by decide⟩
theorem call57 (T : Tab) (hT : T 57 = some s57) (s : SigD) (x : ByteArray) (h : s.below.length ≤ 250) (hl : s.values.length ≤ 1048576) : dcall T 57 [.agg (EncR.sigd.enc s), .lit (.string x)] = some (.lit (.bool (s.values.any (underB s x)))) :=
  dcall2 (A := Enc.sigd) (B := Enc.str) (C := Enc.bool) (x := s) (y := x) hT (if_pos ⟨h, hl⟩)
end Go.Proofs.Yt
namespace Go.Proofs.Yt
open Go Go.FA Go.Proofs
set_option linter.unusedVariables false
set_option linter.unusedSimpArgs false
set_option maxRecDepth 100000

/-- an answer, where nothing is wrong -/
def sureB (s : SigD) (l : List ByteArray) (b : Bool) : Bool × Int := (decide (sureE s l = 0) && b, sureE s l)
def s15 : Sp := sp (arg3 Enc.sigd Enc.str Enc.str) Enc.boolErr (fun x => if x.1.ok2 ∧ x.1.below.length ≤ 250 then some (sureB x.1 [x.2.1, x.2.2] (underB x.1 x.2.1 x.2.2)) else none)
abbrev T15 : Tab := tabOf [(51, s51), (52, s52)]
theorem t15 : TabOk Tryz.prog T15 := .cons e51 (.cons e52 .nil)
attribute [local simp] drunL drunO dwanted dopS own plainOf dop dput eval ofVal Then Ex.then Ex.inBlock upd dbin Tag.isNN nilTest intCmp dload dpart TyI.agg dfieldAddr dfield dindexAddr dindex dlen lenOk dlookup mapOf keyFits dmapUpdate dcallee dbuiltin dstore DV.cells dslice dboundOk dappend appTag rowsOf elemOk growLimit dbuildCells dbuildCells.go structOk fieldsOk dbuildRows goInt
theorem c15 : CallSound Tryz.prog 15 s15 := by
  refine CallSound.of_sp (T := T15) Tryz.func15 rfl (Nat.le_of_ble_eq_true rfl) fun E xx y hy => ?_
  obtain ⟨s, x, z⟩ := xx
  simp only [] at hy
  split at hy
  case isFalse => cases hy
  next hh =>
  obtain ⟨hok, hbl⟩ := hh
  cases hy
  have g51 := call51 T15 rfl s (.slice 1 .full [[.lit (.string x)], [.lit (.string z)]]) [x, z] rfl hok hbl (by simp)
  have g := call52 T15 rfl s x z hbl
  have tT := t15
  generalize T15 = T at *
  have fin : ∀ (a : Nat → DV) (σ : St) (b : Bool), a 6 = .lit (.bool b) → a 7 = .lit (.int .i64 (sureE s [x, z])) → sureB s [x, z] (underB s x z) = (b, sureE s [x, z]) → Done Tryz.prog Tryz.f15.results Enc.boolErr (sureB s [x, z] (underB s x z)) Ex.ret a σ := by
    intro a σ b h1 h2 hne
    refine ⟨.inr rfl, .tuple [.lit (.bool b), .lit (.int .i64 (sureE s [x, z]))], ?_, by rw [hne]; rfl⟩
    show dresults Tryz.prog σ a [ResultVar.tmp 6, ResultVar.tmp 7] = _
    simp [dresults, dres, h1, h2]
  refine Dwp.step tT rfl fun K hK => ?_
  simp [init, arg3, EncR.and, EncR.one, Enc.sigd, Enc.agg, Enc.str]
  refine hK _ _ ?_ rfl; clear hK K
  refine Dwp.step tT rfl fun K hK => ?_
  simp [init, ty26, ty22, ty9, g51]
  refine hK _ _ ?_ rfl; clear hK K
  refine Dwp.step tT rfl fun K hK => ?_
  by_cases q : sureE s [x, z] = 0
  · have q' : (sureE s [x, z] == 0) = true := by simpa using q
    simp [init, ty26, q', g]
    refine hK _ _ (Dwp.ret ?_) rfl
    exact fin _ _ _ (by simp [upd]; rfl) (by simp [upd]) (by simp [sureB, q])
  · have q' : (sureE s [x, z] == 0) = false := by simpa using q
    simp [init, ty26, q']
    refine hK _ _ (Dwp.ret ?_) rfl
    exact fin _ _ false (by simp [upd]) (by simp [upd]) (by simp [sureB, q])
theorem e15 : Go.FA.Good Tryz.prog (15, s15) := ⟨c15, Tryz.f15, _, Tryz.func15, rfl, by decide⟩
theorem call15 (T : Tab) (hT : T 15 = some s15) (s : SigD) (x z : ByteArray) (h : s.ok2) (h1 : s.below.length ≤ 250) : dcall T 15 [.agg (EncR.sigd.enc s), .lit (.string x), .lit (.string z)] = some (.tuple [.lit (.bool (sureB s [x, z] (underB s x z)).1), .lit (.int .i64 (sureE s [x, z]))]) :=
  dcall3 (A := Enc.sigd) (B := Enc.str) (C := Enc.str) (D := Enc.boolErr) (x := s) (y := x) (u := z) hT (if_pos ⟨h, h1⟩)
def s17 : Sp := sp (arg3 Enc.sigd Enc.str Enc.str) Enc.boolErr (fun x => if x.1.ok2 ∧ x.1.below.length ≤ 250 then some (sureB x.1 [x.2.1, x.2.2] (underB x.1 x.2.1 x.2.2 || underB x.1 x.2.2 x.2.1)) else none)
abbrev T17 : Tab := tabOf [(51, s51), (53, s53)]
theorem t17 : TabOk Tryz.prog T17 := .cons e51 (.cons e53 .nil)
theorem c17 : CallSound Tryz.prog 17 s17 := by
  refine CallSound.of_sp (T := T17) Tryz.func17 rfl (Nat.le_of_ble_eq_true rfl) fun E xx y hy => ?_
  obtain ⟨s, x, z⟩ := xx
  simp only [] at hy
  split at hy
  case isFalse => cases hy
  next hh =>
  obtain ⟨hok, hbl⟩ := hh
  cases hy
  have g51 := call51 T17 rfl s (.slice 1 .full [[.lit (.string x)], [.lit (.string z)]]) [x, z] rfl hok hbl (by simp)
  have g := call53 T17 rfl s x z hbl
  have tT := t17
  generalize T17 = T at *
  have fin : ∀ (a : Nat → DV) (σ : St) (b : Bool), a 6 = .lit (.bool b) → a 7 = .lit (.int .i64 (sureE s [x, z])) → sureB s [x, z] (underB s x z || underB s z x) = (b, sureE s [x, z]) → Done Tryz.prog Tryz.f17.results Enc.boolErr (sureB s [x, z] (underB s x z || underB s z x)) Ex.ret a σ := by
    intro a σ b h1 h2 hne
    refine ⟨.inr rfl, .tuple [.lit (.bool b), .lit (.int .i64 (sureE s [x, z]))], ?_, by rw [hne]; rfl⟩
    show dresults Tryz.prog σ a [ResultVar.tmp 6, ResultVar.tmp 7] = _
    simp [dresults, dres, h1, h2]
  refine Dwp.step tT rfl fun K hK => ?_
  simp [init, arg3, EncR.and, EncR.one, Enc.sigd, Enc.agg, Enc.str]
  refine hK _ _ ?_ rfl; clear hK K
  refine Dwp.step tT rfl fun K hK => ?_
  simp [init, ty26, ty22, ty9, g51]
  refine hK _ _ ?_ rfl; clear hK K
  refine Dwp.step tT rfl fun K hK => ?_
  by_cases q : sureE s [x, z] = 0
  · have q' : (sureE s [x, z] == 0) = true := by simpa using q
    simp [init, ty26, q', g]
    refine hK _ _ (Dwp.ret ?_) rfl
    exact fin _ _ _ (by simp [upd]; rfl) (by simp [upd]) (by simp [sureB, q])
  · have q' : (sureE s [x, z] == 0) = false := by simpa using q
    simp [init, ty26, q']
    refine hK _ _ (Dwp.ret ?_) rfl
    exact fin _ _ false (by simp [upd]) (by simp [upd]) (by simp [sureB, q])
theorem e17 : Go.FA.Good Tryz.prog (17, s17) := ⟨c17, Tryz.f17, _, Tryz.func17, rfl, by decide⟩
theorem call17 (T : Tab) (hT : T 17 = some s17) (s : SigD) (x z : ByteArray) (h : s.ok2) (h1 : s.below.length ≤ 250) : dcall T 17 [.agg (EncR.sigd.enc s), .lit (.string x), .lit (.string z)] = some (.tuple [.lit (.bool (sureB s [x, z] (underB s x z || underB s z x)).1), .lit (.int .i64 (sureE s [x, z]))]) :=
  dcall3 (A := Enc.sigd) (B := Enc.str) (C := Enc.str) (D := Enc.boolErr) (x := s) (y := x) (u := z) hT (if_pos ⟨h, h1⟩)
def s19 : Sp := sp (arg2 Enc.sigd Enc.str) Enc.boolErr (fun x => if x.1.ok2 ∧ x.1.below.length ≤ 250 then some (sureB x.1 [] (decide (x.2 ∈ x.1.all))) else none)
abbrev T19 : Tab := tabOf [(51, s51), (48, s48)]
theorem t19 : TabOk Tryz.prog T19 := .cons e51 (.cons e48 .nil)
theorem c19 : CallSound Tryz.prog 19 s19 := by
  refine CallSound.of_sp (T := T19) Tryz.func19 rfl (Nat.le_of_ble_eq_true rfl) fun E xx y hy => ?_
  obtain ⟨s, x⟩ := xx
  simp only [] at hy
  split at hy
  case isFalse => cases hy
  next hh =>
  obtain ⟨hok, hbl⟩ := hh
  cases hy
  have g51 := call51 T19 rfl s (.lit (.slice none 0 0)) [] rfl hok hbl (by simp)
  have g := call48 T19 rfl s x hok.1.1
  have tT := t19
  generalize T19 = T at *
  have fin : ∀ (a : Nat → DV) (σ : St) (b : Bool), a 4 = .lit (.bool b) → a 5 = .lit (.int .i64 (sureE s [])) → sureB s [] (decide (x ∈ s.all)) = (b, sureE s []) → Done Tryz.prog Tryz.f19.results Enc.boolErr (sureB s [] (decide (x ∈ s.all))) Ex.ret a σ := by
    intro a σ b h1 h2 hne
    refine ⟨.inr rfl, .tuple [.lit (.bool b), .lit (.int .i64 (sureE s []))], ?_, by rw [hne]; rfl⟩
    show dresults Tryz.prog σ a [ResultVar.tmp 4, ResultVar.tmp 5] = _
    simp [dresults, dres, h1, h2]
  refine Dwp.step tT rfl fun K hK => ?_
  simp [init, arg2, EncR.and, EncR.one, Enc.sigd, Enc.agg, Enc.str]
  refine hK _ _ ?_ rfl; clear hK K
  refine Dwp.step tT rfl fun K hK => ?_
  simp [init, ty26, ty22, ty9, g51]
  refine hK _ _ ?_ rfl; clear hK K
  refine Dwp.step tT rfl fun K hK => ?_
  by_cases q : sureE s [] = 0
  · have q' : (sureE s [] == 0) = true := by simpa using q
    simp [init, ty26, q', g]
    refine hK _ _ (Dwp.ret ?_) rfl
    exact fin _ _ _ (by simp [upd]; rfl) (by simp [upd]) (by simp [sureB, q])
  · have q' : (sureE s [] == 0) = false := by simpa using q
    simp [init, ty26, q']
    refine hK _ _ (Dwp.ret ?_) rfl
    exact fin _ _ false (by simp [upd]) (by simp [upd]) (by simp [sureB, q])
theorem e19 : Go.FA.Good Tryz.prog (19, s19) := ⟨c19, Tryz.f19, _, Tryz.func19, rfl, by decide⟩
theorem call19 (T : Tab) (hT : T 19 = some s19) (s : SigD) (x : ByteArray) (h : s.ok2) (h1 : s.below.length ≤ 250) : dcall T 19 [.agg (EncR.sigd.enc s), .lit (.string x)] = some (.tuple [.lit (.bool (sureB s [] (decide (x ∈ s.all))).1), .lit (.int .i64 (sureE s []))]) :=
  dcall2 (A := Enc.sigd) (B := Enc.str) (C := Enc.boolErr) (x := s) (y := x) hT (if_pos ⟨h, h1⟩)
def s21 : Sp := sp (arg2 Enc.sigd Enc.str) Enc.boolErr (fun x => if x.1.ok2 ∧ x.1.below.length ≤ 250 then some (sureB x.1 [x.2] (x.1.values.any (underB x.1 x.2))) else none)
abbrev T21 : Tab := tabOf [(51, s51), (57, s57)]
theorem t21 : TabOk Tryz.prog T21 := .cons e51 (.cons e57 .nil)
theorem c21 : CallSound Tryz.prog 21 s21 := by
  refine CallSound.of_sp (T := T21) Tryz.func21 rfl (Nat.le_of_ble_eq_true rfl) fun E xx y hy => ?_
  obtain ⟨s, x⟩ := xx
  simp only [] at hy
  split at hy
  case isFalse => cases hy
  next hh =>
  obtain ⟨hok, hbl⟩ := hh
  cases hy
  have g51 := call51 T21 rfl s (.slice 1 .full [[.lit (.string x)]]) [x] rfl hok hbl (by simp)
  have g := call57 T21 rfl s x hbl hok.1.2.2.2.1
  have tT := t21
  generalize T21 = T at *
  have fin : ∀ (a : Nat → DV) (σ : St) (b : Bool), a 4 = .lit (.bool b) → a 5 = .lit (.int .i64 (sureE s [x])) → sureB s [x] (s.values.any (underB s x)) = (b, sureE s [x]) → Done Tryz.prog Tryz.f21.results Enc.boolErr (sureB s [x] (s.values.any (underB s x))) Ex.ret a σ := by
    intro a σ b h1 h2 hne
    refine ⟨.inr rfl, .tuple [.lit (.bool b), .lit (.int .i64 (sureE s [x]))], ?_, by rw [hne]; rfl⟩
    show dresults Tryz.prog σ a [ResultVar.tmp 4, ResultVar.tmp 5] = _
    simp [dresults, dres, h1, h2]
  refine Dwp.step tT rfl fun K hK => ?_
  simp [init, arg2, EncR.and, EncR.one, Enc.sigd, Enc.agg, Enc.str]
  refine hK _ _ ?_ rfl; clear hK K
  refine Dwp.step tT rfl fun K hK => ?_
  simp [init, ty26, ty22, ty9, g51]
  refine hK _ _ ?_ rfl; clear hK K
  refine Dwp.step tT rfl fun K hK => ?_
  by_cases q : sureE s [x] = 0
  · have q' : (sureE s [x] == 0) = true := by simpa using q
    simp [init, ty26, q', g]
    refine hK _ _ (Dwp.ret ?_) rfl
    exact fin _ _ _ (by simp [upd]; rfl) (by simp [upd]) (by simp [sureB, q])
  · have q' : (sureE s [x] == 0) = false := by simpa using q
    simp [init, ty26, q']
    refine hK _ _ (Dwp.ret ?_) rfl
    exact fin _ _ false (by simp [upd]) (by simp [upd]) (by simp [sureB, q])
theorem e21 : Go.FA.Good Tryz.prog (21, s21) := ⟨c21, Tryz.f21, _, Tryz.func21, rfl, by decide⟩
theorem call21 (T : Tab) (hT : T 21 = some s21) (s : SigD) (x : ByteArray) (h : s.ok2) (h1 : s.below.length ≤ 250) : dcall T 21 [.agg (EncR.sigd.enc s), .lit (.string x)] = some (.tuple [.lit (.bool (sureB s [x] (s.values.any (underB s x))).1), .lit (.int .i64 (sureE s [x]))]) :=
  dcall2 (A := Enc.sigd) (B := Enc.str) (C := Enc.boolErr) (x := s) (y := x) hT (if_pos ⟨h, h1⟩)
end Go.Proofs.Yt
namespace Go.Proofs.Yt
open Go Go.FA Go.Proofs
set_option linter.unusedVariables false
set_option linter.unusedSimpArgs false
set_option maxRecDepth 100000

theorem withBook_sure {s : SigD} (h : s.ok) (names : List ByteArray) (hn : names.length ≤ 1048576) {β : Type} (no : β) (f : Book → Option β) :
    withBook (openF s names) no f = if sureE s names = 0 then (f (newBook s)).map (·, 0) else some (no, sureE s names) := by
  unfold withBook sureE
  rw [openF_some s h names hn]
  cases hv : s.vld with
  | false => simp
  | true =>
    have hall : names.all (newBook s).has = names.all (fun x => decide (x ∈ s.all)) := by congr 1; funext x; exact book_has s x
    rw [hall]
    by_cases q : (names.all fun x => decide (x ∈ s.all)) = true
    · simp only [q, if_true]
    · simp only [q, if_true]; simp
theorem sure_two {s : SigD} {x z : ByteArray} (h : sureE s [x, z] = 0) : s.vld = true ∧ x ∈ s.all ∧ z ∈ s.all := by
  unfold sureE at h
  cases hv : s.vld with
  | false => rw [hv] at h; cases h
  | true =>
    rw [hv, if_pos rfl] at h
    split at h
    · next q => simp at q; exact ⟨rfl, q⟩
    · cases h
theorem sure_one {s : SigD} {x : ByteArray} (h : sureE s [x] = 0) : s.vld = true ∧ x ∈ s.all := by
  unfold sureE at h
  cases hv : s.vld with
  | false => rw [hv] at h; cases h
  | true =>
    rw [hv, if_pos rfl] at h
    split at h
    · next q => simp at q; exact ⟨rfl, q⟩
    · cases h
theorem atMost_under {s : SigD} (h : s.ok) (hv : s.vld = true) {x z : ByteArray} (hx : x ∈ s.all) (hz : z ∈ s.all) : (newBook s).atMost x z = some (underB s x z) := by
  obtain ⟨r, h1, h2⟩ := atMost_some s (vld_facts h hv).2.1 x z
  rw [h1, Option.some.injEq, underB_at h hv hx hz, Bool.eq_iff_iff, h2, at_iff s h]
  simp [hv, hx, hz]
theorem atMostF_eq {s : SigD} (h : s.ok) (x z : ByteArray) : atMostF s x z = some (sureB s [x, z] (underB s x z)) := by
  unfold atMostF sureB
  rw [withBook_sure h [x, z] (by simp)]
  by_cases q : sureE s [x, z] = 0
  · obtain ⟨hv, hx, hz⟩ := sure_two q
    rw [if_pos q, atMost_under h hv hx hz, q]; simp
  · rw [if_neg q]; simp [q]
theorem meetF_eq {s : SigD} (h : s.ok) (x z : ByteArray) : meetF s x z = some (sureB s [x, z] (underB s x z || underB s z x)) := by
  unfold meetF sureB
  rw [withBook_sure h [x, z] (by simp)]
  by_cases q : sureE s [x, z] = 0
  · obtain ⟨hv, hx, hz⟩ := sure_two q
    rw [if_pos q, q]
    unfold Book.meet
    rw [atMost_under h hv hx hz]
    cases hu : underB s x z with
    | true => simp
    | false => simp only []; rw [atMost_under h hv hz hx]; simp
  · rw [if_neg q]; simp [q]
theorem valueF_eq {s : SigD} (h : s.ok) (x : ByteArray) : valueF s x = some (sureB s [x] (s.values.any (underB s x))) := by
  obtain ⟨r, e, h1, h2, h3⟩ := value_some h x
  rw [h1]
  unfold sureB
  by_cases q : sureE s [x] = 0
  · obtain ⟨hv, hx⟩ := sure_one q
    obtain ⟨rfl, h4⟩ := h2 ⟨hv, hx⟩
    have hval := (vld_facts h hv).2.2.2.2.2.2.2.2.2.1
    rw [q]
    congr 2
    rw [decide_eq_true rfl, Bool.true_and, Bool.eq_iff_iff, h4, List.any_eq_true]
    constructor
    · rintro ⟨v, a, b⟩; exact ⟨v, a, by rw [underB_at h hv hx (hval v a)]; exact b⟩
    · rintro ⟨v, a, b⟩; exact ⟨v, a, by rw [← underB_at h hv hx (hval v a)]; exact b⟩
  · have hng : ¬ good s x := by
      rintro ⟨hv, hx⟩
      apply q; unfold sureE; rw [hv]; simp [hx]
    obtain ⟨rfl, rfl⟩ := h3 hng
    have he : sureE s [x] = errOf s := by
      unfold sureE errOf
      cases hv : s.vld with
      | false => rfl
      | true =>
        have hx : ¬ x ∈ s.all := fun hx => hng ⟨hv, hx⟩
        simp [hx]
    rw [he]; simp [errOf_ne]
def s18 : Sp := sp (arg2 Enc.sigd Enc.str) Enc.boolErr (fun x => if x.1.ok then some (sureB x.1 [] (decide (x.2 ∈ x.1.all))) else none)
abbrev T18 : Tab := tabOf [(44, s44), (54, s54)]
theorem t18 : TabOk Tryz.prog T18 := .cons e44 (.cons e54 .nil)
attribute [local simp] drunL drunO dwanted dopS own plainOf dop dput eval ofVal Then Ex.then Ex.inBlock upd dbin Tag.isNN nilTest intCmp dload dpart TyI.agg dfieldAddr dfield dindexAddr dindex dlen lenOk dlookup mapOf keyFits dmapUpdate dcallee dbuiltin dstore DV.cells dslice dboundOk dappend appTag rowsOf elemOk growLimit dbuildCells dbuildCells.go structOk fieldsOk dbuildRows goInt
theorem c18 : CallSound Tryz.prog 18 s18 := by
  refine CallSound.of_sp (T := T18) Tryz.func18 rfl (Nat.le_of_ble_eq_true rfl) fun E xx y hy => ?_
  obtain ⟨s, x⟩ := xx
  simp only [] at hy
  split at hy
  case isFalse => cases hy
  next hok =>
  cases hy
  have hr := openF_some s hok [] (by simp)
  have g := call44 T18 rfl s (.lit (.slice none 0 0)) [] _ rfl hr
  have g54 := call54 T18 rfl (newBook s) (.slice 1 .full [[.lit (.string x)]]) [x] rfl (by unfold lim; simp)
  simp only [List.all_cons, List.all_nil, Bool.and_true, book_has] at g54
  have tT := t18
  generalize T18 = T at *
  have fin : ∀ (a : Nat → DV) (σ : St) (b : Bool) (e : Int), a 4 = .lit (.bool b) → a 5 = .lit (.int .i64 e) → sureB s [] (decide (x ∈ s.all)) = (b, e) → Done Tryz.prog Tryz.f18.results Enc.boolErr (sureB s [] (decide (x ∈ s.all))) Ex.ret a σ := by
    intro a σ b e h1 h2 hne
    refine ⟨.inr rfl, .tuple [.lit (.bool b), .lit (.int .i64 e)], ?_, by rw [hne]; rfl⟩
    show dresults Tryz.prog σ a [ResultVar.tmp 4, ResultVar.tmp 5] = _
    simp [dresults, dres, h1, h2]
  refine Dwp.step tT rfl fun K hK => ?_
  simp [init, arg2, EncR.and, EncR.one, Enc.sigd, Enc.agg, Enc.str]
  refine hK _ _ ?_ rfl; clear hK K
  refine Dwp.step tT rfl fun K hK => ?_
  cases hv : s.vld with
  | false =>
    rw [hv] at g
    simp only [Bool.false_eq_true, if_false, Enc.opened, noBook] at g
    simp [drunL, dwanted, dopS, own, dop, dput, eval, ofVal, Then, upd, dload, dpart, TyI.agg, ty26, ty58, dcallee, g, DV.cells, dstore, setNo]
    refine hK _ _ ?_ rfl; clear hK K
    refine Dwp.seq ?_
    refine Dwp.step tT rfl fun K hK => ?_
    simp []
    refine hK _ _ ?_ rfl; clear hK K
    refine Dwp.condT (by simp [eval, upd]) ?_
    refine Dwp.step tT rfl fun K hK => ?_
    simp []
    refine hK _ _ (Dwp.ret ?_) rfl
    exact fin _ _ false 2 (by simp [upd]) (by simp [upd]) (by simp [sureB, sureE, hv])
  | true =>
    rw [hv] at g
    simp only [if_true, List.all_nil, Enc.opened, Enc.book, Enc.agg] at g
    simp [drunL, dwanted, dopS, own, dop, dput, eval, ofVal, Then, upd, dload, dpart, TyI.agg, ty26, ty58, dcallee, g, DV.cells, dstore, setBook]
    refine hK _ _ ?_ rfl; clear hK K
    refine Dwp.seq ?_
    refine Dwp.step tT rfl fun K hK => ?_
    simp []
    refine hK _ _ ?_ rfl; clear hK K
    refine Dwp.condF (by simp [eval, upd]) (Dwp.skip ?_)
    refine Dwp.step tT rfl fun K hK => ?_
    simp [init, ty58, ty22, ty9, g54]
    refine hK _ _ (Dwp.ret ?_) rfl
    exact fin _ _ (decide (x ∈ s.all)) 0 (by simp [upd]) (by simp [upd]) (by simp [sureB, sureE, hv])
theorem e18 : Go.FA.Good Tryz.prog (18, s18) := ⟨c18, Tryz.f18, _, Tryz.func18, rfl, by decide⟩
theorem call18 (T : Tab) (hT : T 18 = some s18) (s : SigD) (x : ByteArray) (h : s.ok) : dcall T 18 [.agg (EncR.sigd.enc s), .lit (.string x)] = some (.tuple [.lit (.bool (sureB s [] (decide (x ∈ s.all))).1), .lit (.int .i64 (sureE s []))]) :=
  dcall2 (A := Enc.sigd) (B := Enc.str) (C := Enc.boolErr) (x := s) (y := x) hT (if_pos h)
theorem call14' (T : Tab) (hT : T 14 = some s14) {s : SigD} (h : s.ok) (x z : ByteArray) : dcall T 14 [.agg (EncR.sigd.enc s), .lit (.string x), .lit (.string z)] = some (.tuple [.lit (.bool (sureB s [x, z] (underB s x z)).1), .lit (.int .i64 (sureE s [x, z]))]) :=
  dcall3 (A := Enc.sigd) (B := Enc.str) (C := Enc.str) (D := Enc.boolErr) (x := s) (y := x) (u := z) hT (atMostF_eq h x z)
theorem call16' (T : Tab) (hT : T 16 = some s16) {s : SigD} (h : s.ok) (x z : ByteArray) : dcall T 16 [.agg (EncR.sigd.enc s), .lit (.string x), .lit (.string z)] = some (.tuple [.lit (.bool (sureB s [x, z] (underB s x z || underB s z x)).1), .lit (.int .i64 (sureE s [x, z]))]) :=
  dcall3 (A := Enc.sigd) (B := Enc.str) (C := Enc.str) (D := Enc.boolErr) (x := s) (y := x) (u := z) hT (meetF_eq h x z)
theorem call20' (T : Tab) (hT : T 20 = some s20) {s : SigD} (h : s.ok) (x : ByteArray) : dcall T 20 [.agg (EncR.sigd.enc s), .lit (.string x)] = some (.tuple [.lit (.bool (sureB s [x] (s.values.any (underB s x))).1), .lit (.int .i64 (sureE s [x]))]) :=
  dcall2 (A := Enc.sigd) (B := Enc.str) (C := Enc.boolErr) (x := s) (y := x) hT (valueF_eq h x)
def s4 : Sp := sp (arg3 Enc.sigd Enc.str Enc.str) Enc.bool (fun x => if x.1.ok2 then some true else none)
abbrev T4 : Tab := tabOf [(10, s10), (11, s11), (14, s14), (15, s15), (16, s16), (17, s17), (18, s18), (19, s19), (20, s20), (21, s21)]
theorem t4 : TabOk Tryz.prog T4 := .cons e10 (.cons e11 (.cons e14 (.cons e15 (.cons e16 (.cons e17 (.cons e18 (.cons e19 (.cons e20 (.cons e21 .nil)))))))))
theorem c4 : CallSound Tryz.prog 4 s4 := by
  refine CallSound.of_sp (T := T4) Tryz.func4 rfl (Nat.le_of_ble_eq_true rfl) fun E xx y hy => ?_
  obtain ⟨s, x, z⟩ := xx
  simp only [] at hy
  split at hy
  case isFalse => cases hy
  next hok =>
  cases hy
  have g10 := call10 T4 rfl hok.1
  have g11 := call11 T4 rfl
  have g14 := call14' T4 rfl hok.1 x z
  have g15 := fun h => call15 T4 rfl s x z hok h
  have g16 := call16' T4 rfl hok.1 x z
  have g17 := fun h => call17 T4 rfl s x z hok h
  have g18 := call18 T4 rfl s x hok.1
  have g19 := fun h => call19 T4 rfl s x hok h
  have g20 := call20' T4 rfl hok.1 x
  have g21 := fun h => call21 T4 rfl s x hok h
  have tT := t4
  generalize T4 = T at *
  have fin : ∀ (a : Nat → DV) (σ : St), a 6 = .lit (.bool true) → Done Tryz.prog Tryz.f4.results Enc.bool true Ex.ret a σ := by
    intro a σ h2
    refine ⟨.inr rfl, .lit (.bool true), ?_, rfl⟩
    show dresults Tryz.prog σ a [ResultVar.tmp 6] = _
    simp [dresults, dres, h2]
  refine Dwp.step tT rfl fun K hK => ?_
  simp [init, arg3, EncR.and, EncR.one, Enc.sigd, Enc.agg, Enc.str]
  refine hK _ _ ?_ rfl; clear hK K
  refine Dwp.seq ?_
  refine Dwp.step tT rfl fun K hK => ?_
  by_cases hf : few s = true
  case neg =>
    have hf' : few s = false := by simpa using hf
    simp [ty26, g10, hf']
    refine hK _ _ ?_ rfl; clear hK K
    refine Dwp.condT (by simp [eval, upd]) ?_
    refine Dwp.step tT rfl fun K hK => ?_
    simp [g11]
    refine hK _ _ (Dwp.ret ?_) rfl
    exact fin _ _ (by simp [upd])
  have hbl := few_below hf
  have a15 := g15 hbl
  have a17 := g17 hbl
  have a19 := g19 hbl
  have a21 := g21 hbl
  obtain ⟨b1, hb1⟩ : ∃ b, b = (sureB s [x, z] (underB s x z)).1 := ⟨_, rfl⟩
  obtain ⟨b2, hb2⟩ : ∃ b, b = (sureB s [x, z] (underB s x z || underB s z x)).1 := ⟨_, rfl⟩
  obtain ⟨b3, hb3⟩ : ∃ b, b = (sureB s [] (decide (x ∈ s.all))).1 := ⟨_, rfl⟩
  obtain ⟨b4, hb4⟩ : ∃ b, b = (sureB s [x] (s.values.any (underB s x))).1 := ⟨_, rfl⟩
  obtain ⟨e1, he1⟩ : ∃ b, b = sureE s [x, z] := ⟨_, rfl⟩
  obtain ⟨e2, he2⟩ : ∃ b, b = sureE s [] := ⟨_, rfl⟩
  obtain ⟨e3, he3⟩ : ∃ b, b = sureE s [x] := ⟨_, rfl⟩
  rw [← hb1, ← he1] at g14 a15
  rw [← hb2, ← he1] at g16 a17
  rw [← hb3, ← he2] at g18 a19
  rw [← hb4, ← he3] at g20 a21
  clear hb1 hb2 hb3 hb4 he1 he2 he3
  simp [ty26, g10, hf]
  refine hK _ _ ?_ rfl; clear hK K
  refine Dwp.condF (by simp [eval, upd]) (Dwp.skip ?_)
  refine Dwp.step tT rfl fun K hK => ?_
  simp [init, ty26, g14]
  refine hK _ _ ?_ rfl; clear hK K
  refine Dwp.step tT rfl fun K hK => ?_
  simp [init, ty26, a15]
  refine hK _ _ ?_ rfl; clear hK K
  refine Dwp.seq ?_
  refine Dwp.step tT rfl fun K hK => ?_
  simp [ty4]
  refine hK _ _ ?_ rfl; clear hK K
  refine Dwp.condF (by simp [eval, upd]) (Dwp.skip ?_)
  refine Dwp.step tT rfl fun K hK => ?_
  simp [init, ty26, g16]
  refine hK _ _ ?_ rfl; clear hK K
  refine Dwp.step tT rfl fun K hK => ?_
  simp [init, ty26, a17]
  refine hK _ _ ?_ rfl; clear hK K
  refine Dwp.seq ?_
  refine Dwp.step tT rfl fun K hK => ?_
  simp [ty4]
  refine hK _ _ ?_ rfl; clear hK K
  refine Dwp.condF (by simp [eval, upd]) (Dwp.skip ?_)
  refine Dwp.step tT rfl fun K hK => ?_
  simp [init, ty26, g18]
  refine hK _ _ ?_ rfl; clear hK K
  refine Dwp.step tT rfl fun K hK => ?_
  simp [init, ty26, a19]
  refine hK _ _ ?_ rfl; clear hK K
  refine Dwp.seq ?_
  refine Dwp.step tT rfl fun K hK => ?_
  simp [ty4]
  refine hK _ _ ?_ rfl; clear hK K
  refine Dwp.condF (by simp [eval, upd]) (Dwp.skip ?_)
  refine Dwp.step tT rfl fun K hK => ?_
  simp [init, ty26, g20]
  refine hK _ _ ?_ rfl; clear hK K
  refine Dwp.step tT rfl fun K hK => ?_
  simp [init, ty26, a21]
  refine hK _ _ ?_ rfl; clear hK K
  refine Dwp.step tT rfl fun K hK => ?_
  simp [ty4, g11]
  refine hK _ _ (Dwp.ret ?_) rfl
  exact fin _ _ (by simp [upd])
theorem e4 : Go.FA.Good Tryz.prog (4, s4) := ⟨c4, Tryz.f4, _, Tryz.func4, rfl, by decide⟩
end Go.Proofs.Yt
namespace Go.Proofs.Yt
open Go Go.FA Go.Proofs
set_option linter.unusedVariables false
set_option linter.unusedSimpArgs false
set_option maxRecDepth 100000

/-- the operator with a name -/
def Enc.opBool : Enc (OpD × Bool) := Enc.tup (arg2 Enc.opd Enc.bool)
def namedF (l : List OpD) (x : ByteArray) : OpD × Bool := match l.find? (fun o => decide (o.name = x)) with
  | some o => (o, true)
  | none => (noOp, false)
def s97 : Sp := sp (arg2 Enc.ops Enc.str) Enc.opBool (fun x => if x.1.length ≤ 1048576 then some (namedF x.1 x.2) else none)
attribute [local simp] drunL drunO dwanted dopS own plainOf dop dput eval ofVal Then Ex.then Ex.inBlock upd dbin Tag.isNN nilTest intCmp dload dpart TyI.agg dfieldAddr dfield dindexAddr dindex dlen lenOk dlookup mapOf keyFits dmapUpdate dcallee dbuiltin dstore DV.cells dslice dboundOk dappend appTag rowsOf elemOk growLimit dbuildCells dbuildCells.go structOk fieldsOk dbuildRows goInt
theorem c97 : CallSound Tryz.prog 97 s97 := by
  refine CallSound.of_sp (T := tabOf []) Tryz.func97 rfl (Nat.le_of_ble_eq_true rfl) fun E xx y hy => ?_
  obtain ⟨l, x⟩ := xx
  simp only [] at hy
  split at hy
  case isFalse => cases hy
  next hl =>
  cases hy
  have tT := tab0 (P := Tryz.prog)
  have setP : ∀ o, setAt noOpD 0 (EncR.opd.enc o) = EncR.opd.enc o := fun _ => rfl
  have setZ : setAt noOpD 0 noOpD = noOpD := rfl
  simp only [noOpD] at setP setZ
  refine Dwp.step tT rfl fun K hK => ?_
  simp [init, arg2, EncR.and, EncR.one, Enc.str, ty38]
  refine hK _ _ ?_ rfl; clear hK K
  refine Dwp.seq ?_
  refine Dwp.step tT rfl fun K hK => ?_
  simp [init, ty24, opsC]
  refine hK _ _ ?_ rfl; clear hK K
  refine Dwp.range tT l.length (fun i a σ => a 1 = .lit (.string x) ∧ a 4 = .ptr 0 0 ∧ a 8 = .slice 7 .none (l.map EncR.opd.enc) ∧ σ.objs 0 = some (.cells 38 noOpD) ∧ 0 < σ.n ∧ ∀ o ∈ l.take i, ¬ o.name = x)
    ⟨rfl, rfl, rfl⟩ ⟨rfl, rfl, rfl⟩ ⟨rfl, rfl, rfl⟩ (by decide) (by decide) (by omega) (by simp [upd]) (by simp [upd]) ⟨by simp [upd, init], by simp [upd, σ0], by simp [upd], by simp [upd, σ0, noOpD], by simp, by simp⟩ ?_ ?_
  · rintro i a σ hi hidx hlen ⟨k1, k4, k8, hobj, hn0, hall⟩
    obtain ⟨o, ho⟩ : ∃ o, o = l[i] := ⟨_, rfl⟩
    have hne : ¬ (0 = σ.n + 1 + 2) := by omega
    refine Dwp.step tT rfl fun K hK => ?_
    simp [hidx, k8, ty24, ty38, hi, ← ho, setP]
    refine hK _ _ ?_ rfl; clear hK K
    refine Dwp.step tT rfl fun K hK => ?_
    by_cases q : o.name = x
    · simp [k1, ty38, ty9, q]
      refine hK _ _ ?_ rfl; clear hK K
      refine Dwp.condT (by simp [eval, upd]) ?_
      refine Dwp.step tT rfl fun K hK => ?_
      simp only [noOpD] at hobj
      simp [k4, hobj, ty38, hne, setP]
      refine hK _ _ (Dwp.ret ?_) rfl
      have hf : namedF l x = (o, true) := by
        unfold namedF
        have : l.find? (fun o => decide (o.name = x)) = some o := by
          rw [List.find?_eq_some_iff_append]
          refine ⟨by simpa using q, l.take i, l.drop (i + 1), ?_, fun p hp => by simpa using hall p hp⟩
          rw [ho, ← List.drop_eq_getElem_cons hi, List.take_append_drop]
        rw [this]
      rw [hf]
      refine ⟨.inr rfl, .tuple [.agg (EncR.opd.enc o), .lit (.bool true)], ?_, ?_⟩
      · show dresults Tryz.prog _ _ [ResultVar.cell 4 38, ResultVar.tmp 5] = _
        simp [dresults, dres, upd, dload, k4, dpart, TyI.agg, ty38]
      · exact Enc.opBool.de (o, true)
    · simp [k1, ty38, ty9, q]
      refine hK _ _ ?_ rfl; clear hK K
      refine Dwp.condF (by simp [eval, upd]) (Dwp.skip ?_)
      refine ⟨by simp [upd, hidx], by simp [upd, hlen], by simp [upd, k1], by simp [upd, k4], by simp [upd, k8], by simp [upd, hobj, hne], by simp, fun p hp => ?_⟩
      rcases (mem_take_succ hi p).1 hp with e | e
      · exact hall p e
      · rw [e, ← ho]; exact q
  · rintro a σ hidx hlen ⟨k1, k4, k8, hobj, hn0, hall⟩
    rw [List.take_length] at hall
    refine Dwp.step tT rfl fun K hK => ?_
    simp only [noOpD] at hobj
    simp [k4, hobj, ty38, ty9, ty22, ty34, ty3, ty35, ty36, setZ, setAt]
    refine hK _ _ (Dwp.ret ?_) rfl
    have hf : namedF l x = (noOp, false) := by
      unfold namedF
      have : l.find? (fun o => decide (o.name = x)) = none := by
        rw [List.find?_eq_none]; intro o ho; simpa using hall o ho
      rw [this]
    rw [hf]
    refine ⟨.inr rfl, .tuple [.agg noOpD, .lit (.bool false)], ?_, ?_⟩
    · show dresults Tryz.prog _ _ [ResultVar.cell 4 38, ResultVar.tmp 5] = _
      simp [dresults, dres, upd, dload, k4, dpart, TyI.agg, ty38, noOpD]
    · simp [Enc.opBool, Enc.tup, arg2, EncR.and, EncR.one, Enc.opd, Enc.agg, Enc.bool, frz, frz2, frz1, noOpD]
      rfl
theorem e97 : Go.FA.Good Tryz.prog (97, s97) := ⟨c97, Tryz.f97, _, Tryz.func97, rfl, by decide⟩
end Go.Proofs.Yt
namespace Go.Proofs.Yt
open Go Go.FA Go.Proofs
set_option linter.unusedVariables false
set_option linter.unusedSimpArgs false
set_option maxRecDepth 100000

/-- what is found, or the error -/
def foundF (s : SigD) (l : List OpD) (x : ByteArray) : OpD × Int := if s.vld then (match namedF l x with | (o, true) => (o, 0) | (_, false) => (noOp, 4)) else (noOp, 2)
theorem call97 (T : Tab) (hT : T 97 = some s97) (l : List OpD) (x : ByteArray) (h : l.length ≤ 1048576) : dcall T 97 [.slice 7 .none (l.map EncR.opd.enc), .lit (.string x)] = some (.tuple [.agg (EncR.opd.enc (namedF l x).1), .lit (.bool (namedF l x).2)]) :=
  dcall2 (A := Enc.ops) (B := Enc.str) (C := Enc.opBool) (x := l) (y := x) hT (if_pos h)
theorem noOpC : EncR.opd.enc noOp = [.lit (.string ⟨#[]⟩), .slice 1 .none [], .lit (.string ⟨#[]⟩), .slice 2 .none [], .lit (.int .i64 0), .lit (.int .i64 0), .slice 1 .none []] := rfl
def s59 : Sp := sp (arg3 Enc.sigd Enc.ops Enc.str) Enc.opErr (fun x => if x.1.ok2 ∧ x.1.below.length ≤ 250 ∧ x.2.1.length ≤ 1048576 then some (foundF x.1 x.2.1 x.2.2) else none)
abbrev T59 : Tab := tabOf [(13, s13), (97, s97)]
theorem t59 : TabOk Tryz.prog T59 := .cons e13 (.cons e97 .nil)
attribute [local simp] drunL drunO dwanted dopS own plainOf dop dput eval ofVal Then Ex.then Ex.inBlock upd dbin Tag.isNN nilTest intCmp dload dpart TyI.agg dfieldAddr dfield dindexAddr dindex dlen lenOk dlookup mapOf keyFits dmapUpdate dcallee dbuiltin dstore DV.cells dslice dboundOk dappend appTag rowsOf elemOk growLimit dbuildCells dbuildCells.go structOk fieldsOk dbuildRows goInt
theorem c59 : CallSound Tryz.prog 59 s59 := by
  refine CallSound.of_sp (T := T59) Tryz.func59 rfl (Nat.le_of_ble_eq_true rfl) fun E xx y hy => ?_
  obtain ⟨s, l, x⟩ := xx
  simp only [] at hy
  split at hy
  case isFalse => cases hy
  next hh =>
  obtain ⟨hok, hbl, hl⟩ := hh
  cases hy
  have g13 := call13 T59 rfl s hok hbl
  have g97 := call97 T59 rfl l x hl
  have tT := t59
  generalize T59 = T at *
  have setP : ∀ o, setAt noOpD 0 (EncR.opd.enc o) = EncR.opd.enc o := fun _ => rfl
  have setZ : setAt noOpD 0 noOpD = noOpD := rfl
  simp only [noOpD] at setP setZ
  have fin : ∀ (a : Nat → DV) (σ : St) (o : OpD) (e : Int) (cs : List DV), a 6 = .ptr 1 0 → a 7 = .lit (.int .i64 e) → σ.objs 1 = some (.cells 38 cs) → cs.length = 7 → EncR.opd.dec cs = some o → frz σ (.tuple [.agg cs, .lit (.int .i64 e)]) = .tuple [.agg cs, .lit (.int .i64 e)] → foundF s l x = (o, e) → Done Tryz.prog Tryz.f59.results Enc.opErr (foundF s l x) Ex.ret a σ := by
    intro a σ o e cs h6 h7 ho hcl hd hfr hne
    refine ⟨.inr rfl, .tuple [.agg cs, .lit (.int .i64 e)], ?_, ?_⟩
    · show dresults Tryz.prog σ a [ResultVar.cell 6 38, ResultVar.tmp 7] = _
      have ht : cs.take 7 = cs := List.take_of_length_le (by omega)
      simp [dresults, dres, h6, h7, ho, dload, dpart, TyI.agg, ty38, hcl, ht]
    · rw [hfr, hne]
      simp [Enc.opErr, Enc.tup, arg2, EncR.and, EncR.one, Enc.opd, Enc.agg, Enc.i64, Enc.int, hd]
  refine Dwp.step tT rfl fun K hK => ?_
  simp [init, arg3, EncR.and, EncR.one, Enc.sigd, Enc.agg, Enc.str, ty38]
  refine hK _ _ ?_ rfl; clear hK K
  refine Dwp.seq ?_
  refine Dwp.step tT rfl fun K hK => ?_
  cases hv : s.vld with
  | false =>
    rw [hv] at g13
    simp [ty26, g13]
    refine hK _ _ ?_ rfl; clear hK K
    refine Dwp.condT (by simp [eval, upd]) ?_
    refine Dwp.step tT rfl fun K hK => ?_
    simp [σ0, ty38, ty9, ty22, ty34, ty3, ty35, ty36, setZ]
    refine hK _ _ (Dwp.ret ?_) rfl
    exact fin _ _ noOp 2 _ (by simp [upd]) (by simp [upd]) (by simp [upd]; rfl) rfl rfl rfl (by simp [foundF, hv])
  | true =>
  rw [hv] at g13
  simp [ty26, g13]
  refine hK _ _ ?_ rfl; clear hK K
  refine Dwp.condF (by simp [eval, upd]) (Dwp.skip ?_)
  refine Dwp.step tT rfl fun K hK => ?_
  simp [init, opsC, σ0, ty38, g97, setP]
  refine hK _ _ ?_ rfl; clear hK K
  refine Dwp.seq ?_
  refine Dwp.step tT rfl fun K hK => ?_
  cases hn : (namedF l x).2 with
  | false =>
    simp []
    refine hK _ _ ?_ rfl; clear hK K
    refine Dwp.condT (by simp [eval, upd]) ?_
    refine Dwp.step tT rfl fun K hK => ?_
    simp [ty38, ty9, ty22, ty34, ty3, ty35, ty36, setZ]
    refine hK _ _ (Dwp.ret ?_) rfl
    refine fin _ _ noOp 4 _ (by simp [upd]) (by simp [upd]) (by simp [upd]; rfl) rfl rfl rfl ?_
    unfold foundF
    have he : namedF l x = ((namedF l x).1, false) := by rw [← hn]
    rw [he, hv]; rfl
  | true =>
    simp []
    refine hK _ _ ?_ rfl; clear hK K
    refine Dwp.condF (by simp [eval, upd]) (Dwp.skip ?_)
    refine Dwp.step tT rfl fun K hK => ?_
    simp [ty38, setP]
    refine hK _ _ (Dwp.ret ?_) rfl
    refine fin _ _ (namedF l x).1 0 _ (by simp [upd]) (by simp [upd]) (by simp [upd]) rfl (EncR.opd.de _) rfl ?_
    unfold foundF
    have he : namedF l x = ((namedF l x).1, true) := by rw [← hn]
    rw [he, hv]; rfl
theorem e59 : Go.FA.Good Tryz.prog (59, s59) := ⟨c59, Tryz.f59, _, Tryz.func59, rfl, by decide⟩
theorem call59 (T : Tab) (hT : T 59 = some s59) (s : SigD) (l : List OpD) (x : ByteArray) (h : s.ok2) (h1 : s.below.length ≤ 250) (hl : l.length ≤ 1048576) : dcall T 59 [.agg (EncR.sigd.enc s), Enc.ops.enc l, .lit (.string x)] = some (.tuple [.agg (EncR.opd.enc (foundF s l x).1), .lit (.int .i64 (foundF s l x).2)]) :=
  dcall3 (A := Enc.sigd) (B := Enc.ops) (C := Enc.str) (D := Enc.opErr) (x := s) (y := l) (u := x) hT (if_pos ⟨h, h1, hl⟩)
end Go.Proofs.Yt
namespace Go.Proofs.Yt
open Go Go.FA Go.Proofs
set_option linter.unusedVariables false
set_option linter.unusedSimpArgs false
set_option maxRecDepth 100000

theorem mget_byName (k : ByteArray) : ∀ (l : List OpD) (m : List (ByteArray × OpD)), (l.map (·.name)).Nodup → mget k (l.foldl (fun m o => mput o.name o m) m) = match l.find? (fun o => decide (o.name = k)) with | some o => some o | none => mget k m
  | [], m, _ => rfl
  | o :: l, m, h => by
    simp only [List.map_cons, List.nodup_cons] at h
    simp only [List.foldl_cons, mget_byName k l _ h.2, List.find?_cons]
    by_cases q : o.name = k
    · have hno : l.find? (fun o => decide (o.name = k)) = none := by
        rw [List.find?_eq_none]; intro p hp e
        exact h.1 (by rw [q, ← (by simpa using e : p.name = k)]; exact List.mem_map.2 ⟨p, hp, rfl⟩)
      rw [hno]
      simp [q, mget_put]
    · simp only [q, decide_false, Bool.false_eq_true, if_false]
      cases l.find? (fun o => decide (o.name = k)) with
      | some p => rfl
      | none => simp only [mget_put]; rw [if_neg (fun e => q e.symm)]
theorem find_eq {s : SigD} (h : s.ok) (k : ByteArray) : findF22 s k = some (foundF s s.ops k) ∧ findF25 s k = some (foundF s s.funs k) := by
  have hr := openF_some s h [] (by simp)
  obtain ⟨f1, f2⟩ := h.fits
  unfold findF22 findF25 foundF
  rw [hr]
  cases hv : s.vld with
  | false => simp
  | true =>
    have hnd := (vld_facts h hv).2.2.2.2.2.2.1
    unfold opNames at hnd
    rw [List.map_append, List.nodup_append] at hnd
    have key : ∀ l : List OpD, (l.map (·.name)).Nodup → (∀ o ∈ l, o.fits) → lookF (byName l) k = some (match namedF l k with | (o, true) => (o, 0) | (_, false) => (noOp, 4)) := by
      intro l hn hf
      unfold lookF namedF byName
      rw [mget_byName k l [] hn]
      cases q : l.find? (fun o => decide (o.name = k)) with
      | none => rfl
      | some o =>
        have : o.fits := hf o (List.mem_of_find?_eq_some q)
        simp [this]
    simp only [if_true, List.all_nil, newBook]
    exact ⟨key s.ops hnd.1 f1, key s.funs hnd.2.1 f2⟩
theorem call22' (T : Tab) (hT : T 22 = some s22) {s : SigD} (h : s.ok) (k : ByteArray) : dcall T 22 [.agg (EncR.sigd.enc s), .lit (.string k)] = some (.tuple [.agg (EncR.opd.enc (foundF s s.ops k).1), .lit (.int .i64 (foundF s s.ops k).2)]) :=
  dcall2 (A := Enc.sigd) (B := Enc.str) (C := Enc.opErr) (x := s) (y := k) hT (find_eq h k).1
theorem call25' (T : Tab) (hT : T 25 = some s25) {s : SigD} (h : s.ok) (k : ByteArray) : dcall T 25 [.agg (EncR.sigd.enc s), .lit (.string k)] = some (.tuple [.agg (EncR.opd.enc (foundF s s.funs k).1), .lit (.int .i64 (foundF s s.funs k).2)]) :=
  dcall2 (A := Enc.sigd) (B := Enc.str) (C := Enc.opErr) (x := s) (y := k) hT (find_eq h k).2
def s23 : Sp := sp (arg2 Enc.sigd Enc.str) Enc.opErr (fun x => if x.1.ok2 ∧ x.1.below.length ≤ 250 then some (foundF x.1 x.1.ops x.2) else none)
def s26 : Sp := sp (arg2 Enc.sigd Enc.str) Enc.opErr (fun x => if x.1.ok2 ∧ x.1.below.length ≤ 250 then some (foundF x.1 x.1.funs x.2) else none)
abbrev T23 : Tab := tabOf [(59, s59)]
theorem t23 : TabOk Tryz.prog T23 := .cons e59 .nil
attribute [local simp] drunL drunO dwanted dopS own plainOf dop dput eval ofVal Then Ex.then Ex.inBlock upd dbin Tag.isNN nilTest intCmp dload dpart TyI.agg dfieldAddr dfield dindexAddr dindex dlen lenOk dlookup mapOf keyFits dmapUpdate dcallee dbuiltin dstore DV.cells dslice dboundOk dappend appTag rowsOf elemOk growLimit dbuildCells dbuildCells.go structOk fieldsOk dbuildRows goInt
theorem c23 : CallSound Tryz.prog 23 s23 := by
  refine CallSound.of_sp (T := T23) Tryz.func23 rfl (Nat.le_of_ble_eq_true rfl) fun E xx y hy => ?_
  obtain ⟨s, x⟩ := xx
  simp only [] at hy
  split at hy
  case isFalse => cases hy
  next hh =>
  obtain ⟨hok, hbl⟩ := hh
  cases hy
  have g59 := call59 T23 rfl s s.ops x hok hbl (by have := hok.1.2.2.1; omega)
  have tT := t23
  generalize T23 = T at *
  have setP : ∀ o, setAt noOpD 0 (EncR.opd.enc o) = EncR.opd.enc o := fun _ => rfl
  simp only [noOpD] at setP
  obtain ⟨r, hr⟩ : ∃ r, r = foundF s s.ops x := ⟨_, rfl⟩
  rw [← hr] at g59 ⊢
  refine Dwp.step tT rfl fun K hK => ?_
  simp [init, arg2, EncR.and, EncR.one, Enc.sigd, Enc.agg, Enc.str, ty38]
  refine hK _ _ ?_ rfl; clear hK K
  refine Dwp.step tT rfl fun K hK => ?_
  simp [init, σ0, ty26, ty24, ty38, g59, setP]
  refine hK _ _ (Dwp.ret ?_) rfl
  refine ⟨.inr rfl, .tuple [.agg (EncR.opd.enc r.1), .lit (.int .i64 r.2)], ?_, Enc.opErr.de r⟩
  show dresults Tryz.prog _ _ [ResultVar.cell 4 38, ResultVar.tmp 5] = _
  simp [dresults, dres, upd, dload, dpart, TyI.agg, ty38]
theorem e23 : Go.FA.Good Tryz.prog (23, s23) := ⟨c23, Tryz.f23, _, Tryz.func23, rfl, by decide⟩
theorem c26 : CallSound Tryz.prog 26 s26 := by
  refine CallSound.of_sp (T := T23) Tryz.func26 rfl (Nat.le_of_ble_eq_true rfl) fun E xx y hy => ?_
  obtain ⟨s, x⟩ := xx
  simp only [] at hy
  split at hy
  case isFalse => cases hy
  next hh =>
  obtain ⟨hok, hbl⟩ := hh
  cases hy
  have g59 := call59 T23 rfl s s.funs x hok hbl (by have := hok.1.2.2.1; omega)
  have tT := t23
  generalize T23 = T at *
  have setP : ∀ o, setAt noOpD 0 (EncR.opd.enc o) = EncR.opd.enc o := fun _ => rfl
  simp only [noOpD] at setP
  obtain ⟨r, hr⟩ : ∃ r, r = foundF s s.funs x := ⟨_, rfl⟩
  rw [← hr] at g59 ⊢
  refine Dwp.step tT rfl fun K hK => ?_
  simp [init, arg2, EncR.and, EncR.one, Enc.sigd, Enc.agg, Enc.str, ty38]
  refine hK _ _ ?_ rfl; clear hK K
  refine Dwp.step tT rfl fun K hK => ?_
  simp [init, σ0, ty26, ty24, ty38, g59, setP]
  refine hK _ _ (Dwp.ret ?_) rfl
  refine ⟨.inr rfl, .tuple [.agg (EncR.opd.enc r.1), .lit (.int .i64 r.2)], ?_, Enc.opErr.de r⟩
  show dresults Tryz.prog _ _ [ResultVar.cell 4 38, ResultVar.tmp 5] = _
  simp [dresults, dres, upd, dload, dpart, TyI.agg, ty38]
theorem e26 : Go.FA.Good Tryz.prog (26, s26) := ⟨c26, Tryz.f26, _, Tryz.func26, rfl, by decide⟩
theorem call23 (T : Tab) (hT : T 23 = some s23) (s : SigD) (x : ByteArray) (h : s.ok2) (h1 : s.below.length ≤ 250) : dcall T 23 [.agg (EncR.sigd.enc s), .lit (.string x)] = some (.tuple [.agg (EncR.opd.enc (foundF s s.ops x).1), .lit (.int .i64 (foundF s s.ops x).2)]) :=
  dcall2 (A := Enc.sigd) (B := Enc.str) (C := Enc.opErr) (x := s) (y := x) hT (if_pos ⟨h, h1⟩)
theorem call26 (T : Tab) (hT : T 26 = some s26) (s : SigD) (x : ByteArray) (h : s.ok2) (h1 : s.below.length ≤ 250) : dcall T 26 [.agg (EncR.sigd.enc s), .lit (.string x)] = some (.tuple [.agg (EncR.opd.enc (foundF s s.funs x).1), .lit (.int .i64 (foundF s s.funs x).2)]) :=
  dcall2 (A := Enc.sigd) (B := Enc.str) (C := Enc.opErr) (x := s) (y := x) hT (if_pos ⟨h, h1⟩)
end Go.Proofs.Yt
namespace Go.Proofs.Yt
open Go Go.FA Go.Proofs
set_option linter.unusedVariables false
set_option linter.unusedSimpArgs false
set_option maxRecDepth 100000

/-- strings in order, byte by byte -/
def leB (x y : ByteArray) : Prop := bl x ≤ bl y
theorem leB_trans {x y z : ByteArray} (h : leB x y) (h' : leB y z) : leB x z := List.le_trans h h'
theorem leB_total (x y : ByteArray) : leB x y ∨ leB y x := List.le_total _ _
theorem sorted_eq {l m : List ByteArray} (h : l.Perm m) (hs : m.Pairwise leB) : sortB l = m :=
  sortB_eq h (by rw [List.pairwise_map]; exact hs.imp fun q => by simpa [leB] using q)
theorem bytesLess_iff : ∀ (x y : List UInt8), Op.bytesLess x y = true ↔ x < y
  | x, [] => by
    cases x <;> simp [Op.bytesLess]
  | [], b :: y => by simp [Op.bytesLess]
  | a :: x, b :: y => by
    simp only [Op.bytesLess, Bool.or_eq_true, decide_eq_true_eq, Bool.and_eq_true, beq_iff_eq, bytesLess_iff x y, List.cons_lt_cons_iff]
def gtB (x y : ByteArray) : Bool := !(Op.bytesLess x.toList y.toList || decide (x = y))
theorem gtB_iff (x y : ByteArray) : gtB x y = false ↔ leB x y := by
  unfold gtB leB bl
  rw [ByteArray.toList_eq, ByteArray.toList_eq, Bool.not_eq_false', Bool.or_eq_true, bytesLess_iff, decide_eq_true_eq]
  rw [List.le_iff_lt_or_eq]
  constructor
  · rintro (q | q)
    · exact .inl q
    · exact .inr (by rw [q])
  · rintro (q | q)
    · exact .inl q
    · exact .inr (ba_ext q)
theorem gtB_le {x y : ByteArray} (h : gtB x y = true) : leB y x := by
  rcases leB_total x y with q | q
  · rw [(gtB_iff x y).2 q] at h; cases h
  · exact q
/-- put into its place -/
theorem insert_sorted {l : List ByteArray} {k : Nat} {x : ByteArray} (hs : l.Pairwise leB) (hk : k ≤ l.length) (h1 : ∀ j (h : j < l.length), k ≤ j → leB x l[j]) (h2 : ∀ (h : k - 1 < l.length), 0 < k → leB l[k - 1] x) :
    (l.take k ++ ([x] ++ l.drop k)).Pairwise leB := by
  have hs' := hs
  rw [← List.take_append_drop k l, List.pairwise_append] at hs
  obtain ⟨p1, p2, p3⟩ := hs
  have hd : ∀ y ∈ l.drop k, leB x y := by
    intro y hy
    obtain ⟨j, hj, rfl⟩ := List.getElem_of_mem hy
    rw [List.length_drop] at hj
    rw [List.getElem_drop]
    exact h1 (k + j) (by omega) (by omega)
  have ht : ∀ y ∈ l.take k, leB y x := by
    intro y hy
    obtain ⟨j, hj, rfl⟩ := List.getElem_of_mem hy
    rw [List.length_take] at hj
    rw [List.getElem_take]
    have hlast := h2 (by omega) (by omega)
    by_cases e : j = k - 1
    · subst e; exact hlast
    · have := List.pairwise_iff_getElem.1 hs' j (k - 1) (by omega) (by omega) (by omega)
      exact leB_trans this hlast
  rw [List.pairwise_append]
  refine ⟨p1, ?_, fun a ha b hb => ?_⟩
  · simp only [List.singleton_append, List.pairwise_cons]; exact ⟨hd, p2⟩
  · simp only [List.singleton_append, List.mem_cons] at hb
    rcases hb with rfl | hb
    · exact ht a ha
    · exact leB_trans (ht a ha) (hd b hb)
theorem insert_perm (l : List ByteArray) (k : Nat) (x : ByteArray) : (l.take k ++ ([x] ++ l.drop k)).Perm (l ++ [x]) := by
  have h1 : (l.take k ++ ([x] ++ l.drop k)).Perm (x :: (l.take k ++ l.drop k)) := by
    simp only [List.singleton_append]; exact List.perm_middle
  rw [List.take_append_drop] at h1
  exact h1.trans (List.perm_append_singleton x l).symm
def OutOk (σ : St) (out : List ByteArray) (d : DV) : Prop := (out = [] ∧ d = .slice 1 .none []) ∨ ∃ tk g, d = .slice 1 (.tok tk g) (rows1 out) ∧ σ.toks tk = some g
theorem OutOk.toks {σ τ : St} {out : List ByteArray} {d : DV} (h : OutOk σ out d) (e : τ.toks = σ.toks) : OutOk τ out d := by unfold OutOk; rw [e]; exact h
theorem OutOk.rows {σ : St} {out : List ByteArray} {d : DV} (h : OutOk σ out d) : ∃ tag, d = .slice 1 tag (rows1 out) := by
  rcases h with ⟨rfl, rfl⟩ | ⟨tk, g, rfl, _⟩
  · exact ⟨_, rfl⟩
  · exact ⟨_, rfl⟩
theorem nilLe : DLe (.lit (.slice none 0 0)) (.slice 1 .none []) := fun C w v h => by
  simp only [VRel] at h ⊢; exact .inr ⟨none, h, by trivial, by trivial⟩
def s64 : Sp := sp (arg1 Enc.strs) Enc.strs (fun l => if l.length ≤ 1000 then some (sortB l) else none)
attribute [local simp] drunL drunO dwanted dopS own plainOf dop dput eval ofVal Then Ex.then Ex.inBlock upd dbin Tag.isNN nilTest intCmp dload dpart TyI.agg dfieldAddr dfield dindexAddr dindex dlen lenOk dlookup mapOf keyFits dmapUpdate dcallee dbuiltin dstore DV.cells dslice dboundOk dappend appTag rowsOf elemOk growLimit dbuildCells dbuildCells.go structOk fieldsOk dbuildRows goInt
theorem c64 : CallSound Tryz.prog 64 s64 := by
  refine CallSound.of_sp (T := tabOf []) Tryz.func64 rfl (Nat.le_of_ble_eq_true rfl) fun E l y hy => ?_
  split at hy
  case isFalse => cases hy
  next hl =>
  cases hy
  have tT := tab0 (P := Tryz.prog)
  refine Dwp.step tT rfl fun K hK => ?_
  simp [init, arg1, EncR.one]
  refine hK _ _ ?_ rfl; clear hK K
  refine Dwp.step tT rfl fun K hK => ?_
  simp []
  refine hK _ _ ?_ rfl; clear hK K
  refine Dwp.seq ?_
  refine Dwp.step tT rfl fun K hK => ?_
  simp [init, ty22, strsC]
  refine hK _ _ ?_ rfl; clear hK K
  obtain ⟨A, hA⟩ : ∃ A : Nat → DV, A = fun t => if t = 3 then .slice 1 .none [] else if t = 7 then .slice 1 .none (rows1 l) else if t = 8 then .lit (.int .i64 l.length) else if t = 9 then .lit (.int .i64 0) else .junk := ⟨_, rfl⟩
  refine Dwp.weaken A (fun t => ?_) ?_
  · rw [hA]
    by_cases h3 : t = 3
    · subst h3; simp [upd]; exact nilLe
    by_cases h7 : t = 7
    · subst h7; simp [upd]; exact .refl _
    by_cases h8 : t = 8
    · subst h8; simp [upd]; exact .refl _
    by_cases h9 : t = 9
    · subst h9; simp [upd]; exact .refl _
    simp only [h3, h7, h8, h9, if_false]
    exact fun C w v h => by simp [VRel]
  refine Dwp.range tT l.length (fun i a σ => ∃ out, a 7 = .slice 1 .none (rows1 l) ∧ out.Perm (l.take i) ∧ out.Pairwise leB ∧ OutOk σ out (a 3))
    ⟨rfl, rfl, rfl⟩ ⟨rfl, rfl, rfl⟩ ⟨rfl, rfl, rfl⟩ (by decide) (by decide) (by omega) (by rw [hA]; rfl) (by rw [hA]; rfl) ⟨[], by rw [hA]; rfl, by simp, by simp, .inl ⟨rfl, by rw [hA]; rfl⟩⟩ ?_ ?_
  · rintro i a σ hi hidx hlen ⟨out, k7, hperm, hsort, k3⟩
    have hol : out.length = i := by rw [hperm.length_eq, List.length_take]; omega
    obtain ⟨x, hx⟩ : ∃ x, x = l[i] := ⟨_, rfl⟩
    refine Dwp.step tT rfl fun K hK => ?_
    simp [hidx, k7, ty22, ty9, hi, ← hx]
    refine hK _ _ ?_ rfl; clear hK K
    obtain ⟨tag, k3'⟩ := k3.rows
    refine Dwp.step tT rfl fun K hK => ?_
    simp [k3', ty22]
    refine hK _ _ ?_ rfl; clear hK K
    -- down to its place
    refine Dwp.seq ?_
    refine Dwp.block (Dwp.loop (fun k a τ => k ≤ out.length ∧ a 7 = .slice 1 .none (rows1 l) ∧ a 8 = .lit (.int .i64 l.length) ∧ a 9 = .lit (.int .i64 i) ∧ a 5 = .lit (.string x) ∧ a 3 = .slice 1 tag (rows1 out) ∧ OutOk τ out (a 3) ∧ a 6 = .lit (.int .i64 k) ∧ ∀ j (h : j < out.length), k ≤ j → leB x out[j]) out.length
      ⟨Nat.le_refl _, by simp [upd, k7], by simp [upd, hlen], by simp [upd, hidx], by simp [upd], by simp [upd, k3'], by simp only [upd]; exact k3.toks rfl, by simp [upd], fun j h h' => by omega⟩ ?_)
    rintro k a τ ⟨hk, k7, k8, k9, k5, k3', k3, k6, hgt⟩
    refine Dwp.seq ?_
    refine Dwp.step tT rfl fun K hK => ?_
    have ex : ∀ a' τ', (a' 25 = .lit (.bool false) ∧ a' 7 = .slice 1 .none (rows1 l) ∧ a' 8 = .lit (.int .i64 l.length) ∧ a' 9 = .lit (.int .i64 i) ∧ a' 5 = .lit (.string x) ∧ a' 3 = .slice 1 tag (rows1 out) ∧ OutOk τ' out (a' 3) ∧ a' 6 = .lit (.int .i64 k)) → (∀ (h : k - 1 < out.length), 0 < k → leB out[k - 1] x) → τ'.n = τ.n → K a' τ' := by
      rintro a' τ' ⟨k25, k7, k8, k9, k5, k3', k3, k6⟩ hlast hn
      refine hK _ _ ?_ hn
      clear hK K
      refine Dwp.condF (by simp [eval, k25]) (Dwp.exit ?_)
      simp only [Ex.then, Ex.inBlock, if_true]
      have hnew := insert_sorted hsort hk hgt hlast
      have hp2 := insert_perm out k x
      obtain ⟨new, hnw⟩ : ∃ new, new = out.take k ++ ([x] ++ out.drop k) := ⟨_, rfl⟩
      rw [← hnw] at hnew hp2
      have hrows : rows1 new = (rows1 out).take k ++ ([[.lit (.string x)]] ++ (rows1 out).drop k) := by rw [hnw]; simp [rows1]
      have hfin : new.Perm (l.take (i + 1)) := by
        refine hp2.trans ?_
        rw [List.take_succ_eq_append_getElem hi, ← hx]
        exact hperm.append_right [x]
      have hk16 : ((k : Nat) : Int) ≤ (out.length : Int) := by omega
      have hsz1 : 1 + (out.length - k) ≤ 16777216 := by omega
      have hsz2 : k + (1 + (out.length - k)) ≤ 16777216 := by omega
      have hmin : min k out.length = k := by omega
      have hsz3 : k + (out.length - k + 1) ≤ 16777216 := by omega
      refine Dwp.draw [.none, .none, .none, .none, .none, .none, .none, .none, .none, .tok, .tok] mixed tT rfl (by decide) fun K hK => ?_
      have fin := fun (a'' : Nat → DV) (τ'' : St) (h : a'' 7 = .slice 1 .none (rows1 l) ∧ a'' 8 = .lit (.int .i64 l.length) ∧ a'' 9 = .lit (.int .i64 i) ∧ OutOk τ'' new (a'' 3)) hn => hK a'' τ'' ⟨h.2.2.1, h.2.1, new, by simp [upd, h.1], hfin, hnew, by simp only [upd]; exact h.2.2.2.toks rfl⟩ hn
      rcases k3 with ⟨ho, k33⟩ | ⟨tk, gg, k3, hgg⟩
      · subst ho
        have hk0 : k = 0 := by simpa using hk
        subst hk0
        simp [drunT, touch, touchP, k33, k5, k6, ty22, ty9, Tag.owns]
        exact fin _ _ ⟨by simp [upd, k7], by simp [upd, k8], by simp [upd, k9], .inr ⟨τ.n + 11 + 10, 0, by simp [upd, hrows], by simp [upd]⟩⟩ rfl
      · simp [drunT, touch, touchP, k3, k5, k6, ty22, ty9, Tag.owns, hk, hk16, hsz1, hsz2, hsz3, hmin]
        exact fin _ _ ⟨by simp [upd, k7], by simp [upd, k8], by simp [upd, k9], .inr ⟨τ.n + 11 + 10, 0, by simp [upd, hrows], by simp [upd]⟩⟩ rfl
    by_cases h0 : k = 0
    · subst h0
      simp [k6]
      exact ex _ _ (by simp [upd, k7, k8, k9, k5, k3', k6]; rw [← k3']; exact k3) (fun _ h => by omega) rfl
    have h0n : 0 < k := by omega
    have h0' : (0 : Int) < (k : Int) := by omega
    have hw : IntKind.i64.wrap ((k : Int) - 1) = ((k - 1 : Nat) : Int) := by rw [wrap_small (n := (k : Int) - 1) (by omega) (by omega)]; omega
    have hkl : k - 1 < out.length := by omega
    have hgdef : (!(Op.bytesLess out[k - 1].toList x.toList || decide (out[k - 1] = x))) = gtB out[k - 1] x := rfl
    cases hg : gtB out[k - 1] x with
    | false =>
      rw [hg] at hgdef
      simp [k6, k5, k3', h0', h0n, hw, hkl, ty22, ty9, hgdef]
      exact ex _ _ (by simp [upd, k7, k8, k9, k5, k3', k6]; rw [← k3']; exact k3) (fun h _ => (gtB_iff _ _).1 hg) rfl
    | true =>
      rw [hg] at hgdef
      simp [k6, k5, k3', h0', h0n, hw, hkl, ty22, ty9, hgdef]
      refine hK _ _ ?_ rfl
      refine Dwp.condT (by simp [eval, upd]) (Dwp.skip ?_)
      refine Dwp.block ?_
      refine Dwp.reg tT rfl fun K hK => ?_
      simp [k6, hw]
      refine hK _ _ ?_ rfl; clear hK K
      refine ⟨k - 1, by omega, by omega, by simp [upd, k7], by simp [upd, k8], by simp [upd, k9], by simp [upd, k5], by simp [upd, k3'], by simp only [upd]; exact k3.toks rfl, by simp [upd], fun j h hj => ?_⟩
      by_cases e : j = k - 1
      · subst e; exact gtB_le hg
      · exact hgt j h (by omega)
  · rintro a σ hidx hlen ⟨out, k7, hperm, hsort, k3⟩
    rw [List.take_length] at hperm
    obtain ⟨tag, k3'⟩ := k3.rows
    have hso : sortB l = out := sorted_eq hperm.symm hsort
    refine Dwp.step tT rfl fun K hK => ?_
    simp [k3']
    refine hK _ _ (Dwp.ret ?_) rfl
    rw [hso]
    refine ⟨.inr rfl, .slice 1 tag (rows1 out), ?_, ?_⟩
    · show dresults Tryz.prog _ _ [ResultVar.tmp 2] = _
      simp [dresults, dres, upd]
    · show (if 1 = 1 then decRows (EncR.one Enc.str) (rows1 out) else none) = _
      rw [if_pos rfl]; exact decRows_enc (EncR.one Enc.str) out
end Go.Proofs.Yt
namespace Go.Proofs.Yt
open Go Go.FA Go.Proofs
set_option linter.unusedVariables false
set_option linter.unusedSimpArgs false
set_option maxRecDepth 100000

theorem e64 : Go.FA.Good Tryz.prog (64, s64) := ⟨c64, Tryz.f64, _, Tryz.func64, rfl, by decide⟩
theorem call64 (T : Tab) (hT : T 64 = some s64) (d : DV) (l : List ByteArray) (hd : Enc.strs.dec d = some l) (h : l.length ≤ 1000) : dcall T 64 [d] = some (.slice 1 .none (rows1 (sortB l))) := by
  simp [dcall, hT, s64, sp, arg1, EncR.one, hd, h]; rfl
def s63 : Sp := spOwn (arg1 Enc.sigd) (EncR.one Enc.str) (fun s => if s.sorts.length ≤ 1048576 then some (allS s) else none)
attribute [local simp] drunL drunO dwanted dopS own plainOf dop dput eval ofVal Then Ex.then Ex.inBlock upd dbin Tag.isNN nilTest intCmp dload dpart TyI.agg dfieldAddr dfield dindexAddr dindex dlen lenOk dlookup mapOf keyFits dmapUpdate dcallee dbuiltin dstore DV.cells dslice dboundOk dappend appTag rowsOf elemOk growLimit dbuildCells dbuildCells.go structOk fieldsOk dbuildRows goInt
theorem c63 : CallSound Tryz.prog 63 s63 := by
  refine CallSound.of_own (T := T41) Tryz.func63 rfl (Nat.le_of_ble_eq_true rfl) fun E s y hy => ?_
  split at hy
  case isFalse => cases hy
  next hl =>
  cases hy
  have g := call85 T41 rfl
  have tT := t41
  generalize T41 = T at *
  refine Dwp.step tT rfl fun K hK => ?_
  simp [init, arg1, EncR.one, Enc.sigd, Enc.agg]
  refine hK _ _ ?_ rfl; clear hK K
  refine Dwp.ordersStep [[0, 1, 2, 3, 4], [1, 0, 2, 3, 4], [1, 2, 0, 3, 4]] mixed tT rfl (by kernel_rfl) fun K hK => ?_
  have rest : ∀ a' σ', a' 2 = .slice 1 (.tok 2 1) (rows1 (allS s)) → σ'.toks 2 = some 1 → σ'.n = 2 → K a' σ' := by
    intro a' σ' h2 ht hn
    refine hK _ _ (Dwp.ret ?_) hn
    refine ⟨.inr rfl, .slice 1 (.tok 2 1) (rows1 (allS s)), ?_, .inr ⟨2, 1, _, rfl, ht, ?_⟩⟩
    · show dresults Tryz.prog _ a' [ResultVar.tmp 2] = _
      simp [dresults, dres, h2]
    · have := decRows_enc (EncR.one Enc.str) (allS s)
      rw [← decRows0_eq] at this; exact this
  have hg : always.length + s.sorts.length ≤ 16777216 := by simp [always]; omega
  have hr : rows1 always ++ s.sorts.map (fun x => [DV.lit (.string x)]) = rows1 (allS s) := by simp [allS]
  intro l hl'
  simp only [List.mem_cons, List.not_mem_nil, or_false] at hl'
  rcases hl' with rfl | rfl | rfl <;> simp [g, ty26, ty22, ty9, strsC, hg, σ0] <;> exact rest _ _ (by simp [upd, allS]) (by simp [upd]) rfl
theorem e63 : Go.FA.Good Tryz.prog (63, s63) := ⟨c63, Tryz.f63, _, Tryz.func63, rfl, by decide⟩
theorem call63 (T : Tab) (hT : T 63 = some s63) {s : SigD} (h : s.ok) : dcall T 63 [.agg (EncR.sigd.enc s)] = some (.slice 1 (.tok 0 0) (rows1 (allS s))) := by
  have hl : s.sorts.length ≤ 1048576 := h.1
  simp [dcall, hT, s63, spOwn, arg1, EncR.one, Enc.sigd, Enc.agg, EncR.sigd.de, hl, Enc.str]
end Go.Proofs.Yt
