/- Package dag: an arena in memory; what is asked of it. -/
import Derived.Deep.CutBlock
import Derived.BigGuardPart
import Derived.DeepKeys4
import Derived.Lib.AppendIntMem
import Derived.Test.YtdnhhfhjjimcgaaDoorGb
namespace Go.Proofs.YtdnhhfhjjimcgaaDoor.dg
open Go Go.RowKit

/-! ### the map of sorts -/
theorem keyRow : (91 : TypeId) < Tryd.prog.types.size := of_decide_eq_true (by kernel_rfl)
theorem keyWide : (match Tryd.prog.underlying 91 with | some (.array _ _) | some (.struct _) => true | _ => false) = true := by kernel_rfl
theorem laidOut : laidOutB Tryd.prog = true := by kernel_rfl
set_option maxRecDepth 100000 in
theorem keyLaw : WideMaps.KeyLaw Tryd.prog 91 := deep_law_laid laidOut (m := 3) (by omega) keyRow (by kernel_rfl) keyWide
theorem keyed : Maps.Keyed Tryd.prog 91 := Maps.Keyed.of_law keyLaw
theorem cellsKey : Tryd.prog.cellsOf 91 = 2 := by kernel_rfl
theorem cellsStr : Tryd.prog.cellsOf 9 = 1 := by kernel_rfl
theorem keyTy : Tryd.prog.keyType 91 = true := by kernel_rfl
def keyV (n t : ByteArray) : Value := .agg #[.string n, .string t]
def kl (n t : ByteArray) : Lit := .string (keyBytes [.string n.data.toList, .string t.data.toList])
set_option maxRecDepth 100000 in
theorem keyOf_key {n t : ByteArray} (hn : n.size ≤ maxLen) (ht : t.size ≤ maxLen) : keyOf Tryd.prog 91 (keyV n t) = some (kl n t) := by
  have hsz : ∃ m, Tryd.prog.types.size = m + 1 := ⟨_, (Nat.succ_pred_eq_of_pos (Nat.lt_of_le_of_lt (Nat.zero_le _) keyRow)).symm⟩
  obtain ⟨m, hm⟩ := hsz
  unfold keyOf keyV kl
  have h2 : Value.formed Tryd.prog 91 (.agg #[.string n, .string t]) = true := by simp [Value.formed, Tryd.underlying91, cellsKey]
  rw [Tryd.underlying91]
  simp only [keyTy, h2, Bool.and_self, if_true, hm]
  simp [Program.keyLits, Tryd.underlying91, Tryd.underlying9, cellsKey, cellsStr, Value.cells, hn, ht]

theorem dec_ne (u : Nat) : Lib.decDigits u ≠ [] := by
  rw [Lib.decDigits]
  split <;> simp
theorem dec_dig : ∀ (u : Nat), ∀ c ∈ Lib.decDigits u, 48 ≤ c.toNat ∧ c.toNat ≤ 57 := by
  intro u
  induction u using Nat.strongRecOn with
  | _ u ih =>
    intro c hc
    rw [Lib.decDigits] at hc
    have one : ∀ d, d < 10 → 48 ≤ (UInt8.ofNat (48 + d)).toNat ∧ (UInt8.ofNat (48 + d)).toNat ≤ 57 := fun d hd => by
      rw [UInt8.toNat_ofNat']
      omega
    split at hc
    · simp only [List.mem_singleton] at hc
      subst hc
      exact one u (by assumption)
    · rcases List.mem_append.1 hc with hc | hc
      · exact ih (u / 10) (by omega) c hc
      · simp only [List.mem_singleton] at hc
        subst hc
        exact one _ (Nat.mod_lt _ (by omega))
theorem dec_last (u : Nat) : ∃ pre, Lib.decDigits u = pre ++ [UInt8.ofNat (48 + u % 10)] ∧ (u < 10 → pre = []) ∧ (¬ u < 10 → pre = Lib.decDigits (u / 10)) := by
  rw [Lib.decDigits]
  split
  · rename_i h
    exact ⟨[], by rw [Nat.mod_eq_of_lt h]; rfl, fun _ => rfl, fun h2 => absurd h h2⟩
  · rename_i h
    exact ⟨_, rfl, fun h2 => absurd h2 h, fun _ => rfl⟩
theorem dec_inj : ∀ (u v : Nat), Lib.decDigits u = Lib.decDigits v → u = v := by
  intro u
  induction u using Nat.strongRecOn with
  | _ u ih =>
    intro v h
    obtain ⟨p, e1, p1, p2⟩ := dec_last u
    obtain ⟨q, e2, q1, q2⟩ := dec_last v
    rw [e1, e2] at h
    obtain ⟨h1, h2⟩ := List.append_inj' h rfl
    have h3 : u % 10 = v % 10 := by
      have h4 := congrArg UInt8.toNat (List.cons.inj h2).1
      rw [UInt8.toNat_ofNat', UInt8.toNat_ofNat'] at h4
      omega
    by_cases hu : u < 10
    · by_cases hv : v < 10
      · omega
      · rw [p1 hu, q2 hv] at h1
        exact absurd h1.symm (dec_ne _)
    · by_cases hv : v < 10
      · rw [p2 hu, q1 hv] at h1
        exact absurd h1 (dec_ne _)
      · rw [p2 hu, q2 hv] at h1
        have := ih (u / 10) (by omega) (v / 10) h1
        omega
theorem itoa_no (a : Int) : ∀ c ∈ Lib.itoa a, c ≠ 32 := by
  intro c hc e
  subst e
  unfold Lib.itoa at hc
  split at hc
  · rcases List.mem_cons.1 hc with hc | hc
    · cases hc
    · have := dec_dig _ _ hc; revert this; decide
  · have := dec_dig _ _ hc; revert this; decide
theorem itoa_inj {a b : Int} (h : Lib.itoa a = Lib.itoa b) : a = b := by
  have no : ∀ u v, (45 :: Lib.decDigits u : List UInt8) ≠ Lib.decDigits v := fun u v h => by
    have h2 := dec_dig v 45 (by rw [← h]; simp)
    revert h2; decide
  unfold Lib.itoa at h
  split at h <;> split at h
  · have := dec_inj _ _ (List.cons.inj h).2
    omega
  · exact absurd h (no _ _)
  · exact absurd h.symm (no _ _)
  · have := dec_inj _ _ h
    omega
/-- the places of sorts as a text -/
def argB (l : List Int) : List UInt8 := l.flatMap fun a => Lib.itoa a ++ [32]
theorem blank_inj : ∀ {p q X Y : List UInt8}, (∀ c ∈ p, c ≠ 32) → (∀ c ∈ q, c ≠ 32) → p ++ 32 :: X = q ++ 32 :: Y → p = q ∧ X = Y
  | [], [], _, _, _, _, h => ⟨rfl, (List.cons.inj h).2⟩
  | [], d :: q, _, _, _, hq, h => absurd (List.cons.inj h).1.symm (hq d (by simp))
  | c :: p, [], _, _, hp, _, h => absurd (List.cons.inj h).1 (hp c (by simp))
  | c :: p, d :: q, _, _, hp, hq, h => by
    obtain ⟨h1, h2⟩ := List.cons.inj h
    obtain ⟨h3, h4⟩ := blank_inj (fun c hc => hp c (by simp [hc])) (fun c hc => hq c (by simp [hc])) h2
    exact ⟨by rw [h1, h3], h4⟩
theorem argB_inj : ∀ {a b : List Int}, argB a = argB b → a = b
  | [], [], _ => rfl
  | [], b :: s, h => by simp [argB] at h
  | a :: r, [], h => by simp [argB] at h
  | a :: r, b :: s, h => by
    have h' : Lib.itoa a ++ 32 :: argB r = Lib.itoa b ++ 32 :: argB s := by simpa [argB] using h
    obtain ⟨h1, h2⟩ := blank_inj (itoa_no a) (itoa_no b) h'
    rw [itoa_inj h1, argB_inj h2]
def argT (l : List Int) : ByteArray := ⟨(argB l).toArray⟩
theorem argT_inj {a b : List Int} (h : argT a = argT b) : a = b := by
  have h2 := congrArg (fun x => x.data.toList) h
  exact argB_inj (by simpa [argT] using h2)
abbrev heldR (v : Value) : Option (DataW Value × List MemPlace) := some (.held v, [])
def lookS (l : List Srt) (n : ByteArray) (a : List Int) : Option Nat := l.findIdx? fun s => sameS s n a
/-- block b is a map that tells where each sort stands -/
def Mp (w : World) (b : Nat) (l : List Srt) : Prop :=
  ∃ D : DataW Value, w.ownsMap Tryd.prog 91 heldR b l.length D ∧
    ∀ n a, n.size ≤ 1000000 → (argT a).size ≤ 1000000000 → Maps.has D (kl n (argT a)) = (lookS l n a).isSome ∧ ∀ p, lookS l n a = some p → ∀ z, D.atKey (kl n (argT a)) z = .held (.int .i64 (p : Int))
theorem Mp.stays {w w' : World} {b : Nat} {l : List Srt} (h : Mp w b l) (hb : w'.heap[b]? = w.heap[b]?) : Mp w' b l := by
  obtain ⟨D, ⟨es, clock, h1, h2⟩, h3⟩ := h
  exact ⟨D, ⟨es, clock, hb.trans h1, h2⟩, h3⟩
theorem Mp.lt {w : World} {b : Nat} {l : List Srt} (h : Mp w b l) : b < w.heap.size := by
  obtain ⟨D, h1, _⟩ := h
  exact h1.lt
theorem Mp.made (w : World) : Mp (w.alloc (.map #[] 0)) w.heap.size [] := by
  refine ⟨_, World.ownsMap_made w _ _ _, fun n a _ _ => ⟨rfl, fun p hp => by simp [lookS] at hp⟩⟩
/-- it isn't a block of cells -/
theorem Mp.ne {w : World} {b g : Nat} {l : List Srt} {e : TypeId} (h : Mp w b l) (hg : Ty w g e) : b ≠ g := by
  rintro rfl
  obtain ⟨D, ⟨es, clock, h1, _⟩, _⟩ := h
  obtain ⟨cs, fr, h2⟩ := hg
  rw [h1] at h2
  cases h2
set_option maxRecDepth 100000 in
theorem kl_inj {n n' : ByteArray} {a a' : List Int} (hn : n.size ≤ 1000000) (hn' : n'.size ≤ 1000000) (ha : (argT a).size ≤ 1000000000) (ha' : (argT a').size ≤ 1000000000) (h : kl n (argT a) = kl n' (argT a')) : n = n' ∧ a = a' := by
  have k1 := keyOf_key (n := n) (t := argT a) (by unfold maxLen; omega) (by unfold maxLen; omega)
  have k2 := keyOf_key (n := n') (t := argT a') (by unfold maxLen; omega) (by unfold maxLen; omega)
  rw [h] at k1
  have := keyLaw.inj k1 k2
  unfold keyV at this
  injection this with this
  simp only [Array.mk.injEq, List.cons.injEq, Value.string.injEq, and_true] at this
  exact ⟨this.1, argT_inj this.2⟩
theorem isKey (n t : ByteArray) : WideAt.IsKeyLit (kl n t) := by
  simp [kl, WideAt.IsKeyLit]
set_option maxRecDepth 100000 in
theorem Mp.add {w : World} {b : Nat} {l : List Srt} (h : Mp w b l) {n : ByteArray} {a : List Int} (hn : n.size ≤ 1000000) (ha : (argT a).size ≤ 1000000000) (hl : l.length ≤ 1000000) (hno : lookS l n a = none) :
    ∃ w', (Instr.mapUpdate 73 (.map (some b)) (keyV n (argT a)) (.int .i64 (l.length : Int))).run Tryd.prog w = .ok () w' ∧ Mp w' b (l ++ [⟨n, a⟩]) ∧ w.mapTurned w' b := by
  obtain ⟨D, hown, hlook⟩ := h
  obtain ⟨w', hrun, hown', ht⟩ := hown.store (val := .int .i64 (l.length : Int)) keyed Tryd.underlying73 (by unfold maxLen; omega) (keyOf_key (n := n) (t := argT a) (by unfold maxLen; omega) (by unfold maxLen; omega)) rfl
  refine ⟨w', hrun, ⟨_, by rw [List.length_append]; exact hown', fun m c hm hc => ?_⟩, ht⟩
  by_cases he : m = n ∧ c = a
  · obtain ⟨rfl, rfl⟩ := he
    have hf : lookS (l ++ [⟨m, c⟩]) m c = some l.length := by
      refine find_at (by simp) (by simp [sameS_iff]) (fun j hj => ?_)
      rw [List.getElem_append_left hj]
      exact find_none hno j hj
    rw [hf, Maps.has_put_same hown.isMap (isKey _ _)]
    refine ⟨rfl, fun p hp z => ?_⟩
    injection hp with hp
    rw [Maps.atKey_put_same hown.isMap (isKey _ _), hp]
  · have hne : kl m (argT c) ≠ kl n (argT a) := fun e => he (kl_inj hm hn hc ha e)
    have hf : lookS (l ++ [⟨n, a⟩]) m c = lookS l m c := by
      cases hx : lookS l m c with
      | some p => exact find_append _ hx
      | none =>
        refine find_no fun i hi => ?_
        rcases Nat.lt_or_ge i l.length with h1 | h1
        · rw [List.getElem_append_left h1]; exact find_none hx i h1
        · have : i = l.length := by simp at hi; omega
          subst this
          rw [List.getElem_append_right (by omega)]
          cases hs : sameS ([(⟨n, a⟩ : Srt)][l.length - l.length]'(by simp)) m c with
          | false => rfl
          | true =>
            have h2 := sameS_iff.1 hs
            simp only [Nat.sub_self, List.getElem_cons_zero, Srt.mk.injEq] at h2
            exact absurd ⟨h2.1.symm, h2.2.symm⟩ he
    rw [hf, Maps.has_put_other hne]
    refine ⟨(hlook m c hm hc).1, fun p hp z => ?_⟩
    rw [Maps.atKey_put_other hne]
    exact (hlook m c hm hc).2 p hp z
theorem zeroInt (w : World) : (zeroValue 3).run Tryd.prog w = .ok (.int .i64 0) w := by kernel_rfl
set_option maxRecDepth 100000 in
theorem Mp.look {w : World} {b : Nat} {l : List Srt} (h : Mp w b l) {n : ByteArray} {a : List Int} (hn : n.size ≤ 1000000) (ha : (argT a).size ≤ 1000000000) :
    (Instr.lookup 73 (.map (some b)) (keyV n (argT a)) true).run Tryd.prog w = .ok (.tuple #[.int .i64 (match lookS l n a with | some p => (p : Int) | none => 0), .bool (lookS l n a).isSome]) w := by
  obtain ⟨D, hown, hlook⟩ := h
  obtain ⟨h1, h2⟩ := hlook n a hn ha
  obtain ⟨v, ps, hrun, hv⟩ := hown.look_ok keyed Tryd.underlying73 (zeroInt w) rfl (keyOf_key (n := n) (t := argT a) (by unfold maxLen; omega) (by unfold maxLen; omega))
  rw [hrun, h1]
  have hv2 : v = .int .i64 (match lookS l n a with | some p => (p : Int) | none => 0) := by
    simp only [heldR, Option.some.injEq, Prod.mk.injEq] at hv
    cases hx : lookS l n a with
    | some p =>
      rw [h2 p hx] at hv
      have := hv.1
      injection this
    | none =>
      rw [hx] at h1
      rw [Maps.atKey_of_not_has h1] at hv
      have := hv.1
      injection this
  rw [hv2]
end Go.Proofs.YtdnhhfhjjimcgaaDoor.dg
