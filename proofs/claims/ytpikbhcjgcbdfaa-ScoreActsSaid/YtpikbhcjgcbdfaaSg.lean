/- What the best of a list is: it hangs on what is in the list alone. Plain mathematics. -/
import Derived.Test.YtpikbhcjgcbdfaaSf
namespace Go.Proofs.Ytpikbhcjgcbdfaa.sc
open Go.RowKit

theorem bet_iff (L : Nat → Nat) (v b : Nat) : betB L v b = true ↔ (key (L b) < key (L v) ∨ (key (L v) = key (L b) ∧ v < b)) := by
  unfold betB lessB
  simp only [Bool.or_eq_true, Bool.and_eq_true, decide_eq_true_eq, Bool.not_eq_true', decide_eq_false_iff_not]
  omega
/-- m is the best of zs -/
def IsBest (n : Nat) (L : Nat → Nat) (zs : List Int) : Option Nat → Prop
  | none => ∀ v ∈ zs, hasB n v = false
  | some m => m < n ∧ (m : Int) ∈ zs ∧ ∀ v ∈ zs, hasB n v = true → betB L v.toNat m = false
theorem hasB_nat {n k : Nat} : hasB n (k : Int) = decide (k < n) := by unfold hasB; simp
theorem hasB_cases {n : Nat} {v : Int} (h : hasB n v = true) : ∃ k : Nat, v = (k : Int) ∧ k < n := by
  have hv : 0 ≤ v ∧ v < n := by simpa [hasB] using h
  exact ⟨v.toNat, by omega, by omega⟩
theorem isBest_step {n : Nat} {L : Nat → Nat} {zs : List Int} {o : Option Nat} (h : IsBest n L zs o) (v : Int) : IsBest n L (zs ++ [v]) (bestStep n L o v) := by
  unfold bestStep
  cases hh : hasB n v
  · simp only [Bool.false_eq_true, if_false]
    cases o with
    | none =>
      intro u hu
      rcases List.mem_append.1 hu with h1 | h1
      · exact h u h1
      · rw [List.mem_singleton.1 h1]; exact hh
    | some m =>
      obtain ⟨h1, h2, h3⟩ := h
      refine ⟨h1, List.mem_append_left _ h2, fun u hu hb => ?_⟩
      rcases List.mem_append.1 hu with g | g
      · exact h3 u g hb
      · rw [List.mem_singleton.1 g, hh] at hb; cases hb
  · obtain ⟨k, rfl, hk⟩ := hasB_cases hh
    simp only [if_true, Int.toNat_natCast]
    cases o with
    | none =>
      refine ⟨hk, by simp, fun u hu hb => ?_⟩
      rcases List.mem_append.1 hu with g | g
      · rw [h u g] at hb; cases hb
      · rw [List.mem_singleton.1 g, Int.toNat_natCast, Bool.eq_false_iff]
        intro e
        rw [bet_iff] at e
        omega
    | some m =>
      obtain ⟨h1, h2, h3⟩ := h
      cases hb : betB L k m
      · show IsBest n L _ (if betB L k m = true then some k else some m)
        rw [hb, if_neg Bool.false_ne_true]
        refine ⟨h1, List.mem_append_left _ h2, fun u hu hub => ?_⟩
        rcases List.mem_append.1 hu with g | g
        · exact h3 u g hub
        · rw [List.mem_singleton.1 g, Int.toNat_natCast]; exact hb
      · show IsBest n L _ (if betB L k m = true then some k else some m)
        rw [if_pos hb]
        refine ⟨hk, by simp, fun u hu hub => ?_⟩
        rw [bet_iff] at hb
        rw [Bool.eq_false_iff]
        intro e
        rw [bet_iff] at e
        rcases List.mem_append.1 hu with g | g
        · have h4 := h3 u g hub
          rw [Bool.eq_false_iff] at h4
          exact h4 ((bet_iff _ _ _).2 (by omega))
        · rw [List.mem_singleton.1 g, Int.toNat_natCast] at e
          omega
theorem best_is (n : Nat) (L : Nat → Nat) (zs : List Int) : IsBest n L zs (bestOf n L zs) := by
  have key : ∀ (done todo : List Int) (o : Option Nat), IsBest n L done o → IsBest n L (done ++ todo) (todo.foldl (bestStep n L) o) := by
    intro done todo
    induction todo generalizing done with
    | nil => intro o h; simpa using h
    | cons v t ih =>
      intro o h
      have := ih (done ++ [v]) _ (isBest_step h v)
      simpa using this
  exact key [] zs none (fun v hv => by simp at hv)
theorem isBest_uniq {n : Nat} {L : Nat → Nat} {zs zs' : List Int} {o o' : Option Nat} (h : IsBest n L zs o) (h' : IsBest n L zs' o') (e : ∀ v, v ∈ zs ↔ v ∈ zs') : o = o' := by
  cases o with
  | none =>
    cases o' with
    | none => rfl
    | some m' =>
      have := h _ ((e _).2 h'.2.1)
      rw [hasB_nat] at this
      have := h'.1
      simp_all
  | some m =>
    cases o' with
    | none =>
      have := h' _ ((e _).1 h.2.1)
      rw [hasB_nat] at this
      have := h.1
      simp_all
    | some m' =>
      have a := h.2.2 _ ((e _).2 h'.2.1) (by rw [hasB_nat]; simpa using h'.1)
      have b := h'.2.2 _ ((e _).1 h.2.1) (by rw [hasB_nat]; simpa using h.1)
      rw [Bool.eq_false_iff, Int.toNat_natCast] at a b
      rw [ne_eq, bet_iff] at a b
      rw [show m = m' by omega]
theorem best_rev (n : Nat) (L : Nat → Nat) (zs : List Int) : bestOf n L zs.reverse = bestOf n L zs :=
  isBest_uniq (best_is n L zs.reverse) (best_is n L zs) (fun v => by simp)
theorem best_some {n : Nat} {L : Nat → Nat} {zs : List Int} : (bestOf n L zs).isSome = zs.any (hasB n) := by
  have h := best_is n L zs
  cases e : bestOf n L zs with
  | none =>
    rw [e] at h
    symm
    simp only [Option.isSome_none, List.any_eq_false]
    exact fun v hv => by rw [h v hv]; simp
  | some m =>
    rw [e] at h
    symm
    simp only [Option.isSome_some, List.any_eq_true]
    exact ⟨_, h.2.1, by rw [hasB_nat]; simpa using h.1⟩
/-- a member is no better than the best -/
theorem best_member {n : Nat} {L : Nat → Nat} {zs : List Int} {k : Nat} (hk : k < n) (hm : (k : Int) ∈ zs) : ∃ m, bestOf n L zs = some m ∧ m < n ∧ lessB (L m) (L k) = false := by
  have h := best_is n L zs
  cases e : bestOf n L zs with
  | none =>
    rw [e] at h
    have := h _ hm
    rw [hasB_nat] at this
    simp_all
  | some m =>
    rw [e] at h
    refine ⟨m, rfl, h.1, ?_⟩
    have a := h.2.2 _ hm (by rw [hasB_nat]; simpa using hk)
    rw [Bool.eq_false_iff, Int.toNat_natCast, ne_eq, bet_iff] at a
    unfold lessB
    simp only [decide_eq_false_iff_not]
    omega
theorem best_more {n : Nat} {L : Nat → Nat} {zs ys : List Int} {m : Nat} (h : bestOf n L zs = some m) : ∃ m', bestOf n L (zs ++ ys) = some m' ∧ m' < n ∧ m < n ∧ lessB (L m') (L m) = false := by
  have hb := best_is n L zs
  rw [h] at hb
  obtain ⟨m', e, h1, h2⟩ := best_member (zs := zs ++ ys) (L := L) hb.1 (List.mem_append_left _ hb.2.1)
  exact ⟨m', e, h1, hb.1, h2⟩
theorem kept_lt {x : Nat} (h : x < 18446744073709551616) : keptW x < 18446744073709551616 := by
  unfold keptW lowW
  split
  · omega
  · split <;> omega
end Go.Proofs.Ytpikbhcjgcbdfaa.sc
