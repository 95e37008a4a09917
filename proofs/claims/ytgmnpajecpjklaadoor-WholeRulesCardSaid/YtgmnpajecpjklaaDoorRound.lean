/- A text of an integer reads as that integer. -/
import Derived.Test.YtgmnpajecpjklaaDoorDec
import Derived.Test.YtgmnpajecpjklaaDoorParseZ
namespace Go.Proofs.YtgmnpajecpjklaaDoor.wh
open Go.RowKit

theorem dg_of {k : Nat} (h : k < 10) : dg (UInt8.ofNat (48 + k)) = k ∧ isDg (UInt8.ofNat (48 + k)) = true := by
  have e : (UInt8.ofNat (48 + k)).toNat = 48 + k := by
    rw [UInt8.toNat_ofNat']
    omega
  unfold dg isDg
  rw [e]
  refine ⟨by omega, ?_⟩
  rw [Bool.and_eq_true]
  exact ⟨decide_eq_true (by omega), decide_eq_true (by omega)⟩
theorem dec_reads (d : Nat) : (∀ b ∈ Lib.decDigits d, isDg b = true) ∧ nval (Lib.decDigits d) = d ∧ Lib.decDigits d ≠ [] := by
  induction d using Nat.strongRecOn with
  | _ u ih =>
    by_cases h : u < 10
    · rw [Lib.decDigits_one h]
      have hd := dg_of h
      refine ⟨fun b hb => ?_, ?_, by simp⟩
      · rw [List.mem_singleton] at hb
        rw [hb]
        exact hd.2
      · have := nval_snoc [] (UInt8.ofNat (48 + u))
        rw [List.nil_append] at this
        rw [this, hd.1]
        simp [nval, tval]
    · rw [Lib.decDigits, dif_neg h]
      have hd := dg_of (Nat.mod_lt u (show 10 > 0 by omega))
      obtain ⟨i1, i2, i3⟩ := ih (u / 10) (by omega)
      refine ⟨fun b hb => ?_, ?_, by simp⟩
      · rcases List.mem_append.1 hb with hb | hb
        · exact i1 b hb
        · rw [List.mem_singleton] at hb
          rw [hb]
          exact hd.2
      · rw [nval_snoc, hd.1, i2]
        omega
theorem nval_append (a b : List UInt8) : nval (a ++ b) = nval b + 10 ^ b.length * nval a := by
  unfold nval
  rw [List.reverse_append, List.map_append, tval_append, List.length_map, List.length_reverse]
theorem nval_noughts (k : Nat) : nval (List.replicate k 48) = 0 := by
  induction k with
  | zero => rfl
  | succ k ih =>
    rw [List.replicate_succ', nval_snoc, ih]
    rfl
theorem pad_reads {d : Nat} (h : d < 1000000000) : (∀ b ∈ pad9 (Lib.decDigits d), isDg b = true) ∧ nval (pad9 (Lib.decDigits d)) = d ∧ (pad9 (Lib.decDigits d)).length = 9 := by
  obtain ⟨i1, i2, i3⟩ := dec_reads d
  have hl := nDigits9 h
  unfold pad9
  refine ⟨fun b hb => ?_, ?_, by rw [List.length_append, List.length_replicate]; omega⟩
  · rcases List.mem_append.1 hb with hb | hb
    · rw [List.mem_replicate] at hb
      rw [hb.2]
      rfl
    · exact i1 b hb
  · rw [nval_append, nval_noughts, i2, Nat.mul_zero, Nat.add_zero]
theorem rest_reads {xs : List Nat} (h : Dig xs) : (∀ b ∈ (xs.reverse.flatMap fun d => pad9 (Lib.decDigits d)), isDg b = true) ∧ nval (xs.reverse.flatMap fun d => pad9 (Lib.decDigits d)) = val xs ∧ (xs.reverse.flatMap fun d => pad9 (Lib.decDigits d)).length = 9 * xs.length := by
  induction xs with
  | nil => exact ⟨fun b hb => (by simp at hb), rfl, rfl⟩
  | cons x t ih =>
    obtain ⟨i1, i2, i3⟩ := ih h.tail
    obtain ⟨p1, p2, p3⟩ := pad_reads h.head
    have e : ((x :: t).reverse.flatMap fun d => pad9 (Lib.decDigits d)) = (t.reverse.flatMap fun d => pad9 (Lib.decDigits d)) ++ pad9 (Lib.decDigits x) := by
      rw [List.reverse_cons, List.flatMap_append]
      simp
    rw [e]
    refine ⟨fun b hb => ?_, ?_, ?_⟩
    · rcases List.mem_append.1 hb with hb | hb
      · exact i1 b hb
      · exact p1 b hb
    · rw [nval_append, p2, p3, i2]
      rfl
    · rw [List.length_append, i3, p3, List.length_cons]
      omega
theorem body_reads {ds : List Nat} (h : Dig ds) (hn : 0 < ds.length) : (∀ b ∈ Lib.decDigits (ds.getD (ds.length - 1) 0) ++ restOf ds 0, isDg b = true) ∧ nval (Lib.decDigits (ds.getD (ds.length - 1) 0) ++ restOf ds 0) = val ds := by
  obtain ⟨r1, r2, r3⟩ := rest_reads (h.take (ds.length - 1))
  obtain ⟨d1, d2, d3⟩ := dec_reads (ds.getD (ds.length - 1) 0)
  have e : restOf ds 0 = ((ds.take (ds.length - 1)).reverse.flatMap fun d => pad9 (Lib.decDigits d)) := by unfold restOf; rw [List.drop_zero]
  rw [e]
  refine ⟨fun b hb => ?_, ?_⟩
  · rcases List.mem_append.1 hb with hb | hb
    · exact d1 b hb
    · exact r1 b hb
  · rw [nval_append, r2, r3, d2]
    have hs := val_split ds (ds.length - 1) (by omega)
    rw [val_drop (by omega), List.drop_eq_nil_of_le (by omega)] at hs
    simp only [val, Nat.mul_zero, Nat.add_zero] at hs
    rw [hs, List.length_take, Nat.min_eq_left (by omega), Nat.pow_mul]
    rw [List.getD_eq_getElem?_getD, List.getElem?_eq_getElem (by omega), Option.getD_some]
theorem text_reads {neg : Bool} {ds : List Nat} (hR : rightB neg ds = true) : okOf (textOf neg ds) = true ∧ zOf (textOf neg ds) = zval neg ds := by
  by_cases h0 : ds.length = 0
  · have e := List.eq_nil_of_length_eq_zero h0
    subst e
    obtain rfl := right_nil hR
    exact ⟨rfl, rfl⟩
  · obtain ⟨b1, b2⟩ := body_reads (right_dig hR) (by omega)
    obtain ⟨body, hbody⟩ : ∃ body, body = Lib.decDigits (ds.getD (ds.length - 1) 0) ++ restOf ds 0 := ⟨_, rfl⟩
    have hne : body ≠ [] := by
      rw [hbody]
      intro h
      exact (dec_reads _).2.2 (List.append_eq_nil_iff.1 h).1
    have et : textOf neg ds = (if neg then [45] else []) ++ body := by
      unfold textOf headOf
      rw [if_neg h0, List.append_assoc, hbody]
    rw [← hbody] at b1 b2
    have hb : bodyOf (textOf neg ds) = body ∧ negOf (textOf neg ds) = neg := by
      rw [et]
      cases neg with
      | true => exact ⟨rfl, rfl⟩
      | false =>
        cases body with
        | nil => exact absurd rfl hne
        | cons b t =>
          have h1 := b1 b (by simp)
          have h2 : (b == 45) = false := by
            rw [beq_eq_false_iff_ne]
            intro e
            subst e
            cases h1
          exact ⟨by simp [bodyOf, h2], by simp [negOf, h2]⟩
    have hok : okOf (textOf neg ds) = true := by
      unfold okOf decL
      rw [hb.1, Bool.and_eq_true]
      exact ⟨by cases body with
        | nil => exact absurd rfl hne
        | cons b t => rfl, List.all_eq_true.2 b1⟩
    refine ⟨hok, ?_⟩
    unfold zOf zval
    rw [if_pos hok, hb.1, hb.2, b2]
theorem text_short {neg : Bool} {ds : List Nat} (hR : rightB neg ds = true) (hl : ds.length ≤ 100) : (textOf neg ds).length ≤ 1000 := by
  unfold textOf
  split
  · simp
  · obtain ⟨r1, r2, r3⟩ := rest_reads ((right_dig hR).take (ds.length - 1))
    have e : restOf ds 0 = ((ds.take (ds.length - 1)).reverse.flatMap fun d => pad9 (Lib.decDigits d)) := by unfold restOf; rw [List.drop_zero]
    have h9 : (Lib.decDigits (ds.getD (ds.length - 1) 0)).length ≤ 9 := by
      rw [List.getD_eq_getElem?_getD, List.getElem?_eq_getElem (by omega), Option.getD_some]
      exact nDigits9 ((right_dig hR).get _ (by omega))
    unfold headOf
    rw [List.length_append, List.length_append, e, r3, List.length_take]
    have hs : (if neg = true then [45] else ([] : List UInt8)).length ≤ 1 := by cases neg <;> simp
    omega
end Go.Proofs.YtgmnpajecpjklaaDoor.wh
