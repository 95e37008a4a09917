/- Package whole: divide by more than one digit: its numbers. -/
import Derived.Test.YtgmnpajecpjklaaDoorProdSeg
namespace Go.Proofs.YtgmnpajecpjklaaDoor.wh
open Go.RowKit

/-- behind the digits from k on of the quotient: R is left, Q is had -/
def DivK (X V m e k : Nat) (R Q : List Nat) : Prop :=
  R.length = m + e + 1 ∧ Dig R ∧ Q.length = e + 1 ∧ Dig Q ∧ val R + V * val Q = X ∧ val (R.drop k) < V ∧ ∀ j (h : j < Q.length), j < k → Q[j] = 0

theorem divk_start {R : List Nat} {s a b m e : Nat} (hR : R.length = m + e + 1) (hd : Dig R) (hv : val R = s * a) (ha : a < 1000000000 ^ (m + e)) (hb : 1000000000 ^ (m - 1) ≤ b) (hm : 1 ≤ m) (hs : 1 ≤ s) : DivK (s * a) (s * b) m e (e + 1) R (List.replicate (e + 1) 0) := by
  refine ⟨hR, hd, by simp, Dig.replicate _, by rw [val_zeros, hv]; simp, ?_, fun j h _ => by simp⟩
  have h1 := val_split R (e + 1) (by omega)
  have h2 : 1000000000 ^ (e + 1) * val (R.drop (e + 1)) ≤ s * a := by omega
  have h3 : s * a < s * 1000000000 ^ (m + e) := Nat.mul_lt_mul_of_pos_left ha hs
  have h4 : s * (1000000000 ^ (m - 1) * 1000000000 ^ (e + 1)) ≤ s * (b * 1000000000 ^ (e + 1)) := Nat.mul_le_mul_left _ (Nat.mul_le_mul_right _ hb)
  rw [← Nat.pow_add, show m - 1 + (e + 1) = m + e by omega] at h4
  have h5 : 1000000000 ^ (e + 1) * val (R.drop (e + 1)) < 1000000000 ^ (e + 1) * (s * b) := by
    have e1 : s * (b * 1000000000 ^ (e + 1)) = 1000000000 ^ (e + 1) * (s * b) := by rw [← Nat.mul_assoc, Nat.mul_comm]
    omega
  exact Nat.lt_of_mul_lt_mul_left h5

theorem drop_part (R : List Nat) (k m : Nat) : R.drop k = (R.drop k).take (m + 1) ++ R.drop (k + (m + 1)) := by
  conv => lhs; rw [← List.take_append_drop (m + 1) (R.drop k)]
  rw [List.drop_drop]
/-- what stands over the part is 0 -/
theorem divk_part {X V m e k : Nat} {R Q : List Nat} (h : DivK X V m e (k + 1) R Q) (hk : k ≤ e) (hV : V < 1000000000 ^ m) :
    val ((R.drop k).take (m + 1)) < 1000000000 * V ∧ val (R.drop (k + (m + 1))) = 0 ∧ ((R.drop k).take (m + 1)).length = m + 1 := by
  obtain ⟨h1, h2, h3, h4, h5, h6, h7⟩ := h
  have hl : ((R.drop k).take (m + 1)).length = m + 1 := by rw [List.length_take, List.length_drop]; omega
  have e1 := val_drop (ds := R) (k := k) (by omega)
  have hd := h2.get k (by omega)
  have e2 : val (R.drop k) < 1000000000 * V := by omega
  have e3 : val (R.drop k) = val ((R.drop k).take (m + 1)) + 1000000000 ^ (m + 1) * val (R.drop (k + (m + 1))) := by
    conv => lhs; rw [drop_part R k m]
    rw [val_append, hl]
  have e4 : 1000000000 ^ (m + 1) = 1000000000 * 1000000000 ^ m := by rw [Nat.pow_succ, Nat.mul_comm]
  have e5 : val (R.drop (k + (m + 1))) = 0 := by
    rcases Nat.eq_zero_or_pos (val (R.drop (k + (m + 1)))) with h | h
    · exact h
    · have : 1000000000 ^ (m + 1) * 1 ≤ 1000000000 ^ (m + 1) * val (R.drop (k + (m + 1))) := Nat.mul_le_mul_left _ h
      omega
  rw [e5, Nat.mul_zero, Nat.add_zero] at e3
  exact ⟨by omega, e5, hl⟩
theorem divk_step {X V m e k q : Nat} {R Q ys : List Nat} {bs : List Nat} (h : DivK X V m e (k + 1) R Q) (hk : k ≤ e) (hV : V < 1000000000 ^ m) (hb : val bs = V) (hq9 : q < 1000000000) (hs : StepDone ((R.drop k).take (m + 1)) bs ys q) :
    DivK X V m e k (R.take k ++ ys ++ R.drop (k + (m + 1))) (Q.set k q) := by
  obtain ⟨p1, p2, p3⟩ := divk_part h hk hV
  obtain ⟨h1, h2, h3, h4, h5, h6, h7⟩ := h
  obtain ⟨s1, s2, s3, s4⟩ := hs
  rw [hb] at s3 s4
  have hVp : 0 < V := by omega
  have hQ : k < Q.length := by omega
  have hys : val ys < V := by rw [s4]; exact Nat.mod_lt _ hVp
  have htk : (R.take k).length = k := by rw [List.length_take]; omega
  have e1 : val (ys ++ R.drop (k + (m + 1))) = val ys := by rw [val_append, p2]; simp
  have e2 : val R = val (R.take k) + 1000000000 ^ k * val ((R.drop k).take (m + 1)) := by
    rw [val_split R k (by omega)]
    congr 2
    conv => lhs; rw [drop_part R k m]
    rw [val_append, p2]
    simp
  have e3 : val ((R.drop k).take (m + 1)) = val ys + q * V := by
    have := Nat.div_add_mod (val ((R.drop k).take (m + 1))) V
    rw [← s3, ← s4, Nat.mul_comm] at this
    omega
  have e4 := val_set (v := q) hQ
  rw [h7 k hQ (by omega), Nat.mul_zero, Nat.add_zero] at e4
  refine ⟨?_, (h2.take k |>.append s2).append (h2.drop _), by simp [h3], h4.set hq9, ?_, ?_, fun j hj hjk => ?_⟩
  · rw [List.length_append, List.length_append, htk, s1, p3, List.length_drop]; omega
  · rw [List.append_assoc, val_append, htk, e1, e4, ← h5, e2, e3, Nat.mul_add, Nat.mul_add]
    have e6 : V * (1000000000 ^ k * q) = 1000000000 ^ k * (q * V) := by rw [Nat.mul_comm, Nat.mul_assoc]
    omega
  · rw [List.append_assoc, List.drop_left' htk, e1]; exact hys
  · rw [List.getElem_set_ne (by omega)]
    exact h7 j (by simpa using hj) (by omega)
theorem divk_end {s a b m e : Nat} {R Q : List Nat} (h : DivK (s * a) (s * b) m e 0 R Q) (hV : s * b < 1000000000 ^ m) (hs : 1 ≤ s) :
    val Q = a / b ∧ val (R.take m) / s = a % b ∧ (R.take m).length = m := by
  obtain ⟨h1, h2, h3, h4, h5, h6, h7⟩ := h
  rw [List.drop_zero] at h6
  have h8 := quo_unique (x := s * a) (b := s * b) (q := val Q) (r := val R) (by rw [Nat.mul_comm (val Q)]; omega) h6
  rw [Nat.mul_div_mul_left _ _ (by omega), Nat.mul_mod_mul_left] at h8
  have e1 := val_split R m (by omega)
  have e2 : val (R.drop m) = 0 := by
    rcases Nat.eq_zero_or_pos (val (R.drop m)) with h | h
    · exact h
    · have : 1000000000 ^ m * 1 ≤ 1000000000 ^ m * val (R.drop m) := Nat.mul_le_mul_left _ h
      omega
  rw [e2, Nat.mul_zero, Nat.add_zero] at e1
  refine ⟨h8.1, ?_, by rw [List.length_take]; omega⟩
  rw [← e1, h8.2, Nat.mul_div_cancel_left _ (by omega)]
/-- the scale keeps the divisor's length -/
theorem scale_fits {ys : List Nat} {k bt s : Nat} (hl : ys.length = k + 1) (hd : Dig ys) (hbt : bt = ys[k]) (hs : s = 1000000000 / (bt + 1)) : 1 ≤ s ∧ s < 1000000000 + 1 ∧ s * val ys < 1000000000 ^ (k + 1) := by
  have hb9 : bt < 1000000000 := by rw [hbt]; exact hd.get _ _
  have h1 := val_split ys k (by omega)
  rw [val_drop (by omega), List.drop_eq_nil_of_le (by omega), ← hbt] at h1
  simp only [val, Nat.mul_zero, Nat.add_zero] at h1
  have h2 := val_lt (hd.take k)
  rw [List.length_take, Nat.min_eq_left (by omega)] at h2
  have h3 : s * (bt + 1) ≤ 1000000000 := by rw [hs]; exact Nat.div_mul_le_self _ _
  have h4 : 1 ≤ s := by rw [hs, Nat.le_div_iff_mul_le (by omega)]; omega
  have h5 : s ≤ 1000000000 := by rw [hs]; exact Nat.div_le_self _ _
  refine ⟨h4, by omega, ?_⟩
  have h6 : val ys < 1000000000 ^ k * (bt + 1) := by rw [Nat.mul_add, Nat.mul_one]; omega
  have h7 : s * val ys < s * (1000000000 ^ k * (bt + 1)) := Nat.mul_lt_mul_of_pos_left h6 (by omega)
  have h8 : s * (1000000000 ^ k * (bt + 1)) = 1000000000 ^ k * (s * (bt + 1)) := by rw [Nat.mul_left_comm]
  have h9 : 1000000000 ^ k * (s * (bt + 1)) ≤ 1000000000 ^ k * 1000000000 := Nat.mul_le_mul_left _ h3
  rw [Nat.pow_succ]
  omega
end Go.Proofs.YtgmnpajecpjklaaDoor.wh
