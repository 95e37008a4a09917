/- Tokens of a text, by places: where a run of bytes ends, and what a place holds then. Plain mathematics. -/
import Derived.Test.YtmnllioeaaimcaaDoorTi
namespace Go.Proofs.YtmnllioeaaimcaaDoor.tk
open Go.RowKit

/-- where a run of bytes of a kind ends, that begins at a place -/
def runE (f : UInt8 → Bool) (bs : List UInt8) (i : Nat) : Nat := i + ((bs.drop i).takeWhile f).length
section
variable {f : UInt8 → Bool} {bs : List UInt8} {i : Nat}
theorem runE_step (h : i < bs.length) (hf : f bs[i] = true) : runE f bs i = runE f bs (i + 1) := by
  unfold runE
  rw [drop_cons h, List.takeWhile_cons, if_pos hf, List.length_cons]
  omega
theorem runE_stop (h : i < bs.length) (hf : f bs[i] = false) : runE f bs i = i := by
  unfold runE
  rw [drop_cons h, List.takeWhile_cons, if_neg (by rw [hf]; simp), List.length_nil]
  rfl
theorem runE_end : runE f bs bs.length = bs.length := by unfold runE; simp
theorem runE_ge : i ≤ runE f bs i := by unfold runE; omega
theorem runE_le (h : i ≤ bs.length) : runE f bs i ≤ bs.length := by
  unfold runE
  have := (List.takeWhile_sublist f (l := bs.drop i)).length_le
  rw [List.length_drop] at this
  omega
theorem cut_run (f : UInt8 → Bool) (bs : List UInt8) (i : Nat) : cutL bs i (runE f bs i) = (bs.drop i).takeWhile f := by
  unfold cutL runE
  rw [List.drop_take, Nat.add_sub_cancel_left]
  have := List.takeWhile_append_dropWhile (p := f) (l := bs.drop i)
  conv => lhs; rw [← this]
  rw [List.take_append_of_le_length (by simp)]
  rw [List.takeWhile_append_dropWhile]
  exact List.take_length
theorem drop_run (f : UInt8 → Bool) (bs : List UInt8) (i : Nat) : (bs.drop i).dropWhile f = bs.drop (runE f bs i) := by
  unfold runE
  have := List.takeWhile_append_dropWhile (p := f) (l := bs.drop i)
  rw [← List.drop_drop]
  conv => rhs; rw [← this]
  rw [List.drop_append_of_le_length (by simp), List.takeWhile_append_dropWhile, List.drop_length, List.nil_append]
theorem run_len (f : UInt8 → Bool) (bs : List UInt8) (i : Nat) : ((bs.drop i).takeWhile f).length = runE f bs i - i := by unfold runE; omega
theorem cut_cons {p j : Nat} (hp : p < j) (hj : j ≤ bs.length) : cutL bs p j = bs[p] :: cutL bs (p + 1) j := by
  unfold cutL
  rw [List.drop_eq_getElem_cons (by rw [List.length_take]; omega)]
  simp
theorem next_at {f : List UInt8 → Bool} {g : UInt8 → Bool} (hf : ∀ c r, f (c :: r) = g c) {q : Nat} (h : q < bs.length) : f (bs.drop q) = g bs[q] := by rw [drop_cons h, hf]
end
theorem inner_at {bs : List UInt8} {q : Nat} (h : q < bs.length) : innerNext (bs.drop q) = isInner bs[q] := next_at (fun _ _ => rfl) h
theorem digit_at {bs : List UInt8} {q : Nat} (h : q < bs.length) : digitNext (bs.drop q) = isDigit bs[q] := next_at (fun _ _ => rfl) h

theorem digit_rng {c : UInt8} (h : isDigit c = true) : 48 ≤ c.toNat ∧ c.toNat ≤ 57 := by unfold isDigit at h; simpa using h
theorem digit_no {c : UInt8} (h : c.toNat < 48 ∨ 57 < c.toNat) : isDigit c = false := by
  unfold isDigit
  rcases h with h | h
  · rw [decide_eq_false (by omega : ¬ 48 ≤ c.toNat), Bool.false_and]
  · rw [decide_eq_false (by omega : ¬ c.toNat ≤ 57), Bool.and_false]
section
variable {bs : List UInt8} {p : Nat} (hp : p < bs.length)
include hp
theorem scan_paren {k : Nat} (h : bs[p].toNat = 40 ∧ k = 1 ∨ bs[p].toNat = 41 ∧ k = 2) : scan (bs.drop p) = .tok k [bs[p]] 1 := by
  rw [drop_cons hp, scan]
  rcases h with ⟨h, rfl⟩ | ⟨h, rfl⟩ <;> simp [h]
theorem scan_key_at (h : bs[p].toNat = 58) : scan (bs.drop p) = if runE isInner bs (p + 1) = p + 1 then .bad 1 else .tok 10 (cutL bs (p + 1) (runE isInner bs (p + 1))) (runE isInner bs (p + 1) - p) := by
  have hd : isDigit bs[p] = false := digit_no (Or.inr (by omega))
  rw [drop_cons hp, scan]
  simp only [h, hd, Nat.reduceEqDiff, if_false, if_true, Bool.false_eq_true]
  unfold keyL
  have hg := runE_ge (f := isInner) (bs := bs) (i := p + 1)
  rw [run_len, ← cut_run]
  by_cases e : runE isInner bs (p + 1) = p + 1
  · rw [if_pos e, if_pos (by omega)]
  · rw [if_neg e, if_neg (by omega)]
    congr 1; omega
theorem scan_bar_at (h : bs[p].toNat = 124) : scan (bs.drop p) = if hq : runE isBar bs (p + 1) < bs.length then (if (bs[runE isBar bs (p + 1)]'hq).toNat = 124 then .tok 3 (cutL bs (p + 1) (runE isBar bs (p + 1))) (runE isBar bs (p + 1) + 1 - p) else .bad (runE isBar bs (p + 1) - p)) else .bad (runE isBar bs (p + 1) - p) := by
  have hd : isDigit bs[p] = false := digit_no (Or.inr (by omega))
  have hg := runE_ge (f := isBar) (bs := bs) (i := p + 1)
  rw [drop_cons hp, scan]
  simp only [h, hd, Nat.reduceEqDiff, if_false, if_true, Bool.false_eq_true]
  unfold barL
  rw [drop_run, ← cut_run]
  have hl : (cutL bs (p + 1) (runE isBar bs (p + 1))).length = runE isBar bs (p + 1) - (p + 1) := by rw [cut_run, run_len]
  by_cases hq : runE isBar bs (p + 1) < bs.length
  · rw [dif_pos hq, drop_cons hq]
    simp only
    rw [hl]
    split
    · congr 1; omega
    · congr 1; omega
  · rw [dif_neg hq]
    have e : runE isBar bs (p + 1) = bs.length := by have := runE_le (f := isBar) (bs := bs) (i := p + 1) (by omega); omega
    rw [hl, e, List.drop_length]
    simp only
    congr 1; omega
theorem scan_word_at (hi : isInner bs[p] = true) (h40 : bs[p].toNat ≠ 40) (h41 : bs[p].toNat ≠ 41) (hd : isDigit bs[p] = false) (h35 : bs[p].toNat ≠ 35) (h34 : bs[p].toNat ≠ 34) (h124 : bs[p].toNat ≠ 124) (h58 : bs[p].toNat ≠ 58) :
    scan (bs.drop p) = .tok (if reservedWords.contains (cutL bs p (runE isInner bs p)) then 4 else 3) (cutL bs p (runE isInner bs p)) (runE isInner bs p - p) := by
  rw [drop_cons hp, scan]
  simp only [h40, h41, hd, h35, h34, h124, h58, hi, if_false, if_true, Bool.false_eq_true]
  unfold wordL
  have hg := runE_ge (f := isInner) (bs := bs) (i := p + 1)
  have hle := runE_le (f := isInner) (bs := bs) (i := p + 1) (by omega)
  rw [runE_step hp hi, cut_cons (by omega) hle, run_len, ← cut_run]
  congr 1; omega
theorem scan_none_at (hi : isInner bs[p] = false) (h40 : bs[p].toNat ≠ 40) (h41 : bs[p].toNat ≠ 41) (hd : isDigit bs[p] = false) (h35 : bs[p].toNat ≠ 35) (h34 : bs[p].toNat ≠ 34) (h124 : bs[p].toNat ≠ 124) (h58 : bs[p].toNat ≠ 58) :
    scan (bs.drop p) = .bad 0 := by
  rw [drop_cons hp, scan]
  simp only [h40, h41, hd, h35, h34, h124, h58, hi, if_false, Bool.false_eq_true]
theorem scan_hash_at (h : bs[p].toNat = 35) : scan (bs.drop p) = hashL (bs.drop (p + 1)) := by
  have hd : isDigit bs[p] = false := digit_no (Or.inl (by omega))
  rw [drop_cons hp, scan]
  simp only [h, hd, Nat.reduceEqDiff, if_false, if_true, Bool.false_eq_true]
theorem scan_str_at (h : bs[p].toNat = 34) : scan (bs.drop p) = strL (bs.drop (p + 1)) 1 [] := by
  have hd : isDigit bs[p] = false := digit_no (Or.inl (by omega))
  rw [drop_cons hp, scan]
  simp only [h, hd, Nat.reduceEqDiff, if_false, if_true, Bool.false_eq_true]
theorem scan_num_at (hd : isDigit bs[p] = true) : scan (bs.drop p) = numL bs[p] (bs.drop (p + 1)) := by
  have := digit_rng hd
  rw [drop_cons hp, scan]
  simp only [show bs[p].toNat ≠ 40 by omega, show bs[p].toNat ≠ 41 by omega, hd, if_false, if_true]
end
theorem hash_short {bs : List UInt8} {p : Nat} (h : p + 1 = bs.length) : hashL (bs.drop (p + 1)) = .bad 1 := by rw [h, List.drop_length]; rfl
theorem hash_run {bs : List UInt8} {p k : Nat} {f : UInt8 → Bool} (h : p + 1 < bs.length) (hk : bs[p + 1].toNat = 120 ∧ k = 7 ∧ f = isHex ∨ bs[p + 1].toNat = 98 ∧ k = 8 ∧ f = isBin) :
    hashL (bs.drop (p + 1)) = if runE f bs (p + 2) = p + 2 then .bad 2 else endsAt k (cutL bs (p + 2) (runE f bs (p + 2))) (runE f bs (p + 2) - p) (bs.drop (runE f bs (p + 2))) := by
  have hg := runE_ge (f := f) (bs := bs) (i := p + 2)
  rw [drop_cons h]
  rcases hk with ⟨h1, rfl, rfl⟩ | ⟨h1, rfl, rfl⟩
  · simp only [hashL, h1, if_true]
    rw [drop_run, ← cut_run]
    have hl : (cutL bs (p + 1 + 1) (runE isHex bs (p + 1 + 1))).length = runE isHex bs (p + 2) - (p + 2) := by rw [cut_run, run_len]
    rw [hl]
    by_cases e : runE isHex bs (p + 2) = p + 2
    · rw [if_pos e, if_pos (by omega)]
    · rw [if_neg e, if_neg (by omega)]
      congr 1; omega
  · simp only [hashL, h1, if_true, Nat.reduceEqDiff, if_false]
    rw [drop_run, ← cut_run]
    have hl : (cutL bs (p + 1 + 1) (runE isBin bs (p + 1 + 1))).length = runE isBin bs (p + 2) - (p + 2) := by rw [cut_run, run_len]
    rw [hl]
    by_cases e : runE isBin bs (p + 2) = p + 2
    · rw [if_pos e, if_pos (by omega)]
    · rw [if_neg e, if_neg (by omega)]
      congr 1; omega
theorem hash_none {bs : List UInt8} {p : Nat} (h : p + 1 < bs.length) (h1 : bs[p + 1].toNat ≠ 120) (h2 : bs[p + 1].toNat ≠ 98) : hashL (bs.drop (p + 1)) = .bad 1 := by
  rw [drop_cons h]
  simp only [hashL, h1, h2, if_false]
end Go.Proofs.YtmnllioeaaimcaaDoor.tk
