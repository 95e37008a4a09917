/- Tokens of a text: a whole text, words of tokens among blanks, texts that are cut. Plain mathematics. -/
import Derived.Test.YtcikleomipbkmaaDoorTb
namespace Go.Proofs.YtcikleomipbkmaaDoor.tk

theorem endsAt_bad {kind n m : Nat} {t rest : List UInt8} (h : endsAt kind t n rest = .bad m) : n = m ∧ rest ≠ [] := by
  unfold endsAt at h
  split at h
  · rename_i hn
    injection h with h1
    refine ⟨h1, fun e => ?_⟩
    subst e
    simp [innerNext] at hn
  · cases h
/-- a string doubled where it has the mark -/
def esc : List UInt8 → List UInt8
  | [] => []
  | c :: r => if c.toNat = 34 then c :: c :: esc r else c :: esc r
theorem esc_append (a b : List UInt8) : esc (a ++ b) = esc a ++ esc b := by
  induction a with
  | nil => rfl
  | cons c a ih =>
    simp only [List.cons_append, esc]
    split <;> simp [ih]
theorem esc_le (a : List UInt8) : a.length ≤ (esc a).length := by
  induction a with
  | nil => simp [esc]
  | cons c a ih =>
    simp only [esc]
    split <;> simp <;> omega
theorem str_len : ∀ (m : Nat) (r : List UInt8) (a : Nat) (acc : List UInt8), r.length ≤ m →
    (∀ k n t, strL r a acc = .tok k t n → n = a + (esc t).length + 1 - (esc acc.reverse).length ∧ (esc acc.reverse).length ≤ (esc t).length ∧ n ≤ a + r.length ∧ a + 1 ≤ n) ∧ (∀ n, strL r a acc = .bad n → n ≤ a + r.length) := by
  intro m
  induction m with
  | zero =>
    intro r a acc hm
    have : r = [] := List.eq_nil_of_length_eq_zero (by omega)
    subst this
    refine ⟨fun k n t h => by simp [strL] at h, fun n h => ?_⟩
    simp only [strL] at h
    injection h with h
    omega
  | succ m ih =>
    intro r a acc hm
    cases r with
    | nil =>
      refine ⟨fun k n t h => by simp [strL] at h, fun n h => ?_⟩
      simp only [strL] at h
      injection h with h
      omega
    | cons c r' =>
      simp only [List.length_cons] at hm
      refine ⟨fun k n t h => ?_, fun n h => ?_⟩
      · unfold strL at h
        split at h
        · split at h
          · rename_i h34
            cases r' with
            | nil =>
              injection h with e1 e2 e3
              subst e2 e3
              simp; omega
            | cons d r'' =>
              dsimp only at h
              split at h
              · have := (ih r'' (a + 2) (34 :: acc) (by simp at hm; omega)).1 k n t h
                rw [List.reverse_cons, esc_append, List.length_append] at this
                have e34 : (esc [34]).length = 2 := by decide
                rw [e34] at this
                simp only [List.length_cons]
                omega
              · injection h with e1 e2 e3
                subst e2 e3
                simp; omega
          · rename_i h34
            have := (ih r' (a + 1) (c :: acc) (by omega)).1 k n t h
            rw [List.reverse_cons, esc_append, List.length_append] at this
            have e1 : (esc [c]).length = 1 := by simp [esc, h34]
            rw [e1] at this
            simp only [List.length_cons]
            omega
        · cases h
      · unfold strL at h
        split at h
        · split at h
          · cases r' with
            | nil => cases h
            | cons d r'' =>
              dsimp only at h
              split at h
              · have := (ih r'' (a + 2) (34 :: acc) (by simp at hm; omega)).2 n h
                simp only [List.length_cons]
                omega
              · cases h
          · have := (ih r' (a + 1) (c :: acc) (by omega)).2 n h
            simp only [List.length_cons]
            omega
        · injection h with h
          omega
theorem num_len (c : UInt8) (r : List UInt8) : (∀ k n t, numL c r = .tok k t n → 1 ≤ n ∧ n ≤ 1 + r.length ∧ t.length = n) ∧ (∀ n, numL c r = .bad n → n ≤ 1 + r.length) := by
  have hl := span_len isDigit r
  unfold numL
  split
  · exact ⟨fun k n t h => by (cases h), fun n h => by injection h with h; omega⟩
  · split
    · rename_i hd
      rw [hd] at hl
      exact ⟨fun k n t h => by injection h with e1 e2 e3; subst e2 e3; simp at *; omega, fun n h => by cases h⟩
    · rename_i a q hd
      rw [hd] at hl
      have hq := span_len isDigit q
      simp only [List.length_cons] at hl
      split
      · refine ⟨fun k n t h => ?_, fun n h => ?_⟩
        · obtain ⟨_, _, e2, e3⟩ := endsAt_tok h
          subst e2 e3
          simp; omega
        · have := (endsAt_bad h).1; omega
      · refine ⟨fun k n t h => ?_, fun n h => ?_⟩
        · obtain ⟨_, _, e2, e3⟩ := endsAt_tok h
          subst e2 e3
          simp; omega
        · have := (endsAt_bad h).1; omega
theorem hash_len (r : List UInt8) : (∀ k n t, hashL r = .tok k t n → 1 ≤ n ∧ n ≤ 1 + r.length ∧ n = 2 + t.length) ∧ (∀ n, hashL r = .bad n → n ≤ 1 + r.length) := by
  unfold hashL
  cases r with
  | nil => exact ⟨fun k n t h => by (cases h), fun n h => by injection h with h; omega⟩
  | cons e q =>
    dsimp only
    have part : ∀ (kind : Nat) (p : UInt8 → Bool), (∀ k n t, (if (q.takeWhile p).length = 0 then Sc.bad 2 else endsAt kind (q.takeWhile p) (2 + (q.takeWhile p).length) (q.dropWhile p)) = .tok k t n → 1 ≤ n ∧ n ≤ 1 + (e :: q).length ∧ n = 2 + t.length) ∧ (∀ n, (if (q.takeWhile p).length = 0 then Sc.bad 2 else endsAt kind (q.takeWhile p) (2 + (q.takeWhile p).length) (q.dropWhile p)) = .bad n → n ≤ 1 + (e :: q).length) := by
      intro kind p
      have hl := span_len p q
      simp only [List.length_cons]
      refine ⟨fun k n t h => ?_, fun n h => ?_⟩
      · split at h
        · cases h
        · obtain ⟨_, _, e2, e3⟩ := endsAt_tok h
          subst e2 e3
          omega
      · split at h
        · injection h with h; omega
        · have := (endsAt_bad h).1; omega
    split
    · exact part 7 isHex
    · split
      · exact part 8 isBin
      · exact ⟨fun k n t h => by (cases h), fun n h => by injection h with h; omega⟩
theorem bar_len (r : List UInt8) : (∀ k n t, barL r = .tok k t n → 1 ≤ n ∧ n ≤ 1 + r.length ∧ n = 2 + t.length) ∧ (∀ n, barL r = .bad n → n ≤ 1 + r.length) := by
  have hl := span_len isBar r
  unfold barL
  split
  · rename_i hd
    rw [hd] at hl
    exact ⟨fun k n t h => by (cases h), fun n h => by injection h with h; simp at hl; omega⟩
  · rename_i e q hd
    rw [hd] at hl
    simp only [List.length_cons] at hl
    split
    · exact ⟨fun k n t h => by injection h with e1 e2 e3; subst e2 e3; omega, fun n h => by cases h⟩
    · exact ⟨fun k n t h => by (cases h), fun n h => by injection h with h; omega⟩
theorem key_len (r : List UInt8) : (∀ k n t, keyL r = .tok k t n → 1 ≤ n ∧ n ≤ 1 + r.length ∧ n = 1 + t.length) ∧ (∀ n, keyL r = .bad n → n ≤ 1 + r.length) := by
  have hl := span_len isInner r
  unfold keyL
  split
  · exact ⟨fun k n t h => by (cases h), fun n h => by injection h with h; omega⟩
  · exact ⟨fun k n t h => by injection h with e1 e2 e3; subst e2 e3; omega, fun n h => by cases h⟩
/-- a token has at least one byte, and none that the text hasn't; a wrong byte is within the text, or at its end -/
theorem scan_len {s : List UInt8} : (∀ k n t, scan s = .tok k t n → 1 ≤ n ∧ n ≤ s.length ∧ t.length ≤ n) ∧ (∀ n, scan s = .bad n → n ≤ s.length) := by
  cases s with
  | nil => exact ⟨fun k n t h => by simp [scan] at h, fun n h => by simp only [scan] at h; injection h with h; omega⟩
  | cons c r =>
    have cmm : (c :: r).length = 1 + r.length := by rw [List.length_cons]; omega
    rw [cmm]
    unfold scan
    dsimp only
    split
    · exact ⟨fun k n t h => by injection h with e1 e2 e3; subst e2 e3; simp, fun n h => by cases h⟩
    split
    · exact ⟨fun k n t h => by injection h with e1 e2 e3; subst e2 e3; simp, fun n h => by cases h⟩
    split
    · have := num_len c r
      exact ⟨fun k n t h => by have := this.1 k n t h; omega, this.2⟩
    split
    · have := hash_len r
      exact ⟨fun k n t h => by have := this.1 k n t h; omega, this.2⟩
    split
    · have := str_len _ r 1 [] (Nat.le_refl _)
      refine ⟨fun k n t h => ?_, this.2⟩
      have g := this.1 k n t h
      have := esc_le t
      simp only [List.reverse_nil, esc, List.length_nil] at g
      omega
    split
    · have := bar_len r
      exact ⟨fun k n t h => by have := this.1 k n t h; omega, this.2⟩
    split
    · have := key_len r
      exact ⟨fun k n t h => by have := this.1 k n t h; omega, this.2⟩
    split
    · have hl := span_len isInner r
      unfold wordL
      exact ⟨fun k n t h => by injection h with e1 e2 e3; subst e2 e3; simp; omega, fun n h => by cases h⟩
    · exact ⟨fun k n t h => by (cases h), fun n h => by injection h with h; omega⟩

theorem skipL_cons (c : UInt8) (r : List UInt8) : skipL (c :: r) = if isBlank c then skipL r else if c.toNat = 59 then skipL (r.dropWhile notLine) else c :: r := by
  rw [skipL]
/-- what is left behind blanks is an end of the text -/
theorem skip_suffix : ∀ (m : Nat) (l : List UInt8), l.length ≤ m → ∃ a, l = a ++ skipL l := by
  intro m
  induction m with
  | zero =>
    intro l h
    have : l = [] := List.eq_nil_of_length_eq_zero (by omega)
    subst this
    exact ⟨[], by rw [skipL]; rfl⟩
  | succ m ih =>
    intro l h
    cases l with
    | nil => exact ⟨[], by rw [skipL]; rfl⟩
    | cons c r =>
      simp only [List.length_cons] at h
      rw [skipL_cons]
      split
      · obtain ⟨a, e⟩ := ih r (by omega)
        exact ⟨c :: a, by rw [List.cons_append, ← e]⟩
      · split
        · have hs := span_len notLine r
          obtain ⟨a, e⟩ := ih (r.dropWhile notLine) (by omega)
          refine ⟨c :: (r.takeWhile notLine ++ a), ?_⟩
          rw [List.cons_append, List.append_assoc, ← e, List.takeWhile_append_dropWhile]
        · exact ⟨[], rfl⟩
theorem skip_len (l : List UInt8) : (skipL l).length ≤ l.length := by
  obtain ⟨a, e⟩ := skip_suffix _ l (Nat.le_refl _)
  have := congrArg List.length e
  rw [List.length_append] at this
  omega
/-- blanks ahead, of which something is left, are the same with more behind -/
theorem skip_app : ∀ (m : Nat) (l q : List UInt8), l.length ≤ m → skipL l ≠ [] → skipL (l ++ q) = skipL l ++ q := by
  intro m
  induction m with
  | zero =>
    intro l q h hn
    have : l = [] := List.eq_nil_of_length_eq_zero (by omega)
    subst this
    exact absurd (by rw [skipL]) hn
  | succ m ih =>
    intro l q h hn
    cases l with
    | nil => exact absurd (by rw [skipL]) hn
    | cons c r =>
      simp only [List.length_cons] at h
      rw [List.cons_append]
      rw [skipL_cons] at hn ⊢
      rw [skipL_cons]
      split
      · rw [if_pos (by assumption)] at hn
        exact ih r q (by omega) hn
      · rename_i hb
        rw [if_neg hb] at hn
        split
        · rename_i h59
          rw [if_pos h59] at hn
          have hd : r.dropWhile notLine ≠ [] := by
            intro e
            rw [e] at hn
            exact hn (by rw [skipL])
          rw [(span_app (.inl hd)).2]
          have hs := span_len notLine r
          exact ih _ q (by omega) hn
        · rfl
end Go.Proofs.YtcikleomipbkmaaDoor.tk
