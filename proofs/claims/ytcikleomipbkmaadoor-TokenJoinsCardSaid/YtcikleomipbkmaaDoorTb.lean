/- Tokens of a text: bounds, and that what comes behind a token changes nothing of it. Plain mathematics. -/
import Derived.Test.YtcikleomipbkmaaDoorTa
namespace Go.Proofs.YtcikleomipbkmaaDoor.tk

/-- nothing comes, or a byte that can't go on with a token -/
def stop (q : List UInt8) : Bool := match q with | [] => true | c :: _ => !isInner c && !decide (c.toNat = 34)
theorem span_app {p : UInt8 → Bool} {r q : List UInt8} (h : r.dropWhile p ≠ [] ∨ ∀ c q', q = c :: q' → p c = false) :
    (r ++ q).takeWhile p = r.takeWhile p ∧ (r ++ q).dropWhile p = r.dropWhile p ++ q := by
  induction r with
  | nil =>
    have h2 : ∀ c q', q = c :: q' → p c = false := by
      rcases h with h | h
      · simp at h
      · exact h
    cases q with
    | nil => simp
    | cons c q' =>
      have := h2 c q' rfl
      simp [this]
  | cons a r ih =>
    cases ha : p a
    · simp [ha]
    · have h3 : r.dropWhile p ≠ [] ∨ ∀ c q', q = c :: q' → p c = false := by
        rcases h with h | h
        · left; simpa [ha] using h
        · exact .inr h
      have := ih h3
      simp [ha, this.1, this.2]
theorem span_len (p : UInt8 → Bool) (r : List UInt8) : (r.takeWhile p).length + (r.dropWhile p).length = r.length := by
  have := congrArg List.length (List.takeWhile_append_dropWhile (p := p) (l := r))
  rw [List.length_append] at this
  exact this
theorem span_nil {p : UInt8 → Bool} {r : List UInt8} (h : r.dropWhile p = []) : (r.takeWhile p).length = r.length := by
  have := span_len p r
  rw [h] at this
  simpa using this
theorem digit_inner {c : UInt8} (h : isInner c = false) : isDigit c = false := by
  unfold isInner at h
  simp only [Bool.or_eq_false_iff] at h
  exact h.2.1
theorem hex_inner {c : UInt8} (h : isInner c = false) : isHex c = false := by
  have hd := digit_inner h
  unfold isInner at h
  unfold isHex
  simp only [Bool.or_eq_false_iff, Bool.and_eq_false_iff, decide_eq_false_iff_not] at h ⊢
  refine ⟨hd, ?_, ?_⟩ <;> omega
theorem bin_inner {c : UInt8} (h : isInner c = false) : isBin c = false := by
  have hd := digit_inner h
  unfold isBin
  unfold isDigit at hd
  simp only [Bool.or_eq_false_iff, Bool.and_eq_false_iff, decide_eq_false_iff_not] at hd ⊢
  omega
theorem dot_inner {c : UInt8} (h : isInner c = false) : c.toNat ≠ 46 := by
  intro e
  have : c = 46 := by
    apply UInt8.toNat_inj.1
    exact e
  subst this
  exact absurd h (by decide)
theorem stop_not {p : UInt8 → Bool} (hp : ∀ c, isInner c = false → p c = false) {q : List UInt8} (h : stop q = true) : ∀ c q', q = c :: q' → p c = false := by
  intro c q' e
  subst e
  unfold stop at h
  simp only [Bool.and_eq_true, Bool.not_eq_true'] at h
  exact hp c h.1
theorem stop_inner {q : List UInt8} (h : stop q = true) : innerNext q = false := by
  cases q with
  | nil => rfl
  | cons c q' =>
    unfold stop at h
    simp only [Bool.and_eq_true, Bool.not_eq_true'] at h
    exact h.1
theorem stop_digit {q : List UInt8} (h : stop q = true) : digitNext q = false := by
  cases q with
  | nil => rfl
  | cons c q' => exact stop_not (p := isDigit) (fun _ => digit_inner) h c q' rfl
/-- behind it there is something of the text, or what comes can't go on with it -/
def Ends (n len : Nat) (q : List UInt8) : Prop := n < len ∨ stop q = true
theorem ends_span {p : UInt8 → Bool} (hp : ∀ c, isInner c = false → p c = false) {r q : List UInt8} {a : Nat} (h : Ends (a + (r.takeWhile p).length) (a + r.length) q) : r.dropWhile p ≠ [] ∨ ∀ c q', q = c :: q' → p c = false := by
  rcases h with h | h
  · left
    intro e
    have := span_nil e
    omega
  · exact .inr (stop_not hp h)
theorem endsAt_tok {kind k n m : Nat} {t t' rest : List UInt8} (h : endsAt kind t n rest = .tok k t' m) : innerNext rest = false ∧ kind = k ∧ t = t' ∧ n = m := by
  unfold endsAt at h
  split at h
  · cases h
  · rename_i hn
    injection h with h1 h2 h3
    exact ⟨by simpa using hn, h1, h2, h3⟩
theorem innerNext_app {r q : List UInt8} (h : innerNext r = false) (hq : r ≠ [] ∨ stop q = true) : innerNext (r ++ q) = false := by
  cases r with
  | nil => exact stop_inner (hq.resolve_left (by simp))
  | cons c r' => exact h
theorem digitNext_app {r q : List UInt8} (h : r ≠ []) : digitNext (r ++ q) = digitNext r := by
  cases r with
  | nil => exact absurd rfl h
  | cons c r' => rfl

theorem word_ext {c : UInt8} {r q : List UInt8} {k n : Nat} {t : List UInt8} (h : wordL c r = .tok k t n) (he : Ends n (1 + r.length) q) : wordL c (r ++ q) = .tok k t n := by
  unfold wordL at *
  injection h with h1 h2 h3
  subst h3
  have := span_app (p := isInner) (ends_span (fun _ h => h) he)
  rw [this.1, ← h1, ← h2]
theorem key_ext {r q : List UInt8} {k n : Nat} {t : List UInt8} (h : keyL r = .tok k t n) (he : Ends n (1 + r.length) q) : keyL (r ++ q) = .tok k t n := by
  unfold keyL at *
  split at h
  · cases h
  · rename_i h0
    injection h with h1 h2 h3
    subst h3
    have := span_app (p := isInner) (ends_span (fun _ h => h) he)
    rw [this.1, if_neg h0, ← h1, ← h2]
theorem bar_ext {r q : List UInt8} {k n : Nat} {t : List UInt8} (h : barL r = .tok k t n) : barL (r ++ q) = .tok k t n := by
  unfold barL at *
  split at h
  · cases h
  · rename_i e r' hd
    have := span_app (p := isBar) (r := r) (q := q) (.inl (by rw [hd]; simp))
    rw [this.1, this.2, hd]
    exact h
theorem hash_ext {r q : List UInt8} {k n : Nat} {t : List UInt8} (h : hashL r = .tok k t n) (he : Ends n (1 + r.length) q) : hashL (r ++ q) = .tok k t n := by
  unfold hashL at *
  cases r with
  | nil => cases h
  | cons e r0 =>
    have part : ∀ (kind : Nat) (p : UInt8 → Bool), (∀ c, isInner c = false → p c = false) → (if (r0.takeWhile p).length = 0 then Sc.bad 2 else endsAt kind (r0.takeWhile p) (2 + (r0.takeWhile p).length) (r0.dropWhile p)) = .tok k t n → (if ((r0 ++ q).takeWhile p).length = 0 then Sc.bad 2 else endsAt kind ((r0 ++ q).takeWhile p) (2 + ((r0 ++ q).takeWhile p).length) ((r0 ++ q).dropWhile p)) = .tok k t n := by
      intro kind p hp hh
      split at hh
      · cases hh
      · rename_i h0
        obtain ⟨g1, rfl, rfl, rfl⟩ := endsAt_tok hh
        have he' : Ends (2 + (r0.takeWhile p).length) (2 + r0.length) q := by
          rcases he with g | g
          · left; simp at g; omega
          · exact .inr g
        have s := span_app (ends_span hp he')
        rw [s.1, s.2, if_neg h0]
        unfold endsAt
        rw [innerNext_app g1 ?_]
        · rfl
        · rcases he with g | g
          · left
            intro e0
            have := span_nil e0
            simp at g
            omega
          · exact .inr g
    simp only [List.cons_append] at *
    split at h
    · rw [if_pos (by assumption)]; exact part 7 isHex (fun _ => hex_inner) h
    · rw [if_neg (by assumption)]
      split at h
      · rw [if_pos (by assumption)]; exact part 8 isBin (fun _ => bin_inner) h
      · cases h
theorem num_ext {c : UInt8} {r q : List UInt8} {k n : Nat} {t : List UInt8} (h : numL c r = .tok k t n) (he : Ends n (1 + r.length) q) : numL c (r ++ q) = .tok k t n := by
  unfold numL at *
  split at h
  · cases h
  · rename_i h0
    have h1 : (decide (c.toNat = 48) && digitNext (r ++ q)) = true → False := by
      intro e
      cases r with
      | nil =>
        simp at h
        rcases he with g | g
        · simp at g; omega
        · simp only [List.nil_append] at e
          rw [stop_digit g] at e
          simp at e
      | cons a r' => exact h0 e
    rw [if_neg (by intro e; exact h1 e)]
    split at h
    · rename_i hd
      injection h with e1 e2 e3
      subst e3
      have g : stop q = true := by
        rcases he with g | g
        · have := span_nil hd; omega
        · exact g
      have s := span_app (p := isDigit) (r := r) (q := q) (.inr (stop_not (fun _ => digit_inner) g))
      rw [s.1, s.2, hd, List.nil_append]
      cases q with
      | nil => simp [← e1, ← e2]
      | cons a q' =>
        have hi := stop_inner g
        have ha : a.toNat ≠ 46 := dot_inner hi
        simp only [ha, decide_false, Bool.false_and, Bool.false_eq_true, if_false]
        unfold endsAt
        rw [hi, ← e1, ← e2]
        rfl
    · rename_i a r0 hd
      have s := span_app (p := isDigit) (r := r) (q := q) (.inl (by rw [hd]; simp))
      rw [s.1, s.2, hd, List.cons_append]
      dsimp only
      have hlen := span_len isDigit r
      rw [hd] at hlen
      simp only [List.length_cons] at hlen
      split at h
      · rename_i hdot
        obtain ⟨g1, rfl, rfl, rfl⟩ := endsAt_tok h
        have hne : r0 ≠ [] := by
          intro e
          subst e
          simp [digitNext] at hdot
        rw [digitNext_app hne, if_pos hdot]
        have he' : Ends ((2 + (r.takeWhile isDigit).length) + (r0.takeWhile isDigit).length) ((2 + (r.takeWhile isDigit).length) + r0.length) q := by
          rcases he with g | g
          · left; omega
          · exact .inr g
        have s2 := span_app (ends_span (fun _ => digit_inner) he')
        rw [s2.1, s2.2]
        unfold endsAt
        rw [innerNext_app g1 ?_]
        · rfl
        · rcases he with g | g
          · left
            intro e0
            have := span_nil e0
            omega
          · exact .inr g
      · rename_i hdot
        obtain ⟨g1, rfl, rfl, rfl⟩ := endsAt_tok h
        have ha : a.toNat ≠ 46 := dot_inner g1
        simp only [ha, decide_false, Bool.false_and, Bool.false_eq_true, if_false]
        unfold endsAt
        rw [show innerNext (a :: (r0 ++ q)) = false from g1]
        rfl
theorem str_ext : ∀ (m : Nat) (r : List UInt8) (a : Nat) (acc : List UInt8) (q : List UInt8) (k n : Nat) (t : List UInt8), r.length ≤ m → strL r a acc = .tok k t n → (n < a + r.length ∨ stop q = true) → strL (r ++ q) a acc = .tok k t n := by
  intro m
  induction m with
  | zero =>
    intro r a acc q k n t hm h
    have : r = [] := List.eq_nil_of_length_eq_zero (by omega)
    subst this
    simp [strL] at h
  | succ m ih =>
    intro r a acc q k n t hm h he
    cases r with
    | nil => simp [strL] at h
    | cons c r' =>
      rw [List.cons_append]
      unfold strL at h ⊢
      split at h
      · rw [if_pos (by assumption)]
        split at h
        · rw [if_pos (by assumption)]
          cases r' with
          | nil =>
            injection h with e1 e2 e3
            subst e3
            simp only [List.length_cons, List.length_nil] at he
            have g : stop q = true := by
              rcases he with g | g
              · omega
              · exact g
            cases q with
            | nil => simp [← e1, ← e2]
            | cons d q' =>
              have hd : ¬ d.toNat = 34 := by
                unfold stop at g
                simp at g
                exact g.2
              simp [hd, ← e1, ← e2]
          | cons d r'' =>
            rw [List.cons_append]
            dsimp only at h ⊢
            split at h
            · rw [if_pos (by assumption)]
              refine ih r'' (a + 2) _ q k n t (by simp at hm; omega) h ?_
              simp only [List.length_cons] at he
              rcases he with g | g
              · left; omega
              · exact .inr g
            · rw [if_neg (by assumption)]
              exact h
        · rw [if_neg (by assumption)]
          refine ih r' (a + 1) _ q k n t (by simp at hm; omega) h ?_
          simp only [List.length_cons] at he
          rcases he with g | g
          · left; omega
          · exact .inr g
      · cases h
/-- what comes behind a token that ends changes nothing of it -/
theorem scan_ext {s q : List UInt8} {k n : Nat} {t : List UInt8} (h : scan s = .tok k t n) (he : Ends n s.length q) : scan (s ++ q) = .tok k t n := by
  cases s with
  | nil => simp [scan] at h
  | cons c r =>
    have he' : Ends n (1 + r.length) q := by rw [Nat.add_comm]; exact he
    rw [List.cons_append]
    unfold scan at h ⊢
    dsimp only at h ⊢
    split at h
    · rw [if_pos (by assumption)]; exact h
    rw [if_neg (by assumption)]
    split at h
    · rw [if_pos (by assumption)]; exact h
    rw [if_neg (by assumption)]
    split at h
    · rw [if_pos (by assumption)]; exact num_ext h he'
    rw [if_neg (by assumption)]
    split at h
    · rw [if_pos (by assumption)]; exact hash_ext h he'
    rw [if_neg (by assumption)]
    split at h
    · rw [if_pos (by assumption)]; exact str_ext _ r 1 [] q k n t (Nat.le_refl _) h he'
    rw [if_neg (by assumption)]
    split at h
    · rw [if_pos (by assumption)]; exact bar_ext h
    rw [if_neg (by assumption)]
    split at h
    · rw [if_pos (by assumption)]; exact key_ext h he'
    rw [if_neg (by assumption)]
    split at h
    · rw [if_pos (by assumption)]; exact word_ext h he'
    · cases h
end Go.Proofs.YtcikleomipbkmaaDoor.tk
