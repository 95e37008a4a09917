/- Tokens of a text, by bytes: what stands at a place, and what a whole text is. Plain definitions and mathematics. -/
import Derived.WalkKit
namespace Go.Proofs.YtmnllioeaaimcaaDoor.tk

def isDigit (c : UInt8) : Bool := decide (48 ≤ c.toNat) && decide (c.toNat ≤ 57)
def isBlank (c : UInt8) : Bool := decide (c.toNat = 9) || (decide (c.toNat = 10) || (decide (c.toNat = 13) || decide (c.toNat = 32)))
def marks : List UInt8 := [126, 33, 64, 36, 37, 94, 38, 42, 95, 45, 43, 61, 60, 62, 46, 63, 47]
def isInner (c : UInt8) : Bool := marks.contains c || (isDigit c || ((decide (65 ≤ c.toNat) && decide (c.toNat ≤ 90)) || (decide (97 ≤ c.toNat) && decide (c.toNat ≤ 122))))
def isHex (c : UInt8) : Bool := isDigit c || ((decide (65 ≤ c.toNat) && decide (c.toNat ≤ 70)) || (decide (97 ≤ c.toNat) && decide (c.toNat ≤ 102)))
def isBin (c : UInt8) : Bool := decide (c.toNat = 48) || decide (c.toNat = 49)
def isPlain (c : UInt8) : Bool := decide (c.toNat = 9) || (decide (c.toNat = 10) || (decide (c.toNat = 13) || (decide (32 ≤ c.toNat) && decide (c.toNat ≤ 126))))
def isBar (c : UInt8) : Bool := isPlain c && (!decide (c.toNat = 92) && !decide (c.toNat = 124))

/-- a comment, up to the byte 10 that ends it -/
def notLine (c : UInt8) : Bool := !decide (c.toNat = 10)
/-- without blanks and comments ahead -/
def skipL : List UInt8 → List UInt8
  | [] => []
  | c :: r => if isBlank c then skipL r else if c.toNat = 59 then skipL (r.dropWhile notLine) else c :: r
termination_by l => l.length
decreasing_by
  · simp
  · have := (List.dropWhile_sublist notLine (l := r)).length_le
    simp; omega

/-- what stands at a place: a token (its kind, its text, how many bytes it has), or the byte that is wrong -/
inductive Sc where
  | tok (kind : Nat) (text : List UInt8) (n : Nat)
  | bad (n : Nat)
  deriving Repr, DecidableEq
/-- does a symbol's byte come next? -/
def innerNext (l : List UInt8) : Bool := match l with | [] => false | c :: _ => isInner c
def digitNext (l : List UInt8) : Bool := match l with | [] => false | c :: _ => isDigit c
/-- behind a string's first mark: its text, and how many bytes; or how many bytes up to the wrong one -/
def strL : List UInt8 → Nat → List UInt8 → Sc
  | [], n, _ => .bad n
  | c :: r, n, acc =>
    if isPlain c then
      if c.toNat = 34 then
        match r with
        | [] => .tok 9 acc.reverse (n + 1)
        | d :: r' => if d.toNat = 34 then strL r' (n + 2) (34 :: acc) else .tok 9 acc.reverse (n + 1)
      else strL r (n + 1) (c :: acc)
    else .bad n
def reservedWords : List (List UInt8) := [[95], [33], [97, 115], [108, 101, 116], [101, 120, 105, 115, 116, 115], [102, 111, 114, 97, 108, 108], [109, 97, 116, 99, 104], [112, 97, 114], [66, 73, 78, 65, 82, 89], [68, 69, 67, 73, 77, 65, 76], [72, 69, 88, 65, 68, 69, 67, 73, 77, 65, 76], [78, 85, 77, 69, 82, 65, 76], [83, 84, 82, 73, 78, 71]]
def endsAt (kind : Nat) (text : List UInt8) (n : Nat) (rest : List UInt8) : Sc := if innerNext rest then .bad n else .tok kind text n
/-- a number's token: its first digit, and what is behind it -/
def numL (c : UInt8) (r : List UInt8) : Sc :=
  if c.toNat = 48 && digitNext r then .bad 1 else
  match r.dropWhile isDigit with
  | [] => .tok 5 (c :: r.takeWhile isDigit) (1 + (r.takeWhile isDigit).length)
  | p :: q => if p.toNat = 46 && digitNext q then
      endsAt 6 (c :: r.takeWhile isDigit ++ p :: q.takeWhile isDigit) (2 + (r.takeWhile isDigit).length + (q.takeWhile isDigit).length) (q.dropWhile isDigit)
    else endsAt 5 (c :: r.takeWhile isDigit) (1 + (r.takeWhile isDigit).length) (p :: q)
def hashL (r : List UInt8) : Sc :=
  match r with
  | [] => .bad 1
  | e :: q =>
    if e.toNat = 120 then (if (q.takeWhile isHex).length = 0 then .bad 2 else endsAt 7 (q.takeWhile isHex) (2 + (q.takeWhile isHex).length) (q.dropWhile isHex))
    else if e.toNat = 98 then (if (q.takeWhile isBin).length = 0 then .bad 2 else endsAt 8 (q.takeWhile isBin) (2 + (q.takeWhile isBin).length) (q.dropWhile isBin))
    else .bad 1
def barL (r : List UInt8) : Sc :=
  match r.dropWhile isBar with
  | [] => .bad (1 + (r.takeWhile isBar).length)
  | e :: _ => if e.toNat = 124 then .tok 3 (r.takeWhile isBar) (2 + (r.takeWhile isBar).length) else .bad (1 + (r.takeWhile isBar).length)
def keyL (r : List UInt8) : Sc := if (r.takeWhile isInner).length = 0 then .bad 1 else .tok 10 (r.takeWhile isInner) (1 + (r.takeWhile isInner).length)
def wordL (c : UInt8) (r : List UInt8) : Sc :=
  .tok (if reservedWords.contains (c :: r.takeWhile isInner) then 4 else 3) (c :: r.takeWhile isInner) (1 + (r.takeWhile isInner).length)
def scan : List UInt8 → Sc
  | [] => .bad 0
  | c :: r =>
    if c.toNat = 40 then .tok 1 [c] 1 else
    if c.toNat = 41 then .tok 2 [c] 1 else
    if isDigit c then numL c r else
    if c.toNat = 35 then hashL r else
    if c.toNat = 34 then strL r 1 [] else
    if c.toNat = 124 then barL r else
    if c.toNat = 58 then keyL r else
    if isInner c then wordL c r else .bad 0

structure Tk where
  kind : Nat
  text : List UInt8
  at_ : Nat
  deriving Repr, DecidableEq
/-- the tokens from a place on: or the place of the first byte that is wrong -/
def readF : Nat → List UInt8 → Nat → Except Nat (List Tk)
  | 0, _, _ => .ok []
  | f + 1, l, p =>
    match skipL l with
    | [] => .ok []
    | c :: r => match scan (c :: r) with
      | .bad n => .error (p + (l.length - (c :: r).length) + n)
      | .tok k t n => match readF f ((c :: r).drop n) (p + (l.length - (c :: r).length) + n) with
        | .error e => .error e
        | .ok ts => .ok (⟨k, t, p + (l.length - (c :: r).length)⟩ :: ts)
def readL (l : List UInt8) : Except Nat (List Tk) := readF (l.length + 1) l 0
end Go.Proofs.YtmnllioeaaimcaaDoor.tk

/- Tokens of a text: bounds, and that what comes behind a token changes nothing of it. Plain mathematics. -/
namespace Go.Proofs.YtmnllioeaaimcaaDoor.tk

/-- nothing comes, or a byte that can't go on with a token -/
def stop (q : List UInt8) : Bool := match q with | [] => true | c :: _ => !isInner c && !decide (c.toNat = 34)
theorem span_app {p : UInt8 → Bool} {r q : List UInt8} (h : r.dropWhile p ≠ [] ∨ ∀ c q', q = c :: q' → p c = false) :
    (r ++ q).takeWhile p = r.takeWhile p ∧ (r ++ q).dropWhile p = r.dropWhile p ++ q := by
  induction r with
  | nil =>
    have h2 : ∀ c q', q = c :: q' → p c = false := by
      rcases h with h | h
      · simp at h
      · exact h
    cases q with
    | nil => simp
    | cons c q' =>
      have := h2 c q' rfl
      simp [this]
  | cons a r ih =>
    cases ha : p a
    · simp [ha]
    · have h3 : r.dropWhile p ≠ [] ∨ ∀ c q', q = c :: q' → p c = false := by
        rcases h with h | h
        · left; simpa [ha] using h
        · exact .inr h
      have := ih h3
      simp [ha, this.1, this.2]
theorem span_len (p : UInt8 → Bool) (r : List UInt8) : (r.takeWhile p).length + (r.dropWhile p).length = r.length := by
  have := congrArg List.length (List.takeWhile_append_dropWhile (p := p) (l := r))
  rw [List.length_append] at this
  exact this
theorem span_nil {p : UInt8 → Bool} {r : List UInt8} (h : r.dropWhile p = []) : (r.takeWhile p).length = r.length := by
  have := span_len p r
  rw [h] at this
  simpa using this
theorem digit_inner {c : UInt8} (h : isInner c = false) : isDigit c = false := by
  unfold isInner at h
  simp only [Bool.or_eq_false_iff] at h
  exact h.2.1
theorem hex_inner {c : UInt8} (h : isInner c = false) : isHex c = false := by
  have hd := digit_inner h
  unfold isInner at h
  unfold isHex
  simp only [Bool.or_eq_false_iff, Bool.and_eq_false_iff, decide_eq_false_iff_not] at h ⊢
  refine ⟨hd, ?_, ?_⟩ <;> omega
theorem bin_inner {c : UInt8} (h : isInner c = false) : isBin c = false := by
  have hd := digit_inner h
  unfold isBin
  unfold isDigit at hd
  simp only [Bool.or_eq_false_iff, Bool.and_eq_false_iff, decide_eq_false_iff_not] at hd ⊢
  omega
theorem dot_inner {c : UInt8} (h : isInner c = false) : c.toNat ≠ 46 := by
  intro e
  have : c = 46 := by
    apply UInt8.toNat_inj.1
    exact e
  subst this
  exact absurd h (by decide)
theorem stop_not {p : UInt8 → Bool} (hp : ∀ c, isInner c = false → p c = false) {q : List UInt8} (h : stop q = true) : ∀ c q', q = c :: q' → p c = false := by
  intro c q' e
  subst e
  unfold stop at h
  simp only [Bool.and_eq_true, Bool.not_eq_true'] at h
  exact hp c h.1
theorem stop_inner {q : List UInt8} (h : stop q = true) : innerNext q = false := by
  cases q with
  | nil => rfl
  | cons c q' =>
    unfold stop at h
    simp only [Bool.and_eq_true, Bool.not_eq_true'] at h
    exact h.1
theorem stop_digit {q : List UInt8} (h : stop q = true) : digitNext q = false := by
  cases q with
  | nil => rfl
  | cons c q' => exact stop_not (p := isDigit) (fun _ => digit_inner) h c q' rfl
/-- behind it there is something of the text, or what comes can't go on with it -/
def Ends (n len : Nat) (q : List UInt8) : Prop := n < len ∨ stop q = true
theorem ends_span {p : UInt8 → Bool} (hp : ∀ c, isInner c = false → p c = false) {r q : List UInt8} {a : Nat} (h : Ends (a + (r.takeWhile p).length) (a + r.length) q) : r.dropWhile p ≠ [] ∨ ∀ c q', q = c :: q' → p c = false := by
  rcases h with h | h
  · left
    intro e
    have := span_nil e
    omega
  · exact .inr (stop_not hp h)
theorem endsAt_tok {kind k n m : Nat} {t t' rest : List UInt8} (h : endsAt kind t n rest = .tok k t' m) : innerNext rest = false ∧ kind = k ∧ t = t' ∧ n = m := by
  unfold endsAt at h
  split at h
  · cases h
  · rename_i hn
    injection h with h1 h2 h3
    exact ⟨by simpa using hn, h1, h2, h3⟩
theorem innerNext_app {r q : List UInt8} (h : innerNext r = false) (hq : r ≠ [] ∨ stop q = true) : innerNext (r ++ q) = false := by
  cases r with
  | nil => exact stop_inner (hq.resolve_left (by simp))
  | cons c r' => exact h
theorem digitNext_app {r q : List UInt8} (h : r ≠ []) : digitNext (r ++ q) = digitNext r := by
  cases r with
  | nil => exact absurd rfl h
  | cons c r' => rfl

theorem word_ext {c : UInt8} {r q : List UInt8} {k n : Nat} {t : List UInt8} (h : wordL c r = .tok k t n) (he : Ends n (1 + r.length) q) : wordL c (r ++ q) = .tok k t n := by
  unfold wordL at *
  injection h with h1 h2 h3
  subst h3
  have := span_app (p := isInner) (ends_span (fun _ h => h) he)
  rw [this.1, ← h1, ← h2]
theorem key_ext {r q : List UInt8} {k n : Nat} {t : List UInt8} (h : keyL r = .tok k t n) (he : Ends n (1 + r.length) q) : keyL (r ++ q) = .tok k t n := by
  unfold keyL at *
  split at h
  · cases h
  · rename_i h0
    injection h with h1 h2 h3
    subst h3
    have := span_app (p := isInner) (ends_span (fun _ h => h) he)
    rw [this.1, if_neg h0, ← h1, ← h2]
theorem bar_ext {r q : List UInt8} {k n : Nat} {t : List UInt8} (h : barL r = .tok k t n) : barL (r ++ q) = .tok k t n := by
  unfold barL at *
  split at h
  · cases h
  · rename_i e r' hd
    have := span_app (p := isBar) (r := r) (q := q) (.inl (by rw [hd]; simp))
    rw [this.1, this.2, hd]
    exact h
theorem hash_ext {r q : List UInt8} {k n : Nat} {t : List UInt8} (h : hashL r = .tok k t n) (he : Ends n (1 + r.length) q) : hashL (r ++ q) = .tok k t n := by
  unfold hashL at *
  cases r with
  | nil => cases h
  | cons e r0 =>
    have part : ∀ (kind : Nat) (p : UInt8 → Bool), (∀ c, isInner c = false → p c = false) → (if (r0.takeWhile p).length = 0 then Sc.bad 2 else endsAt kind (r0.takeWhile p) (2 + (r0.takeWhile p).length) (r0.dropWhile p)) = .tok k t n → (if ((r0 ++ q).takeWhile p).length = 0 then Sc.bad 2 else endsAt kind ((r0 ++ q).takeWhile p) (2 + ((r0 ++ q).takeWhile p).length) ((r0 ++ q).dropWhile p)) = .tok k t n := by
      intro kind p hp hh
      split at hh
      · cases hh
      · rename_i h0
        obtain ⟨g1, rfl, rfl, rfl⟩ := endsAt_tok hh
        have he' : Ends (2 + (r0.takeWhile p).length) (2 + r0.length) q := by
          rcases he with g | g
          · left; simp at g; omega
          · exact .inr g
        have s := span_app (ends_span hp he')
        rw [s.1, s.2, if_neg h0]
        unfold endsAt
        rw [innerNext_app g1 ?_]
        · rfl
        · rcases he with g | g
          · left
            intro e0
            have := span_nil e0
            simp at g
            omega
          · exact .inr g
    simp only [List.cons_append] at *
    split at h
    · rw [if_pos (by assumption)]; exact part 7 isHex (fun _ => hex_inner) h
    · rw [if_neg (by assumption)]
      split at h
      · rw [if_pos (by assumption)]; exact part 8 isBin (fun _ => bin_inner) h
      · cases h
theorem num_ext {c : UInt8} {r q : List UInt8} {k n : Nat} {t : List UInt8} (h : numL c r = .tok k t n) (he : Ends n (1 + r.length) q) : numL c (r ++ q) = .tok k t n := by
  unfold numL at *
  split at h
  · cases h
  · rename_i h0
    have h1 : (decide (c.toNat = 48) && digitNext (r ++ q)) = true → False := by
      intro e
      cases r with
      | nil =>
        simp at h
        rcases he with g | g
        · simp at g; omega
        · simp only [List.nil_append] at e
          rw [stop_digit g] at e
          simp at e
      | cons a r' => exact h0 e
    rw [if_neg (by intro e; exact h1 e)]
    split at h
    · rename_i hd
      injection h with e1 e2 e3
      subst e3
      have g : stop q = true := by
        rcases he with g | g
        · have := span_nil hd; omega
        · exact g
      have s := span_app (p := isDigit) (r := r) (q := q) (.inr (stop_not (fun _ => digit_inner) g))
      rw [s.1, s.2, hd, List.nil_append]
      cases q with
      | nil => simp [← e1, ← e2]
      | cons a q' =>
        have hi := stop_inner g
        have ha : a.toNat ≠ 46 := dot_inner hi
        simp only [ha, decide_false, Bool.false_and, Bool.false_eq_true, if_false]
        unfold endsAt
        rw [hi, ← e1, ← e2]
        rfl
    · rename_i a r0 hd
      have s := span_app (p := isDigit) (r := r) (q := q) (.inl (by rw [hd]; simp))
      rw [s.1, s.2, hd, List.cons_append]
      dsimp only
      have hlen := span_len isDigit r
      rw [hd] at hlen
      simp only [List.length_cons] at hlen
      split at h
      · rename_i hdot
        obtain ⟨g1, rfl, rfl, rfl⟩ := endsAt_tok h
        have hne : r0 ≠ [] := by
          intro e
          subst e
          simp [digitNext] at hdot
        rw [digitNext_app hne, if_pos hdot]
        have he' : Ends ((2 + (r.takeWhile isDigit).length) + (r0.takeWhile isDigit).length) ((2 + (r.takeWhile isDigit).length) + r0.length) q := by
          rcases he with g | g
          · left; omega
          · exact .inr g
        have s2 := span_app (ends_span (fun _ => digit_inner) he')
        rw [s2.1, s2.2]
        unfold endsAt
        rw [innerNext_app g1 ?_]
        · rfl
        · rcases he with g | g
          · left
            intro e0
            have := span_nil e0
            omega
          · exact .inr g
      · rename_i hdot
        obtain ⟨g1, rfl, rfl, rfl⟩ := endsAt_tok h
        have ha : a.toNat ≠ 46 := dot_inner g1
        simp only [ha, decide_false, Bool.false_and, Bool.false_eq_true, if_false]
        unfold endsAt
        rw [show innerNext (a :: (r0 ++ q)) = false from g1]
        rfl
theorem str_ext : ∀ (m : Nat) (r : List UInt8) (a : Nat) (acc : List UInt8) (q : List UInt8) (k n : Nat) (t : List UInt8), r.length ≤ m → strL r a acc = .tok k t n → (n < a + r.length ∨ stop q = true) → strL (r ++ q) a acc = .tok k t n := by
  intro m
  induction m with
  | zero =>
    intro r a acc q k n t hm h
    have : r = [] := List.eq_nil_of_length_eq_zero (by omega)
    subst this
    simp [strL] at h
  | succ m ih =>
    intro r a acc q k n t hm h he
    cases r with
    | nil => simp [strL] at h
    | cons c r' =>
      rw [List.cons_append]
      unfold strL at h ⊢
      split at h
      · rw [if_pos (by assumption)]
        split at h
        · rw [if_pos (by assumption)]
          cases r' with
          | nil =>
            injection h with e1 e2 e3
            subst e3
            simp only [List.length_cons, List.length_nil] at he
            have g : stop q = true := by
              rcases he with g | g
              · omega
              · exact g
            cases q with
            | nil => simp [← e1, ← e2]
            | cons d q' =>
              have hd : ¬ d.toNat = 34 := by
                unfold stop at g
                simp at g
                exact g.2
              simp [hd, ← e1, ← e2]
          | cons d r'' =>
            rw [List.cons_append]
            dsimp only at h ⊢
            split at h
            · rw [if_pos (by assumption)]
              refine ih r'' (a + 2) _ q k n t (by simp at hm; omega) h ?_
              simp only [List.length_cons] at he
              rcases he with g | g
              · left; omega
              · exact .inr g
            · rw [if_neg (by assumption)]
              exact h
        · rw [if_neg (by assumption)]
          refine ih r' (a + 1) _ q k n t (by simp at hm; omega) h ?_
          simp only [List.length_cons] at he
          rcases he with g | g
          · left; omega
          · exact .inr g
      · cases h
/-- what comes behind a token that ends changes nothing of it -/
theorem scan_ext {s q : List UInt8} {k n : Nat} {t : List UInt8} (h : scan s = .tok k t n) (he : Ends n s.length q) : scan (s ++ q) = .tok k t n := by
  cases s with
  | nil => simp [scan] at h
  | cons c r =>
    have he' : Ends n (1 + r.length) q := by rw [Nat.add_comm]; exact he
    rw [List.cons_append]
    unfold scan at h ⊢
    dsimp only at h ⊢
    split at h
    · rw [if_pos (by assumption)]; exact h
    rw [if_neg (by assumption)]
    split at h
    · rw [if_pos (by assumption)]; exact h
    rw [if_neg (by assumption)]
    split at h
    · rw [if_pos (by assumption)]; exact num_ext h he'
    rw [if_neg (by assumption)]
    split at h
    · rw [if_pos (by assumption)]; exact hash_ext h he'
    rw [if_neg (by assumption)]
    split at h
    · rw [if_pos (by assumption)]; exact str_ext _ r 1 [] q k n t (Nat.le_refl _) h he'
    rw [if_neg (by assumption)]
    split at h
    · rw [if_pos (by assumption)]; exact bar_ext h
    rw [if_neg (by assumption)]
    split at h
    · rw [if_pos (by assumption)]; exact key_ext h he'
    rw [if_neg (by assumption)]
    split at h
    · rw [if_pos (by assumption)]; exact word_ext h he'
    · cases h
end Go.Proofs.YtmnllioeaaimcaaDoor.tk

/- Tokens of a text: a whole text, words of tokens among blanks, texts that are cut. Plain mathematics. -/
namespace Go.Proofs.YtmnllioeaaimcaaDoor.tk

theorem endsAt_bad {kind n m : Nat} {t rest : List UInt8} (h : endsAt kind t n rest = .bad m) : n = m ∧ rest ≠ [] := by
  unfold endsAt at h
  split at h
  · rename_i hn
    injection h with h1
    refine ⟨h1, fun e => ?_⟩
    subst e
    simp [innerNext] at hn
  · cases h
/-- a string doubled where it has the mark -/
def esc : List UInt8 → List UInt8
  | [] => []
  | c :: r => if c.toNat = 34 then c :: c :: esc r else c :: esc r
theorem esc_append (a b : List UInt8) : esc (a ++ b) = esc a ++ esc b := by
  induction a with
  | nil => rfl
  | cons c a ih =>
    simp only [List.cons_append, esc]
    split <;> simp [ih]
theorem esc_le (a : List UInt8) : a.length ≤ (esc a).length := by
  induction a with
  | nil => simp [esc]
  | cons c a ih =>
    simp only [esc]
    split <;> simp <;> omega
theorem str_len : ∀ (m : Nat) (r : List UInt8) (a : Nat) (acc : List UInt8), r.length ≤ m →
    (∀ k n t, strL r a acc = .tok k t n → n = a + (esc t).length + 1 - (esc acc.reverse).length ∧ (esc acc.reverse).length ≤ (esc t).length ∧ n ≤ a + r.length ∧ a + 1 ≤ n) ∧ (∀ n, strL r a acc = .bad n → n ≤ a + r.length) := by
  intro m
  induction m with
  | zero =>
    intro r a acc hm
    have : r = [] := List.eq_nil_of_length_eq_zero (by omega)
    subst this
    refine ⟨fun k n t h => by simp [strL] at h, fun n h => ?_⟩
    simp only [strL] at h
    injection h with h
    omega
  | succ m ih =>
    intro r a acc hm
    cases r with
    | nil =>
      refine ⟨fun k n t h => by simp [strL] at h, fun n h => ?_⟩
      simp only [strL] at h
      injection h with h
      omega
    | cons c r' =>
      simp only [List.length_cons] at hm
      refine ⟨fun k n t h => ?_, fun n h => ?_⟩
      · unfold strL at h
        split at h
        · split at h
          · rename_i h34
            cases r' with
            | nil =>
              injection h with e1 e2 e3
              subst e2 e3
              simp; omega
            | cons d r'' =>
              dsimp only at h
              split at h
              · have := (ih r'' (a + 2) (34 :: acc) (by simp at hm; omega)).1 k n t h
                rw [List.reverse_cons, esc_append, List.length_append] at this
                have e34 : (esc [34]).length = 2 := by decide
                rw [e34] at this
                simp only [List.length_cons]
                omega
              · injection h with e1 e2 e3
                subst e2 e3
                simp; omega
          · rename_i h34
            have := (ih r' (a + 1) (c :: acc) (by omega)).1 k n t h
            rw [List.reverse_cons, esc_append, List.length_append] at this
            have e1 : (esc [c]).length = 1 := by simp [esc, h34]
            rw [e1] at this
            simp only [List.length_cons]
            omega
        · cases h
      · unfold strL at h
        split at h
        · split at h
          · cases r' with
            | nil => cases h
            | cons d r'' =>
              dsimp only at h
              split at h
              · have := (ih r'' (a + 2) (34 :: acc) (by simp at hm; omega)).2 n h
                simp only [List.length_cons]
                omega
              · cases h
          · have := (ih r' (a + 1) (c :: acc) (by omega)).2 n h
            simp only [List.length_cons]
            omega
        · injection h with h
          omega
theorem num_len (c : UInt8) (r : List UInt8) : (∀ k n t, numL c r = .tok k t n → 1 ≤ n ∧ n ≤ 1 + r.length ∧ t.length = n) ∧ (∀ n, numL c r = .bad n → n ≤ 1 + r.length) := by
  have hl := span_len isDigit r
  unfold numL
  split
  · exact ⟨fun k n t h => by (cases h), fun n h => by injection h with h; omega⟩
  · split
    · rename_i hd
      rw [hd] at hl
      exact ⟨fun k n t h => by injection h with e1 e2 e3; subst e2 e3; simp at *; omega, fun n h => by cases h⟩
    · rename_i a q hd
      rw [hd] at hl
      have hq := span_len isDigit q
      simp only [List.length_cons] at hl
      split
      · refine ⟨fun k n t h => ?_, fun n h => ?_⟩
        · obtain ⟨_, _, e2, e3⟩ := endsAt_tok h
          subst e2 e3
          simp; omega
        · have := (endsAt_bad h).1; omega
      · refine ⟨fun k n t h => ?_, fun n h => ?_⟩
        · obtain ⟨_, _, e2, e3⟩ := endsAt_tok h
          subst e2 e3
          simp; omega
        · have := (endsAt_bad h).1; omega
theorem hash_len (r : List UInt8) : (∀ k n t, hashL r = .tok k t n → 1 ≤ n ∧ n ≤ 1 + r.length ∧ n = 2 + t.length) ∧ (∀ n, hashL r = .bad n → n ≤ 1 + r.length) := by
  unfold hashL
  cases r with
  | nil => exact ⟨fun k n t h => by (cases h), fun n h => by injection h with h; omega⟩
  | cons e q =>
    dsimp only
    have part : ∀ (kind : Nat) (p : UInt8 → Bool), (∀ k n t, (if (q.takeWhile p).length = 0 then Sc.bad 2 else endsAt kind (q.takeWhile p) (2 + (q.takeWhile p).length) (q.dropWhile p)) = .tok k t n → 1 ≤ n ∧ n ≤ 1 + (e :: q).length ∧ n = 2 + t.length) ∧ (∀ n, (if (q.takeWhile p).length = 0 then Sc.bad 2 else endsAt kind (q.takeWhile p) (2 + (q.takeWhile p).length) (q.dropWhile p)) = .bad n → n ≤ 1 + (e :: q).length) := by
      intro kind p
      have hl := span_len p q
      simp only [List.length_cons]
      refine ⟨fun k n t h => ?_, fun n h => ?_⟩
      · split at h
        · cases h
        · obtain ⟨_, _, e2, e3⟩ := endsAt_tok h
          subst e2 e3
          omega
      · split at h
        · injection h with h; omega
        · have := (endsAt_bad h).1; omega
    split
    · exact part 7 isHex
    · split
      · exact part 8 isBin
      · exact ⟨fun k n t h => by (cases h), fun n h => by injection h with h; omega⟩
theorem bar_len (r : List UInt8) : (∀ k n t, barL r = .tok k t n → 1 ≤ n ∧ n ≤ 1 + r.length ∧ n = 2 + t.length) ∧ (∀ n, barL r = .bad n → n ≤ 1 + r.length) := by
  have hl := span_len isBar r
  unfold barL
  split
  · rename_i hd
    rw [hd] at hl
    exact ⟨fun k n t h => by (cases h), fun n h => by injection h with h; simp at hl; omega⟩
  · rename_i e q hd
    rw [hd] at hl
    simp only [List.length_cons] at hl
    split
    · exact ⟨fun k n t h => by injection h with e1 e2 e3; subst e2 e3; omega, fun n h => by cases h⟩
    · exact ⟨fun k n t h => by (cases h), fun n h => by injection h with h; omega⟩
theorem key_len (r : List UInt8) : (∀ k n t, keyL r = .tok k t n → 1 ≤ n ∧ n ≤ 1 + r.length ∧ n = 1 + t.length) ∧ (∀ n, keyL r = .bad n → n ≤ 1 + r.length) := by
  have hl := span_len isInner r
  unfold keyL
  split
  · exact ⟨fun k n t h => by (cases h), fun n h => by injection h with h; omega⟩
  · exact ⟨fun k n t h => by injection h with e1 e2 e3; subst e2 e3; omega, fun n h => by cases h⟩
/-- a token has at least one byte, and none that the text hasn't; a wrong byte is within the text, or at its end -/
theorem scan_len {s : List UInt8} : (∀ k n t, scan s = .tok k t n → 1 ≤ n ∧ n ≤ s.length ∧ t.length ≤ n) ∧ (∀ n, scan s = .bad n → n ≤ s.length) := by
  cases s with
  | nil => exact ⟨fun k n t h => by simp [scan] at h, fun n h => by simp only [scan] at h; injection h with h; omega⟩
  | cons c r =>
    have cmm : (c :: r).length = 1 + r.length := by rw [List.length_cons]; omega
    rw [cmm]
    unfold scan
    dsimp only
    split
    · exact ⟨fun k n t h => by injection h with e1 e2 e3; subst e2 e3; simp, fun n h => by cases h⟩
    split
    · exact ⟨fun k n t h => by injection h with e1 e2 e3; subst e2 e3; simp, fun n h => by cases h⟩
    split
    · have := num_len c r
      exact ⟨fun k n t h => by have := this.1 k n t h; omega, this.2⟩
    split
    · have := hash_len r
      exact ⟨fun k n t h => by have := this.1 k n t h; omega, this.2⟩
    split
    · have := str_len _ r 1 [] (Nat.le_refl _)
      refine ⟨fun k n t h => ?_, this.2⟩
      have g := this.1 k n t h
      have := esc_le t
      simp only [List.reverse_nil, esc, List.length_nil] at g
      omega
    split
    · have := bar_len r
      exact ⟨fun k n t h => by have := this.1 k n t h; omega, this.2⟩
    split
    · have := key_len r
      exact ⟨fun k n t h => by have := this.1 k n t h; omega, this.2⟩
    split
    · have hl := span_len isInner r
      unfold wordL
      exact ⟨fun k n t h => by injection h with e1 e2 e3; subst e2 e3; simp; omega, fun n h => by cases h⟩
    · exact ⟨fun k n t h => by (cases h), fun n h => by injection h with h; omega⟩

theorem skipL_cons (c : UInt8) (r : List UInt8) : skipL (c :: r) = if isBlank c then skipL r else if c.toNat = 59 then skipL (r.dropWhile notLine) else c :: r := by
  rw [skipL]
/-- what is left behind blanks is an end of the text -/
theorem skip_suffix : ∀ (m : Nat) (l : List UInt8), l.length ≤ m → ∃ a, l = a ++ skipL l := by
  intro m
  induction m with
  | zero =>
    intro l h
    have : l = [] := List.eq_nil_of_length_eq_zero (by omega)
    subst this
    exact ⟨[], by rw [skipL]; rfl⟩
  | succ m ih =>
    intro l h
    cases l with
    | nil => exact ⟨[], by rw [skipL]; rfl⟩
    | cons c r =>
      simp only [List.length_cons] at h
      rw [skipL_cons]
      split
      · obtain ⟨a, e⟩ := ih r (by omega)
        exact ⟨c :: a, by rw [List.cons_append, ← e]⟩
      · split
        · have hs := span_len notLine r
          obtain ⟨a, e⟩ := ih (r.dropWhile notLine) (by omega)
          refine ⟨c :: (r.takeWhile notLine ++ a), ?_⟩
          rw [List.cons_append, List.append_assoc, ← e, List.takeWhile_append_dropWhile]
        · exact ⟨[], rfl⟩
theorem skip_len (l : List UInt8) : (skipL l).length ≤ l.length := by
  obtain ⟨a, e⟩ := skip_suffix _ l (Nat.le_refl _)
  have := congrArg List.length e
  rw [List.length_append] at this
  omega
/-- blanks ahead, of which something is left, are the same with more behind -/
theorem skip_app : ∀ (m : Nat) (l q : List UInt8), l.length ≤ m → skipL l ≠ [] → skipL (l ++ q) = skipL l ++ q := by
  intro m
  induction m with
  | zero =>
    intro l q h hn
    have : l = [] := List.eq_nil_of_length_eq_zero (by omega)
    subst this
    exact absurd (by rw [skipL]) hn
  | succ m ih =>
    intro l q h hn
    cases l with
    | nil => exact absurd (by rw [skipL]) hn
    | cons c r =>
      simp only [List.length_cons] at h
      rw [List.cons_append]
      rw [skipL_cons] at hn ⊢
      rw [skipL_cons]
      split
      · rw [if_pos (by assumption)] at hn
        exact ih r q (by omega) hn
      · rename_i hb
        rw [if_neg hb] at hn
        split
        · rename_i h59
          rw [if_pos h59] at hn
          have hd : r.dropWhile notLine ≠ [] := by
            intro e
            rw [e] at hn
            exact hn (by rw [skipL])
          rw [(span_app (.inl hd)).2]
          have hs := span_len notLine r
          exact ih _ q (by omega) hn
        · rfl
end Go.Proofs.YtmnllioeaaimcaaDoor.tk

/- Tokens of a text: whole texts as a relation; words of tokens among blanks; texts that are cut. Plain mathematics. -/
namespace Go.Proofs.YtmnllioeaaimcaaDoor.tk

/-- these are the tokens of l, which stands at the place p -/
inductive Rd : List UInt8 → Nat → List Tk → Prop
  | done {l : List UInt8} {p : Nat} (h : skipL l = []) : Rd l p []
  | step {l s : List UInt8} {p k n : Nat} {t : List UInt8} {ts : List Tk} (hs : skipL l = s) (hn : s ≠ []) (h : scan s = .tok k t n) (hr : Rd (s.drop n) (p + (l.length - s.length) + n) ts) : Rd l p (⟨k, t, p + (l.length - s.length)⟩ :: ts)
/-- l, which stands at the place p, is wrong at e -/
inductive Bd : List UInt8 → Nat → Nat → Prop
  | here {l s : List UInt8} {p n : Nat} (hs : skipL l = s) (hn : s ≠ []) (h : scan s = .bad n) : Bd l p (p + (l.length - s.length) + n)
  | later {l s : List UInt8} {p k n e : Nat} {t : List UInt8} (hs : skipL l = s) (hn : s ≠ []) (h : scan s = .tok k t n) (hr : Bd (s.drop n) (p + (l.length - s.length) + n) e) : Bd l p e

theorem read_all : ∀ (f : Nat) (l : List UInt8) (p : Nat), l.length < f →
    (∀ ts, readF f l p = .ok ts ↔ Rd l p ts) ∧ (∀ e, readF f l p = .error e ↔ Bd l p e) := by
  intro f
  induction f with
  | zero => intro l p h; omega
  | succ f ih =>
    intro l p h
    have hsl := skip_len l
    unfold readF
    cases hs : skipL l with
    | nil =>
      dsimp only
      refine ⟨fun ts => ⟨fun e => ?_, fun e => ?_⟩, fun e => ⟨fun g => (by cases g), fun g => ?_⟩⟩
      · injection e with e; subst e; exact .done hs
      · cases e with
        | done _ => rfl
        | step hs' hn _ _ => rw [hs] at hs'; exact absurd hs'.symm hn
      · cases g with
        | here hs' hn _ => rw [hs] at hs'; exact absurd hs'.symm hn
        | later hs' hn _ _ => rw [hs] at hs'; exact absurd hs'.symm hn
    | cons c r =>
      rw [hs] at hsl
      dsimp only
      cases hc : scan (c :: r) with
      | bad n =>
        dsimp only
        refine ⟨fun ts => ⟨fun e => (by cases e), fun e => ?_⟩, fun e => ⟨fun g => ?_, fun g => ?_⟩⟩
        · cases e with
          | done h' => rw [hs] at h'; cases h'
          | step hs' hn h' _ => rw [hs] at hs'; subst hs'; rw [hc] at h'; cases h'
        · injection g with g; subst g; exact .here hs (by simp) hc
        · cases g with
          | here hs' hn h' => rw [hs] at hs'; subst hs'; rw [hc] at h'; injection h' with h'; subst h'; rfl
          | later hs' hn h' _ => rw [hs] at hs'; subst hs'; rw [hc] at h'; cases h'
      | tok k t n =>
        dsimp only
        have hl := scan_len.1 k n t hc
        have hlen : ((c :: r).drop n).length < f := by rw [List.length_drop]; omega
        have ih' := ih ((c :: r).drop n) (p + (l.length - (c :: r).length) + n) hlen
        cases hr : readF f ((c :: r).drop n) (p + (l.length - (c :: r).length) + n) with
        | error e' =>
          dsimp only
          have hb := (ih'.2 e').1 hr
          refine ⟨fun ts => ⟨fun e => (by cases e), fun e => ?_⟩, fun e => ⟨fun g => ?_, fun g => ?_⟩⟩
          · cases e with
            | done h' => rw [hs] at h'; cases h'
            | step hs' hn h' hr' =>
              rw [hs] at hs'; subst hs'; rw [hc] at h'; injection h' with e1 e2 e3; subst e1 e2 e3
              have := (ih'.1 _).2 hr'
              rw [hr] at this; cases this
          · injection g with g; subst g; exact .later hs (by simp) hc hb
          · cases g with
            | here hs' hn h' => rw [hs] at hs'; subst hs'; rw [hc] at h'; cases h'
            | later hs' hn h' hr' =>
              rw [hs] at hs'; subst hs'; rw [hc] at h'; injection h' with e1 e2 e3; subst e1 e2 e3
              have := (ih'.2 _).2 hr'
              rw [hr] at this; injection this with this; rw [this]
        | ok ts' =>
          dsimp only
          have hb := (ih'.1 ts').1 hr
          refine ⟨fun ts => ⟨fun e => ?_, fun e => ?_⟩, fun e => ⟨fun g => (by cases g), fun g => ?_⟩⟩
          · injection e with e; subst e; exact .step hs (by simp) hc hb
          · cases e with
            | done h' => rw [hs] at h'; cases h'
            | step hs' hn h' hr' =>
              rw [hs] at hs'; subst hs'; rw [hc] at h'; injection h' with e1 e2 e3; subst e1 e2 e3
              have := (ih'.1 _).2 hr'
              rw [hr] at this; injection this with this; rw [this]
          · cases g with
            | here hs' hn h' => rw [hs] at hs'; subst hs'; rw [hc] at h'; cases h'
            | later hs' hn h' hr' =>
              rw [hs] at hs'; subst hs'; rw [hc] at h'; injection h' with e1 e2 e3; subst e1 e2 e3
              have := (ih'.2 _).2 hr'
              rw [hr] at this; cases this
theorem readL_ok {l : List UInt8} {ts : List Tk} : readL l = .ok ts ↔ Rd l 0 ts := (read_all _ l 0 (Nat.lt_succ_self _)).1 ts
theorem readL_bad {l : List UInt8} {e : Nat} : readL l = .error e ↔ Bd l 0 e := (read_all _ l 0 (Nat.lt_succ_self _)).2 e
theorem bad_at {l : List UInt8} {p e : Nat} (h : Bd l p e) : e ≤ p + l.length := by
  induction h with
  | @here l s p n hs hn h =>
    have := scan_len.2 n h
    have h2 := skip_len l
    rw [hs] at h2
    omega
  | @later l s p k n e t hs hn h hr ih =>
    have := scan_len.1 k n t h
    have h2 := skip_len l
    rw [hs] at h2
    rw [List.length_drop] at ih
    omega
/-- a text has one row of tokens -/
theorem rd_one {l : List UInt8} {p : Nat} {a b : List Tk} (ha : Rd l p a) (hb : Rd l p b) : a = b := by
  have h1 := ((read_all _ l p (Nat.lt_succ_self _)).1 a).2 ha
  have h2 := ((read_all _ l p (Nat.lt_succ_self _)).1 b).2 hb
  rw [h1] at h2
  injection h2

/-- a word that is a whole token -/
structure Whole (W : List UInt8) (k : Nat) (t : List UInt8) : Prop where
  ne : W ≠ []
  skip : skipL W = W
  scan : scan W = .tok k t W.length
theorem Whole.ahead {W : List UInt8} {k : Nat} {t : List UInt8} (h : Whole W k t) (q : List UInt8) : skipL (W ++ q) = W ++ q := by
  rw [skip_app _ W q (Nat.le_refl _) (by rw [h.skip]; exact h.ne), h.skip]
theorem Whole.more {W : List UInt8} {k : Nat} {t : List UInt8} (h : Whole W k t) {q : List UInt8} (hq : stop q = true) : Go.Proofs.YtmnllioeaaimcaaDoor.tk.scan (W ++ q) = .tok k t W.length := scan_ext h.scan (.inr hq)
/-- a word alone: it is read as one token, with the text that it was made of -/
theorem whole_of {W t : List UInt8} {k : Nat} (h : Rd W 0 [⟨k, t, 0⟩]) (hl : ∀ n, scan W = .tok k t n → n = W.length) : Whole W k t := by
  generalize hx : ([⟨k, t, 0⟩] : List Tk) = x at h
  cases h with
  | done _ => cases hx
  | @step _ s _ k' n t' ts hs hn h' hr =>
    injection hx with e1 e2
    injection e1 with e3 e4 e5
    subst e3 e4
    obtain ⟨a, ha⟩ := skip_suffix _ W (Nat.le_refl _)
    rw [hs] at ha
    have hlen := congrArg List.length ha
    rw [List.length_append] at hlen
    have ha0 : a = [] := List.eq_nil_of_length_eq_zero (by omega)
    subst ha0
    simp only [List.nil_append] at ha
    subst ha
    exact ⟨hn, hs, by rw [h', hl n h']⟩
theorem rd_blank {c : UInt8} (hc : isBlank c = true) {r : List UInt8} {p : Nat} {ts : List Tk} (h : Rd r (p + 1) ts) : Rd (c :: r) p ts := by
  have hs : skipL (c :: r) = skipL r := by rw [skipL_cons, if_pos hc]
  have hl := skip_len r
  cases h with
  | done h => exact .done (by rw [hs]; exact h)
  | @step _ s _ k n t ts hs' hn h' hr =>
    rw [hs'] at hl
    have e : p + ((c :: r).length - s.length) = p + 1 + (r.length - s.length) := by rw [List.length_cons]; omega
    rw [← e] at hr ⊢
    exact .step (by rw [hs]; exact hs') hn h' hr
/-- a word among blanks and a comment -/
theorem rd_word {pre W post t : List UInt8} {k : Nat} (h : Whole W k t) (hp : skipL (pre ++ (W ++ post)) = W ++ post) (hq : stop post = true) (hb : skipL post = []) : Rd (pre ++ (W ++ post)) 0 [⟨k, t, pre.length⟩] := by
  have hn : W ++ post ≠ [] := by
    intro e
    exact h.ne (List.append_eq_nil_iff.1 e).1
  have st := Rd.step (p := 0) hp hn (h.more hq) (ts := []) (.done (by rw [List.drop_left]; exact hb))
  have e : 0 + ((pre ++ (W ++ post)).length - (W ++ post).length) = pre.length := by rw [List.length_append]; omega
  rw [e] at st
  exact st
theorem skip_comment {cm X : List UInt8} (hc : ∀ c ∈ cm, c.toNat ≠ 10) : skipL (9 :: 59 :: (cm ++ 10 :: X)) = skipL X := by
  rw [skipL_cons, if_pos (by decide), skipL_cons, if_neg (by decide), if_pos (by decide)]
  have hd : ∀ l : List UInt8, (∀ c ∈ l, c.toNat ≠ 10) → (l ++ 10 :: X).dropWhile notLine = 10 :: X := by
    intro l
    induction l with
    | nil => intro _; simp [notLine]
    | cons c l ih =>
      intro h
      have : notLine c = true := by
        have := h c (by simp)
        simp [notLine, this]
      simp only [List.cons_append, List.dropWhile_cons, this, if_true]
      exact ih (fun c hc => h c (by simp [hc]))
  rw [hd cm hc, skipL_cons, if_pos (by decide)]

/-- words with a blank behind each: the text, the tokens -/
def joined : List (List UInt8 × Nat × List UInt8) → List UInt8
  | [] => []
  | x :: r => x.1 ++ 32 :: joined r
def joinedTk : List (List UInt8 × Nat × List UInt8) → Nat → List Tk
  | [], _ => []
  | x :: r, p => ⟨x.2.1, x.2.2, p⟩ :: joinedTk r (p + x.1.length + 1)
theorem rd_joined : ∀ (xs : List (List UInt8 × Nat × List UInt8)) (p : Nat), (∀ x ∈ xs, Whole x.1 x.2.1 x.2.2) → Rd (joined xs) p (joinedTk xs p) := by
  intro xs
  induction xs with
  | nil => intro p _; exact .done (by rw [joined, skipL])
  | cons x r ih =>
    intro p h
    have hx := h x (by simp)
    have hr := ih (p + x.1.length + 1) (fun y hy => h y (by simp [hy]))
    have hq : stop (32 :: joined r) = true := by show (!isInner 32 && !decide ((32 : UInt8).toNat = 34)) = true; decide
    have hn : x.1 ++ 32 :: joined r ≠ [] := by simp
    have st := Rd.step (p := p) (hx.ahead (32 :: joined r)) hn (hx.more hq) (ts := joinedTk r (p + x.1.length + 1)) (by
      rw [List.drop_left]
      have e : p + ((x.1 ++ 32 :: joined r).length - (x.1 ++ 32 :: joined r).length) + x.1.length = p + x.1.length := by omega
      rw [e]
      exact rd_blank (by decide) hr)
    have e : p + ((x.1 ++ 32 :: joined r).length - (x.1 ++ 32 :: joined r).length) = p := by omega
    rw [e] at st
    exact st
/-- of a right text, cut anywhere, the tokens but the last one are those of the whole -/
theorem rd_cut {a : List UInt8} {p : Nat} {x : List Tk} (hx : Rd a p x) : ∀ {q : List UInt8} {l : List Tk}, Rd (a ++ q) p l → x.length ≤ l.length ∧ x.take (x.length - 1) = l.take (x.length - 1) := by
  induction hx with
  | done h => intro q l _; simp
  | @step a s p k n t ts hs hn h hr ih =>
    intro q l hl
    have hsk : skipL (a ++ q) = s ++ q := by rw [skip_app _ a q (Nat.le_refl _) (by rw [hs]; exact hn), hs]
    have hsl := skip_len a
    rw [hs] at hsl
    have hle := scan_len.1 k n t h
    cases hl with
    | done h' => rw [hsk] at h'; exact absurd (List.append_eq_nil_iff.1 h').1 hn
    | @step _ s' _ k' n' t' l' hs' hn' h' hr' =>
      rw [hsk] at hs'
      subst hs'
      cases ts with
      | nil => simp
      | cons y ts' =>
        have hlt : n < s.length := by
          rcases Nat.lt_or_ge n s.length with g | g
          · exact g
          · have : s.drop n = [] := List.drop_eq_nil_of_le g
            rw [this] at hr
            cases hr with
            | step hs2 hn2 _ _ => rw [skipL] at hs2; exact absurd hs2.symm hn2
        rw [scan_ext h (.inl hlt)] at h'
        injection h' with e1 e2 e3
        subst e1 e2 e3
        have el : (a ++ q).length - (s ++ q).length = a.length - s.length := by rw [List.length_append, List.length_append]; omega
        rw [el] at hr' ⊢
        rw [List.drop_append_of_le_length (by omega)] at hr'
        obtain ⟨i1, i2⟩ := ih hr'
        simp only [List.length_cons] at i1 i2 ⊢
        refine ⟨by omega, ?_⟩
        have e : ts'.length + 1 + 1 - 1 = (ts'.length + 1 - 1) + 1 := by omega
        rw [e, List.take_succ_cons, List.take_succ_cons, i2]
end Go.Proofs.YtmnllioeaaimcaaDoor.tk

/- Tokens of a text: how a token stands in a text. Plain mathematics. -/
namespace Go.Proofs.YtmnllioeaaimcaaDoor.tk

/-- the texts that may tell a token -/
def cands (k : Int) (T : List UInt8) : List (List UInt8) :=
  if k = 10 then [58 :: T] else if k = 9 then [34 :: (esc T ++ [34])] else if k = 8 then [35 :: 98 :: T] else if k = 7 then [35 :: 120 :: T] else if k = 3 then [T, 124 :: (T ++ [124])] else [T]
/-- is it read as this token alone? -/
def told (k : Int) (T : List UInt8) (W : List UInt8) : Bool := match readL W with
  | .ok [x] => decide ((x.kind : Int) = k) && (decide (x.text = T) && decide (x.at_ = 0))
  | _ => false
def wordW (k : Int) (T : List UInt8) : Option (List UInt8) := (cands k T).find? (told k T)
theorem told_rd {k : Int} {T W : List UInt8} (h : told k T W = true) : ∃ j : Nat, k = (j : Int) ∧ Rd W 0 [⟨j, T, 0⟩] := by
  unfold told at h
  split at h
  · rename_i x hx
    simp only [Bool.and_eq_true, decide_eq_true_eq] at h
    obtain ⟨h1, h2, h3⟩ := h
    obtain ⟨a, b, c⟩ := x
    simp only at h1 h2 h3
    subst h2 h3
    exact ⟨a, h1.symm, readL_ok.1 hx⟩
  · cases h
theorem scan_bar (r : List UInt8) : scan (124 :: r) = barL r := by
  unfold scan
  rfl
theorem scan_hash (r : List UInt8) : scan (35 :: r) = hashL r := by
  unfold scan
  rfl
theorem scan_key (r : List UInt8) : scan (58 :: r) = keyL r := by
  unfold scan
  rfl
theorem scan_str (r : List UInt8) : scan (34 :: r) = strL r 1 [] := by
  unfold scan
  rfl
/-- a token's word is a whole token -/
theorem word_whole {k : Int} {T W : List UInt8} (h : wordW k T = some W) : ∃ j : Nat, k = (j : Int) ∧ Whole W j T := by
  unfold wordW at h
  have hm := List.mem_of_find?_eq_some h
  have ht := List.find?_some h
  obtain ⟨j, hj, hr⟩ := told_rd ht
  refine ⟨j, hj, whole_of hr (fun n hn => ?_)⟩
  have hl := scan_len.1 j n T hn
  have self : W = T → n = W.length := fun e => by subst e; omega
  unfold cands at hm
  split at hm
  · have e : W = 58 :: T := by simpa using hm
    subst e
    rw [scan_key] at hn
    have := (key_len T).1 j n T hn
    simp; omega
  split at hm
  · have e : W = 34 :: (esc T ++ [34]) := by simpa using hm
    subst e
    rw [scan_str] at hn
    have := (str_len _ (esc T ++ [34]) 1 [] (Nat.le_refl _)).1 j n T hn
    simp only [List.reverse_nil, esc, List.length_nil] at this
    simp; omega
  split at hm
  · have e : W = 35 :: 98 :: T := by simpa using hm
    subst e
    rw [scan_hash] at hn
    have := (hash_len (98 :: T)).1 j n T hn
    simp; omega
  split at hm
  · have e : W = 35 :: 120 :: T := by simpa using hm
    subst e
    rw [scan_hash] at hn
    have := (hash_len (120 :: T)).1 j n T hn
    simp; omega
  split at hm
  · have e : W = T ∨ W = 124 :: (T ++ [124]) := by simpa using hm
    rcases e with e | e
    · exact self e
    · subst e
      rw [scan_bar] at hn
      have := (bar_len (T ++ [124])).1 j n T hn
      simp; omega
  · have e : W = T := by simpa using hm
    exact self e
end Go.Proofs.YtmnllioeaaimcaaDoor.tk
