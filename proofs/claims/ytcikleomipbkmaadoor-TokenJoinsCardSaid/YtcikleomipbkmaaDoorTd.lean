/- Tokens of a text: whole texts as a relation; words of tokens among blanks; texts that are cut. Plain mathematics. -/
import Derived.Test.YtcikleomipbkmaaDoorTc
namespace Go.Proofs.YtcikleomipbkmaaDoor.tk

/-- these are the tokens of l, which stands at the place p -/
inductive Rd : List UInt8 → Nat → List Tk → Prop
  | done {l : List UInt8} {p : Nat} (h : skipL l = []) : Rd l p []
  | step {l s : List UInt8} {p k n : Nat} {t : List UInt8} {ts : List Tk} (hs : skipL l = s) (hn : s ≠ []) (h : scan s = .tok k t n) (hr : Rd (s.drop n) (p + (l.length - s.length) + n) ts) : Rd l p (⟨k, t, p + (l.length - s.length)⟩ :: ts)
/-- l, which stands at the place p, is wrong at e -/
inductive Bd : List UInt8 → Nat → Nat → Prop
  | here {l s : List UInt8} {p n : Nat} (hs : skipL l = s) (hn : s ≠ []) (h : scan s = .bad n) : Bd l p (p + (l.length - s.length) + n)
  | later {l s : List UInt8} {p k n e : Nat} {t : List UInt8} (hs : skipL l = s) (hn : s ≠ []) (h : scan s = .tok k t n) (hr : Bd (s.drop n) (p + (l.length - s.length) + n) e) : Bd l p e

theorem read_all : ∀ (f : Nat) (l : List UInt8) (p : Nat), l.length < f →
    (∀ ts, readF f l p = .ok ts ↔ Rd l p ts) ∧ (∀ e, readF f l p = .error e ↔ Bd l p e) := by
  intro f
  induction f with
  | zero => intro l p h; omega
  | succ f ih =>
    intro l p h
    have hsl := skip_len l
    unfold readF
    cases hs : skipL l with
    | nil =>
      dsimp only
      refine ⟨fun ts => ⟨fun e => ?_, fun e => ?_⟩, fun e => ⟨fun g => (by cases g), fun g => ?_⟩⟩
      · injection e with e; subst e; exact .done hs
      · cases e with
        | done _ => rfl
        | step hs' hn _ _ => rw [hs] at hs'; exact absurd hs'.symm hn
      · cases g with
        | here hs' hn _ => rw [hs] at hs'; exact absurd hs'.symm hn
        | later hs' hn _ _ => rw [hs] at hs'; exact absurd hs'.symm hn
    | cons c r =>
      rw [hs] at hsl
      dsimp only
      cases hc : scan (c :: r) with
      | bad n =>
        dsimp only
        refine ⟨fun ts => ⟨fun e => (by cases e), fun e => ?_⟩, fun e => ⟨fun g => ?_, fun g => ?_⟩⟩
        · cases e with
          | done h' => rw [hs] at h'; cases h'
          | step hs' hn h' _ => rw [hs] at hs'; subst hs'; rw [hc] at h'; cases h'
        · injection g with g; subst g; exact .here hs (by simp) hc
        · cases g with
          | here hs' hn h' => rw [hs] at hs'; subst hs'; rw [hc] at h'; injection h' with h'; subst h'; rfl
          | later hs' hn h' _ => rw [hs] at hs'; subst hs'; rw [hc] at h'; cases h'
      | tok k t n =>
        dsimp only
        have hl := scan_len.1 k n t hc
        have hlen : ((c :: r).drop n).length < f := by rw [List.length_drop]; omega
        have ih' := ih ((c :: r).drop n) (p + (l.length - (c :: r).length) + n) hlen
        cases hr : readF f ((c :: r).drop n) (p + (l.length - (c :: r).length) + n) with
        | error e' =>
          dsimp only
          have hb := (ih'.2 e').1 hr
          refine ⟨fun ts => ⟨fun e => (by cases e), fun e => ?_⟩, fun e => ⟨fun g => ?_, fun g => ?_⟩⟩
          · cases e with
            | done h' => rw [hs] at h'; cases h'
            | step hs' hn h' hr' =>
              rw [hs] at hs'; subst hs'; rw [hc] at h'; injection h' with e1 e2 e3; subst e1 e2 e3
              have := (ih'.1 _).2 hr'
              rw [hr] at this; cases this
          · injection g with g; subst g; exact .later hs (by simp) hc hb
          · cases g with
            | here hs' hn h' => rw [hs] at hs'; subst hs'; rw [hc] at h'; cases h'
            | later hs' hn h' hr' =>
              rw [hs] at hs'; subst hs'; rw [hc] at h'; injection h' with e1 e2 e3; subst e1 e2 e3
              have := (ih'.2 _).2 hr'
              rw [hr] at this; injection this with this; rw [this]
        | ok ts' =>
          dsimp only
          have hb := (ih'.1 ts').1 hr
          refine ⟨fun ts => ⟨fun e => ?_, fun e => ?_⟩, fun e => ⟨fun g => (by cases g), fun g => ?_⟩⟩
          · injection e with e; subst e; exact .step hs (by simp) hc hb
          · cases e with
            | done h' => rw [hs] at h'; cases h'
            | step hs' hn h' hr' =>
              rw [hs] at hs'; subst hs'; rw [hc] at h'; injection h' with e1 e2 e3; subst e1 e2 e3
              have := (ih'.1 _).2 hr'
              rw [hr] at this; injection this with this; rw [this]
          · cases g with
            | here hs' hn h' => rw [hs] at hs'; subst hs'; rw [hc] at h'; cases h'
            | later hs' hn h' hr' =>
              rw [hs] at hs'; subst hs'; rw [hc] at h'; injection h' with e1 e2 e3; subst e1 e2 e3
              have := (ih'.2 _).2 hr'
              rw [hr] at this; cases this
theorem readL_ok {l : List UInt8} {ts : List Tk} : readL l = .ok ts ↔ Rd l 0 ts := (read_all _ l 0 (Nat.lt_succ_self _)).1 ts
theorem readL_bad {l : List UInt8} {e : Nat} : readL l = .error e ↔ Bd l 0 e := (read_all _ l 0 (Nat.lt_succ_self _)).2 e
theorem bad_at {l : List UInt8} {p e : Nat} (h : Bd l p e) : e ≤ p + l.length := by
  induction h with
  | @here l s p n hs hn h =>
    have := scan_len.2 n h
    have h2 := skip_len l
    rw [hs] at h2
    omega
  | @later l s p k n e t hs hn h hr ih =>
    have := scan_len.1 k n t h
    have h2 := skip_len l
    rw [hs] at h2
    rw [List.length_drop] at ih
    omega
/-- a text has one row of tokens -/
theorem rd_one {l : List UInt8} {p : Nat} {a b : List Tk} (ha : Rd l p a) (hb : Rd l p b) : a = b := by
  have h1 := ((read_all _ l p (Nat.lt_succ_self _)).1 a).2 ha
  have h2 := ((read_all _ l p (Nat.lt_succ_self _)).1 b).2 hb
  rw [h1] at h2
  injection h2

/-- a word that is a whole token -/
structure Whole (W : List UInt8) (k : Nat) (t : List UInt8) : Prop where
  ne : W ≠ []
  skip : skipL W = W
  scan : scan W = .tok k t W.length
theorem Whole.ahead {W : List UInt8} {k : Nat} {t : List UInt8} (h : Whole W k t) (q : List UInt8) : skipL (W ++ q) = W ++ q := by
  rw [skip_app _ W q (Nat.le_refl _) (by rw [h.skip]; exact h.ne), h.skip]
theorem Whole.more {W : List UInt8} {k : Nat} {t : List UInt8} (h : Whole W k t) {q : List UInt8} (hq : stop q = true) : Go.Proofs.YtcikleomipbkmaaDoor.tk.scan (W ++ q) = .tok k t W.length := scan_ext h.scan (.inr hq)
/-- a word alone: it is read as one token, with the text that it was made of -/
theorem whole_of {W t : List UInt8} {k : Nat} (h : Rd W 0 [⟨k, t, 0⟩]) (hl : ∀ n, scan W = .tok k t n → n = W.length) : Whole W k t := by
  generalize hx : ([⟨k, t, 0⟩] : List Tk) = x at h
  cases h with
  | done _ => cases hx
  | @step _ s _ k' n t' ts hs hn h' hr =>
    injection hx with e1 e2
    injection e1 with e3 e4 e5
    subst e3 e4
    obtain ⟨a, ha⟩ := skip_suffix _ W (Nat.le_refl _)
    rw [hs] at ha
    have hlen := congrArg List.length ha
    rw [List.length_append] at hlen
    have ha0 : a = [] := List.eq_nil_of_length_eq_zero (by omega)
    subst ha0
    simp only [List.nil_append] at ha
    subst ha
    exact ⟨hn, hs, by rw [h', hl n h']⟩
theorem rd_blank {c : UInt8} (hc : isBlank c = true) {r : List UInt8} {p : Nat} {ts : List Tk} (h : Rd r (p + 1) ts) : Rd (c :: r) p ts := by
  have hs : skipL (c :: r) = skipL r := by rw [skipL_cons, if_pos hc]
  have hl := skip_len r
  cases h with
  | done h => exact .done (by rw [hs]; exact h)
  | @step _ s _ k n t ts hs' hn h' hr =>
    rw [hs'] at hl
    have e : p + ((c :: r).length - s.length) = p + 1 + (r.length - s.length) := by rw [List.length_cons]; omega
    rw [← e] at hr ⊢
    exact .step (by rw [hs]; exact hs') hn h' hr
/-- a word among blanks and a comment -/
theorem rd_word {pre W post t : List UInt8} {k : Nat} (h : Whole W k t) (hp : skipL (pre ++ (W ++ post)) = W ++ post) (hq : stop post = true) (hb : skipL post = []) : Rd (pre ++ (W ++ post)) 0 [⟨k, t, pre.length⟩] := by
  have hn : W ++ post ≠ [] := by
    intro e
    exact h.ne (List.append_eq_nil_iff.1 e).1
  have st := Rd.step (p := 0) hp hn (h.more hq) (ts := []) (.done (by rw [List.drop_left]; exact hb))
  have e : 0 + ((pre ++ (W ++ post)).length - (W ++ post).length) = pre.length := by rw [List.length_append]; omega
  rw [e] at st
  exact st
theorem skip_comment {cm X : List UInt8} (hc : ∀ c ∈ cm, c.toNat ≠ 10) : skipL (9 :: 59 :: (cm ++ 10 :: X)) = skipL X := by
  rw [skipL_cons, if_pos (by decide), skipL_cons, if_neg (by decide), if_pos (by decide)]
  have hd : ∀ l : List UInt8, (∀ c ∈ l, c.toNat ≠ 10) → (l ++ 10 :: X).dropWhile notLine = 10 :: X := by
    intro l
    induction l with
    | nil => intro _; simp [notLine]
    | cons c l ih =>
      intro h
      have : notLine c = true := by
        have := h c (by simp)
        simp [notLine, this]
      simp only [List.cons_append, List.dropWhile_cons, this, if_true]
      exact ih (fun c hc => h c (by simp [hc]))
  rw [hd cm hc, skipL_cons, if_pos (by decide)]

/-- words with a blank behind each: the text, the tokens -/
def joined : List (List UInt8 × Nat × List UInt8) → List UInt8
  | [] => []
  | x :: r => x.1 ++ 32 :: joined r
def joinedTk : List (List UInt8 × Nat × List UInt8) → Nat → List Tk
  | [], _ => []
  | x :: r, p => ⟨x.2.1, x.2.2, p⟩ :: joinedTk r (p + x.1.length + 1)
theorem rd_joined : ∀ (xs : List (List UInt8 × Nat × List UInt8)) (p : Nat), (∀ x ∈ xs, Whole x.1 x.2.1 x.2.2) → Rd (joined xs) p (joinedTk xs p) := by
  intro xs
  induction xs with
  | nil => intro p _; exact .done (by rw [joined, skipL])
  | cons x r ih =>
    intro p h
    have hx := h x (by simp)
    have hr := ih (p + x.1.length + 1) (fun y hy => h y (by simp [hy]))
    have hq : stop (32 :: joined r) = true := by show (!isInner 32 && !decide ((32 : UInt8).toNat = 34)) = true; decide
    have hn : x.1 ++ 32 :: joined r ≠ [] := by simp
    have st := Rd.step (p := p) (hx.ahead (32 :: joined r)) hn (hx.more hq) (ts := joinedTk r (p + x.1.length + 1)) (by
      rw [List.drop_left]
      have e : p + ((x.1 ++ 32 :: joined r).length - (x.1 ++ 32 :: joined r).length) + x.1.length = p + x.1.length := by omega
      rw [e]
      exact rd_blank (by decide) hr)
    have e : p + ((x.1 ++ 32 :: joined r).length - (x.1 ++ 32 :: joined r).length) = p := by omega
    rw [e] at st
    exact st
/-- of a right text, cut anywhere, the tokens but the last one are those of the whole -/
theorem rd_cut {a : List UInt8} {p : Nat} {x : List Tk} (hx : Rd a p x) : ∀ {q : List UInt8} {l : List Tk}, Rd (a ++ q) p l → x.length ≤ l.length ∧ x.take (x.length - 1) = l.take (x.length - 1) := by
  induction hx with
  | done h => intro q l _; simp
  | @step a s p k n t ts hs hn h hr ih =>
    intro q l hl
    have hsk : skipL (a ++ q) = s ++ q := by rw [skip_app _ a q (Nat.le_refl _) (by rw [hs]; exact hn), hs]
    have hsl := skip_len a
    rw [hs] at hsl
    have hle := scan_len.1 k n t h
    cases hl with
    | done h' => rw [hsk] at h'; exact absurd (List.append_eq_nil_iff.1 h').1 hn
    | @step _ s' _ k' n' t' l' hs' hn' h' hr' =>
      rw [hsk] at hs'
      subst hs'
      cases ts with
      | nil => simp
      | cons y ts' =>
        have hlt : n < s.length := by
          rcases Nat.lt_or_ge n s.length with g | g
          · exact g
          · have : s.drop n = [] := List.drop_eq_nil_of_le g
            rw [this] at hr
            cases hr with
            | step hs2 hn2 _ _ => rw [skipL] at hs2; exact absurd hs2.symm hn2
        rw [scan_ext h (.inl hlt)] at h'
        injection h' with e1 e2 e3
        subst e1 e2 e3
        have el : (a ++ q).length - (s ++ q).length = a.length - s.length := by rw [List.length_append, List.length_append]; omega
        rw [el] at hr' ⊢
        rw [List.drop_append_of_le_length (by omega)] at hr'
        obtain ⟨i1, i2⟩ := ih hr'
        simp only [List.length_cons] at i1 i2 ⊢
        refine ⟨by omega, ?_⟩
        have e : ts'.length + 1 + 1 - 1 = (ts'.length + 1 - 1) + 1 := by omega
        rw [e, List.take_succ_cons, List.take_succ_cons, i2]
end Go.Proofs.YtcikleomipbkmaaDoor.tk
