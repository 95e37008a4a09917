/- Trees of tokens: what a row of tokens is read as. Plain definitions and mathematics. -/
import Derived.Test.YtmnllioeaaimcaaDoorTe
namespace Go.Proofs.YtmnllioeaaimcaaDoor.tr

/-- a token, whatever its kind and place -/
structure Tok where
  k : Int
  s : List UInt8
  p : Int
  deriving Repr, DecidableEq
inductive Tree where
  | mk (list : Bool) (tok : Tok) (kids : List Tree)

/-- what is open: the kids of the innermost list so far; for each list around it, from within: its token, and the kids so far of the one around it -/
abbrev State := List Tree × List (Tok × List Tree)
def step (deep : Int) (x : Tok) : State → Except (Nat × Int) State
  | (ks, st) =>
    if x.k = 1 then (if deep ≤ (st.length : Int) then .error (4, x.p) else .ok ([], (x, ks) :: st))
    else if x.k = 2 then (match st with | [] => .error (11, x.p) | (t, pk) :: st' => .ok (pk ++ [.mk true t ks], st'))
    else .ok (ks ++ [.mk false x []], st)
def run (deep : Int) : List Tok → State → Except (Nat × Int) State
  | [], s => .ok s
  | x :: r, s => match step deep x s with
    | .error e => .error e
    | .ok s' => run deep r s'
def read (deep : Int) (l : List Tok) : Except (Nat × Int) (List Tree) := match run deep l ([], []) with
  | .error e => .error e
  | .ok (ks, []) => .ok ks
  | .ok (_, (t, _) :: _) => .error (11, t.p)

section
variable {deep : Int}
theorem run_append (a b : List Tok) : ∀ s, run deep (a ++ b) s = match run deep a s with | .error e => .error e | .ok s' => run deep b s' := by
  induction a with
  | nil => intro s; rfl
  | cons x a ih =>
    intro s
    simp only [List.cons_append, run]
    cases step deep x s with
    | error e => rfl
    | ok s' => exact ih s'
theorem run_ok {a b : List Tok} {s s' : State} (h : run deep a s = .ok s') : run deep (a ++ b) s = run deep b s' := by rw [run_append, h]
theorem read_ok {l : List Tok} {ks : List Tree} : read deep l = .ok ks ↔ run deep l ([], []) = .ok (ks, []) := by
  unfold read
  constructor
  · intro h
    split at h
    · cases h
    · rename_i k e; injection h with h; subst h; exact e
    · cases h
  · intro h; rw [h]

mutual
/-- how many tokens -/
def size : Tree → Nat
  | .mk list _ ks => if list then 2 + sizes ks else 1
def sizes : List Tree → Nat
  | [] => 0
  | t :: r => size t + sizes r
end
theorem sizes_append (a b : List Tree) : sizes (a ++ b) = sizes a + sizes b := by
  induction a with
  | nil => simp [sizes]
  | cons t r ih => simp only [List.cons_append, sizes, ih]; omega
def stackSize : List (Tok × List Tree) → Nat
  | [] => 0
  | q :: r => 1 + sizes q.2 + stackSize r
theorem step_size {x : Tok} {s s' : State} (h : step deep x s = .ok s') : sizes s'.1 + stackSize s'.2 = sizes s.1 + stackSize s.2 + 1 := by
  obtain ⟨ks, st⟩ := s
  unfold step at h
  dsimp only at h
  split at h
  · split at h
    · cases h
    · injection h with h; subst h; simp [sizes, stackSize]; omega
  · split at h
    · cases st with
      | nil => cases h
      | cons q st =>
        obtain ⟨t, pk⟩ := q
        injection h with h; subst h
        simp [sizes_append, sizes, size, stackSize]; omega
    · injection h with h; subst h
      simp [sizes_append, sizes, size]; omega
theorem run_size {l : List Tok} : ∀ {s s' : State}, run deep l s = .ok s' → sizes s'.1 + stackSize s'.2 = sizes s.1 + stackSize s.2 + l.length := by
  induction l with
  | nil => intro s s' h; injection h with h; subst h; simp
  | cons x r ih =>
    intro s s' h
    unfold run at h
    cases hx : step deep x s with
    | error e => rw [hx] at h; cases h
    | ok s1 =>
      rw [hx] at h
      have h1 := step_size hx
      have h2 := ih h
      simp only [List.length_cons]
      omega
/-- as many tokens are in the trees as were read -/
theorem read_size {l : List Tok} {ks : List Tree} (h : read deep l = .ok ks) : sizes ks = l.length := by
  have := run_size (read_ok.1 h)
  simpa [sizes, stackSize] using this

/-- trees ahead of all that is open -/
def under (x : List Tree) : List (Tok × List Tree) → List (Tok × List Tree)
  | [] => []
  | [(t, pk)] => [(t, x ++ pk)]
  | q :: q' :: r => q :: under x (q' :: r)
def ahead (x : List Tree) : State → State
  | (ks, []) => (x ++ ks, [])
  | (ks, q :: r) => (ks, under x (q :: r))
theorem under_len (x : List Tree) : ∀ st, (under x st).length = st.length
  | [] => rfl
  | [(_, _)] => rfl
  | _ :: q' :: r => by simp only [under, List.length_cons]; rw [under_len x (q' :: r)]; rfl
theorem ahead_len (x : List Tree) (s : State) : (ahead x s).2.length = s.2.length := by
  obtain ⟨ks, st⟩ := s
  cases st with
  | nil => rfl
  | cons q r => exact under_len x (q :: r)
theorem step_ahead {x : List Tree} {y : Tok} {s s' : State} (h : step deep y s = .ok s') : step deep y (ahead x s) = .ok (ahead x s') := by
  have hl := ahead_len x s
  obtain ⟨ks, st⟩ := s
  unfold step at h ⊢
  dsimp only at h ⊢
  split at h
  · rename_i hk
    split at h
    · cases h
    · rename_i hd
      injection h with h; subst h
      rw [if_pos hk, if_neg (by rw [hl]; exact hd)]
      cases st with
      | nil => rfl
      | cons q r => rfl
  · rename_i hk
    rw [if_neg hk]
    split at h
    · rename_i hk2
      rw [if_pos hk2]
      match st, h with
      | [(t, pk)], h => injection h with h; subst h; simp [ahead, under]
      | (t, pk) :: q :: r, h => injection h with h; subst h; simp [ahead, under]
    · rename_i hk2
      rw [if_neg hk2]
      injection h with h; subst h
      cases st with
      | nil => simp [ahead]
      | cons q r => simp [ahead]
theorem run_ahead {x : List Tree} {l : List Tok} : ∀ {s s' : State}, run deep l s = .ok s' → run deep l (ahead x s) = .ok (ahead x s') := by
  induction l with
  | nil => intro s s' h; injection h with h; subst h; rfl
  | cons y r ih =>
    intro s s' h
    unfold run at h ⊢
    cases hx : step deep y s with
    | error e => rw [hx] at h; cases h
    | ok s1 =>
      rw [hx] at h
      rw [step_ahead hx]
      exact ih h
/-- two rows that are read are read together as the trees of both -/
theorem read_join {a b : List Tok} {x y : List Tree} (ha : read deep a = .ok x) (hb : read deep b = .ok y) : read deep (a ++ b) = .ok (x ++ y) := by
  rw [read_ok] at ha hb ⊢
  rw [run_ok ha]
  have := run_ahead (x := x) hb
  simpa [ahead] using this
end

/-- without places -/
def z (t : Tok) : Tok := { t with p := 0 }
mutual
def er : Tree → Tree
  | .mk l t ks => .mk l (z t) (ers ks)
def ers : List Tree → List Tree
  | [] => []
  | t :: r => er t :: ers r
end
theorem ers_append (a b : List Tree) : ers (a ++ b) = ers a ++ ers b := by
  induction a with
  | nil => simp [ers]
  | cons t r ih => simp only [List.cons_append, ers, ih]
def erS (s : State) : State := (ers s.1, s.2.map fun q => (z q.1, ers q.2))
theorem step_er {deep : Int} {x : Tok} {s s' : State} (h : step deep (z x) (erS s) = .ok s') : ∃ s1, step deep x s = .ok s1 ∧ erS s1 = s' := by
  obtain ⟨ks, st⟩ := s
  unfold step at h ⊢
  have hz : (z x).k = x.k := rfl
  simp only [erS, hz, List.length_map] at h ⊢
  split at h
  · rename_i hk
    split at h
    · cases h
    · rename_i hd
      injection h with h
      exact ⟨([], (x, ks) :: st), by rw [if_pos hk, if_neg hd], by rw [← h]; simp [ers]⟩
  · rename_i hk
    simp only [if_neg hk]
    split at h
    · rename_i hk2
      simp only [if_pos hk2]
      cases st with
      | nil => cases h
      | cons q r =>
        obtain ⟨t, pk⟩ := q
        injection h with h
        refine ⟨_, rfl, ?_⟩
        rw [← h]
        simp [ers_append, ers, er]
    · rename_i hk2
      simp only [if_neg hk2]
      injection h with h
      refine ⟨_, rfl, ?_⟩
      rw [← h]
      simp [ers_append, ers, er]
theorem run_er {deep : Int} {l : List Tok} : ∀ {s s' : State}, run deep (l.map z) (erS s) = .ok s' → ∃ s1, run deep l s = .ok s1 ∧ erS s1 = s' := by
  induction l with
  | nil => intro s s' h; injection h with h; exact ⟨s, rfl, h⟩
  | cons x r ih =>
    intro s s' h
    simp only [List.map_cons, run] at h
    cases hx : step deep (z x) (erS s) with
    | error e => rw [hx] at h; cases h
    | ok s2 =>
      rw [hx] at h
      obtain ⟨s3, h3, rfl⟩ := step_er hx
      obtain ⟨s4, h4, h5⟩ := ih h
      exact ⟨s4, by unfold run; rw [h3]; exact h4, h5⟩
theorem read_er {deep : Int} {l : List Tok} {ks : List Tree} (h : read deep (l.map z) = .ok ks) : ∃ ts, read deep l = .ok ts ∧ ers ts = ks := by
  obtain ⟨s1, h1, h2⟩ := run_er (s := ([], [])) (read_ok.1 h)
  obtain ⟨ts, st⟩ := s1
  simp only [erS, Prod.mk.injEq, List.map_eq_nil_iff] at h2
  obtain ⟨h2, rfl⟩ := h2
  exact ⟨ts, read_ok.2 h1, h2⟩
end Go.Proofs.YtmnllioeaaimcaaDoor.tr

/- Trees of tokens: a tree as a text, and that it is read as that tree. Plain mathematics. -/
namespace Go.Proofs.YtmnllioeaaimcaaDoor.tr
open Go.Proofs.YtmnllioeaaimcaaDoor.tk (Tk Rd Whole rd_blank skipL_cons scan stop isInner isBlank wordW word_whole readL readL_ok)

theorem rd_unblank {c : UInt8} (hc : isBlank c = true) {r : List UInt8} {p : Nat} {ts : List Tk} (h : Rd (c :: r) p ts) : Rd r (p + 1) ts := by
  have hs : tk.skipL (c :: r) = tk.skipL r := by rw [skipL_cons, if_pos hc]
  have hl := tk.skip_len r
  cases h with
  | done h => exact .done (by rw [← hs]; exact h)
  | @step _ s _ k n t ts hs' hn h' hr =>
    rw [hs] at hs'
    rw [hs'] at hl
    have e : p + ((c :: r).length - s.length) = p + 1 + (r.length - s.length) := by rw [List.length_cons]; omega
    rw [e] at hr ⊢
    exact .step hs' hn h' hr
theorem scan_open (r : List UInt8) : tk.scan (40 :: r) = .tok 1 [40] 1 := by
  unfold tk.scan
  rfl
theorem scan_close (r : List UInt8) : tk.scan (41 :: r) = .tok 2 [41] 1 := by
  unfold tk.scan
  rfl
theorem rd_open {r : List UInt8} {p : Nat} {ts : List Tk} (h : Rd r (p + 1) ts) : Rd (40 :: r) p (⟨1, [40], p⟩ :: ts) := by
  have hs : tk.skipL (40 :: r) = 40 :: r := by rw [skipL_cons, if_neg (by decide), if_neg (by decide)]
  have e : p + ((40 :: r).length - (40 :: r).length) = p := by omega
  have st := Rd.step (p := p) hs (by simp) (scan_open r) (ts := ts) (by rw [e]; exact h)
  rw [e] at st
  exact st
theorem rd_close {r : List UInt8} {p : Nat} {ts : List Tk} (h : Rd r (p + 1) ts) : Rd (41 :: r) p (⟨2, [41], p⟩ :: ts) := by
  have hs : tk.skipL (41 :: r) = 41 :: r := by rw [skipL_cons, if_neg (by decide), if_neg (by decide)]
  have e : p + ((41 :: r).length - (41 :: r).length) = p := by omega
  have st := Rd.step (p := p) hs (by simp) (scan_close r) (ts := ts) (by rw [e]; exact h)
  rw [e] at st
  exact st
theorem rd_whole {W q t : List UInt8} {k p : Nat} {ts : List Tk} (hx : Whole W k t) (hq : stop q = true) (h : Rd q (p + W.length) ts) : Rd (W ++ q) p (⟨k, t, p⟩ :: ts) := by
  have e : p + ((W ++ q).length - (W ++ q).length) = p := by omega
  have hn : W ++ q ≠ [] := fun e => hx.ne (List.append_eq_nil_iff.1 e).1
  have st := Rd.step (p := p) (hx.ahead q) hn (hx.more hq) (ts := ts) (by rw [List.drop_left, e]; exact h)
  rw [e] at st
  exact st

mutual
/-- a tree as a text -/
def text : Tree → Option (List UInt8)
  | .mk list t ks => if list then (tails ks).map (fun b => 40 :: (b.drop 1 ++ [41])) else if t.k = 1 ∨ t.k = 2 then none else wordW t.k t.s
/-- trees as texts, a blank ahead of each -/
def tails : List Tree → Option (List UInt8)
  | [] => some []
  | t :: r => match text t, tails r with
    | some a, some b => some (32 :: (a ++ b))
    | _, _ => none
end
mutual
/-- the tokens of a tree, without places -/
def fl : Tree → List Tok
  | .mk list t ks => if list then ⟨1, [40], 0⟩ :: (fls ks ++ [⟨2, [41], 0⟩]) else [z t]
def fls : List Tree → List Tok
  | [] => []
  | t :: r => fl t ++ fls r
end
mutual
/-- the tree whose lists have the token that opens them, and whose tokens have no kids, without places -/
def cz : Tree → Tree
  | .mk list t ks => if list then .mk true ⟨1, [40], 0⟩ (czs ks) else .mk false (z t) []
def czs : List Tree → List Tree
  | [] => []
  | t :: r => cz t :: czs r
end
mutual
/-- how many lists, one in another -/
def high : Tree → Nat
  | .mk list _ ks => if list then 1 + highs ks else 0
def highs : List Tree → Nat
  | [] => 0
  | t :: r => max (high t) (highs r)
end
def tokOf (d : Tk) : Tok := ⟨d.kind, d.text, d.at_⟩
/-- tokens are these, but for their places -/
def Are (ds : List Tk) (l : List Tok) : Prop := (ds.map tokOf).map z = l
theorem Are.append {a b : List Tk} {l m : List Tok} (h : Are a l) (k : Are b m) : Are (a ++ b) (l ++ m) := by
  unfold Are at *
  rw [List.map_append, List.map_append, h, k]
theorem tails_head {ks : List Tree} {b : List UInt8} (h : tails ks = some b) : (ks = [] ∧ b = []) ∨ ∃ b', b = 32 :: b' := by
  cases ks with
  | nil => unfold tails at h; injection h with h; exact .inl ⟨rfl, h.symm⟩
  | cons t r =>
    unfold tails at h
    split at h
    · injection h with h; exact .inr ⟨_, h.symm⟩
    · cases h

mutual
theorem rd_text : ∀ (t : Tree) {s q : List UInt8} {p : Nat} {more : List Tk}, text t = some s → stop q = true → Rd q (p + s.length) more → ∃ ds, Rd (s ++ q) p (ds ++ more) ∧ Are ds (fl t)
  | .mk list t ks, s, q, p, more, h, hq, hr => by
    unfold text at h
    cases list with
    | false =>
      simp only [Bool.false_eq_true, if_false] at h
      split at h
      · cases h
      obtain ⟨j, hj, hw⟩ := word_whole h
      exact ⟨[⟨j, t.s, p⟩], rd_whole hw hq hr, by simp [Are, tokOf, fl, z, hj]⟩
    | true =>
      simp only [if_true] at h
      cases hb : tails ks with
      | none => rw [hb] at h; cases h
      | some b =>
        rw [hb] at h
        simp only [Option.map_some, Option.some.injEq] at h
        subst h
        have hl : (40 :: (b.drop 1 ++ [41]) : List UInt8).length = (b.drop 1).length + 2 := by simp
        rw [hl] at hr
        have hs : stop (41 :: q) = true := by show (!isInner 41 && !decide ((41 : UInt8).toNat = 34)) = true; decide
        rcases tails_head hb with ⟨rfl, rfl⟩ | ⟨b', rfl⟩
        · refine ⟨[⟨1, [40], p⟩, ⟨2, [41], p + 1⟩], ?_, by simp [Are, fl, fls, tokOf, z]⟩
          exact rd_open (rd_close (by simpa using hr))
        · have hc : Rd (41 :: q) (p + (32 :: b').length) (⟨2, [41], p + (32 :: b').length⟩ :: more) := rd_close (by
            have e : p + (List.length (List.drop 1 (32 :: b')) + 2) = p + (32 :: b').length + 1 := by simp; omega
            rw [← e]
            exact hr)
          obtain ⟨ds, h1, h2⟩ := rd_tails ks hb hs hc
          have h3 := rd_open (rd_unblank (c := 32) (by decide) (by simpa using h1))
          refine ⟨⟨1, [40], p⟩ :: (ds ++ [⟨2, [41], p + (32 :: b').length⟩]), ?_, ?_⟩
          · simpa using h3
          · have := (Are.append (a := [⟨1, [40], p⟩]) (l := [⟨1, [40], 0⟩]) (by simp [Are, tokOf, z]) h2).append (b := [⟨2, [41], p + (32 :: b').length⟩]) (m := [⟨2, [41], 0⟩]) (by simp [Are, tokOf, z])
            simpa [fl] using this
theorem rd_tails : ∀ (ks : List Tree) {b q : List UInt8} {p : Nat} {more : List Tk}, tails ks = some b → stop q = true → Rd q (p + b.length) more → ∃ ds, Rd (b ++ q) p (ds ++ more) ∧ Are ds (fls ks)
  | [], b, q, p, more, h, hq, hr => by
    unfold tails at h
    injection h with h
    subst h
    exact ⟨[], by simpa using hr, by simp [Are, fls]⟩
  | t :: r, b, q, p, more, h, hq, hr => by
    unfold tails at h
    split at h
    · rename_i a c ha hc
      injection h with h
      subst h
      have hl : (32 :: (a ++ c) : List UInt8).length = 1 + a.length + c.length := by simp; omega
      rw [hl] at hr
      obtain ⟨d2, h1, h2⟩ := rd_tails r (p := p + 1 + a.length) hc hq (by
        have e : p + 1 + a.length + c.length = p + (1 + a.length + c.length) := by omega
        rw [e]
        exact hr)
      have hs : stop (c ++ q) = true := by
        rcases tails_head hc with ⟨_, rfl⟩ | ⟨c', rfl⟩
        · exact hq
        · show (!isInner 32 && !decide ((32 : UInt8).toNat = 34)) = true
          decide
      obtain ⟨d1, h3, h4⟩ := rd_text t (p := p + 1) ha hs h1
      refine ⟨d1 ++ d2, ?_, by simpa [fls] using h4.append h2⟩
      have := rd_blank (c := 32) (by decide) h3
      simpa using this
    · cases h
end

mutual
theorem fl_len : ∀ (t : Tree), (fl t).length = size t
  | .mk list t ks => by
    unfold fl size
    cases list with
    | false => rfl
    | true => simp [fls_len ks]; omega
theorem fls_len : ∀ (ks : List Tree), (fls ks).length = sizes ks
  | [] => rfl
  | t :: r => by simp [fls, sizes, fl_len t, fls_len r]
end
mutual
theorem run_fl {deep : Int} : ∀ (t : Tree) {s : List UInt8} {ks : List Tree} {st : List (Tok × List Tree)}, text t = some s → (st.length : Int) + high t ≤ deep → run deep (fl t) (ks, st) = .ok (ks ++ [cz t], st)
  | .mk list t kids, s, ks, st, h, hd => by
    unfold text at h
    cases list with
    | false =>
      simp only [Bool.false_eq_true, if_false] at h
      split at h
      · cases h
      rename_i hk
      have h1 : ¬ (z t).k = 1 := fun e => hk (.inl e)
      have h2 : ¬ (z t).k = 2 := fun e => hk (.inr e)
      simp [fl, cz, run, step, h1, h2]
    | true =>
      simp only [if_true] at h
      cases hb : tails kids with
      | none => rw [hb] at h; cases h
      | some b =>
        have hd' : (st.length : Int) + (1 + highs kids : Nat) ≤ deep := by simpa [high] using hd
        have ih := run_fls kids (ks := []) (st := ((⟨1, [40], 0⟩ : Tok), ks) :: st) (deep := deep) hb (by simp only [List.length_cons]; omega)
        have e1 : step deep ⟨1, [40], 0⟩ (ks, st) = .ok ([], (⟨1, [40], 0⟩, ks) :: st) := by
          unfold step
          dsimp only
          rw [if_pos rfl, if_neg (by omega)]
        have e2 : fl (.mk true t kids) = ⟨1, [40], 0⟩ :: (fls kids ++ [⟨2, [41], 0⟩]) := by simp [fl]
        rw [e2, run, e1]
        show run deep (fls kids ++ [⟨2, [41], 0⟩]) _ = _
        rw [run_ok ih]
        simp [run, step, cz]
theorem run_fls {deep : Int} : ∀ (ts : List Tree) {b : List UInt8} {ks : List Tree} {st : List (Tok × List Tree)}, tails ts = some b → (st.length : Int) + highs ts ≤ deep → run deep (fls ts) (ks, st) = .ok (ks ++ czs ts, st)
  | [], _, ks, st, _, _ => by simp [fls, czs, run]
  | t :: r, b, ks, st, h, hd => by
    unfold tails at h
    split at h
    · rename_i a c ha hc
      have hm : highs (t :: r) = max (high t) (highs r) := by simp [highs]
      rw [hm] at hd
      have i1 := run_fl t (ks := ks) (st := st) (deep := deep) ha (by omega)
      have i2 := run_fls r (ks := ks ++ [cz t]) (st := st) (deep := deep) hc (by omega)
      have e : fls (t :: r) = fl t ++ fls r := by simp [fls]
      rw [e, run_ok i1, i2]
      simp [czs]
    · cases h
end
/-- the text of a tree is read as that tree, but for where tokens begin -/
theorem text_read {t : Tree} {s : List UInt8} {deep : Int} (h : text t = some s) (hd : (high t : Int) ≤ deep) : ∃ D ts, readL s = .ok D ∧ D.length = size t ∧ read deep (D.map tokOf) = .ok ts ∧ ers ts = [cz t] := by
  obtain ⟨D, h1, h2⟩ := rd_text t (q := []) (p := 0) (more := []) h rfl (.done (by simp [tk.skipL]))
  rw [List.append_nil, List.append_nil] at h1
  have h3 : read deep ((D.map tokOf).map z) = .ok [cz t] := by
    rw [h2, read_ok]
    have := run_fl t (ks := []) (st := []) (deep := deep) h (by simpa using hd)
    simpa using this
  obtain ⟨ts, h4, h5⟩ := read_er h3
  refine ⟨D, ts, readL_ok.2 h1, ?_, h4, h5⟩
  have := congrArg List.length h2
  rw [fl_len] at this
  simpa using this
end Go.Proofs.YtmnllioeaaimcaaDoor.tr

/- Trees of tokens: how many parts, whether two are one. Plain mathematics. -/
namespace Go.Proofs.YtmnllioeaaimcaaDoor.tr

mutual
/-- how many parts a tree has -/
def parts : Tree → Nat
  | .mk _ _ ks => 1 + partss ks
def partss : List Tree → Nat
  | [] => 0
  | t :: r => parts t + partss r
end
theorem partss_append (a b : List Tree) : partss (a ++ b) = partss a + partss b := by
  induction a with
  | nil => simp [partss]
  | cons t r ih => simp only [List.cons_append, partss, ih]; omega
theorem parts_pos (t : Tree) : 1 ≤ parts t := by cases t; unfold parts; omega
theorem len_partss : ∀ (ks : List Tree), ks.length ≤ partss ks
  | [] => by simp
  | t :: r => by
    have := len_partss r
    have := parts_pos t
    simp only [List.length_cons, partss]
    omega
theorem partss_take {ks : List Tree} {j : Nat} (h : j < ks.length) : partss (ks.take (j + 1)) = partss (ks.take j) + parts ks[j] := by
  rw [List.take_succ_eq_append_getElem h, partss_append]
  simp [partss]
theorem partss_le (ks : List Tree) (j : Nat) : partss (ks.take j) ≤ partss ks := by
  have := partss_append (ks.take j) (ks.drop j)
  rw [List.take_append_drop] at this
  omega
theorem parts_kid {l : Bool} {t : Tok} {ks : List Tree} {j : Nat} (h : j < ks.length) : parts ks[j] < parts (.mk l t ks) := by
  have h1 := partss_le ks (j + 1)
  rw [partss_take h] at h1
  have e : parts (.mk l t ks) = 1 + partss ks := by simp [parts]
  omega
theorem sizes_take {ks : List Tree} {j : Nat} (h : j < ks.length) : sizes (ks.take (j + 1)) = sizes (ks.take j) + size ks[j] := by
  rw [List.take_succ_eq_append_getElem h, sizes_append]
  simp [sizes]
theorem sizes_le (ks : List Tree) (j : Nat) : sizes (ks.take j) ≤ sizes ks := by
  have := sizes_append (ks.take j) (ks.drop j)
  rw [List.take_append_drop] at this
  omega
mutual
theorem size_parts : ∀ (t : Tree), size t ≤ 2 * parts t
  | .mk l t ks => by
    have := sizes_parts ks
    unfold size parts
    split <;> omega
theorem sizes_parts : ∀ (ks : List Tree), sizes ks ≤ 2 * partss ks
  | [] => by simp [sizes]
  | t :: r => by
    have := size_parts t
    have := sizes_parts r
    simp only [sizes, partss]
    omega
end
mutual
theorem high_parts : ∀ (t : Tree), high t ≤ parts t
  | .mk l t ks => by
    have := highs_parts ks
    unfold high parts
    split <;> omega
theorem highs_parts : ∀ (ks : List Tree), highs ks ≤ partss ks
  | [] => by simp [highs]
  | t :: r => by
    have := high_parts t
    have := highs_parts r
    simp only [highs, partss]
    omega
end

mutual
/-- are two trees one ('at': where tokens begin, too)? -/
def sameB (at_ : Bool) : Tree → Tree → Bool
  | .mk l t ks, .mk l' t' ks' => (l == l') && (decide (t.k = t'.k) && (decide (t.s = t'.s) && ((!at_ || decide (t.p = t'.p)) && samesB at_ ks ks')))
def samesB (at_ : Bool) : List Tree → List Tree → Bool
  | [], [] => true
  | [], _ :: _ => false
  | _ :: _, [] => false
  | a :: r, b :: s => sameB at_ a b && samesB at_ r s
end
mutual
theorem same_iff : ∀ (a b : Tree), sameB true a b = true ↔ a = b
  | .mk l t ks, .mk l' t' ks' => by
    have ih := sames_iff ks ks'
    obtain ⟨k, s, p⟩ := t
    obtain ⟨k', s', p'⟩ := t'
    simp [sameB, ih, and_assoc]
theorem sames_iff : ∀ (a b : List Tree), samesB true a b = true ↔ a = b
  | [], [] => by simp [samesB]
  | [], _ :: _ => by simp [samesB]
  | _ :: _, [] => by simp [samesB]
  | a :: r, b :: s => by
    have h1 := same_iff a b
    have h2 := sames_iff r s
    simp [samesB, h1, h2]
end
mutual
theorem same_er : ∀ (a b : Tree), sameB false a b = true ↔ er a = er b
  | .mk l t ks, .mk l' t' ks' => by
    have ih := sames_er ks ks'
    obtain ⟨k, s, p⟩ := t
    obtain ⟨k', s', p'⟩ := t'
    simp [sameB, er, z, ih, and_assoc]
theorem sames_er : ∀ (a b : List Tree), samesB false a b = true ↔ ers a = ers b
  | [], [] => by simp [samesB]
  | [], _ :: _ => by simp [samesB, ers]
  | _ :: _, [] => by simp [samesB, ers]
  | a :: r, b :: s => by
    have h1 := same_er a b
    have h2 := sames_er r s
    simp [samesB, ers, h1, h2]
end
theorem sames_len {at_ : Bool} : ∀ {a b : List Tree}, samesB at_ a b = true → a.length = b.length
  | [], [], _ => rfl
  | [], _ :: _, h => by simp [samesB] at h
  | _ :: _, [], h => by simp [samesB] at h
  | _ :: r, _ :: s, h => by
    simp only [samesB, Bool.and_eq_true] at h
    simp [sames_len h.2]
theorem sames_at {at_ : Bool} : ∀ {a b : List Tree}, a.length = b.length → (samesB at_ a b = true ↔ ∀ j (h : j < a.length) (h' : j < b.length), sameB at_ a[j] b[j] = true)
  | [], [], _ => by simp [samesB]
  | [], _ :: _, h => by simp at h
  | _ :: _, [], h => by simp at h
  | x :: r, y :: s, h => by
    have ih := sames_at (at_ := at_) (a := r) (b := s) (by simpa using h)
    simp only [samesB, Bool.and_eq_true, ih]
    constructor
    · rintro ⟨h1, h2⟩ j hj hj'
      cases j with
      | zero => exact h1
      | succ j => exact h2 j (by simpa using hj) (by simpa using hj')
    · intro h
      exact ⟨h 0 (by simp) (by simp), fun j hj hj' => h (j + 1) (by simpa using hj) (by simpa using hj')⟩
/-- the tree of the text that clean makes is the tree itself, but for places -/
def open1 : Tok := ⟨1, [40], 0⟩
mutual
def clean : Tree → Tree
  | .mk list t ks => if list then .mk true open1 (cleans ks) else .mk false t []
def cleans : List Tree → List Tree
  | [] => []
  | t :: r => clean t :: cleans r
end
mutual
theorem er_clean : ∀ (t : Tree), er (clean t) = cz t
  | .mk l t ks => by
    have := ers_clean ks
    cases l <;> simp [clean, cz, er, ers, z, open1, this]
theorem ers_clean : ∀ (ks : List Tree), ers (cleans ks) = czs ks
  | [] => by simp [cleans, czs, ers]
  | t :: r => by simp [cleans, czs, ers, er_clean t, ers_clean r]
end
mutual
theorem size_clean : ∀ (t : Tree), size (clean t) = size t
  | .mk l t ks => by
    have := sizes_clean ks
    cases l <;> simp [clean, size, this]
theorem sizes_clean : ∀ (ks : List Tree), sizes (cleans ks) = sizes ks
  | [] => by simp [cleans, sizes]
  | t :: r => by simp [cleans, sizes, size_clean t, sizes_clean r]
end
theorem cleans_take (ks : List Tree) : ∀ j, cleans (ks.take j) = (cleans ks).take j := by
  induction ks with
  | nil => intro j; simp [cleans]
  | cons t r ih =>
    intro j
    cases j with
    | zero => simp [cleans]
    | succ j => simp [cleans, ih]
end Go.Proofs.YtmnllioeaaimcaaDoor.tr
