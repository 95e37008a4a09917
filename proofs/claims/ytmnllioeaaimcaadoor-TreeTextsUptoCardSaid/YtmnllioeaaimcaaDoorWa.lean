/- A range over a function whose iterator keeps cells of its own: what each side owes the other. X: the blocks that the iterator (and the loop's own record) may turn; whatever else lies is the caller's. -/
import Derived.RangeFuncNested
import Derived.RangeFuncBound
import Derived.RangeFuncCalls
import Derived.RangeFuncLeaves
import Derived.Test.YtmnllioeaaimcaaDoorRows
namespace Go.Proofs.YtmnllioeaaimcaaDoor.tr
open Go Go.RowKit

/-- only blocks of X have turned; new ones may have come -/
structure Sft (X : Nat → Prop) (W W' : World) : Prop where
  os : W'.os = W.os
  tape : W'.tape = W.tape
  output : W'.output = W.output
  size : W.heap.size ≤ W'.heap.size
  block : ∀ g, g < W.heap.size → ¬ X g → W'.heap[g]? = W.heap[g]?
theorem Sft.refl (X : Nat → Prop) (W : World) : Sft X W W := ⟨rfl, rfl, rfl, Nat.le_refl _, fun _ _ _ => rfl⟩
theorem Sft.mono {X Y : Nat → Prop} {A B : World} (h : Sft X A B) (hs : ∀ g, X g → Y g) : Sft Y A B := ⟨h.os, h.tape, h.output, h.size, fun g hg hn => h.block g hg (fun hx => hn (hs g hx))⟩
theorem Sft.trans {X Y : Nat → Prop} {A B C : World} (h : Sft X A B) (k : Sft Y B C) (hs : ∀ g, Y g → X g ∨ A.heap.size ≤ g) : Sft X A C :=
  ⟨k.os.trans h.os, k.tape.trans h.tape, k.output.trans h.output, Nat.le_trans h.size k.size, fun g hg hn => (k.block g (Nat.lt_of_lt_of_le hg h.size) (fun hy => (hs g hy).elim hn (fun h2 => by omega))).trans (h.block g hg hn)⟩
theorem Sft.alloc (X : Nat → Prop) (W : World) (o : Obj) : Sft X W (W.alloc o) := ⟨rfl, rfl, rfl, by simp, fun g hg _ => Below.heap_alloc W o g hg⟩
theorem Sft.setCell {X : Nat → Prop} {W : World} {p : Addr} (hp : X p.block) (v : Value) : Sft X W (W.setCell p v) :=
  ⟨rfl, rfl, rfl, (KeepsWalks.setCell W p v).size, fun g _ hn => Below.heap_setCell W p v g (fun e => hn (e ▸ hp))⟩
theorem Sft.putObj {X : Nat → Prop} {W : World} {l : Nat} (hp : X l) (o : Obj) : Sft X W (W.putObj l o) :=
  ⟨rfl, rfl, rfl, by simp, fun g _ hn => World.putObj_heap_other (fun e => hn (e ▸ hp))⟩
theorem Sft.of_grown {X : Nat → Prop} {W W' : World} {row : Option Nat} (hg : W.grownBy W' row) (hr : ∀ r, row = some r → X r) : Sft X W W' :=
  ⟨hg.os, hg.tape, hg.output, hg.size, fun g hl hn => hg.block g hl (fun e => hn (hr g e.symm))⟩
theorem Sft.of_below {X : Nat → Prop} {B : Nat} {W W' : World} (h : Below B W W') (hX : ∀ g, B ≤ g → X g) : Sft X W W' :=
  ⟨h.os, h.tape, h.output, h.size, fun g _ hn => h.block g (by rcases Nat.lt_or_ge g B with h1 | h1; exact h1; exact absurd (hX g h1) hn)⟩
theorem Sft.below {X : Nat → Prop} {B : Nat} {W W' : World} (h : Sft X W W') (hB : B ≤ W.heap.size) (hX : ∀ g, X g → B ≤ g) : Below B W W' :=
  ⟨h.os, h.tape, h.output, h.size, fun g hg => h.block g (by omega) (fun hx => by have := hX g hx; omega)⟩

/-- the round's word: what lies below n0, and what is the iterator's, is as it was -/
structure Kps (n0 : Nat) (X : Nat → Prop) (W W' : World) : Prop where
  bel : Below n0 W W'
  own : ∀ g, X g → g < W.heap.size → W'.heap[g]? = W.heap[g]?
theorem Kps.refl (n0 : Nat) (X : Nat → Prop) (W : World) : Kps n0 X W W := ⟨Below.refl _ _, fun _ _ _ => rfl⟩
theorem Kps.trans {n0 : Nat} {X : Nat → Prop} {A B C : World} (h : Kps n0 X A B) (k : Kps n0 X B C) : Kps n0 X A C := ⟨h.bel.trans k.bel, fun g hx hg => (k.own g hx (Nat.lt_of_lt_of_le hg h.bel.size)).trans (h.own g hx hg)⟩
theorem Kps.mono {n0 : Nat} {X Y : Nat → Prop} {A B : World} (h : Kps n0 Y A B) (hs : ∀ g, X g → Y g) : Kps n0 X A B := ⟨h.bel, fun g hx hg => h.own g (hs g hx) hg⟩

/-- it doesn't mind what the iterator does -/
def Stab {β : Type} (J : β → (Nat → Prop) → World → Prop) : Prop :=
  ∀ s X X' W W', J s X W → Sft X W W' → (∀ g, X' g → X g ∨ W.heap.size ≤ g) → J s X' W'

/-- the iterator's word: of each that comes, in its order, yield is called; with what it keeps of its own named -/
def Seqs {α : Type} (F : Fence) (n : Nat) (P : Program) (g : Nat) (lb : Array Value) (encs : α → Array Value) (E : List α) (n0 : Nat) (w : World) : Prop :=
  ∀ (l : Nat) (J Jx : List α → (Nat → Prop) → World → Prop) (W : World), Below w.heap.size w W → Stab J → Stab Jx →
    (∀ pre x X W1, J pre X W1 → (∀ g, X g → g < W1.heap.size) → pre ++ [x] <+: E → YieldAt F (n - 1) P l (encs x) W1 fun e W' =>
      (e = .returned (.bool true) ∧ J (pre ++ [x]) X W' ∧ Kps n0 X W1 W') ∨ (e = .returned (.bool false) ∧ Jx (pre ++ [x]) X W')) →
    J [] (fun _ => False) W →
    CallsIn F n P g (#[.func (.yield l) #[] #[]] ++ lb) W fun e W' => (∃ v, e = .returned v) ∧ ((∃ X, J E X W') ∨ (∃ pre X, pre <+: E ∧ Jx pre X W'))

/-- how the body of a round may be left -/
def rPost {α : Type} (n0 : Nat) (X : Nat → Prop) (I : List α → (Nat → Prop) → World → Prop) (Ix : Code → List α → (Nat → Prop) → World → Prop) (xs : List α) (W : World) : Exit → Act → World → Prop
  | .normal, _, W' => Kps n0 X W W' ∧ I xs X W'
  | .ret, _, W' => Kps n0 X W W' ∧ Ix .ret xs X W'
  | _, _, _ => False

section
variable {F : Fence} {n : Nat} {P : Program}
/-- **for .. := range it { .. }**, where the iterator keeps cells of its own -/
theorem rangeFunc_own {α : Type} {g : Operand} {ps : Array Tmp} {assign body : Code} {Q : Exit → Act → World → Prop} {a : Act} {w : World}
    (hro : F.round = none) (h1 : 1 ≤ n) {gf : Nat} {lb : Array Value} (hg : a.eval g = .func (.func gf) #[] lb) (hFg : F.fn gf) (eg : ∀ args w, (callFunc gf args).run P w = .ok (.enter gf args) w)
    {encs : α → Array Value} {E : List α} {n0 : Nat} (hseq : Seqs F (n - 1) P gf lb encs E n0 w) (hn0 : n0 ≤ w.heap.size) (hps : ∀ x, (encs x).size = ps.size)
    (I : List α → (Nat → Prop) → World → Prop) (Ix : Code → List α → (Nat → Prop) → World → Prop) (hI : Stab I) (hIx : ∀ c, Stab (Ix c)) (h0 : I [] (fun _ => False) w)
    (hround : ∀ (l : Nat) (pre : List α) (x : α) (X : Nat → Prop) (W : World), I pre X W → (∀ g, X g → g < W.heap.size) → pre ++ [x] <+: E →
      assign.wpIn (F.inRound l) (n - 1 - 1) P (Exit.then (fun a₁ W1 => Kps n0 X W W1 ∧ ∀ W2, Sft X W1 W2 → W2.heap.size = W1.heap.size → body.wpIn (F.inRound l) (n - 1 - 1) P (rPost n0 X I Ix (pre ++ [x]) W2) a₁ W2) (fun _ _ _ => False))
        { tmps := (ps.zip (encs x)).foldl (fun t (p, v) => t.setIfInBounds p v) a.tmps, defers := [] } W)
    (hdone : ∀ (D : Nat) (X : Nat → Prop) (W : World), w.heap.size ≤ D → X D → I E X W → W.heap[D]? = some (.deferred (some [])) → Q .normal { a with defers := { target := .collected D, args := #[] } :: a.defers } W)
    (hstop : ∀ (D : Nat) (c : Code) (pre : List α) (X : Nat → Prop) (W : World), w.heap.size ≤ D → X D → pre <+: E → Ix c pre X W → W.heap[D]? = some (.deferred (some [])) → c.wpIn F n P Q { a with defers := { target := .collected D, args := #[] } :: a.defers } W) :
    (Code.rangeFunc g ps assign body).wpIn F n P Q a w := by
  refine wpIn_rangeFunc fun fn hfn => ?_
  rw [hro]
  obtain ⟨rec, hrec⟩ : ∃ rec : LoopState → Option Code → Loop, rec = fun st pe => { state := st, pending := pe, fn, tmps := a.tmps, params := ps, assign, body, defers := w.heap.size } := ⟨_, rfl⟩
  -- D: the block of the rounds' deferred calls; l: the loop's record
  obtain ⟨D, hD⟩ : ∃ D, D = w.heap.size := ⟨_, rfl⟩
  obtain ⟨l, hl⟩ : ∃ l, l = w.heap.size + 1 := ⟨_, rfl⟩
  obtain ⟨W1, hW1⟩ : ∃ W1, (w.alloc (.deferred (some []))).alloc (.loop (rec .ready none)) = W1 := ⟨_, rfl⟩
  have rec1 : W1.heap[l]? = some (.loop (rec .ready none)) := by
    rw [← hW1, hl]
    have := World.alloc_heap_new (w.alloc (.deferred (some []))) (.loop (rec .ready none))
    rwa [World.size_alloc] at this
  have def1 : W1.heap[D]? = some (.deferred (some [])) := by
    rw [← hW1, hD]
    exact (Below.heap_alloc _ _ _ (by simp)).trans (World.alloc_heap_new w _)
  have sft1 : Sft (fun _ => False) w W1 := by
    rw [← hW1]
    exact (Sft.alloc _ w _).trans (Sft.alloc (fun _ => False) _ _) (fun _ h => h.elim)
  -- what the loop's two blocks are, and that they aren't the iterator's
  let mine : Loop → (Nat → Prop) → World → Prop := fun r X W => W.heap[l]? = some (.loop r) ∧ W.heap[D]? = some (.deferred (some [])) ∧ ¬ X l ∧ ¬ X D
  let with_ : (Nat → Prop) → Nat → Prop := fun X g => X g ∨ g = l ∨ g = D
  have mineStab : ∀ r X X' W W', mine r X W → Sft X W W' → (∀ g, X' g → X g ∨ W.heap.size ≤ g) → mine r X' W' := by
    rintro r X X' W W' ⟨a1, a2, a3, a4⟩ hs hX
    have b1 := (Array.getElem?_eq_some_iff.1 a1).1
    have b2 := (Array.getElem?_eq_some_iff.1 a2).1
    exact ⟨(hs.block l b1 a3).trans a1, (hs.block D b2 a4).trans a2, fun h => (hX l h).elim a3 (fun _ => by omega), fun h => (hX D h).elim a4 (fun _ => by omega)⟩
  have withStab : ∀ {β : Type} (J : β → (Nat → Prop) → World → Prop), Stab J → ∀ s X X' W W', J s (with_ X) W → Sft X W W' → (∀ g, X' g → X g ∨ W.heap.size ≤ g) → J s (with_ X') W' :=
    fun J hJ s X X' W W' hs hf hX => hJ s _ _ _ _ hs (hf.mono fun _ => .inl) (fun g hg => by
      rcases hg with hg | hg
      · exact (hX g hg).imp .inl id
      · exact .inl (.inr hg))
  refine ⟨l, [{ target := .collected D, args := #[] }], W1, { target := .fn (.func gf) lb, args := #[.func (.yield l) #[] #[]] }, W1, gf, #[.func (.yield l) #[] #[]] ++ lb, W1, ?_, ?_, ?_, ?_, fun _ => h1, ?_⟩
  · rw [← hW1, hrec, hl, hD]; exact run_enterLoop_outer _ _ _ _ _
  · simp only [resolve, hg]
    simp [go_sem]
  · intro f' hf'
    simp [Target.leads] at hf'
    subst hf'
    exact hFg
  · simp [invoke, go_sem, eg]
  refine (hseq l (fun pre X W => I pre (with_ X) W ∧ mine (rec .ready none) X W) (fun pre X W => ∃ c, Ix c pre (with_ X) W ∧ mine (rec .done (some c)) X W) W1 (sft1.below (Nat.le_refl _) (fun _ h => h.elim))
    (fun s X X' W W' hs hf hX => ⟨withStab I hI s X X' W W' hs.1 hf hX, mineStab _ X X' W W' hs.2 hf hX⟩)
    (fun s X X' W W' hs hf hX => hs.imp fun c h => ⟨withStab (Ix c) (hIx c) s X X' W W' h.1 hf hX, mineStab _ X X' W W' h.2 hf hX⟩)
    ?_ ⟨hI _ _ _ _ _ h0 sft1 (fun g hg => by rcases hg with hg | rfl | rfl; exact hg.elim; all_goals exact .inr (by omega)), rec1, def1, id, id⟩).mono ?_
  · -- a round
    rintro pre x X W ⟨hi, hm⟩ hX hpre
    obtain ⟨m1, m2, m3, m4⟩ := hm
    have s1 := (Array.getElem?_eq_some_iff.1 m1).1
    have s2 := (Array.getElem?_eq_some_iff.1 m2).1
    have hy := run_yield (P := P) (args := encs x) m1 (by rw [hrec]; exact hps x)
    rw [hrec] at hy
    refine ⟨fn, _, assign, body, hy, roundIn_of_wpIn hfn (wpIn_mono (hround l pre x (with_ X) W hi (fun g hg => by rcases hg with hg | rfl | rfl; exact hX g hg; exact s1; exact s2) hpre) ?_)⟩
    intro e a2 W2 hp
    cases e with
    | normal =>
      obtain ⟨k2, hbody⟩ := hp
      have m12 := (k2.own l (.inr (.inl rfl)) s1).trans m1
      have m22 := (k2.own D (.inr (.inr rfl)) s2).trans m2
      have l2 := (Array.getElem?_eq_some_iff.1 m12).1
      have d2 := (Array.getElem?_eq_some_iff.1 m22).1
      refine ⟨_, run_beginRound m12 (by rw [hrec]), wpIn_mono (hbody (W2.putObj l (.loop { rec .ready none with state := .busy })) (Sft.putObj (.inr (.inl rfl)) _) (by simp)) ?_⟩
      have m13 : (W2.putObj l (.loop { rec .ready none with state := .busy })).heap[l]? = some (.loop { rec .ready none with state := .busy }) := World.putObj_heap_same l2
      have m23 : (W2.putObj l (.loop { rec .ready none with state := .busy })).heap[D]? = some (.deferred (some [])) := (World.putObj_heap_other (by omega)).trans m22
      -- how a round ends, by the jump that it leaves
      have fin : ∀ (jump : Option Code) (W3 : World), Kps n0 (with_ X) (W2.putObj l (.loop { rec .ready none with state := .busy })) W3 →
          (Instr.endRound l jump).run P W3 = .ok (.bool jump.isNone) (W3.putObj l (.loop (rec (if jump.isNone then .ready else .done) jump))) ∧
          mine (rec (if jump.isNone then .ready else .done) jump) X (W3.putObj l (.loop (rec (if jump.isNone then .ready else .done) jump))) ∧ Kps n0 X W (W3.putObj l (.loop (rec (if jump.isNone then .ready else .done) jump))) := by
        intro jump W3 k3
        have m14 := (k3.own l (.inr (.inl rfl)) (by simpa using l2)).trans m13
        have m24 := (k3.own D (.inr (.inr rfl)) (by simpa using d2)).trans m23
        have he := run_endRound (P := P) jump m14
        have l4 := (Array.getElem?_eq_some_iff.1 m14).1
        have turn : ∀ (V : World) (o : Obj), l < V.heap.size → Kps n0 X V (V.putObj l o) := fun V o _ => ⟨(Sft.putObj (X := fun g => g = l) rfl o).below (B := n0) (by omega) (fun g e => by omega), fun g hx _ => World.putObj_heap_other (fun e => m3 (e ▸ hx))⟩
        refine ⟨by rw [hrec] at he ⊢; exact he, ⟨World.putObj_heap_same l4, (World.putObj_heap_other (by omega)).trans m24, m3, m4⟩, ?_⟩
        exact ((k2.mono fun _ => .inl).trans (turn W2 _ l2)).trans ((k3.mono fun _ => .inl).trans (turn W3 _ l4))
      rintro e3 a3 W3 hp3
      cases e3 with
      | normal =>
        obtain ⟨k3, i3⟩ := hp3
        obtain ⟨hr, hm3, hk3⟩ := fin none W3 k3
        exact ⟨_, _, hr, .inl ⟨rfl, ⟨hI _ _ _ _ _ i3 (Sft.putObj (.inr (.inl rfl)) _) (fun g hg => .inl hg), hm3⟩, hk3⟩⟩
      | ret =>
        obtain ⟨k3, i3⟩ := hp3
        obtain ⟨hr, hm3, _⟩ := fin (some .ret) W3 k3
        exact ⟨_, _, hr, .inr ⟨rfl, .ret, hIx _ _ _ _ _ _ i3 (Sft.putObj (.inr (.inl rfl)) _) (fun g hg => .inl hg), hm3⟩⟩
      | exit id => exact hp3.elim
      | goto t => exact hp3.elim
      | panic ch => exact hp3.elim
      | outgrown => exact hp3.elim
    | ret => exact hp.elim
    | exit id => exact hp.elim
    | goto t => exact hp.elim
    | panic ch => exact hp.elim
    | outgrown => exact hp.elim
  · -- behind the iterator
    rintro e W2 ⟨⟨v, rfl⟩, (⟨X, hi, m1, m2, m3, m4⟩ | ⟨pre, X, hp, c, hi, m1, m2, m3, m4⟩)⟩
    · exact ⟨none, _, by have := run_endLoop (P := P) m1 (by rw [hrec]; simp); rw [hrec] at this; exact this, hdone D (with_ X) _ (by omega) (.inr (.inr rfl)) (hI _ (with_ X) (with_ X) _ _ hi (Sft.putObj (X := with_ X) (.inr (.inl rfl)) _) (fun g hg => .inl hg)) ((World.putObj_heap_other (by omega)).trans m2)⟩
    · exact ⟨some c, _, by have := run_endLoop (P := P) m1 (by rw [hrec]; simp); rw [hrec] at this; exact this, hstop D c pre (with_ X) _ (by omega) (.inr (.inr rfl)) hp (hIx c _ (with_ X) (with_ X) _ _ hi (Sft.putObj (X := with_ X) (.inr (.inl rfl)) _) (fun g hg => .inl hg)) ((World.putObj_heap_other (by omega)).trans m2)⟩
end
end Go.Proofs.YtmnllioeaaimcaaDoor.tr
