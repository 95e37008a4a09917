/- The statement DagSorts: the arena, the row of functions that the call keeps, an act's box. -/
import Derived.Test.YtdnhhfhjjimcgaaDoorIf
namespace Go.Proofs.YtdnhhfhjjimcgaaDoor.dg
open Go Go.RowKit
set_option linter.unusedVariables false
set_option linter.unusedSimpArgs false

theorem spat26 {α : Type} {a0 a1 a2 a3 a4 a5 a6 a7 a8 a9 a10 a11 a12 a13 a14 a15 a16 a17 a18 a19 a20 a21 a22 a23 a24 a25 o : α} {t : List α} : (List.toArray (a0 :: a1 :: a2 :: a3 :: a4 :: a5 :: a6 :: a7 :: a8 :: a9 :: a10 :: a11 :: a12 :: a13 :: a14 :: a15 :: a16 :: a17 :: a18 :: a19 :: a20 :: a21 :: a22 :: a23 :: a24 :: a25 :: o :: t))[26]? = some o := rfl
theorem spat27 {α : Type} {a0 a1 a2 a3 a4 a5 a6 a7 a8 a9 a10 a11 a12 a13 a14 a15 a16 a17 a18 a19 a20 a21 a22 a23 a24 a25 a26 o : α} {t : List α} : (List.toArray (a0 :: a1 :: a2 :: a3 :: a4 :: a5 :: a6 :: a7 :: a8 :: a9 :: a10 :: a11 :: a12 :: a13 :: a14 :: a15 :: a16 :: a17 :: a18 :: a19 :: a20 :: a21 :: a22 :: a23 :: a24 :: a25 :: a26 :: o :: t))[27]? = some o := rfl
theorem spat28 {α : Type} {a0 a1 a2 a3 a4 a5 a6 a7 a8 a9 a10 a11 a12 a13 a14 a15 a16 a17 a18 a19 a20 a21 a22 a23 a24 a25 a26 a27 o : α} {t : List α} : (List.toArray (a0 :: a1 :: a2 :: a3 :: a4 :: a5 :: a6 :: a7 :: a8 :: a9 :: a10 :: a11 :: a12 :: a13 :: a14 :: a15 :: a16 :: a17 :: a18 :: a19 :: a20 :: a21 :: a22 :: a23 :: a24 :: a25 :: a26 :: a27 :: o :: t))[28]? = some o := rfl
theorem spat29 {α : Type} {a0 a1 a2 a3 a4 a5 a6 a7 a8 a9 a10 a11 a12 a13 a14 a15 a16 a17 a18 a19 a20 a21 a22 a23 a24 a25 a26 a27 a28 o : α} {t : List α} : (List.toArray (a0 :: a1 :: a2 :: a3 :: a4 :: a5 :: a6 :: a7 :: a8 :: a9 :: a10 :: a11 :: a12 :: a13 :: a14 :: a15 :: a16 :: a17 :: a18 :: a19 :: a20 :: a21 :: a22 :: a23 :: a24 :: a25 :: a26 :: a27 :: a28 :: o :: t))[29]? = some o := rfl
theorem spat30 {α : Type} {a0 a1 a2 a3 a4 a5 a6 a7 a8 a9 a10 a11 a12 a13 a14 a15 a16 a17 a18 a19 a20 a21 a22 a23 a24 a25 a26 a27 a28 a29 o : α} {t : List α} : (List.toArray (a0 :: a1 :: a2 :: a3 :: a4 :: a5 :: a6 :: a7 :: a8 :: a9 :: a10 :: a11 :: a12 :: a13 :: a14 :: a15 :: a16 :: a17 :: a18 :: a19 :: a20 :: a21 :: a22 :: a23 :: a24 :: a25 :: a26 :: a27 :: a28 :: a29 :: o :: t))[30]? = some o := rfl
theorem spat31 {α : Type} {a0 a1 a2 a3 a4 a5 a6 a7 a8 a9 a10 a11 a12 a13 a14 a15 a16 a17 a18 a19 a20 a21 a22 a23 a24 a25 a26 a27 a28 a29 a30 o : α} {t : List α} : (List.toArray (a0 :: a1 :: a2 :: a3 :: a4 :: a5 :: a6 :: a7 :: a8 :: a9 :: a10 :: a11 :: a12 :: a13 :: a14 :: a15 :: a16 :: a17 :: a18 :: a19 :: a20 :: a21 :: a22 :: a23 :: a24 :: a25 :: a26 :: a27 :: a28 :: a29 :: a30 :: o :: t))[31]? = some o := rfl
theorem spat32 {α : Type} {a0 a1 a2 a3 a4 a5 a6 a7 a8 a9 a10 a11 a12 a13 a14 a15 a16 a17 a18 a19 a20 a21 a22 a23 a24 a25 a26 a27 a28 a29 a30 a31 o : α} {t : List α} : (List.toArray (a0 :: a1 :: a2 :: a3 :: a4 :: a5 :: a6 :: a7 :: a8 :: a9 :: a10 :: a11 :: a12 :: a13 :: a14 :: a15 :: a16 :: a17 :: a18 :: a19 :: a20 :: a21 :: a22 :: a23 :: a24 :: a25 :: a26 :: a27 :: a28 :: a29 :: a30 :: a31 :: o :: t))[32]? = some o := rfl
theorem spat33 {α : Type} {a0 a1 a2 a3 a4 a5 a6 a7 a8 a9 a10 a11 a12 a13 a14 a15 a16 a17 a18 a19 a20 a21 a22 a23 a24 a25 a26 a27 a28 a29 a30 a31 a32 o : α} {t : List α} : (List.toArray (a0 :: a1 :: a2 :: a3 :: a4 :: a5 :: a6 :: a7 :: a8 :: a9 :: a10 :: a11 :: a12 :: a13 :: a14 :: a15 :: a16 :: a17 :: a18 :: a19 :: a20 :: a21 :: a22 :: a23 :: a24 :: a25 :: a26 :: a27 :: a28 :: a29 :: a30 :: a31 :: a32 :: o :: t))[33]? = some o := rfl
theorem spat34 {α : Type} {a0 a1 a2 a3 a4 a5 a6 a7 a8 a9 a10 a11 a12 a13 a14 a15 a16 a17 a18 a19 a20 a21 a22 a23 a24 a25 a26 a27 a28 a29 a30 a31 a32 a33 o : α} {t : List α} : (List.toArray (a0 :: a1 :: a2 :: a3 :: a4 :: a5 :: a6 :: a7 :: a8 :: a9 :: a10 :: a11 :: a12 :: a13 :: a14 :: a15 :: a16 :: a17 :: a18 :: a19 :: a20 :: a21 :: a22 :: a23 :: a24 :: a25 :: a26 :: a27 :: a28 :: a29 :: a30 :: a31 :: a32 :: a33 :: o :: t))[34]? = some o := rfl
theorem spat35 {α : Type} {a0 a1 a2 a3 a4 a5 a6 a7 a8 a9 a10 a11 a12 a13 a14 a15 a16 a17 a18 a19 a20 a21 a22 a23 a24 a25 a26 a27 a28 a29 a30 a31 a32 a33 a34 o : α} {t : List α} : (List.toArray (a0 :: a1 :: a2 :: a3 :: a4 :: a5 :: a6 :: a7 :: a8 :: a9 :: a10 :: a11 :: a12 :: a13 :: a14 :: a15 :: a16 :: a17 :: a18 :: a19 :: a20 :: a21 :: a22 :: a23 :: a24 :: a25 :: a26 :: a27 :: a28 :: a29 :: a30 :: a31 :: a32 :: a33 :: a34 :: o :: t))[35]? = some o := rfl
theorem spat36 {α : Type} {a0 a1 a2 a3 a4 a5 a6 a7 a8 a9 a10 a11 a12 a13 a14 a15 a16 a17 a18 a19 a20 a21 a22 a23 a24 a25 a26 a27 a28 a29 a30 a31 a32 a33 a34 a35 o : α} {t : List α} : (List.toArray (a0 :: a1 :: a2 :: a3 :: a4 :: a5 :: a6 :: a7 :: a8 :: a9 :: a10 :: a11 :: a12 :: a13 :: a14 :: a15 :: a16 :: a17 :: a18 :: a19 :: a20 :: a21 :: a22 :: a23 :: a24 :: a25 :: a26 :: a27 :: a28 :: a29 :: a30 :: a31 :: a32 :: a33 :: a34 :: a35 :: o :: t))[36]? = some o := rfl
theorem spat37 {α : Type} {a0 a1 a2 a3 a4 a5 a6 a7 a8 a9 a10 a11 a12 a13 a14 a15 a16 a17 a18 a19 a20 a21 a22 a23 a24 a25 a26 a27 a28 a29 a30 a31 a32 a33 a34 a35 a36 o : α} {t : List α} : (List.toArray (a0 :: a1 :: a2 :: a3 :: a4 :: a5 :: a6 :: a7 :: a8 :: a9 :: a10 :: a11 :: a12 :: a13 :: a14 :: a15 :: a16 :: a17 :: a18 :: a19 :: a20 :: a21 :: a22 :: a23 :: a24 :: a25 :: a26 :: a27 :: a28 :: a29 :: a30 :: a31 :: a32 :: a33 :: a34 :: a35 :: a36 :: o :: t))[37]? = some o := rfl
theorem spat38 {α : Type} {a0 a1 a2 a3 a4 a5 a6 a7 a8 a9 a10 a11 a12 a13 a14 a15 a16 a17 a18 a19 a20 a21 a22 a23 a24 a25 a26 a27 a28 a29 a30 a31 a32 a33 a34 a35 a36 a37 o : α} {t : List α} : (List.toArray (a0 :: a1 :: a2 :: a3 :: a4 :: a5 :: a6 :: a7 :: a8 :: a9 :: a10 :: a11 :: a12 :: a13 :: a14 :: a15 :: a16 :: a17 :: a18 :: a19 :: a20 :: a21 :: a22 :: a23 :: a24 :: a25 :: a26 :: a27 :: a28 :: a29 :: a30 :: a31 :: a32 :: a33 :: a34 :: a35 :: a36 :: a37 :: o :: t))[38]? = some o := rfl
theorem spat39 {α : Type} {a0 a1 a2 a3 a4 a5 a6 a7 a8 a9 a10 a11 a12 a13 a14 a15 a16 a17 a18 a19 a20 a21 a22 a23 a24 a25 a26 a27 a28 a29 a30 a31 a32 a33 a34 a35 a36 a37 a38 o : α} {t : List α} : (List.toArray (a0 :: a1 :: a2 :: a3 :: a4 :: a5 :: a6 :: a7 :: a8 :: a9 :: a10 :: a11 :: a12 :: a13 :: a14 :: a15 :: a16 :: a17 :: a18 :: a19 :: a20 :: a21 :: a22 :: a23 :: a24 :: a25 :: a26 :: a27 :: a28 :: a29 :: a30 :: a31 :: a32 :: a33 :: a34 :: a35 :: a36 :: a37 :: a38 :: o :: t))[39]? = some o := rfl
theorem spat40 {α : Type} {a0 a1 a2 a3 a4 a5 a6 a7 a8 a9 a10 a11 a12 a13 a14 a15 a16 a17 a18 a19 a20 a21 a22 a23 a24 a25 a26 a27 a28 a29 a30 a31 a32 a33 a34 a35 a36 a37 a38 a39 o : α} {t : List α} : (List.toArray (a0 :: a1 :: a2 :: a3 :: a4 :: a5 :: a6 :: a7 :: a8 :: a9 :: a10 :: a11 :: a12 :: a13 :: a14 :: a15 :: a16 :: a17 :: a18 :: a19 :: a20 :: a21 :: a22 :: a23 :: a24 :: a25 :: a26 :: a27 :: a28 :: a29 :: a30 :: a31 :: a32 :: a33 :: a34 :: a35 :: a36 :: a37 :: a38 :: a39 :: o :: t))[40]? = some o := rfl
theorem spat41 {α : Type} {a0 a1 a2 a3 a4 a5 a6 a7 a8 a9 a10 a11 a12 a13 a14 a15 a16 a17 a18 a19 a20 a21 a22 a23 a24 a25 a26 a27 a28 a29 a30 a31 a32 a33 a34 a35 a36 a37 a38 a39 a40 o : α} {t : List α} : (List.toArray (a0 :: a1 :: a2 :: a3 :: a4 :: a5 :: a6 :: a7 :: a8 :: a9 :: a10 :: a11 :: a12 :: a13 :: a14 :: a15 :: a16 :: a17 :: a18 :: a19 :: a20 :: a21 :: a22 :: a23 :: a24 :: a25 :: a26 :: a27 :: a28 :: a29 :: a30 :: a31 :: a32 :: a33 :: a34 :: a35 :: a36 :: a37 :: a38 :: a39 :: a40 :: o :: t))[41]? = some o := rfl

/-- an arena of the call's, and a row of functions that it keeps -/
structure Rk (w W : World) (F : Nat → Prop) (a : Nat) (S : St) (n : Nat) (kv : Value) (l : List Fnn) : Prop where
  m : Mine w W F a S
  kept : ∃ xs, W.ownsRow w.heap.size 63 3 kv l.length xs ∧ Ch (FnnC W (fun q => q < n)) l xs
  fk : ∀ g, kv.ownBlock = some g → ¬ F g
theorem Rk.step {w W W' : World} {F : Nat → Prop} {a n : Nat} {S S' : St} {kv : Value} {l : List Fnn} (hn : n ≤ w.heap.size) (h : Rk w W F a S n kv l) (e : ArEnd W W' F a S') : ∃ F', Rk w W' F' a S' n kv l ∧ ∀ g, g < W.heap.size → ¬ F g → ¬ F' g := by
  obtain ⟨F', h3, h4, h5⟩ := e
  obtain ⟨xs, k1, k2⟩ := h.kept
  have hB : Below w.heap.size w W' := h.m.2.1.trans (h4.below h.m.2.1.size h.m.2.2)
  have hno : ∀ g, g < W.heap.size → ¬ F g → ¬ F' g := fun g hg hf hx => by
    rcases h5 g hx with h6 | h6
    · exact hf h6
    · omega
  refine ⟨F', ⟨⟨h3, hB, fun g hg => (h5 g hg).elim (h.m.2.2 g) fun h6 => Nat.le_trans h.m.2.1.size h6⟩, ⟨xs, own_stays k1 fun g hg => h4.block g (k1.lt g hg).2 (h.fk g hg), k2.mono fun _ _ _ => FnnC.stays h4.size fun g hg hl => ⟨hg, h4.block g hl fun hf => by have := h.m.2.2 g hf; omega⟩⟩, fun g hg => hno g (k1.lt g hg).2 (h.fk g hg)⟩, hno⟩
theorem Rk.below {w W W' : World} {F : Nat → Prop} {a n : Nat} {S : St} {kv : Value} {l : List Fnn} (h : Rk w W F a S n kv l) (hb : Below W.heap.size W W') : Rk w W' F a S n kv l := by
  obtain ⟨xs, k1, k2⟩ := h.kept
  exact ⟨h.m.below hb, ⟨xs, own_stays k1 fun g hg => hb.block g (k1.lt g hg).2, k2.mono fun _ _ _ => FnnC.stays hb.size fun g hg hl => ⟨hg, hb.block g hl⟩⟩, h.fk⟩
theorem Rk.slice {w W : World} {F : Nat → Prop} {a n : Nat} {S : St} {kv : Value} {l : List Fnn} (h : Rk w W F a S n kv l) : ∃ A c, kv = .slice A l.length c := by
  obtain ⟨xs, k1, _⟩ := h.kept
  obtain ⟨A, c, e, _⟩ := own_slice k1
  exact ⟨A, c, e⟩
/-- a function more is kept -/
theorem Rk.push {w W W' : World} {F : Nat → Prop} {a n : Nat} {S : St} {kv : Value} {l : List Fnn} (h : Rk w W F a S n kv l) {f : Fnn} {A : Option Addr} {c : Nat} (hr : Ri W (fun q => q < n) f.args A c) (hn : n ≤ w.heap.size) {xs : List Value} (k2 : Ch (FnnC W (fun q => q < n)) l xs) {g c' : Nat}
    (hown : W'.ownsRow w.heap.size 63 3 (.slice (some ⟨g, 0, none⟩) (l.length + 1) c') (l.length + 1) (xs ++ [.string f.name, .slice A f.args.length c, .int .i64 f.res])) {o : Obj} (hg : (W.alloc o).grownBy W' kv.ownBlock) (hat : kv.ownBlock = some g ∨ g = W.heap.size + 1) : Rk w W' F a S n (.slice (some ⟨g, 0, none⟩) (l.length + 1) c') (l ++ [f]) := by
  obtain ⟨xs0, k1, _⟩ := h.kept
  have hs : Sft (fun q => kv.ownBlock = some q) W W' := (Sft.alloc _ W o).trans (Sft.of_grown hg (fun r e => e)) (fun _ h => .inl h)
  have hst : ∀ q, q < n → W'.heap[q]? = W.heap[q]? := fun q hq => hs.block q (by have := h.m.2.1.size; omega) fun hv => by have := (k1.lt q hv).1; omega
  refine ⟨⟨h.m.1.sft hs fun q hq hv => h.fk q hv hq, h.m.2.1.trans (hs.below h.m.2.1.size fun q hq => (k1.lt q hq).1), h.m.2.2⟩, ⟨_, by rw [List.length_append]; exact hown, (k2.mono fun _ _ _ => FnnC.stays hs.size fun q hq _ => ⟨hq, hst q hq⟩).snoc ⟨A, c, rfl, hr.stays hs.size fun q hq _ => ⟨hq, hst q hq⟩⟩⟩, fun q hq => ?_⟩
  simp only [Value.ownBlock, Option.some.injEq] at hq
  subst hq
  rcases hat with h1 | rfl
  · exact h.fk _ h1
  · intro hf
    have := h.m.1.lt _ hf
    omega
/-- with an act's box -/
structure Rs (w W : World) (F : Nat → Prop) (a xb : Nat) (S : St) (n : Nat) (x : Ac) (A2 : Option Addr) (c2 : Nat) (B : Option Addr) (d : Nat) (kv : Value) (l : List Fnn) : Prop where
  r : Rk w W F a S n kv l
  box : Bk W xb 49 #[.int .i64 x.what, .string x.name, .slice A2 x.args.length c2, .int .i64 x.res, .int .i64 x.tm.op, .int .i64 x.tm.fn, .slice B x.tm.kids.length d, .string x.tm.num]
  fx : ¬ F xb
  ra : Ri W (fun q => q < n) x.args A2 c2
section
variable {w W W' : World} {F : Nat → Prop} {a xb n : Nat} {S S' : St} {x : Ac} {A2 B : Option Addr} {c2 d : Nat} {kv : Value} {l : List Fnn}
theorem Rs.step (hn : n ≤ w.heap.size) (h : Rs w W F a xb S n x A2 c2 B d kv l) (e : ArEnd W W' F a S') : ∃ F', Rs w W' F' a xb S' n x A2 c2 B d kv l := by
  have e0 := e
  obtain ⟨F1, _, h4, _⟩ := e0
  obtain ⟨F', h1, h2⟩ := h.r.step hn e
  exact ⟨F', h1, (h4.block xb h.box.lt h.fx).trans h.box, h2 xb h.box.lt h.fx, h.ra.stays h4.size fun g hg hl => ⟨hg, h4.block g hl fun hf => by have := h.r.m.2.2 g hf; omega⟩⟩
theorem Rs.below (h : Rs w W F a xb S n x A2 c2 B d kv l) (hb : Below W.heap.size W W') : Rs w W' F a xb S n x A2 c2 B d kv l := ⟨h.r.below hb, h.box.below hb h.box.lt, h.fx, h.ra.below hb⟩
theorem Rs.new (h : Rk w W F a S n kv l) (hr : Ri W (fun q => q < n) x.args A2 c2) (hW : W.alloc (.cells #[.int .i64 x.what, .string x.name, .slice A2 x.args.length c2, .int .i64 x.res, .int .i64 x.tm.op, .int .i64 x.tm.fn, .slice B x.tm.kids.length d, .string x.tm.num] 49) = W') : Rs w W' F a W.heap.size S n x A2 c2 B d kv l := by
  have hb : Below W.heap.size W W' := hW ▸ (Below.refl _ _).alloc (Nat.le_refl _) _
  exact ⟨h.below hb, hW ▸ Bk.new W _ _, fun hf => by have := h.m.1.lt _ hf; omega, hr.below hb⟩
end
end Go.Proofs.YtdnhhfhjjimcgaaDoor.dg
