/- The statement DagOnce: the arena, the acts that the call has put together, its map, an act's box. -/
import Derived.Test.YtdnhhfhjjimcgaaDoorIk
import Derived.Test.YtdnhhfhjjimcgaaDoorIl
namespace Go.Proofs.YtdnhhfhjjimcgaaDoor.dg
open Go Go.RowKit
set_option linter.unusedVariables false
set_option linter.unusedSimpArgs false

theorem Pm.ne {w : World} {n b g : Nat} {T : List Tm} {e : TypeId} (h : Pm w n b T) (hg : Ty w g e) : g ≠ b := by
  rintro rfl
  obtain ⟨D, ⟨es, clock, h1, _⟩, _⟩ := h
  obtain ⟨cs, fr, h2⟩ := hg
  rw [h1] at h2
  cases h2
structure Ry (w W : World) (F : Nat → Prop) (a : Nat) (S : St) (n : Nat) (av : Value) (L : List Ac) (pb : Nat) (T : List Tm) : Prop where
  m : Mine w W F a S
  acts : ∃ xs, W.ownsRow w.heap.size 49 8 av L.length xs ∧ Ch (AcC W (fun q => q < n)) L xs
  ak : ∀ g, av.ownBlock = some g → ¬ F g
  map : Pm W n pb T
  pf : ¬ F pb
  pw : w.heap.size ≤ pb
section
variable {w W W' : World} {F : Nat → Prop} {a n pb : Nat} {S S' : St} {av : Value} {L : List Ac} {T T' : List Tm}
theorem Ry.step (hn : n ≤ w.heap.size) (h : Ry w W F a S n av L pb T) (e : ArEnd W W' F a S') : ∃ F', Ry w W' F' a S' n av L pb T ∧ ∀ g, g < W.heap.size → ¬ F g → ¬ F' g := by
  obtain ⟨F', h3, h4, h5⟩ := e
  obtain ⟨xs, k1, k2⟩ := h.acts
  have hB : Below w.heap.size w W' := h.m.2.1.trans (h4.below h.m.2.1.size h.m.2.2)
  have hno : ∀ g, g < W.heap.size → ¬ F g → ¬ F' g := fun g hg hf hx => by
    rcases h5 g hx with h6 | h6
    · exact hf h6
    · omega
  have hlow : ∀ g, g < n → g < W.heap.size → W'.heap[g]? = W.heap[g]? := fun g hg hl => h4.block g hl fun hf => by have := h.m.2.2 g hf; omega
  refine ⟨F', ⟨⟨h3, hB, fun g hg => (h5 g hg).elim (h.m.2.2 g) fun h6 => Nat.le_trans h.m.2.1.size h6⟩, ⟨xs, own_stays k1 fun g hg => h4.block g (k1.lt g hg).2 (h.ak g hg), k2.mono fun x _ => AcC.stays h4.size hlow x⟩, fun g hg => hno g (k1.lt g hg).2 (h.ak g hg), h.map.stays h4.size fun g hg hl => ?_, hno pb h.map.lt h.pf, h.pw⟩, hno⟩
  rcases hg with hg | rfl
  · exact hlow g hg hl
  · exact h4.block _ hl h.pf
theorem Ry.below (h : Ry w W F a S n av L pb T) (hb : Below W.heap.size W W') : Ry w W' F a S n av L pb T := by
  obtain ⟨xs, k1, k2⟩ := h.acts
  exact ⟨h.m.below hb, ⟨xs, own_stays k1 fun g hg => hb.block g (k1.lt g hg).2, k2.mono fun x _ => AcC.stays hb.size (fun g _ hl => hb.block g hl) x⟩, h.ak, h.map.stays hb.size fun g _ hl => hb.block g hl, h.pf, h.pw⟩
/-- another block of the call's, neither of the arena's, nor the acts', nor the map, is turned -/
theorem Ry.turn {r : Nat} (hn : n ≤ w.heap.size) (h : Ry w W F a S n av L pb T) (hg : W.grownBy W' (some r)) (hr : w.heap.size ≤ r) (hf : ¬ F r) (hp : r ≠ pb) (hk : ∀ g, av.ownBlock = some g → g ≠ r) : Ry w W' F a S n av L pb T := by
  obtain ⟨xs, k1, k2⟩ := h.acts
  have hs : Sft (fun g => g = r) W W' := Sft.of_grown hg fun q e => by injection e with e; exact e.symm
  have hlow : ∀ g, g < n → g < W.heap.size → W'.heap[g]? = W.heap[g]? := fun g hg hl => hs.block g hl (by omega)
  refine ⟨⟨h.m.1.sft hs fun g hg e => hf (e ▸ hg), h.m.2.1.trans (hs.below h.m.2.1.size fun g e => by omega), h.m.2.2⟩, ⟨xs, own_stays k1 fun g hg => hs.block g (k1.lt g hg).2 (hk g hg), k2.mono fun x _ => AcC.stays hs.size hlow x⟩, h.ak, h.map.stays hs.size fun g hg hl => ?_, h.pf, h.pw⟩
  rcases hg with hg | rfl
  · exact hlow g hg hl
  · exact hs.block _ hl (fun e => hp e.symm)
theorem Ry.put (hn : n ≤ w.heap.size) (h : Ry w W F a S n av L pb T) (ht : W.mapTurned W' pb) (hm : Pm W' n pb T') : Ry w W' F a S n av L pb T' := by
  obtain ⟨xs, k1, k2⟩ := h.acts
  have hg := ht.grown
  have hs : Sft (fun g => g = pb) W W' := Sft.of_grown hg fun q e => by injection e with e; exact e.symm
  have hpw := h.pw
  have hlow : ∀ g, g < n → g < W.heap.size → W'.heap[g]? = W.heap[g]? := fun g hg hl => hs.block g hl (by omega)
  exact ⟨⟨h.m.1.sft hs fun g hg e => h.pf (e ▸ hg), h.m.2.1.trans (hs.below h.m.2.1.size fun g e => by omega), h.m.2.2⟩, ⟨xs, own_stays k1 fun g hg => hs.block g (k1.lt g hg).2 (h.map.ne (own_ty k1 g hg)), k2.mono fun x _ => AcC.stays hs.size hlow x⟩, h.ak, hm, h.pf, h.pw⟩
theorem Ry.get (h : Ry w W F a S n av L pb T) {k : Nat} (hk : k < L.length) : ∃ g c A2 c2 B d, av = .slice (some ⟨g, 0, none⟩) L.length c ∧ g < W.heap.size ∧ Ri W (fun b => b < n) (L[k]'hk).args A2 c2 ∧ Ri W (fun b => b < n) (L[k]'hk).tm.kids B d ∧
    W.cell? ⟨g, k * 8, none⟩ = some (.int .i64 (L[k]'hk).what) ∧ W.cell? ⟨g, k * 8 + 1, none⟩ = some (.string (L[k]'hk).name) ∧ W.cell? ⟨g, k * 8 + 2, none⟩ = some (.slice A2 (L[k]'hk).args.length c2) ∧ W.cell? ⟨g, k * 8 + 3, none⟩ = some (.int .i64 (L[k]'hk).res) ∧
    W.cell? ⟨g, k * 8 + 4, none⟩ = some (.int .i64 (L[k]'hk).tm.op) ∧ W.cell? ⟨g, k * 8 + 5, none⟩ = some (.int .i64 (L[k]'hk).tm.fn) ∧ W.cell? ⟨g, k * 8 + 6, none⟩ = some (.slice B (L[k]'hk).tm.kids.length d) ∧ W.cell? ⟨g, k * 8 + 7, none⟩ = some (.string (L[k]'hk).tm.num) := by
  obtain ⟨xs, k1, k2⟩ := h.acts
  obtain ⟨g, c, cs, e, hg, ⟨A2, c2, B, d, rfl, r1, r2⟩, h2⟩ := Vw.get (w := W) (e := 49) (ok := AcC W (fun q => q < n)) ⟨xs, own_mono k1 (Nat.zero_le _), k2⟩ AcC.len hk
  exact ⟨g, c, A2, c2, B, d, e, hg, r1, r2, h2 0 (by omega), h2 1 (by omega), h2 2 (by omega), h2 3 (by omega), h2 4 (by omega), h2 5 (by omega), h2 6 (by omega), h2 7 (by omega)⟩
/-- with an act's box -/
structure Rz (w W : World) (F : Nat → Prop) (a xb : Nat) (S : St) (n : Nat) (x : Ac) (A2 : Option Addr) (c2 : Nat) (B : Option Addr) (d : Nat) (av : Value) (L : List Ac) (pb : Nat) (T : List Tm) : Prop where
  r : Ry w W F a S n av L pb T
  box : Bk W xb 49 #[.int .i64 x.what, .string x.name, .slice A2 x.args.length c2, .int .i64 x.res, .int .i64 x.tm.op, .int .i64 x.tm.fn, .slice B x.tm.kids.length d, .string x.tm.num]
  fx : ¬ F xb
  ra : Ri W (fun q => q < n) x.args A2 c2
  rk : Ri W (fun q => q < n) x.tm.kids B d
variable {xb : Nat} {x : Ac} {A2 B : Option Addr} {c2 d : Nat}
theorem Rz.step (hn : n ≤ w.heap.size) (h : Rz w W F a xb S n x A2 c2 B d av L pb T) (e : ArEnd W W' F a S') : ∃ F', Rz w W' F' a xb S' n x A2 c2 B d av L pb T := by
  have e0 := e
  obtain ⟨F1, _, h4, _⟩ := e0
  obtain ⟨F', h1, h2⟩ := h.r.step hn e
  have hst : ∀ g, g < n → g < W.heap.size → g < n ∧ W'.heap[g]? = W.heap[g]? := fun g hg hl => ⟨hg, h4.block g hl fun hf => by have := h.r.m.2.2 g hf; omega⟩
  exact ⟨F', h1, (h4.block xb h.box.lt h.fx).trans h.box, h2 xb h.box.lt h.fx, h.ra.stays h4.size hst, h.rk.stays h4.size hst⟩
theorem Rz.below (h : Rz w W F a xb S n x A2 c2 B d av L pb T) (hb : Below W.heap.size W W') : Rz w W' F a xb S n x A2 c2 B d av L pb T := ⟨h.r.below hb, h.box.below hb h.box.lt, h.fx, h.ra.below hb, h.rk.below hb⟩
theorem Rz.new (h : Ry w W F a S n av L pb T) (hr : Ri W (fun q => q < n) x.args A2 c2) (hk : Ri W (fun q => q < n) x.tm.kids B d) (hW : W.alloc (.cells #[.int .i64 x.what, .string x.name, .slice A2 x.args.length c2, .int .i64 x.res, .int .i64 x.tm.op, .int .i64 x.tm.fn, .slice B x.tm.kids.length d, .string x.tm.num] 49) = W') : Rz w W' F a W.heap.size S n x A2 c2 B d av L pb T := by
  have hb : Below W.heap.size W W' := hW ▸ (Below.refl _ _).alloc (Nat.le_refl _) _
  exact ⟨h.below hb, hW ▸ Bk.new W _ _, fun hf => by have := h.m.1.lt _ hf; omega, hr.below hb, hk.below hb⟩
end
/-- what the map gives, whichever of its entries is still to come -/
def Dm (w : World) (n : Nat) (T : List Tm) (D : DataW Value) : Prop :=
  (∀ p : Int, Maps.has D (.int .i64 p) = (decide (0 ≤ p) && decide (p < (T.length : Int)))) ∧
    ∀ (p : Nat) (t : Tm), T[p]? = some t → ∃ v, (∀ z, D.atKey (.int .i64 (p : Int)) z = .held v) ∧ Tv w n t v
theorem Dm.stays {w w' : World} {n : Nat} {T : List Tm} {D : DataW Value} (h : Dm w n T D) (hs : w.heap.size ≤ w'.heap.size) (hb : ∀ g, g < n → g < w.heap.size → w'.heap[g]? = w.heap[g]?) : Dm w' n T D :=
  ⟨h.1, fun p t ht => by
    obtain ⟨v, k1, k2⟩ := h.2 p t ht
    exact ⟨v, k1, k2.stays hs hb⟩⟩
/-- an entry that comes is a place and its term -/
theorem Dm.entry {w : World} {n : Nat} {T : List Tm} {D : DataW Value} (h : Dm w n T D) {x : Int} {v : Value} (hat : ∀ z, D.atKey (.int .i64 x) z = .held v) : ∃ (p : Nat) (t : Tm), x = (p : Int) ∧ T[p]? = some t ∧ Tv w n t v := by
  have hh := Maps.has_true_of_atKey hat
  rw [h.1, Bool.and_eq_true, decide_eq_true_eq, decide_eq_true_eq] at hh
  obtain ⟨p, rfl⟩ := Int.eq_ofNat_of_zero_le hh.1
  have hp : p < T.length := by omega
  obtain ⟨v2, k1, k2⟩ := h.2 p T[p] (List.getElem?_eq_getElem hp)
  have e : DataW.held v = DataW.held v2 := (hat .nil).symm.trans (k1 .nil)
  injection e with e
  subst e
  exact ⟨p, T[p], rfl, List.getElem?_eq_getElem hp, k2⟩
end Go.Proofs.YtdnhhfhjjimcgaaDoor.dg
