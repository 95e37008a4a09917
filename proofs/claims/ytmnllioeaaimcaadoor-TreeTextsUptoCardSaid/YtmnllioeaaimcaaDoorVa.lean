/- Trees in memory: how a tree reads, what it stays through, how it comes in. -/
import Derived.Test.YtmnllioeaaimcaaDoorUc
import Derived.Test.YtmnllioeaaimcaaDoorPv
namespace Go.Proofs.YtmnllioeaaimcaaDoor.tr
open Go.ChangeShapes Go.WideShapes Go.ChangeAt Go.RowKit Go.Joins

mutual
/-- these cells read as a tree; its lists lie in blocks of F -/
def Vt (w : World) (F : Nat → Prop) : Tree → List Value → Prop
  | .mk l t ks, cs => ∃ A c, cs = [.bool l, .int .i64 t.k, .string ⟨t.s.toArray⟩, .int .i64 t.p, .slice A ks.length c] ∧ ks.length ≤ c ∧ (0 < ks.length → ∃ g off, A = some ⟨g, off, none⟩ ∧ F g ∧ g < w.heap.size ∧ Vr w F ks g off)
/-- from this cell on trees read, one behind the other -/
def Vr (w : World) (F : Nat → Prop) : List Tree → Nat → Nat → Prop
  | [], _, _ => True
  | t :: r, g, off => (∃ cs, Vt w F t cs ∧ ∀ j, j < 5 → w.cell? ⟨g, off + j, none⟩ = cs[j]?) ∧ Vr w F r g (off + 5)
end
theorem Vr.at_ {w : World} {F : Nat → Prop} {g : Nat} : ∀ {ks : List Tree} {off : Nat}, Vr w F ks g off → ∀ (j : Nat) (h : j < ks.length), ∃ cs, Vt w F ks[j] cs ∧ ∀ i, i < 5 → w.cell? ⟨g, off + j * 5 + i, none⟩ = cs[i]?
  | [], _, _, j, h => absurd h (by simp)
  | t :: r, off, hv, j, h => by
    unfold Vr at hv
    obtain ⟨h1, h2⟩ := hv
    cases j with
    | zero => simpa using h1
    | succ j =>
      have := Vr.at_ h2 j (by simpa using h)
      simp only [List.getElem_cons_succ]
      rw [show off + (j + 1) * 5 = off + 5 + j * 5 by omega]
      exact this
theorem Vr.mk {w : World} {F : Nat → Prop} {g : Nat} : ∀ {ks : List Tree} {off : Nat}, (∀ (j : Nat) (h : j < ks.length), ∃ cs, Vt w F ks[j] cs ∧ ∀ i, i < 5 → w.cell? ⟨g, off + j * 5 + i, none⟩ = cs[i]?) → Vr w F ks g off
  | [], _, _ => by unfold Vr; trivial
  | t :: r, off, hv => by
    unfold Vr
    have h0 := hv 0 (by simp)
    simp only [List.getElem_cons_zero, Nat.zero_mul, Nat.add_zero] at h0
    refine ⟨h0, Vr.mk fun j h => ?_⟩
    have := hv (j + 1) (by simpa using h)
    simp only [List.getElem_cons_succ] at this
    rw [show off + (j + 1) * 5 = off + 5 + j * 5 by omega] at this
    exact this

mutual
/-- where the blocks of F are as they were, a tree stays -/
theorem Vt.stays {w w' : World} {F F' : Nat → Prop} (hs : w.heap.size ≤ w'.heap.size) (hb : ∀ g, F g → g < w.heap.size → F' g ∧ w'.heap[g]? = w.heap[g]?) : ∀ (t : Tree) {cs : List Value}, Vt w F t cs → Vt w' F' t cs
  | .mk l t ks, cs, h => by
    unfold Vt at h ⊢
    obtain ⟨A, c, e, hc, h⟩ := h
    refine ⟨A, c, e, hc, fun hp => ?_⟩
    obtain ⟨g, off, e2, hF, hg, hr⟩ := h hp
    exact ⟨g, off, e2, (hb g hF hg).1, Nat.lt_of_lt_of_le hg hs, Vr.stays hs hb hF hg ks hr⟩
theorem Vr.stays {w w' : World} {F F' : Nat → Prop} (hs : w.heap.size ≤ w'.heap.size) (hb : ∀ g, F g → g < w.heap.size → F' g ∧ w'.heap[g]? = w.heap[g]?) {g : Nat} (hF : F g) (hg : g < w.heap.size) : ∀ (ks : List Tree) {off : Nat}, Vr w F ks g off → Vr w' F' ks g off
  | [], _, _ => by unfold Vr; trivial
  | t :: r, off, h => by
    unfold Vr at h ⊢
    obtain ⟨⟨cs, h1, h2⟩, h3⟩ := h
    exact ⟨⟨cs, Vt.stays hs hb t h1, fun j hj => (World.cell?_of_block (hb g hF hg).2).trans (h2 j hj)⟩, Vr.stays hs hb hF hg r h3⟩
end
/-- a slice that reads as trees -/
def Rw (w : World) (F : Nat → Prop) (ks : List Tree) (v : Value) : Prop := ∃ A c, v = .slice A ks.length c ∧ ks.length ≤ c ∧ (0 < ks.length → ∃ g off, A = some ⟨g, off, none⟩ ∧ F g ∧ g < w.heap.size ∧ Vr w F ks g off)
theorem Vt.iff {w : World} {F : Nat → Prop} {l : Bool} {t : Tok} {ks : List Tree} {cs : List Value} : Vt w F (.mk l t ks) cs ↔ ∃ v, cs = [.bool l, .int .i64 t.k, .string ⟨t.s.toArray⟩, .int .i64 t.p, v] ∧ Rw w F ks v := by
  unfold Vt
  constructor
  · rintro ⟨A, c, e, h⟩; exact ⟨_, e, A, c, rfl, h⟩
  · rintro ⟨v, e, A, c, rfl, h⟩; exact ⟨A, c, e, h⟩
theorem Rw.stays {w w' : World} {F F' : Nat → Prop} (hs : w.heap.size ≤ w'.heap.size) (hb : ∀ g, F g → g < w.heap.size → F' g ∧ w'.heap[g]? = w.heap[g]?) {ks : List Tree} {v : Value} (h : Rw w F ks v) : Rw w' F' ks v := by
  obtain ⟨A, c, e, hc, h⟩ := h
  refine ⟨A, c, e, hc, fun hp => ?_⟩
  obtain ⟨g, off, e2, hF, hg, hr⟩ := h hp
  exact ⟨g, off, e2, (hb g hF hg).1, Nat.lt_of_lt_of_le hg hs, Vr.stays hs hb hF hg ks hr⟩
theorem Vt.below {w w' : World} {F : Nat → Prop} {t : Tree} {cs : List Value} (h : Vt w F t cs) (hb : Below w.heap.size w w') : Vt w' F t cs :=
  Vt.stays hb.size (fun g hF hg => ⟨hF, hb.block g hg⟩) t h

theorem cellsTree : Tryd.prog.cellsOf 37 = 5 := by kernel_rfl
theorem cellsTok : Tryd.prog.cellsOf 35 = 3 := by kernel_rfl
theorem cellsBool : Tryd.prog.cellsOf 4 = 1 := by kernel_rfl
theorem cellsInt : Tryd.prog.cellsOf 3 = 1 := by kernel_rfl
theorem cellsStr : Tryd.prog.cellsOf 9 = 1 := by kernel_rfl
theorem cellsKids : Tryd.prog.cellsOf 24 = 1 := by kernel_rfl
set_option maxRecDepth 100000 in
theorem open_tok {H : Type} {enc : TypeId × Value → H} {W : World} {base fuel : Nat} {sp : Nat → Bool} {held : Bool} {cs : List Value} {x : DataW H × List MemPlace} (h : DataW.trod enc Tryd.prog W base sp held fuel 35 cs = some x) :
    ∃ (a : Int) (s : ByteArray) (b : Int), cs = [.int .i64 a, .string s, .int .i64 b] := by
  obtain ⟨xs, n, _, _, hl, hx, hf⟩ := DataW.trod_struct Tryd.underlying35 h
  rw [cellsTok] at hl
  have hx : xs.length = 3 := hx
  match cs, hl, xs, hx with
  | [c0, c1, c2], _, [y0, y1, y2], _ =>
    have f0 : DataW.trod enc Tryd.prog W base sp held n 3 (List.take (Tryd.prog.cellsOf 3) [c0, c1, c2]) = some y0 := hf 0 _ rfl
    have f1 : DataW.trod enc Tryd.prog W base sp held n 9 (List.take (Tryd.prog.cellsOf 9) [c1, c2]) = some y1 := hf 1 _ rfl
    have f2 : DataW.trod enc Tryd.prog W base sp held n 3 (List.take (Tryd.prog.cellsOf 3) [c2]) = some y2 := hf 2 _ rfl
    rw [cellsInt] at f0 f2
    rw [cellsStr] at f1
    obtain ⟨a, ea, _⟩ := DataW.trod_int Tryd.underlying3 f0
    obtain ⟨s, es, _⟩ := DataW.trod_string Tryd.underlying9 f1
    obtain ⟨b, eb, _⟩ := DataW.trod_int Tryd.underlying3 f2
    simp only [List.take_succ_cons, List.take_zero, List.cons.injEq, and_true] at ea es eb
    exact ⟨a, s, b, by rw [ea, es, eb]⟩
set_option maxRecDepth 100000 in
/-- a tree, opened -/
theorem open_tree {H : Type} {enc : TypeId × Value → H} {W : World} {base : Nat} {sp : Nat → Bool} {held : Bool} : ∀ (fuel : Nat) {cs : List Value} {x : DataW H × List MemPlace}, DataW.trod enc Tryd.prog W base sp held fuel 37 cs = some x → ∃ t, Vt W (fun _ => True) t cs := by
  intro fuel
  induction fuel using Nat.strongRecOn with
  | _ fuel ih =>
    intro cs x h
    obtain ⟨xs, n, rfl, _, hl, hx, hf⟩ := DataW.trod_struct Tryd.underlying37 h
    rw [cellsTree] at hl
    have hx : xs.length = 3 := hx
    match cs, hl, xs, hx with
    | [c0, c1, c2, c3, c4], _, [y0, y1, y2], _ =>
      have f0 : DataW.trod enc Tryd.prog W base sp held n 4 (List.take (Tryd.prog.cellsOf 4) [c0, c1, c2, c3, c4]) = some y0 := hf 0 _ rfl
      have f1 : DataW.trod enc Tryd.prog W base sp held n 35 (List.take (Tryd.prog.cellsOf 35) [c1, c2, c3, c4]) = some y1 := hf 1 _ rfl
      have f2 : DataW.trod enc Tryd.prog W base sp held n 24 (List.take (Tryd.prog.cellsOf 24) [c4]) = some y2 := hf 2 _ rfl
      rw [cellsBool] at f0
      rw [cellsTok] at f1
      rw [cellsKids] at f2
      obtain ⟨b, e0, _⟩ := DataW.trod_bool Tryd.underlying4 f0
      obtain ⟨a, s, p, e1⟩ := open_tok f1
      simp only [List.take_succ_cons, List.take_zero, List.cons.injEq, and_true] at e0 e1 f2
      obtain ⟨rfl, rfl, rfl⟩ := e1
      subst e0
      have hS : (⟨s.data.toList.toArray⟩ : ByteArray) = s := rfl
      rcases DataW.trod_slice Tryd.underlying24 f2 with ⟨e2, _⟩ | ⟨ad, len, cap, elems, rest, m, rfl, e2, _, _, hlc, _, hlen, hel, _, _⟩
      · simp only [List.cons.injEq, and_true] at e2
        subst e2
        exact ⟨.mk b ⟨a, s.data.toList, p⟩ [], by unfold Vt; exact ⟨none, 0, by simp, by simp, fun h => absurd h (by simp)⟩⟩
      · simp only [List.cons.injEq, and_true] at e2
        subst e2
        have one : ∀ i, i < len → ∃ t, ∃ cs, Vt W (fun _ => True) t cs ∧ ∀ j, j < 5 → W.cell? (ad.add (i * 5 + j)) = cs[j]? := by
          intro i hi
          have key := hel i hi
          rw [List.getElem?_eq_getElem (by omega)] at key
          obtain ⟨cs', h1, h2⟩ := Option.bind_eq_some_iff.1 key
          rw [cellsTree] at h1
          obtain ⟨t, ht⟩ := ih m (by omega) h2
          obtain ⟨_, hcl, hat⟩ := World.cells?_some h1
          refine ⟨t, cs', ht, fun j hj => ?_⟩
          have := hat j hj
          rw [Go.Deep.add_add] at this
          exact this
        have all : ∃ f : Nat → Tree, ∀ i, i < len → ∃ cs, Vt W (fun _ => True) (f i) cs ∧ ∀ j, j < 5 → W.cell? (ad.add (i * 5 + j)) = cs[j]? := by
          refine ⟨fun i => if hi : i < len then (one i hi).choose else .mk false ⟨0, [], 0⟩ [], fun i hi => ?_⟩
          have := (one i hi).choose_spec
          simp only [hi, dif_pos]
          exact this
        obtain ⟨f, hf⟩ := all
        refine ⟨.mk b ⟨a, s.data.toList, p⟩ ((List.range len).map f), ?_⟩
        unfold Vt
        refine ⟨some ad, cap, by simp, by simpa using hlc, fun hp => ?_⟩
        have hp : 0 < len := by simpa using hp
        obtain ⟨g, off, spot⟩ := ad
        obtain ⟨cs0, hv0, hc0⟩ := hf 0 hp
        have hc00 := hc0 0 (by omega)
        have h5 : ∃ v, cs0[0]? = some v := by
          generalize f 0 = t at hv0
          cases t with
          | mk l t ks => unfold Vt at hv0; obtain ⟨_, _, rfl, _⟩ := hv0; exact ⟨_, rfl⟩
        obtain ⟨v, hv⟩ := h5
        rw [hv] at hc00
        have hspot : spot = none := by simpa [Addr.add] using World.cell?_spot hc00
        subst hspot
        have hlt : g < W.heap.size := by
          have := World.block_lt_of_cell? W _ hc00
          simpa [Addr.add] using this
        refine ⟨g, off, rfl, trivial, hlt, Vr.mk fun j hj => ?_⟩
        have hj' : j < len := by simpa using hj
        obtain ⟨cs, h1, h2⟩ := hf j hj'
        refine ⟨cs, by simpa using h1, fun i hi => ?_⟩
        have := h2 i hi
        rw [Go.WideShapes.add_plain] at this
        rw [show off + j * 5 + i = off + (j * 5 + i) by omega]
        exact this
end Go.Proofs.YtmnllioeaaimcaaDoor.tr
