/- Words for memory that the walks of struct-level functions share: blocks that are known whole, and integers that last. Plain theorems. Known blocks, and integers of a later world that last: for regions that draw their order. Two new variables filled by two calls in a statement that draws its order: where their blocks lie, whatever the order was. Plain theorems. -/
import Derived.Test.YtpikbhcjgcbdfaaDoorRfB
/- Words for memory that the walks of struct-level functions share: blocks that are known whole, and integers that last. Plain theorems. -/
namespace Go.Proofs.YtpikbhcjgcbdfaaDoor.wh
open Go.RowKit

/-- cells that hold an integer hold it yet -/
def Kept (w w' : World) : Prop := w.heap.size ≤ w'.heap.size ∧ ∀ (p : Addr) (k : IntKind) (z : Int), w.cell? p = some (.int k z) → w'.cell? p = some (.int k z)
/-- no integer among cells -/
def noInt : List Value → Bool
  | [] => true
  | .int _ _ :: _ => false
  | _ :: t => noInt t
theorem noInt_get {cs : List Value} (h : noInt cs = true) (i : Nat) (k : IntKind) (z : Int) : cs[i]? ≠ some (.int k z) := by
  induction cs generalizing i with
  | nil => simp
  | cons c t ih =>
    cases i with
    | zero =>
      intro e
      simp at e
      subst e
      cases h
    | succ i =>
      rw [List.getElem?_cons_succ]
      refine ih ?_ i
      cases c <;> first | exact h | cases h
theorem noInt_set {cs : List Value} (h : noInt cs = true) (i : Nat) {v : Value} (hv : noInt [v] = true) : noInt (cs.set i v) = true := by
  induction cs generalizing i with
  | nil => rfl
  | cons c t ih =>
    have ht : noInt t = true := by cases c <;> first | exact h | cases h
    cases i with
    | zero =>
      rw [List.set_cons_zero]
      cases v <;> first | exact ht | cases hv
    | succ i =>
      rw [List.set_cons_succ]
      have := ih ht i
      cases c <;> first | exact this | cases h
section
variable {w w' w1 : World}
theorem Kept.refl (w : World) : Kept w w := ⟨Nat.le_refl _, fun _ _ _ h => h⟩
theorem Kept.trans (h : Kept w w') (k : Kept w' w1) : Kept w w1 := ⟨Nat.le_trans h.1 k.1, fun p i z e => k.2 p i z (h.2 p i z e)⟩
theorem Kept.of_below (hb : Below w.heap.size w w') : Kept w w' := ⟨hb.size, fun p _ _ e => by
  obtain ⟨b, o, x⟩ := p
  rw [hb.cell (World.block_lt_of_cell? w _ e)]
  exact e⟩
theorem Kept.drew (h : Kept w w') : Kept w w'.drew := h
theorem Kept.drewN (h : Kept w w') (n : Nat) : Kept w (w'.drewN n) := h
theorem Kept.alloc (h : Kept w w') (o : Obj) : Kept w (w'.alloc o) := h.trans (Kept.of_below ((Below.refl _ _).alloc (Nat.le_refl _) _))
theorem Kept.over (h : Kept w w') (hb : Hid (Below w'.heap.size w' w1)) : Kept w w1 := h.trans (Kept.of_below hb.out)
theorem Kept.set_ {g : Nat} {t : TypeId} {cs : List Value} (hg : Blk w g t cs.toArray) (hn : noInt cs = true) (i : Nat) (u : Value) : Kept w (w.setCell ⟨g, i, none⟩ u) := by
  refine ⟨by simp [World.setCell], fun p k z e => ?_⟩
  by_cases hp : p.block = g
  · obtain ⟨b, o, x⟩ := p
    simp only at hp
    subst hp
    cases x with
    | none =>
      rw [hg.cell] at e
      simp only [List.getElem?_toArray] at e
      exact absurd e (noInt_get hn o k z)
    | some x =>
      rw [World.cell?_setCell_other w _ _ u (by simp)]
      exact e
  · rw [World.cell?_setCell_other w _ p u (fun e2 => hp (by rw [← e2]))]
    exact e
theorem Rd.kept {B : Nat} {A : Option Addr} {ds : List Nat} (h : Rd w B A ds) (hB : B ≤ w.heap.size) (hk : Kept w w') : Rd w' w'.heap.size A ds := fun hn => by
  obtain ⟨b, off, e, hb, hc⟩ := h hn
  exact ⟨b, off, e, by have := hk.1; omega, fun j hj => hk.2 _ _ _ (hc j hj)⟩
theorem Rn.kept {B : Nat} {A : Option Addr} {ds : List Nat} (h : Rn w B A ds) (hB : B ≤ w.heap.size) (hk : Kept w w') : Rn w' w'.heap.size A ds := fun hn => by
  obtain ⟨b, off, e, hb, hc⟩ := h hn
  exact ⟨b, off, e, by have := hk.1; omega, fun j hj => hk.2 _ _ _ (hc j hj)⟩
theorem IsInt.kept {m : Nat} {v : Value} {z : Int} (h : IsInt w w.heap.size m v z) (hk : Kept w w') : IsInt w' w'.heap.size m v z := by
  obtain ⟨neg, A, n, c, ds, h1, h2, h3, h4⟩ := h
  exact ⟨neg, A, n, c, ds, h1, h2, h3.kept (Nat.le_refl _) hk, h4⟩
theorem IsNum.kept {m : Nat} {v : Value} {z : Int} (h : IsNum w w.heap.size m v z) (hk : Kept w w') : IsNum w' w'.heap.size m v z := by
  obtain ⟨neg, A, n, c, ds, h1, h2, h3, h4⟩ := h
  exact ⟨neg, A, n, c, ds, h1, h2, h3.kept (Nat.le_refl _) hk, h4⟩
theorem Tens.kept {n c : Nat} {A : Option Addr} {ds : List Nat} (h : Tens w n c A ds) (hk : Kept w w') : Tens w' n c A ds := ⟨h.len, h.rd.kept (Nat.le_refl _) hk, h.cap, h.ten, h.top⟩
end

/-- Since w: the blocks of L are known whole, each lies where there was nothing, none holds an integer; what was is as it was. -/
structure Mem (w : World) (L : List (Nat × TypeId × List Value)) (w' : World) : Prop where
  below : Below w.heap.size w w'
  blk : ∀ x ∈ L, Blk w' x.1 x.2.1 x.2.2.toArray
  ge : ∀ x ∈ L, w.heap.size ≤ x.1
  ni : ∀ x ∈ L, noInt x.2.2 = true
  dis : L.Pairwise fun x y => x.1 ≠ y.1
section
variable {w w' w1 : World} {L : List (Nat × TypeId × List Value)}
theorem Mem.new (w : World) : Mem w [] w := ⟨Below.refl _ _, by simp, by simp, by simp, List.Pairwise.nil⟩
theorem Mem.push (h : Mem w L w') {g : Nat} (hg : g = w'.heap.size) (t : TypeId) (cs : List Value) (hn : noInt cs = true) : Mem w (L ++ [(g, t, cs)]) (w'.alloc (.cells cs.toArray t)) := by
  subst hg
  refine ⟨h.below.alloc h.below.size _, fun x hx => ?_, fun x hx => ?_, fun x hx => ?_, ?_⟩
  · rcases List.mem_append.1 hx with hx | hx
    · exact (h.blk x hx).alloc _
    · simp only [List.mem_singleton] at hx
      subst hx
      exact Blk.new _ _ _
  · rcases List.mem_append.1 hx with hx | hx
    · exact h.ge x hx
    · simp only [List.mem_singleton] at hx
      subst hx
      exact h.below.size
  · rcases List.mem_append.1 hx with hx | hx
    · exact h.ni x hx
    · simp only [List.mem_singleton] at hx
      subst hx
      exact hn
  · rw [List.pairwise_append]
    refine ⟨h.dis, List.pairwise_singleton _ _, fun x hx y hy => ?_⟩
    simp only [List.mem_singleton] at hy
    subst hy
    have := (h.blk x hx).lt
    show x.1 ≠ w'.heap.size
    omega
theorem Mem.c (h : Mem w L w') (i : Nat) {g : Nat} {t : TypeId} {cs : List Value} (hi : L[i]? = some (g, t, cs)) (j : Nat) {v : Value} (hj : cs[j]? = some v) : w'.cell? ⟨g, j, none⟩ = some v := by
  have hb := h.blk _ (List.mem_of_getElem? hi)
  rw [Blk.cell hb]
  simpa using hj
theorem Mem.f (h : Mem w L w') (i : Nat) {g : Nat} {t : TypeId} {cs : List Value} (hi : L[i]? = some (g, t, cs)) (j : Nat) : w'.frozen? ⟨g, j, none⟩ = false := (h.blk _ (List.mem_of_getElem? hi)).frozen j
theorem Mem.lt (h : Mem w L w') (i : Nat) {g : Nat} {t : TypeId} {cs : List Value} (hi : L[i]? = some (g, t, cs)) : g < w'.heap.size := (h.blk _ (List.mem_of_getElem? hi)).lt
theorem Mem.get {P Q : Prop} (h : P ∧ Q ∧ Hid (Mem w L w')) : Mem w L w' := h.2.2
theorem Mem.over (hb : Hid (Below w'.heap.size w' w1)) (h : Mem w L w') : Mem w L w1 := ⟨h.below.trans (hb.out.mono h.below.size), fun x hx => (h.blk x hx).below hb.out (h.blk x hx).lt, h.ge, h.ni, h.dis⟩
theorem Mem.drew (h : Mem w L w') : Mem w L w'.drew := ⟨h.below.drew, fun x hx => (h.blk x hx).drew, h.ge, h.ni, h.dis⟩
theorem Mem.drewN (h : Mem w L w') (n : Nat) : Mem w L (w'.drewN n) := ⟨below_drewN h.below n, fun x hx => (h.blk x hx).drewN n, h.ge, h.ni, h.dis⟩
theorem Mem.alloc (h : Mem w L w') (o : Obj) : Mem w L (w'.alloc o) := ⟨h.below.alloc h.below.size _, fun x hx => (h.blk x hx).alloc _, h.ge, h.ni, h.dis⟩
theorem Mem.store (h : Mem w L w') {b : Nat} (h0 : w.heap.size ≤ b) (hd : ∀ x ∈ L, x.1 ≠ b) (i : Nat) (u : Value) : Mem w L (w'.setCell ⟨b, i, none⟩ u) :=
  ⟨h.below.setCell (p := ⟨b, i, none⟩) h0 _, fun x hx => (h.blk x hx).far (p := ⟨b, i, none⟩) (hd x hx) _, h.ge, h.ni, h.dis⟩
theorem Mem.grown (h : Mem w L w') {row : Option Nat} (hg : w'.grownBy w1 row) (hr : ∀ g, row = some g → w.heap.size ≤ g ∧ ∀ x ∈ L, x.1 ≠ g) : Mem w L w1 :=
  ⟨h.below.grown hg h.below.size (fun g e => (hr g e).1), fun x hx => (h.blk x hx).grown hg (fun e => (hr _ e.symm).2 x hx rfl), h.ge, h.ni, h.dis⟩
theorem Mem.kept (h : Mem w L w') : Kept w w' := Kept.of_below h.below
theorem Mem.set_ (h : Mem w L w') (i : Nat) {g : Nat} {t : TypeId} {cs : List Value} (hi : L[i]? = some (g, t, cs)) (j : Nat) {v : Value} (hv : noInt [v] = true) : Mem w (L.set i (g, t, cs.set j v)) (w'.setCell ⟨g, j, none⟩ v) := by
  have hm := List.mem_of_getElem? hi
  have hil : i < L.length := (List.getElem?_eq_some_iff.1 hi).1
  have hie : L[i] = (g, t, cs) := (List.getElem?_eq_some_iff.1 hi).2
  have hpw := List.pairwise_iff_getElem.1 h.dis
  refine ⟨h.below.setCell (p := ⟨g, j, none⟩) (h.ge _ hm) _, fun x hx => ?_, fun x hx => ?_, fun x hx => ?_, ?_⟩
  · obtain ⟨k, hk, rfl⟩ := List.getElem_of_mem hx
    rw [List.length_set] at hk
    rw [List.getElem_set]
    split
    · have h1 := (h.blk _ hm).set_ j v
      simpa [List.setIfInBounds_toArray] using h1
    · rename_i hne
      refine (h.blk _ (List.getElem_mem hk)).far (p := ⟨g, j, none⟩) (fun e => ?_) _
      rcases Nat.lt_or_gt_of_ne hne with hlt | hgt
      · have := hpw i k hil hk hlt
        rw [hie] at this
        exact this e.symm
      · have := hpw k i hk hil hgt
        rw [hie] at this
        exact this e
  · obtain ⟨k, hk, rfl⟩ := List.getElem_of_mem hx
    rw [List.length_set] at hk
    rw [List.getElem_set]
    split
    · exact h.ge (g, t, cs) hm
    · exact h.ge _ (List.getElem_mem hk)
  · obtain ⟨k, hk, rfl⟩ := List.getElem_of_mem hx
    rw [List.length_set] at hk
    rw [List.getElem_set]
    split
    · exact noInt_set (h.ni _ hm) j hv
    · exact h.ni _ (List.getElem_mem hk)
  · rw [List.pairwise_iff_getElem]
    intro a b ha hb hab
    rw [List.length_set] at ha hb
    have h0 := hpw a b ha hb hab
    simp only [List.getElem_set]
    by_cases e1 : i = a
    · subst e1
      rw [if_pos rfl, if_neg (by omega)]
      rw [hie] at h0
      exact h0
    · rw [if_neg e1]
      by_cases e2 : i = b
      · subst e2
        rw [if_pos rfl]
        rw [hie] at h0
        exact h0
      · rw [if_neg e2]
        exact h0
theorem Mem.kept_set (h : Mem w L w') (i : Nat) {g : Nat} {t : TypeId} {cs : List Value} (hi : L[i]? = some (g, t, cs)) (j : Nat) (v : Value) : Kept w' (w'.setCell ⟨g, j, none⟩ v) := Kept.set_ (h.blk _ (List.mem_of_getElem? hi)) (h.ni _ (List.mem_of_getElem? hi)) j v
end

theorem Mem.left {w w' : World} {L M : List (Nat × TypeId × List Value)} (h : Mem w (L ++ M) w') : Mem w L w' :=
  ⟨h.below, fun x hx => h.blk x (List.mem_append_left _ hx), fun x hx => h.ge x (List.mem_append_left _ hx), fun x hx => h.ni x (List.mem_append_left _ hx), (List.pairwise_append.1 h.dis).1⟩
/-- what a cell holds (of blocks of which this is not told) -/
def holdsAt (w : World) (g i : Nat) : Value := (w.cell? ⟨g, i, none⟩).getD undef
/-- besides the blocks of L, blocks of U are there, of which is known how many cells each has -/
structure MemU (w : World) (L : List (Nat × TypeId × List Value)) (U : List (Nat × TypeId × Nat)) (w' : World) : Prop where
  ex : ∃ M, Mem w (L ++ M) w' ∧ M.map (fun x => (x.1, x.2.1, x.2.2.length)) = U
section
variable {w w' w1 : World} {L : List (Nat × TypeId × List Value)} {U : List (Nat × TypeId × Nat)}
theorem MemU.mem (h : MemU w L U w') : Mem w L w' := by
  obtain ⟨M, hM, _⟩ := h.ex
  exact hM.left
theorem MemU.of {M : List (Nat × TypeId × List Value)} (h : Mem w (L ++ M) w') (e : M.map (fun x => (x.1, x.2.1, x.2.2.length)) = U) : MemU w L U w' := ⟨M, h, e⟩
theorem MemU.get {P Q : Prop} (h : P ∧ Q ∧ Hid (MemU w L U w')) : MemU w L U w' := h.2.2
theorem MemU.over (hb : Hid (Below w'.heap.size w' w1)) (h : MemU w L U w') : MemU w L U w1 := by
  obtain ⟨M, hM, e⟩ := h.ex
  exact ⟨M, Mem.over hb hM, e⟩
theorem MemU.drew (h : MemU w L U w') : MemU w L U w'.drew := by
  obtain ⟨M, hM, e⟩ := h.ex
  exact ⟨M, hM.drew, e⟩
theorem MemU.at_ (h : MemU w L U w') (i : Nat) {g : Nat} {t : TypeId} {k : Nat} (hi : U[i]? = some (g, t, k)) : ∃ cs : List Value, Blk w' g t cs.toArray ∧ cs.length = k := by
  obtain ⟨M, hM, e⟩ := h.ex
  subst e
  rw [List.getElem?_map] at hi
  obtain ⟨x, hx, hx2⟩ := Option.map_eq_some_iff.1 hi
  obtain ⟨g', t', cs⟩ := x
  cases hx2
  exact ⟨cs, hM.blk _ (List.mem_append_right _ (List.mem_of_getElem? hx)), rfl⟩
theorem MemU.c (h : MemU w L U w') (i : Nat) {g : Nat} {t : TypeId} {k : Nat} (hi : U[i]? = some (g, t, k)) (j : Nat) (hj : j < k) : w'.cell? ⟨g, j, none⟩ = some (holdsAt w' g j) := by
  obtain ⟨cs, hb, hk⟩ := h.at_ i hi
  unfold holdsAt
  rw [hb.cell]
  simp [List.getElem?_eq_getElem (show j < cs.length by omega)]
theorem MemU.f (h : MemU w L U w') (i : Nat) {g : Nat} {t : TypeId} {k : Nat} (hi : U[i]? = some (g, t, k)) (j : Nat) : w'.frozen? ⟨g, j, none⟩ = false := by
  obtain ⟨cs, hb, hk⟩ := h.at_ i hi
  exact hb.frozen j
theorem MemU.set_ (h : MemU w L U w') (i : Nat) {g : Nat} {t : TypeId} {k : Nat} (hi : U[i]? = some (g, t, k)) (j : Nat) {v : Value} (hv : noInt [v] = true) : MemU w L U (w'.setCell ⟨g, j, none⟩ v) := by
  obtain ⟨M, hM, e⟩ := h.ex
  subst e
  rw [List.getElem?_map] at hi
  obtain ⟨x, hx, hx2⟩ := Option.map_eq_some_iff.1 hi
  obtain ⟨g', t', cs⟩ := x
  obtain ⟨rfl, rfl, rfl⟩ : g' = g ∧ t' = t ∧ cs.length = k := by simpa using hx2
  have h1 := hM.set_ (L.length + i) (g := g') (t := t') (cs := cs) (by rw [List.getElem?_append_right (by omega), Nat.add_sub_cancel_left]; exact hx) j hv
  rw [List.set_append_right _ _ (by omega), Nat.add_sub_cancel_left] at h1
  refine ⟨_, h1, ?_⟩
  rw [List.map_set]
  have h2 : (List.map (fun x => (x.1, x.2.1, x.2.2.length)) M)[i]? = some (g', t', (cs.set j v).length) := by rw [List.getElem?_map, hx, List.length_set]; rfl
  obtain ⟨hl, h3⟩ := List.getElem?_eq_some_iff.1 h2
  conv => rhs; rw [← List.set_getElem_self hl, h3]
end
end Go.Proofs.YtpikbhcjgcbdfaaDoor.wh

/- Known blocks, and integers of a later world that last: for regions that draw their order. -/
namespace Go.Proofs.YtpikbhcjgcbdfaaDoor.wh
open Go.RowKit

/-- the blocks of L since w, and what were integers in W0 -/
structure MemH (w W0 : World) (L : List (Nat × TypeId × List Value)) (w' : World) : Prop where
  mem : Mem w L w'
  kept : Kept W0 w'
section
variable {w W0 w0 w' w1 : World} {L : List (Nat × TypeId × List Value)}
theorem MemH.get {P Q : Prop} (h : P ∧ Q ∧ Hid (MemH w W0 L w')) : MemH w W0 L w' := h.2.2
theorem MemH.over (hb : Hid (Below w'.heap.size w' w1)) (h : MemH w W0 L w') : MemH w W0 L w1 := ⟨Mem.over hb h.mem, h.kept.over hb⟩
theorem MemH.drew (h : MemH w W0 L w') : MemH w W0 L w'.drew := ⟨h.mem.drew, h.kept.drew⟩
theorem MemH.alloc (h : MemH w W0 L w') (o : Obj) : MemH w W0 L (w'.alloc o) := ⟨h.mem.alloc o, h.kept.alloc o⟩
theorem Mem.storeN (h : Mem w L w') (k : Mem w L w0) {b : Nat} (hb : w0.heap.size ≤ b) (i : Nat) (u : Value) : Mem w L (w'.setCell ⟨b, i, none⟩ u) :=
  h.store (Nat.le_trans k.below.size hb) (fun x hx => by have := (k.blk x hx).lt; omega) i u
theorem Mem.storeN2 (h : Mem w L w') (k : Mem w L w0) {b : Nat} (hb : w0.heap.size ≤ b) (u v : Value) : Mem w L ((w'.setCell ⟨b, 0, none⟩ u).setCell ⟨b, 1, none⟩ v) := (h.storeN k hb 0 u).storeN k hb 1 v
/-- two new boxes of a sign and a slice, filled one after the other -/
theorem Mem.two (h : Mem w L w') (t : TypeId) (x y : Bool) (a b : Option Addr) (n c m d : Nat) :
    Mem w (L ++ [(w'.heap.size, t, [.bool x, .slice a n c]), (w'.heap.size + 1, t, [.bool y, .slice b m d])]) ((((((w'.alloc (.cells #[.bool false, .slice none 0 0] t)).alloc (.cells #[.bool false, .slice none 0 0] t)).setCell ⟨w'.heap.size, 0, none⟩ (.bool x)).setCell ⟨w'.heap.size, 1, none⟩ (.slice a n c)).setCell ⟨w'.heap.size + 1, 0, none⟩ (.bool y)).setCell ⟨w'.heap.size + 1, 1, none⟩ (.slice b m d)) ∧
    Kept w' ((((((w'.alloc (.cells #[.bool false, .slice none 0 0] t)).alloc (.cells #[.bool false, .slice none 0 0] t)).setCell ⟨w'.heap.size, 0, none⟩ (.bool x)).setCell ⟨w'.heap.size, 1, none⟩ (.slice a n c)).setCell ⟨w'.heap.size + 1, 0, none⟩ (.bool y)).setCell ⟨w'.heap.size + 1, 1, none⟩ (.slice b m d)) := by
  have h1 : Mem w (L ++ [(w'.heap.size, t, [.bool false, .slice none 0 0]), (w'.heap.size + 1, t, [.bool false, .slice none 0 0])]) ((w'.alloc (.cells #[.bool false, .slice none 0 0] t)).alloc (.cells #[.bool false, .slice none 0 0] t)) := by
    have h2 := (h.push rfl t [.bool false, .slice none 0 0] rfl).push (g := w'.heap.size + 1) (by simp) t [.bool false, .slice none 0 0] rfl
    rwa [List.append_assoc] at h2
  have e0 : ∀ (X Y : Nat × TypeId × List Value), (L ++ [X, Y])[L.length]? = some X := fun X Y => by simp
  have e1 : ∀ (X Y : Nat × TypeId × List Value), (L ++ [X, Y])[L.length + 1]? = some Y := fun X Y => by simp
  have s0 : ∀ (X Y Z : Nat × TypeId × List Value), (L ++ [X, Y]).set L.length Z = L ++ [Z, Y] := fun X Y Z => by simp
  have s1 : ∀ (X Y Z : Nat × TypeId × List Value), (L ++ [X, Y]).set (L.length + 1) Z = L ++ [X, Z] := fun X Y Z => by
    rw [List.set_append_right _ _ (by omega), show L.length + 1 - L.length = 1 by omega]
    rfl
  have a1 := h1.set_ L.length (e0 _ _) 0 (v := .bool x) rfl
  have k1 := h1.kept_set L.length (e0 _ _) 0 (.bool x)
  rw [s0] at a1
  have a2 := a1.set_ L.length (e0 _ _) 1 (v := .slice a n c) rfl
  have k2 := a1.kept_set L.length (e0 _ _) 1 (.slice a n c)
  rw [s0] at a2
  have a3 := a2.set_ (L.length + 1) (e1 _ _) 0 (v := .bool y) rfl
  have k3 := a2.kept_set (L.length + 1) (e1 _ _) 0 (.bool y)
  rw [s1] at a3
  have a4 := a3.set_ (L.length + 1) (e1 _ _) 1 (v := .slice b m d) rfl
  have k4 := a3.kept_set (L.length + 1) (e1 _ _) 1 (.slice b m d)
  rw [s1] at a4
  exact ⟨a4, ((((((Kept.refl w').alloc _).alloc _).trans k1).trans k2).trans k3).trans k4⟩
end
end Go.Proofs.YtpikbhcjgcbdfaaDoor.wh

/- Two new variables filled by two calls in a statement that draws its order: where their blocks lie, whatever the order was. Plain theorems. -/
namespace Go.Proofs.YtpikbhcjgcbdfaaDoor.wh
open Go.RowKit

section
variable {W w' w1 : World} {t : TypeId} {cs : Array Value} {o : Obj} {g : Nat}
theorem blk_under (hb : Hid (Below (W.alloc (.cells cs t)).heap.size (W.alloc (.cells cs t)) w')) : Blk w' W.heap.size t cs := (Blk.new W t cs).below hb.out (by simp)
theorem blk_under2 (hb : Hid (Below ((W.alloc (.cells cs t)).alloc o).heap.size ((W.alloc (.cells cs t)).alloc o) w')) : Blk w' W.heap.size t cs := ((Blk.new W t cs).alloc o).below hb.out (by simp; omega)
theorem blk_outer (hb : Hid (Below ((W.alloc o).alloc (.cells cs t)).heap.size ((W.alloc o).alloc (.cells cs t)) w')) : Blk w' (W.heap.size + 1) t cs := by
  have h := blk_under hb
  rwa [World.size_alloc] at h
theorem blk_underD (hb : Hid (Below (W.alloc (.cells cs t)).drew.heap.size (W.alloc (.cells cs t)).drew w')) : Blk w' W.heap.size t cs := ((Blk.new W t cs).drew).below hb.out ((Blk.new W t cs).drew).lt
theorem blk_under2D (hb : Hid (Below ((W.alloc (.cells cs t)).alloc o).drew.heap.size ((W.alloc (.cells cs t)).alloc o).drew w')) : Blk w' W.heap.size t cs := (((Blk.new W t cs).alloc o).drew).below hb.out (((Blk.new W t cs).alloc o).drew).lt
theorem blk_outerD (hb : Hid (Below ((W.alloc o).alloc (.cells cs t)).drew.heap.size ((W.alloc o).alloc (.cells cs t)).drew w')) : Blk w' (W.heap.size + 1) t cs := by
  have h := blk_underD hb
  rwa [World.size_alloc] at h
theorem sz0 (hb : Hid (Below W.heap.size W w')) : W.heap.size ≤ w'.heap.size := hb.out.size
theorem sz1 (hb : Hid (Below (W.alloc o).heap.size (W.alloc o) w')) : W.heap.size + 1 ≤ w'.heap.size := by
  have h := hb.out.size
  rwa [World.size_alloc] at h
theorem sz2 {o' : Obj} (hb : Hid (Below ((W.alloc o).alloc o').heap.size ((W.alloc o).alloc o') w')) : W.heap.size + 2 ≤ w'.heap.size := by
  have h := hb.out.size
  rwa [World.size_alloc, World.size_alloc] at h
theorem sz0D (hb : Hid (Below W.drew.heap.size W.drew w')) : W.heap.size ≤ w'.heap.size := hb.out.size
theorem sz1D (hb : Hid (Below (W.alloc o).drew.heap.size (W.alloc o).drew w')) : W.heap.size + 1 ≤ w'.heap.size := sz1 (w' := w') (o := o) ⟨hb.out.os, hb.out.tape, hb.out.output, hb.out.size, hb.out.block⟩
theorem sz2D {o' : Obj} (hb : Hid (Below ((W.alloc o).alloc o').drew.heap.size ((W.alloc o).alloc o').drew w')) : W.heap.size + 2 ≤ w'.heap.size := sz2 (w' := w') (o := o) (o' := o') ⟨hb.out.os, hb.out.tape, hb.out.output, hb.out.size, hb.out.block⟩
theorem blk_over (h : Blk W g t cs) (hb : Hid (Below W.heap.size W w')) : Blk w' g t cs := h.below hb.out h.lt
theorem blk_over1 (h : Blk W g t cs) (hb : Hid (Below (W.alloc o).heap.size (W.alloc o) w')) : Blk w' g t cs := blk_over (h.alloc o) hb
theorem blk_over2 {o' : Obj} (h : Blk W g t cs) (hb : Hid (Below ((W.alloc o).alloc o').heap.size ((W.alloc o).alloc o') w')) : Blk w' g t cs := blk_over ((h.alloc o).alloc o') hb
theorem blk_at {h : Nat} (hk : Blk W g t cs) (e : g = h) : Blk W h t cs := by subst e; exact hk
theorem blk_two {u v : Value} (h : Blk W g t #[u, v]) : (W.cell? ⟨g, 0, none⟩ = some u ∧ W.cell? ⟨g, 1, none⟩ = some v) ∧ W.frozen? ⟨g, 0, none⟩ = false ∧ W.frozen? ⟨g, 1, none⟩ = false := ⟨⟨h.cell 0, h.cell 1⟩, h.frozen 0, h.frozen 1⟩
theorem blk_fill {u v u' v' : Value} (h : Blk W g t #[u, v]) : Blk ((W.setCell ⟨g, 0, none⟩ u').setCell ⟨g, 1, none⟩ v') g t #[u', v'] := (h.set_ 0 u').set_ 1 v'
theorem blk_far2 {b : Nat} {u v : Value} (h : Blk W g t cs) (hne : g ≠ b) : Blk ((W.setCell ⟨b, 0, none⟩ u).setCell ⟨b, 1, none⟩ v) g t cs := (h.far (p := ⟨b, 0, none⟩) hne u).far (p := ⟨b, 1, none⟩) hne v
theorem kept_over (hb : Hid (Below W.heap.size W w')) (h : Kept w1 W) : Kept w1 w' := h.over hb
theorem kept_fill {u v u' v' : Value} (h : Kept w1 W) (hg : Blk W g t #[u, v]) (hn : noInt [u, v] = true) (hn' : noInt [u', v] = true) : Kept w1 ((W.setCell ⟨g, 0, none⟩ u').setCell ⟨g, 1, none⟩ v') :=
  (h.trans (Kept.set_ (cs := [u, v]) hg hn 0 u')).trans (Kept.set_ (cs := [u', v]) (hg.set_ 0 u') hn' 1 v')
end
section
variable {W w1 : World} {t : TypeId} {cs : Array Value} {g : Nat}
theorem blk_newS {o : Obj} : Blk ((W.alloc o).alloc (.cells cs t)) (W.heap.size + 1) t cs := by
  have h := Blk.new (W.alloc o) t cs
  rwa [World.size_alloc] at h
theorem blk_newC {p q : Addr} {u v : Value} : Blk (((W.setCell p u).setCell q v).alloc (.cells cs t)) W.heap.size t cs := by
  have h := Blk.new ((W.setCell p u).setCell q v) t cs
  have e : ((W.setCell p u).setCell q v).heap.size = W.heap.size := by simp [World.setCell]
  rwa [e] at h
theorem blk_fillz {x : Bool} {a : Option Addr} {n c : Nat} (h : Blk W g t #[.bool false, .slice none 0 0]) : Blk ((W.setCell ⟨g, 0, none⟩ (.bool x)).setCell ⟨g, 1, none⟩ (.slice a n c)) g t #[.bool x, .slice a n c] := blk_fill h
theorem kept_fillz {x : Bool} {a : Option Addr} {n c : Nat} (h : Kept w1 W) (hg : Blk W g t #[.bool false, .slice none 0 0]) : Kept w1 ((W.setCell ⟨g, 0, none⟩ (.bool x)).setCell ⟨g, 1, none⟩ (.slice a n c)) := kept_fill h hg rfl rfl
end
section
variable {w w' : World} {L : List (Nat × TypeId × List Value)}
theorem Mem.fill (h : Mem w L w') {b : Nat} (h0 : w.heap.size ≤ b) (hd : ∀ x ∈ L, x.1 ≠ b) (u v : Value) : Mem w L ((w'.setCell ⟨b, 0, none⟩ u).setCell ⟨b, 1, none⟩ v) := (h.store h0 hd 0 u).store h0 hd 1 v
/-- two blocks more -/
theorem Mem.plus2 (h : Mem w L w') {g1 g2 : Nat} {t1 t2 : TypeId} {c1 c2 : List Value} (b1 : Blk w' g1 t1 c1.toArray) (b2 : Blk w' g2 t2 c2.toArray) (l1 : w.heap.size ≤ g1) (l2 : w.heap.size ≤ g2) (d1 : ∀ x ∈ L, x.1 ≠ g1) (d2 : ∀ x ∈ L, x.1 ≠ g2) (hne : g1 ≠ g2) (n1 : noInt c1 = true) (n2 : noInt c2 = true) :
    Mem w (L ++ [(g1, t1, c1), (g2, t2, c2)]) w' := by
  refine ⟨h.below, fun x hx => ?_, fun x hx => ?_, fun x hx => ?_, ?_⟩
  · rcases List.mem_append.1 hx with hx | hx
    · exact h.blk x hx
    · simp only [List.mem_cons, List.not_mem_nil, or_false] at hx
      rcases hx with rfl | rfl
      · exact b1
      · exact b2
  · rcases List.mem_append.1 hx with hx | hx
    · exact h.ge x hx
    · simp only [List.mem_cons, List.not_mem_nil, or_false] at hx
      rcases hx with rfl | rfl
      · exact l1
      · exact l2
  · rcases List.mem_append.1 hx with hx | hx
    · exact h.ni x hx
    · simp only [List.mem_cons, List.not_mem_nil, or_false] at hx
      rcases hx with rfl | rfl
      · exact n1
      · exact n2
  · rw [List.pairwise_append]
    refine ⟨h.dis, ?_, fun x hx y hy => ?_⟩
    · simp [hne]
    · simp only [List.mem_cons, List.not_mem_nil, or_false] at hy
      rcases hy with rfl | rfl
      · exact d1 x hx
      · exact d2 x hx
end
end Go.Proofs.YtpikbhcjgcbdfaaDoor.wh
