/- Lists that are open, in memory: a row of them, each with a row of kids of its own; how one is opened, is given a kid, is closed. -/
import Derived.Test.YtmnllioeaaimcaaDoorUc
import Derived.Test.YtmnllioeaaimcaaDoorVa
import Derived.Test.YtmnllioeaaimcaaDoorWa
import Derived.Test.YtmnllioeaaimcaaDoorWe
import Derived.Deep.AppendLies
import Derived.Laws.OwnMore
namespace Go.Proofs.YtmnllioeaaimcaaDoor.tr
open Go Go.RowKit Go.Proofs.YtmnllioeaaimcaaDoor.tk

/-- a list that is open -/
structure Lv where
  l : Bool
  t : Tok
  ks : List Tree
/-- the lists that are open, the innermost first -/
def levs (b0 : Bool) : List Tree → List (Tok × List Tree) → List Lv
  | ks, [] => [⟨b0, ⟨0, [], 0⟩, ks⟩]
  | ks, (t, pk) :: st => ⟨true, t, ks⟩ :: levs b0 pk st
theorem levs_len (b0 : Bool) : ∀ (ks : List Tree) (st : List (Tok × List Tree)), (levs b0 ks st).length = st.length + 1
  | _, [] => rfl
  | _, (_, pk) :: st => by simp [levs, levs_len b0 pk st]
def cells5 (x : Lv) (v : Value) : List Value := [.bool x.l, .int .i64 x.t.k, .string ⟨x.t.s.toArray⟩, .int .i64 x.t.p, v]
/-- the cells of the row of them, the outermost first -/
def rowOf : List Lv → List Value → List Value
  | x :: L, v :: vs => rowOf L vs ++ cells5 x v
  | _, _ => []
theorem rowOf_len : ∀ {L : List Lv} {vs : List Value}, vs.length = L.length → (rowOf L vs).length = L.length * 5
  | [], [], _ => rfl
  | x :: L, v :: vs, h => by
    have := rowOf_len (L := L) (vs := vs) (by simpa using h)
    simp only [rowOf, List.length_append, this, cells5, List.length_cons, List.length_nil]
    omega
  | [], _ :: _, h => by simp at h
  | _ :: _, [], h => by simp at h
/-- these cells read as these trees, one behind the other -/
def Av (w : World) (F : Nat → Prop) : List Tree → List Value → Prop
  | [], xs => xs = []
  | t :: r, xs => ∃ cs ys, xs = cs ++ ys ∧ Vt w F t cs ∧ Av w F r ys
theorem Vt.five {w : World} {F : Nat → Prop} {t : Tree} {cs : List Value} (h : Vt w F t cs) : cs.length = 5 := by
  obtain ⟨l, u, ks⟩ := t
  unfold Vt at h
  obtain ⟨_, _, rfl, _⟩ := h
  rfl
theorem Av.stays {w w' : World} {F F' : Nat → Prop} (hs : w.heap.size ≤ w'.heap.size) (hb : ∀ g, F g → g < w.heap.size → F' g ∧ w'.heap[g]? = w.heap[g]?) : ∀ {ks : List Tree} {xs : List Value}, Av w F ks xs → Av w' F' ks xs
  | [], _, h => h
  | t :: _, _, ⟨cs, ys, e, h1, h2⟩ => ⟨cs, ys, e, Vt.stays hs hb t h1, h2.stays hs hb⟩
theorem Av.snoc {w : World} {F : Nat → Prop} {t : Tree} {cs : List Value} (ht : Vt w F t cs) : ∀ {ks : List Tree} {xs : List Value}, Av w F ks xs → Av w F (ks ++ [t]) (xs ++ cs)
  | [], xs, h => by
    have h : xs = [] := h
    subst h
    exact ⟨cs, [], by simp, ht, rfl⟩
  | u :: r, _, ⟨ds, ys, e, h1, h2⟩ => ⟨ds, ys ++ cs, by rw [e, List.append_assoc], h1, h2.snoc ht⟩
theorem Av.vr {w : World} {F : Nat → Prop} {g : Nat} : ∀ {ks : List Tree} {xs : List Value} {off : Nat}, Av w F ks xs → (∀ j, j < xs.length → w.cell? ⟨g, off + j, none⟩ = xs[j]?) → Vr w F ks g off
  | [], _, _, _, _ => by unfold Vr; trivial
  | t :: r, _, off, ⟨cs, ys, e, h1, h2⟩, hc => by
    subst e
    have h5 := h1.five
    unfold Vr
    refine ⟨⟨cs, h1, fun j hj => ?_⟩, Av.vr h2 fun j hj => ?_⟩
    · rw [hc j (by simp; omega), List.getElem?_append_left (by omega)]
    · have := hc (5 + j) (by simp; omega)
      rw [List.getElem?_append_right (by omega), h5, show 5 + j - 5 = j by omega] at this
      rw [show off + 5 + j = off + (5 + j) by omega]
      exact this
/-- a row of the call's own that reads as trees -/
def Kd (w : World) (n0 : Nat) (F : Nat → Prop) (ks : List Tree) (v : Value) : Prop := ∃ xs, w.ownsRow n0 37 5 v ks.length xs ∧ Av w F ks xs
theorem own_same {w w' : World} {base size n : Nat} {e : TypeId} {v : Value} {xs : List Value} (h : w.ownsRow base e size v n xs) (hb : ∀ g, v.ownBlock = some g → w'.heap[g]? = w.heap[g]?) : w'.ownsRow base e size v n xs := by
  refine ⟨h.1, h.2.imp id ?_⟩
  rintro ⟨g, cap, cur, rfl, e2, e3, r⟩
  exact ⟨g, cap, cur, rfl, e2, (hb g rfl).trans e3, r⟩
theorem Kd.stays {w w' : World} {n0 : Nat} {F F' : Nat → Prop} {ks : List Tree} {v : Value} (h : Kd w n0 F ks v) (hs : w.heap.size ≤ w'.heap.size) (hb : ∀ g, F g → g < w.heap.size → F' g ∧ w'.heap[g]? = w.heap[g]?) (hv : ∀ g, v.ownBlock = some g → w'.heap[g]? = w.heap[g]?) : Kd w' n0 F' ks v := by
  obtain ⟨xs, h1, h2⟩ := h
  exact ⟨xs, own_same h1 hv, h2.stays hs hb⟩
/-- a row that is closed reads as trees -/
theorem Kd.rw {w : World} {n0 : Nat} {F F' : Nat → Prop} {ks : List Tree} {v : Value} (h : Kd w n0 F ks v) (hF : ∀ g, F g → F' g) (hv : ∀ g, v.ownBlock = some g → F' g) : Rw w F' ks v := by
  obtain ⟨xs, h1, h2⟩ := h
  rcases h1.2 with ⟨rfl, h0⟩ | ⟨g, cap, cur, rfl, e2, e3, e4, _⟩
  · exact ⟨none, 0, by rw [h0], by omega, fun hp => by omega⟩
  · refine ⟨some ⟨g, 0, none⟩, cap, rfl, e4, fun _ => ⟨g, 0, rfl, hv g rfl, (Array.getElem?_eq_some_iff.1 e3).1, ?_⟩⟩
    refine Av.vr (h2.stays (Nat.le_refl _) (fun g hg _ => ⟨hF g hg, rfl⟩)) fun j hj => ?_
    rw [Nat.zero_add]
    exact h1.cellAt j (by rw [h1.1] at hj; exact hj)
def Ak (w : World) (n0 : Nat) (F : Nat → Prop) : List Lv → List Value → Prop
  | [], [] => True
  | x :: L, v :: vs => Kd w n0 F x.ks v ∧ Ak w n0 F L vs
  | _, _ => False
theorem Ak.len {w : World} {n0 : Nat} {F : Nat → Prop} : ∀ {L : List Lv} {vs : List Value}, Ak w n0 F L vs → vs.length = L.length
  | [], [], _ => rfl
  | _ :: _, _ :: _, h => by simp [h.2.len]
  | [], _ :: _, h => h.elim
  | _ :: _, [], h => h.elim
theorem Ak.stays {w w' : World} {n0 : Nat} {F F' : Nat → Prop} (hs : w.heap.size ≤ w'.heap.size) (hb : ∀ g, F g → g < w.heap.size → F' g ∧ w'.heap[g]? = w.heap[g]?) : ∀ {L : List Lv} {vs : List Value}, Ak w n0 F L vs → (∀ g, g ∈ vs.filterMap Value.ownBlock → w'.heap[g]? = w.heap[g]?) → Ak w' n0 F' L vs
  | [], [], _, _ => trivial
  | _ :: _, v :: vs, h, hv => ⟨h.1.stays hs hb (fun g hg => hv g (List.mem_filterMap.2 ⟨v, by simp, hg⟩)), h.2.stays hs hb (fun g hg => hv g (by
      obtain ⟨u, h1, h2⟩ := List.mem_filterMap.1 hg
      exact List.mem_filterMap.2 ⟨u, List.mem_cons_of_mem _ h1, h2⟩))⟩
  | [], _ :: _, h, _ => h.elim
  | _ :: _, [], h, _ => h.elim
theorem Ak.lt {w : World} {n0 : Nat} {F : Nat → Prop} : ∀ {L : List Lv} {vs : List Value}, Ak w n0 F L vs → ∀ g, g ∈ vs.filterMap Value.ownBlock → n0 ≤ g ∧ g < w.heap.size
  | [], [], _, g, hg => by simp at hg
  | _ :: _, v :: vs, h, g, hg => by
    obtain ⟨u, h1, h2⟩ := List.mem_filterMap.1 hg
    rcases List.mem_cons.1 h1 with rfl | h1
    · obtain ⟨xs, h3, _⟩ := h.1
      exact h3.lt g h2
    · exact h.2.lt g (List.mem_filterMap.2 ⟨u, h1, h2⟩)
  | [], _ :: _, h, _, _ => h.elim
  | _ :: _, [], h, _, _ => h.elim
/-- the blocks that the open lists own -/
abbrev own (Z : List Nat) (g : Nat) (vs : List Value) : List Nat := g :: (vs.filterMap Value.ownBlock ++ Z)
/-- lists that are open: the row g of them; Z: other blocks that no tree's row may be -/
structure Od (w : World) (n0 : Nat) (Z : List Nat) (g c : Nat) (L : List Lv) (vs : List Value) : Prop where
  row : w.ownsRow n0 37 5 (.slice (some ⟨g, 0, none⟩) L.length c) L.length (rowOf L vs)
  kid : Ak w n0 (fun b => b ∉ own Z g vs) L vs
  dis : (own Z g vs).Nodup
  zs : ∀ b ∈ Z, n0 ≤ b ∧ b < w.heap.size
section
variable {w : World} {n0 g c : Nat} {Z : List Nat} {L : List Lv} {vs : List Value}
theorem Od.lt (h : Od w n0 Z g c L vs) : ∀ b ∈ own Z g vs, n0 ≤ b ∧ b < w.heap.size := by
  intro b hb
  rcases List.mem_cons.1 hb with rfl | hb
  · exact h.row.lt b rfl
  · rcases List.mem_append.1 hb with hb | hb
    · exact h.kid.lt b hb
    · exact h.zs b hb
/-- where its blocks, and all trees', are as they were -/
theorem Od.stays (h : Od w n0 Z g c L vs) {w' : World} (hs : w.heap.size ≤ w'.heap.size) (hb : ∀ b, b < w.heap.size → (b ∉ Z) → w'.heap[b]? = w.heap[b]?) : Od w' n0 Z g c L vs := by
  have hd := h.dis
  have gz : g ∉ Z := fun hz => (List.nodup_cons.1 hd).1 (List.mem_append.2 (.inr hz))
  have vz : ∀ b ∈ vs.filterMap Value.ownBlock, b ∉ Z := fun b hb hz => (List.nodup_append.1 (List.nodup_cons.1 hd).2).2.2 b hb b hz rfl
  refine ⟨own_same h.row (fun b e => ?_), h.kid.stays hs (fun b hb' hl => ⟨hb', hb b hl (fun hz => hb' (List.mem_cons_of_mem _ (List.mem_append.2 (.inr hz))))⟩) (fun b hb' => hb b (h.kid.lt b hb').2 (vz b hb')), hd, fun b hz => ⟨(h.zs b hz).1, Nat.lt_of_lt_of_le (h.zs b hz).2 hs⟩⟩
  simp only [Value.ownBlock, Option.some.injEq] at e
  subst e
  exact hb _ (h.row.lt _ rfl).2 gz
theorem Od.cell {x : Lv} {v : Value} (h : Od w n0 Z g c (x :: L) (v :: vs)) (i : Nat) (hi : i < 5) : w.cell? ⟨g, L.length * 5 + i, none⟩ = (cells5 x v)[i]? := by
  have hl : (rowOf L vs).length = L.length * 5 := rowOf_len h.kid.2.len
  rw [h.row.cellAt _ (by simp only [List.length_cons]; omega)]
  simp only [rowOf]
  rw [List.getElem?_append_right (by omega), hl]
  congr 1
  omega
theorem Od.frozen (h : Od w n0 Z g c L vs) (j : Nat) : w.frozen? ⟨g, j, none⟩ = false := h.row.frozenAt j
/-- a kid: behind the append of it (or of what is then made it) to the innermost list's row -/
theorem Od.put {x : Lv} {v : Value} (h : Od w n0 Z g c (x :: L) (v :: vs)) {t : Tree} {xs cs : List Value} (hav : Av w (fun b => b ∉ own Z g (v :: vs)) x.ks xs) (ht : Vt w (fun b => b ∉ own Z g (v :: vs)) t cs) {g' c' : Nat} {w1 w2 : World}
    (h1 : w1.ownsRow n0 37 5 (.slice (some ⟨g', 0, none⟩) (x.ks.length + 1) c') (x.ks.length + 1) (xs ++ cs)) (hs : Sft (fun b => v.ownBlock = some b) w w1) (h3 : v.ownBlock = some g' ∨ w.heap.size ≤ g')
    (hw : w1.setCell ⟨g, L.length * 5 + 4, none⟩ (.slice (some ⟨g', 0, none⟩) (x.ks.length + 1) c') = w2) :
    Od w2 n0 Z g c (⟨x.l, x.t, x.ks ++ [t]⟩ :: L) (.slice (some ⟨g', 0, none⟩) (x.ks.length + 1) c' :: vs) ∧ Sft (fun b => b ∈ own Z g (v :: vs)) w w2 ∧ ∀ b ∈ own Z g (.slice (some ⟨g', 0, none⟩) (x.ks.length + 1) c' :: vs), b ∈ own Z g (v :: vs) ∨ w.heap.size ≤ b := by
  have olt := h.lt
  have hd := h.dis
  have hv : ∀ b, v.ownBlock = some b → b ∈ own Z g (v :: vs) := fun b e => List.mem_cons_of_mem _ (List.mem_append.2 (.inl (List.mem_filterMap.2 ⟨v, by simp, e⟩)))
  have hsub : ∀ b, b ∈ own Z g vs → b ∈ own Z g (v :: vs) := fun b hb => by
    rcases List.mem_cons.1 hb with rfl | hb
    · simp
    · rcases List.mem_append.1 hb with hb | hb
      · obtain ⟨u, k1, k2⟩ := List.mem_filterMap.1 hb
        exact List.mem_cons_of_mem _ (List.mem_append.2 (.inl (List.mem_filterMap.2 ⟨u, List.mem_cons_of_mem _ k1, k2⟩)))
      · exact List.mem_cons_of_mem _ (List.mem_append.2 (.inr hb))
  -- v's own block is none of the others'
  have hvn : ∀ b, v.ownBlock = some b → b ∉ own Z g vs := fun b e hb => by
    have e2 : (v :: vs).filterMap Value.ownBlock = b :: vs.filterMap Value.ownBlock := by simp [e]
    rw [own, e2] at hd
    obtain ⟨d1, d2⟩ := List.nodup_cons.1 hd
    obtain ⟨d3, _⟩ := List.nodup_cons.1 d2
    rcases List.mem_cons.1 hb with rfl | hb
    · exact d1 (by simp)
    · exact d3 hb
  have hg'n : g' ∉ own Z g vs := fun hb => by
    rcases h3 with h3 | h3
    · exact hvn g' h3 hb
    · have := (olt g' (hsub g' hb)).2; omega
  have own' : ∀ (n m : Nat), own Z g (.slice (some ⟨g', 0, none⟩) n m :: vs) = g :: g' :: (vs.filterMap Value.ownBlock ++ Z) := fun n m => by simp [own, Value.ownBlock]
  have hgg : g ≠ g' := fun e => hg'n (e ▸ List.mem_cons_self ..)
  have s1 : w.heap.size ≤ w1.heap.size := hs.size
  have row1 : w1.ownsRow n0 37 5 (.slice (some ⟨g, 0, none⟩) (L.length + 1) c) (L.length + 1) (rowOf (x :: L) (v :: vs)) := own_same h.row (fun b e => by
    simp only [Value.ownBlock, Option.some.injEq] at e
    subst e
    exact hs.block _ (olt _ (by simp)).2 (fun e => hvn _ e (List.mem_cons_self ..)))
  have st := row1.stored (L.length * 5 + 4) (.slice (some ⟨g', 0, none⟩) (x.ks.length + 1) c')
  rw [hw] at st
  have s2 : w1.heap.size ≤ w2.heap.size := st.2.size
  have h2 : ∀ b, b ≠ g → w2.heap[b]? = w1.heap[b]? := fun b hb => by rw [← hw]; exact Below.heap_setCell _ _ _ b hb
  have hl : (rowOf L vs).length = L.length * 5 := rowOf_len h.kid.2.len
  have keep : ∀ b, b ∉ own Z g (v :: vs) → b < w.heap.size → b ∉ own Z g (.slice (some ⟨g', 0, none⟩) (x.ks.length + 1) c' :: vs) ∧ w2.heap[b]? = w.heap[b]? := fun b hb hl => by
    refine ⟨fun hn => ?_, (h2 b (fun e => hb (e ▸ List.mem_cons_self ..))).trans (hs.block b hl (fun e => hb (hv b e)))⟩
    rw [own'] at hn
    rcases List.mem_cons.1 hn with rfl | hn
    · exact hb (by simp)
    · rcases List.mem_cons.1 hn with rfl | hn
      · rcases h3 with h3 | h3
        · exact hb (hv _ h3)
        · omega
      · exact hb (hsub b (List.mem_cons_of_mem _ hn))
  refine ⟨⟨?_, ⟨⟨xs ++ cs, ?_, ?_⟩, ?_⟩, ?_, fun b hz => ⟨(h.zs b hz).1, by have := (h.zs b hz).2; omega⟩⟩, ?_, ?_⟩
  · have := st.1
    have e : (rowOf (x :: L) (v :: vs)).set (L.length * 5 + 4) (.slice (some ⟨g', 0, none⟩) (x.ks.length + 1) c') = rowOf (⟨x.l, x.t, x.ks ++ [t]⟩ :: L) (.slice (some ⟨g', 0, none⟩) (x.ks.length + 1) c' :: vs) := by
      simp only [rowOf]
      rw [List.set_append_right _ _ (by omega), hl, show L.length * 5 + 4 - L.length * 5 = 4 by omega]
      rfl
    rw [e] at this
    exact this
  · have := own_same (w' := w2) h1 (fun b e => by
      simp only [Value.ownBlock, Option.some.injEq] at e
      subst e
      exact h2 _ (Ne.symm hgg))
    simpa using this
  · exact (hav.stays (by omega) keep).snoc (Vt.stays (by omega) keep t ht)
  · refine h.kid.2.stays (by omega) keep (fun b hb => ?_)
    have hb' : b ∈ own Z g vs := List.mem_cons_of_mem _ (List.mem_append.2 (.inl hb))
    have hbg : b ≠ g := fun e => by
      have := (List.nodup_cons.1 hd).1
      exact this (List.mem_append.2 (.inl (by
        obtain ⟨u, k1, k2⟩ := List.mem_filterMap.1 hb
        exact List.mem_filterMap.2 ⟨u, List.mem_cons_of_mem _ k1, e ▸ k2⟩)))
    exact (h2 b hbg).trans (hs.block b (olt b (hsub b hb')).2 (fun e => hvn b e hb'))
  · rw [own']
    have d2 : (g :: (vs.filterMap Value.ownBlock ++ Z)).Nodup := by
      refine hd.sublist ?_
      refine List.Sublist.cons_cons g (List.Sublist.append ?_ (List.Sublist.refl _))
      exact (List.sublist_cons_self v vs).filterMap _
    obtain ⟨d3, d4⟩ := List.nodup_cons.1 d2
    refine List.nodup_cons.2 ⟨?_, List.nodup_cons.2 ⟨fun hb => hg'n (List.mem_cons_of_mem _ hb), d4⟩⟩
    intro hb
    rcases List.mem_cons.1 hb with e | hb
    · exact hgg e
    · exact d3 hb
  · refine ⟨(by rw [← hw]; exact hs.os), (by rw [← hw]; exact hs.tape), (by rw [← hw]; exact hs.output), by omega, fun b hl hb => ?_⟩
    exact (keep b hb hl).2
  · intro b hb
    rw [own'] at hb
    rcases List.mem_cons.1 hb with rfl | hb
    · exact .inl (by simp)
    · rcases List.mem_cons.1 hb with rfl | hb
      · rcases h3 with h3 | h3
        · exact .inl (hv _ h3)
        · exact .inr h3
      · exact .inl (hsub b (List.mem_cons_of_mem _ hb))
/-- a list is opened: behind the append of it to the row -/
theorem Od.open_ (h : Od w n0 Z g c L vs) {t : Tok} {g' c' : Nat} {w1 : World} (h1 : w1.ownsRow n0 37 5 (.slice (some ⟨g', 0, none⟩) (L.length + 1) c') (L.length + 1) (rowOf L vs ++ cells5 ⟨true, t, []⟩ (.slice none 0 0)))
    (hs : Sft (fun b => b = g) w w1) (h3 : g = g' ∨ w.heap.size ≤ g') :
    Od w1 n0 Z g' c' (⟨true, t, []⟩ :: L) (.slice none 0 0 :: vs) ∧ Sft (fun b => b ∈ own Z g vs) w w1 ∧ ∀ b ∈ own Z g' (.slice none 0 0 :: vs), b ∈ own Z g vs ∨ w.heap.size ≤ b := by
  have olt := h.lt
  obtain ⟨d1, d2⟩ := List.nodup_cons.1 h.dis
  have s1 := hs.size
  have own' : own Z g' (.slice none 0 0 :: vs) = g' :: (vs.filterMap Value.ownBlock ++ Z) := by simp [own, List.filterMap_cons, Value.ownBlock]
  have hg' : g' ∉ vs.filterMap Value.ownBlock ++ Z := fun hb => by
    rcases h3 with rfl | h3
    · exact d1 hb
    · have := (olt g' (List.mem_cons_of_mem _ hb)).2; omega
  have keep : ∀ b, b ∉ own Z g vs → b < w.heap.size → b ∉ own Z g' (.slice none 0 0 :: vs) ∧ w1.heap[b]? = w.heap[b]? := fun b hb hl => by
    refine ⟨fun hn => ?_, hs.block b hl (fun e => hb (e ▸ List.mem_cons_self ..))⟩
    rw [own'] at hn
    rcases List.mem_cons.1 hn with rfl | hn
    · rcases h3 with rfl | h3
      · exact hb (by simp)
      · omega
    · exact hb (List.mem_cons_of_mem _ hn)
  refine ⟨⟨h1, ⟨⟨[], World.ownsRow_nil _ _ _ _, rfl⟩, h.kid.stays s1 keep (fun b hb => hs.block b (h.kid.lt b hb).2 (fun e => d1 (List.mem_append.2 (.inl (e ▸ hb)))))⟩, ?_, fun b hz => ⟨(h.zs b hz).1, by have := (h.zs b hz).2; omega⟩⟩, ⟨hs.os, hs.tape, hs.output, s1, fun b hl hb => (keep b hb hl).2⟩, ?_⟩
  · rw [own']
    exact List.nodup_cons.2 ⟨hg', d2⟩
  · intro b hb
    rw [own'] at hb
    rcases List.mem_cons.1 hb with rfl | hb
    · rcases h3 with rfl | h3
      · exact .inl (by simp)
      · exact .inr h3
    · exact .inl (List.mem_cons_of_mem _ hb)
/-- the innermost list is taken off the row: its row is closed -/
theorem Od.close {x : Lv} {v : Value} (h : Od w n0 Z g c (x :: L) (v :: vs)) :
    Od w n0 Z g c L vs ∧ (∀ b ∈ own Z g vs, b ∈ own Z g (v :: vs)) ∧ Rw w (fun b => b ∉ own Z g vs) x.ks v := by
  have hd := h.dis
  have hsub : ∀ b, b ∈ own Z g vs → b ∈ own Z g (v :: vs) := fun b hb => by
    rcases List.mem_cons.1 hb with rfl | hb
    · simp
    · rcases List.mem_append.1 hb with hb | hb
      · obtain ⟨u, k1, k2⟩ := List.mem_filterMap.1 hb
        exact List.mem_cons_of_mem _ (List.mem_append.2 (.inl (List.mem_filterMap.2 ⟨u, List.mem_cons_of_mem _ k1, k2⟩)))
      · exact List.mem_cons_of_mem _ (List.mem_append.2 (.inr hb))
  have hvn : ∀ b, v.ownBlock = some b → b ∉ own Z g vs := fun b e hb => by
    have e2 : (v :: vs).filterMap Value.ownBlock = b :: vs.filterMap Value.ownBlock := by simp [e]
    rw [own, e2] at hd
    obtain ⟨d1, d2⟩ := List.nodup_cons.1 hd
    obtain ⟨d3, _⟩ := List.nodup_cons.1 d2
    rcases List.mem_cons.1 hb with rfl | hb
    · exact d1 (by simp)
    · exact d3 hb
  have hl : (rowOf L vs).length = L.length * 5 := rowOf_len h.kid.2.len
  refine ⟨⟨⟨hl, ?_⟩, h.kid.2.stays (Nat.le_refl _) (fun b hb _ => ⟨fun hn => hb (hsub b hn), rfl⟩) (fun _ _ => rfl), ?_, h.zs⟩, hsub, h.kid.1.rw (fun b hb hn => hb (hsub b hn)) hvn⟩
  · rcases h.row.2 with ⟨h2, _⟩ | ⟨g', cap, cur, e1, e2, e3, e4, e5, e6, e7⟩
    · simp at h2
    · simp only [Value.slice.injEq, Option.some.injEq, Addr.mk.injEq, and_true, true_and] at e1
      obtain ⟨rfl, rfl⟩ := e1
      refine .inr ⟨g, c, cur, rfl, e2, e3, by simp at e4; omega, e5, e6, ?_⟩
      have : cur.toList.take (L.length * 5) = (cur.toList.take ((L.length + 1) * 5)).take (L.length * 5) := by rw [List.take_take]; congr 1; omega
      rw [this]
      simp only [List.length_cons] at e7
      rw [e7]
      simp only [rowOf]
      rw [List.take_left' hl]
  · refine hd.sublist ?_
    refine List.Sublist.cons_cons g (List.Sublist.append ?_ (List.Sublist.refl _))
    exact (List.sublist_cons_self v vs).filterMap _
end
/-- the innermost list's row is none of the other blocks -/
theorem Od.vne {w : World} {n0 g c : Nat} {Z : List Nat} {L : List Lv} {vs : List Value} {x : Lv} {v : Value} (h : Od w n0 Z g c (x :: L) (v :: vs)) : ∀ b, v.ownBlock = some b → b ≠ g ∧ b ∉ Z := fun b e => by
  have hd := h.dis
  have e2 : (v :: vs).filterMap Value.ownBlock = b :: vs.filterMap Value.ownBlock := by simp [e]
  rw [own, e2] at hd
  obtain ⟨d1, d2⟩ := List.nodup_cons.1 hd
  obtain ⟨d3, _⟩ := List.nodup_cons.1 d2
  exact ⟨fun e3 => d1 (e3 ▸ by simp), fun hz => d3 (List.mem_append.2 (.inr hz))⟩
theorem Od.vmem {w : World} {n0 g c : Nat} {Z : List Nat} {L : List Lv} {vs : List Value} {x : Lv} {v : Value} (_h : Od w n0 Z g c (x :: L) (v :: vs)) : ∀ b, v.ownBlock = some b → b ∈ own Z g (v :: vs) := fun b e =>
  List.mem_cons_of_mem _ (List.mem_append.2 (.inl (List.mem_filterMap.2 ⟨v, by simp, e⟩)))
/-- the last five cells of a row -/
theorem own_last {w : World} {base n cap g : Nat} {t : TypeId} {xs : List Value} {z0 z1 z2 z3 z4 : Value} (h : w.ownsRow base t 5 (.slice (some ⟨g, 0, none⟩) (n + 1) cap) (n + 1) (xs ++ [z0, z1, z2, z3, z4])) (i : Nat) (hi : i < 5) : w.cell? ⟨g, n * 5 + i, none⟩ = [z0, z1, z2, z3, z4][i]? := by
  have hl : xs.length = n * 5 := by have := h.1; simp at this; omega
  rw [h.cellAt _ (by omega), List.getElem?_append_right (by omega)]
  congr 1
  omega
theorem setCell_swap (w : World) {b c : Nat} (h : b ≠ c) (i j : Nat) (u v : Value) : (w.setCell ⟨b, i, none⟩ u).setCell ⟨c, j, none⟩ v = (w.setCell ⟨c, j, none⟩ v).setCell ⟨b, i, none⟩ u := by
  unfold World.setCell
  congr 1
  apply Array.ext
  · simp
  · intro k h1 h2
    simp only [Array.getElem_modify]
    by_cases hb : b = k
    · have hc : ¬ c = k := fun hc => h (hb.trans hc.symm)
      simp [hb, hc]
    · by_cases hc : c = k
      · simp [hb, hc]
      · simp [hb, hc]
/-- five cells are stored, one by one, behind a row's own -/
def put5 (w : World) (g o : Nat) (a b c d e : Value) : World := ((((w.setCell ⟨g, o, none⟩ a).setCell ⟨g, o + 1, none⟩ b).setCell ⟨g, o + 2, none⟩ c).setCell ⟨g, o + 3, none⟩ d).setCell ⟨g, o + 4, none⟩ e
theorem new5 (w : World) (t : TypeId) (a b c d e : Value) : ∀ j u, [a, b, c, d, e][j]? = some u → (w.alloc (.cells #[a, b, c, d, e] t)).cell? ((⟨w.heap.size, 0, none⟩ : Addr).add j) = some u := by
  intro j u hj
  have hb := Bk.new w t #[a, b, c, d, e]
  have := hb.cell j
  match j, hj with
  | 0, hj | 1, hj | 2, hj | 3, hj | 4, hj => simp at hj; subst hj; first | (simp [Addr.add]; done) | simpa [Addr.add] using this
theorem five_one {a b c d e u : Value} (h : u ∈ [a, b, c, d, e]) (ha : a.oneCell' = true) (hb : b.oneCell' = true) (hc : c.oneCell' = true) (hd : d.oneCell' = true) (he : e.oneCell' = true) : u.oneCell' = true := by
  simp only [List.mem_cons, List.not_mem_nil, or_false] at h
  rcases h with rfl | rfl | rfl | rfl | rfl <;> assumption
theorem put5_swap (w : World) {b g : Nat} (h : b ≠ g) (i o : Nat) (v a b' c d e : Value) : put5 (w.setCell ⟨b, i, none⟩ v) g o a b' c d e = (put5 w g o a b' c d e).setCell ⟨b, i, none⟩ v := by
  unfold put5
  rw [setCell_swap w h, setCell_swap _ h, setCell_swap _ h, setCell_swap _ h, setCell_swap _ h]
theorem own_put5 {w : World} {base n cap g : Nat} {t : TypeId} {xs : List Value} {z0 z1 z2 z3 z4 : Value} (h : w.ownsRow base t 5 (.slice (some ⟨g, 0, none⟩) (n + 1) cap) (n + 1) (xs ++ [z0, z1, z2, z3, z4])) (a b c d e : Value) :
    (put5 w g (n * 5) a b c d e).ownsRow base t 5 (.slice (some ⟨g, 0, none⟩) (n + 1) cap) (n + 1) (xs ++ [a, b, c, d, e]) ∧ Sft (fun k => k = g) w (put5 w g (n * 5) a b c d e) := by
  have hl : xs.length = n * 5 := by have := h.1; simp at this; omega
  have h5 := ((((h.stored (n * 5) a).1.stored (n * 5 + 1) b).1.stored (n * 5 + 2) c).1.stored (n * 5 + 3) d).1.stored (n * 5 + 4) e
  refine ⟨?_, ?_⟩
  · have := h5.1
    rw [List.set_append_right _ _ (by omega), List.set_append_right _ _ (by omega), List.set_append_right _ _ (by omega), List.set_append_right _ _ (by omega), List.set_append_right _ _ (by omega), hl] at this
    simp only [Nat.sub_self, Nat.add_sub_cancel_left, List.set_cons_zero, List.set_cons_succ] at this
    exact this
  · have one : ∀ (W : World) (o : Nat) (v : Value), Sft (fun k => k = g) W (W.setCell ⟨g, o, none⟩ v) := fun W o v => Sft.setCell (X := fun k => k = g) (p := ⟨g, o, none⟩) rfl v
    exact ((((one _ _ _).trans (one _ _ _) (fun _ h => .inl h)).trans (one _ _ _) (fun _ h => .inl h)).trans (one _ _ _) (fun _ h => .inl h)).trans (one _ _ _) (fun _ h => .inl h)
/-- .. as a whole: but for the row's own block (or a new one) all is as it was -/
theorem psft {w w1 : World} {base n cap g : Nat} {t : TypeId} {xs : List Value} {v z0 z1 z2 z3 z4 a b c d e : Value} (hs : Sft (fun b => v.ownBlock = some b) w w1) (h : w1.ownsRow base t 5 (.slice (some ⟨g, 0, none⟩) (n + 1) cap) (n + 1) (xs ++ [z0, z1, z2, z3, z4])) (hg : v.ownBlock = some g ∨ w.heap.size ≤ g) :
    Sft (fun b => v.ownBlock = some b) w (put5 w1 g (n * 5) a b c d e) := by
  have h2 := (own_put5 h a b c d e).2
  refine ⟨h2.os.trans hs.os, h2.tape.trans hs.tape, h2.output.trans hs.output, Nat.le_trans hs.size h2.size, fun k hk hn => (h2.block k (Nat.lt_of_lt_of_le hk hs.size) (fun e => ?_)).trans (hs.block k hk hn)⟩
  rcases hg with hg | hg
  · exact hn (e ▸ hg)
  · omega
end Go.Proofs.YtmnllioeaaimcaaDoor.tr
