/- Words for memory that the walks of package whole share: a slice that reads as a list of digits, a block that is known whole. Plain theorems, no program. -/
import Derived.WalkKit
import Derived.Laws.OwnMore
import Derived.Deep.AppendLies
import Derived.Deep.Draws
import Derived.Lib.Hide
namespace Go.Proofs.YtgmnpajecpjklaaDoor.wh
open Go.RowKit

/-- The digits of a []uint32 as cells. -/
def u32s (ds : List Nat) : List Value := ds.map fun (d : Nat) => Value.int .u32 (d : Int)
theorem u32s_length (ds : List Nat) : (u32s ds).length = ds.length := by simp [u32s]
theorem u32s_get {ds : List Nat} {k : Nat} (h : k < ds.length) : (u32s ds)[k]? = some (.int .u32 ((ds[k]'h : Nat) : Int)) := by simp [u32s, h]
theorem u32s_take (ds : List Nat) (k : Nat) : (u32s ds).take k = u32s (ds.take k) := by simp [u32s, List.map_take]
theorem u32s_drop (ds : List Nat) (k : Nat) : (u32s ds).drop k = u32s (ds.drop k) := by simp [u32s, List.map_drop]
theorem u32s_append (a b : List Nat) : u32s (a ++ b) = u32s a ++ u32s b := by simp [u32s]

/-- The slice '.slice A n c' reads as the digits ds, in a block below B. -/
def Rd (w : World) (B : Nat) (A : Option Addr) (ds : List Nat) : Prop :=
  0 < ds.length → ∃ b off, A = some ⟨b, off, none⟩ ∧ b < B ∧ ∀ j (h : j < ds.length), w.cell? ⟨b, off + j, none⟩ = some (.int .u32 ((ds[j]'h : Nat) : Int))

section
variable {w w' : World} {B B' : Nat} {A : Option Addr} {ds : List Nat}
theorem Rd.nil : Rd w B A [] := fun h => absurd h (by simp)
theorem Rd.keep (h : Rd w B A ds) (hk : ∀ p : Addr, p.block < B → w'.cell? p = w.cell? p) : Rd w' B A ds := fun hn => by
  obtain ⟨b, off, e, hb, hc⟩ := h hn
  exact ⟨b, off, e, hb, fun j hj => (hk ⟨b, off + j, none⟩ hb).trans (hc j hj)⟩
theorem Rd.more (h : Rd w B A ds) (hB : B ≤ B') : Rd w B' A ds := fun hn => by
  obtain ⟨b, off, e, hb, hc⟩ := h hn
  exact ⟨b, off, e, by omega, hc⟩
theorem Rd.below (h : Rd w B A ds) (hb : Below B w w') : Rd w' B A ds := h.keep fun _ hp => hb.cell hp
/-- over a callee that keeps all that was there -/
theorem Rd.over (h : Rd w w.heap.size A ds) (hb : Below w.heap.size w w') : Rd w' w'.heap.size A ds := (h.below hb).more hb.size
theorem Rd.drewN (h : Rd w B A ds) (k : Nat) : Rd (w.drewN k) B A ds := h
theorem Rd.drew (h : Rd w B A ds) : Rd w.drew B A ds := h
theorem Rd.alloc (h : Rd w B A ds) (hB : B ≤ w.heap.size) (o : Obj) : Rd (w.alloc o) B A ds := h.keep fun p hp => World.cell?_alloc_lt w o p (by omega)
theorem Rd.alloc' (h : Rd w w.heap.size A ds) (o : Obj) : Rd (w.alloc o) (w.alloc o).heap.size A ds := (h.alloc (Nat.le_refl _) o).more (by simp)
theorem Rd.setCell (h : Rd w B A ds) {p : Addr} (hB : B ≤ p.block) (u : Value) : Rd (w.setCell p u) B A ds :=
  h.keep fun q hq => World.cell?_setCell_other w p q u (fun e => by subst e; omega)
theorem Rd.grown (h : Rd w B A ds) {row : Option Nat} (hg : w.grownBy w' row) (hB : B ≤ w.heap.size) (hr : ∀ g, row = some g → B ≤ g) : Rd w' B A ds :=
  h.keep fun p hp => World.cell?_of_block (hg.block p.block (by omega) (fun e => by have := hr _ e.symm; omega))
theorem Rd.at_ {k : Nat} (h : Rd w B A ds) (hk : k < ds.length) : ∃ b off, A = some ⟨b, off, none⟩ ∧ b < B ∧ w.cell? ⟨b, off + k, none⟩ = some (.int .u32 ((ds[k]'hk : Nat) : Int)) := by
  obtain ⟨b, off, e, hb, hc⟩ := h (by omega)
  exact ⟨b, off, e, hb, hc k hk⟩
theorem Rd.take (h : Rd w B A ds) (k : Nat) : Rd w B A (ds.take k) := fun hn => by
  have hl : k.min ds.length ≤ ds.length := Nat.min_le_right ..
  simp only [List.length_take] at hn
  obtain ⟨b, off, e, hb, hc⟩ := h (by omega)
  exact ⟨b, off, e, hb, fun j hj => by simp only [List.length_take] at hj; rw [hc j (by omega)]; simp⟩
theorem Rd.of_own {base e n c : Nat} (h : w.ownsRow base e 1 (.slice A n c) n (u32s ds)) : Rd w w.heap.size A ds := fun hn => by
  have hl : ds.length = n := by have := h.1; rw [u32s_length] at this; omega
  obtain ⟨g, cap, hv, _, hlt⟩ := h.form (by omega)
  have hA : A = some ⟨g, 0, none⟩ := by injection hv
  subst hA
  refine ⟨g, 0, rfl, hlt, fun j hj => ?_⟩
  have := h.cells (g := g) rfl j _ (u32s_get hj)
  rw [← this]
  unfold Addr.add
  by_cases h0 : j = 0 <;> simp [h0]
end

/-- Block g is just the cells cs of element type t, none frozen. -/
def Blk (w : World) (g : Nat) (t : TypeId) (cs : Array Value) : Prop := w.heap[g]? = some (.cells cs t (0, 0))
section
variable {w w' : World} {g : Nat} {t : TypeId} {cs : Array Value}
theorem Blk.lt (h : Blk w g t cs) : g < w.heap.size := by
  rcases Nat.lt_or_ge g w.heap.size with hlt | hge
  · exact hlt
  · unfold Blk at h; rw [Array.getElem?_eq_none hge] at h; cases h
theorem Blk.cell (h : Blk w g t cs) (i : Nat) : w.cell? ⟨g, i, none⟩ = cs[i]? := cell_of_row w g i cs t (0, 0) h
theorem Blk.frozen (h : Blk w g t cs) (i : Nat) : w.frozen? ⟨g, i, none⟩ = false := by
  unfold Blk at h
  simp [World.frozen?, h]
theorem Blk.new (w : World) (t : TypeId) (cs : Array Value) : Blk (w.alloc (.cells cs t)) w.heap.size t cs := heap_alloc_new w _
theorem Blk.drew (h : Blk w g t cs) : Blk w.drew g t cs := h
theorem Blk.drewN (h : Blk w g t cs) (n : Nat) : Blk (w.drewN n) g t cs := h
theorem Blk.alloc (h : Blk w g t cs) (o : Obj) : Blk (w.alloc o) g t cs := (Below.heap_alloc w o g h.lt).trans h
theorem Blk.set_ (h : Blk w g t cs) (i : Nat) (u : Value) : Blk (w.setCell ⟨g, i, none⟩ u) g t (cs.setIfInBounds i u) := by
  unfold Blk at h ⊢
  simp [World.setCell, Array.getElem?_modify, h]
theorem Blk.far (h : Blk w g t cs) {p : Addr} (hp : g ≠ p.block) (u : Value) : Blk (w.setCell p u) g t cs := (Below.heap_setCell w p u g hp).trans h
theorem Blk.below {B : Nat} (h : Blk w g t cs) (hb : Below B w w') (hg : g < B) : Blk w' g t cs := (hb.block g hg).trans h
theorem Blk.grown {row : Option Nat} (h : Blk w g t cs) (hb : w.grownBy w' row) (hg : some g ≠ row) : Blk w' g t cs := (hb.block g h.lt hg).trans h
end

theorem below_drewN {B : Nat} {a w : World} (h : Below B a w) (n : Nat) : Below B a (w.drewN n) := ⟨h.os, h.tape, h.output, h.size, h.block⟩
theorem bcell {W w1 : World} (hb : Below W.heap.size W w1) : (∀ b o, b < W.heap.size → w1.cell? ⟨b, o, none⟩ = W.cell? ⟨b, o, none⟩) ∧ (∀ b o, b < W.heap.size → w1.frozen? ⟨b, o, none⟩ = W.frozen? ⟨b, o, none⟩) :=
  ⟨fun b o h => hb.cell (p := ⟨b, o, none⟩) h, fun b o h => hb.frozen (p := ⟨b, o, none⟩) h⟩
theorem hide {p : Prop} (h : p) : Hid p := h
theorem ret_int {k : IntKind} {a b : Int} (h : a = b) : Ending.returned (.int k a) = .returned (.int k b) := by rw [h]
theorem ret_bool {a b : Bool} (h : a = b) : Ending.returned (.bool a) = .returned (.bool b) := by rw [h]
end Go.Proofs.YtgmnpajecpjklaaDoor.wh
