/- The document's answer of layer 4: the token at a place: the boxes that its call makes. -/
import Derived.Deep.CutBlock
import Derived.Test.YtmnllioeaaimcaaDoorTh
namespace Go.Proofs.YtmnllioeaaimcaaDoor.tk
open Go.RowKit

/-- Block g is just the cells cs of element type t, none frozen. -/
def Bk (w : World) (g : Nat) (t : TypeId) (cs : Array Value) : Prop := w.heap[g]? = some (.cells cs t (0, 0))
section
variable {w w' : World} {g : Nat} {t : TypeId} {cs : Array Value}
theorem Bk.lt (h : Bk w g t cs) : g < w.heap.size := by
  rcases Nat.lt_or_ge g w.heap.size with hlt | hge
  · exact hlt
  · unfold Bk at h; rw [Array.getElem?_eq_none hge] at h; cases h
theorem Bk.cell (h : Bk w g t cs) (i : Nat) : w.cell? ⟨g, i, none⟩ = cs[i]? := cell_of_row w g i cs t (0, 0) h
theorem Bk.frozen (h : Bk w g t cs) (i : Nat) : w.frozen? ⟨g, i, none⟩ = false := by
  unfold Bk at h
  simp [World.frozen?, h]
theorem Bk.new (w : World) (t : TypeId) (cs : Array Value) : Bk (w.alloc (.cells cs t)) w.heap.size t cs := heap_alloc_new w _
theorem Bk.alloc (h : Bk w g t cs) (o : Obj) : Bk (w.alloc o) g t cs := (Below.heap_alloc w o g h.lt).trans h
theorem Bk.set_ (h : Bk w g t cs) (i : Nat) (u : Value) : Bk (w.setCell ⟨g, i, none⟩ u) g t (cs.setIfInBounds i u) := by
  unfold Bk at h ⊢
  simp [World.setCell, Array.getElem?_modify, h]
theorem Bk.far (h : Bk w g t cs) {p : Addr} (hp : g ≠ p.block) (u : Value) : Bk (w.setCell p u) g t cs := (Below.heap_setCell w p u g hp).trans h
theorem Bk.below {B : Nat} (h : Bk w g t cs) (hb : Below B w w') (hg : g < B) : Bk w' g t cs := (hb.block g hg).trans h
end

def Tv (k : Nat) (t : List UInt8) (p : Nat) : Value := .agg #[.int .i64 (k : Int), .string ⟨t.toArray⟩, .int .i64 (p : Int)]
def ScEnds : Sc → Nat → Ending → Prop
  | .tok k t n, p, e => e = .returned (.tuple #[Tv k t p, .int .i64 ((p + n : Nat) : Int), .int .i64 (-1)])
  | .bad n, p, e => ∃ k t, e = .returned (.tuple #[Tv k t p, .int .i64 0, .int .i64 ((p + n : Nat) : Int)])

theorem Rb.cells {w : World} {b off : Nat} {bs : List UInt8} (h : Rb w (some ⟨b, off, none⟩) bs) {k : Nat} (hk : k < bs.length) : w.cell? ⟨b, off + k, none⟩ = some (byV (bs[k]'hk)) := by
  obtain ⟨b2, off2, e, hc⟩ := h.at_ hk
  injection e with e; injection e with e1 e2
  subst e1 e2
  exact hc
/-- the call's two boxes: its result's, and its token's (kind k, text t, place p); all the rest as at the call -/
structure St (w W : World) (A : Option Addr) (bs : List UInt8) (k : Nat) (t : List UInt8) (p : Nat) : Prop where
  res : Bk W w.heap.size 35 #[.int .i64 0, .string ⟨#[]⟩, .int .i64 0]
  tok : Bk W (w.heap.size + 1) 35 #[.int .i64 (k : Int), .string ⟨t.toArray⟩, .int .i64 (p : Int)]
  rb : Rb W A bs
  below : Below w.heap.size w W
section
variable {w W : World} {A : Option Addr} {bs : List UInt8} {k p : Nat} {t : List UInt8}
theorem St.start (h : Rb w A bs) (hW : (w.alloc (Obj.cells #[Value.int IntKind.i64 0, Value.string { data := #[] }, Value.int IntKind.i64 0] 35)).alloc (Obj.cells #[Value.int IntKind.i64 0, Value.string { data := #[] }, Value.int IntKind.i64 (p : Int)] 35) = W) : St w W A bs 0 [] p := by
  subst hW
  have hB : Below w.heap.size w ((w.alloc (Obj.cells #[Value.int IntKind.i64 0, Value.string { data := #[] }, Value.int IntKind.i64 0] 35)).alloc (Obj.cells #[Value.int IntKind.i64 0, Value.string { data := #[] }, Value.int IntKind.i64 (p : Int)] 35)) := ((Below.refl _ _).alloc (Nat.le_refl _) _).alloc (by simp) _
  refine ⟨(Bk.new w _ _).alloc _, ?_, h.below hB, hB⟩
  have := Bk.new (w.alloc (Obj.cells #[Value.int IntKind.i64 0, Value.string { data := #[] }, Value.int IntKind.i64 0] 35)) 35 #[Value.int IntKind.i64 0, Value.string { data := #[] }, Value.int IntKind.i64 (p : Int)]
  rw [show (w.alloc (Obj.cells #[Value.int IntKind.i64 0, Value.string { data := #[] }, Value.int IntKind.i64 0] 35)).heap.size = w.heap.size + 1 by simp] at this
  exact this
theorem Rb.far {B : Nat} (h : Rb W A bs) (hA : ∀ a, A = some a → a.block < B) {p : Addr} (hp : B ≤ p.block) (u : Value) : Rb (W.setCell p u) A bs := fun hn => by
  obtain ⟨b, off, e, hlt, hc⟩ := h hn
  have hb := hA _ e
  refine ⟨b, off, e, by simpa [World.setCell] using hlt, fun j hj => ?_⟩
  have k : Below B W (W.setCell p u) := (Below.refl _ _).setCell hp u
  exact (k.cell (p := ⟨b, off + j, none⟩) hb).trans (hc j hj)
theorem St.kind (h : St w W A bs k t p) (hA : ∀ a, A = some a → a.block < w.heap.size) (k' : Nat) {W' : World} (hW : W.setCell ⟨w.heap.size + 1, 0, none⟩ (.int .i64 (k' : Int)) = W') : St w W' A bs k' t p := by
  subst hW
  exact ⟨h.res.far (by simp) _, h.tok.set_ 0 _, h.rb.far hA (by simp) _, h.below.setCell (by simp) _⟩
theorem St.text (h : St w W A bs k t p) (hA : ∀ a, A = some a → a.block < w.heap.size) (t' : List UInt8) {W' : World} (hW : W.setCell ⟨w.heap.size + 1, 1, none⟩ (.string ⟨t'.toArray⟩) = W') : St w W' A bs k t' p := by
  subst hW
  exact ⟨h.res.far (by simp) _, h.tok.set_ 1 _, h.rb.far hA (by simp) _, h.below.setCell (by simp) _⟩
theorem St.t0 (h : St w W A bs k t p) : W.cell? ⟨w.heap.size + 1, 0, none⟩ = some (.int .i64 (k : Int)) := h.tok.cell 0
theorem St.t1 (h : St w W A bs k t p) : W.cell? ⟨w.heap.size + 1, 1, none⟩ = some (.string ⟨t.toArray⟩) := h.tok.cell 1
theorem St.t2 (h : St w W A bs k t p) : W.cell? ⟨w.heap.size + 1, 2, none⟩ = some (.int .i64 (p : Int)) := h.tok.cell 2
theorem St.r0 (h : St w W A bs k t p) : W.cell? ⟨w.heap.size, 0, none⟩ = some (.int .i64 0) := h.res.cell 0
theorem St.r1 (h : St w W A bs k t p) : W.cell? ⟨w.heap.size, 1, none⟩ = some (.string ⟨#[]⟩) := h.res.cell 1
theorem St.r2 (h : St w W A bs k t p) : W.cell? ⟨w.heap.size, 2, none⟩ = some (.int .i64 0) := h.res.cell 2
theorem St.tf (h : St w W A bs k t p) (i : Nat) : W.frozen? ⟨w.heap.size + 1, i, none⟩ = false := h.tok.frozen i
theorem St.rf (h : St w W A bs k t p) (i : Nat) : W.frozen? ⟨w.heap.size, i, none⟩ = false := h.res.frozen i
end
/-- a cut of the bytes, as a text -/
def cutL (bs : List UInt8) (i j : Nat) : List UInt8 := (bs.take j).drop i
theorem cut_conv {W : World} {b off cap : Nat} {bs : List UInt8} (h : Rb W (some ⟨b, off, none⟩) bs) (i n j : Nat) (hi : n = j - i) (hj : j ≤ bs.length) :
    (convert 44 9 (.slice (some ⟨b, off + i, none⟩) n cap)).run Tryd.prog W = .ok (.string ⟨(cutL bs i j).toArray⟩) W := by
  subst hi
  have hl : (cutL bs i j).length = j - i := by unfold cutL; rw [List.length_drop, List.length_take]; omega
  have := run_convert_bytes_back (P := Tryd.prog) W 44 9 5 ⟨b, off + i, none⟩ cap (cutL bs i j) Tryd.underlying44 Tryd.underlying5 Tryd.underlying9 (fun m hm => by
    rw [hl] at hm
    obtain ⟨b2, off2, e, _, hc⟩ := h (by omega)
    injection e with e; injection e with e1 e2
    subst e1 e2
    have := hc (i + m) (by omega)
    have e3 : (Addr.add ⟨b, off + i, none⟩ m) = ⟨b, off + (i + m), none⟩ := by simp [Addr.add, Nat.add_assoc]
    have e4 : (cutL bs i j)[m] = bs[i + m] := by simp [cutL]
    rw [e3, this, e4])
  rwa [hl] at this

theorem St.out {w W : World} {A : Option Addr} {bs : List UInt8} {k p : Nat} {t : List UInt8} (h : St w W A bs k t p) (a c : Value) (s : Value) : Below w.heap.size w (((W.setCell ⟨w.heap.size, 0, none⟩ a).setCell ⟨w.heap.size, 1, none⟩ s).setCell ⟨w.heap.size, 2, none⟩ c) :=
  ((h.below.setCell (Nat.le_refl _) _).setCell (Nat.le_refl _) _).setCell (Nat.le_refl _) _
theorem St.fin {w W W3 : World} {A : Option Addr} {bs : List UInt8} {k p : Nat} {t : List UInt8} (h : St w W A bs k t p) {a c s : Value} (hW : ((W.setCell ⟨w.heap.size, 0, none⟩ a).setCell ⟨w.heap.size, 1, none⟩ s).setCell ⟨w.heap.size, 2, none⟩ c = W3) :
    W3.cell? ⟨w.heap.size, 0, none⟩ = some a ∧ W3.cell? ⟨w.heap.size, 1, none⟩ = some s ∧ W3.cell? ⟨w.heap.size, 2, none⟩ = some c ∧ Hid (Below w.heap.size w W3) := by
  subst hW
  have hb := ((h.res.set_ 0 a).set_ 1 s).set_ 2 c
  exact ⟨hb.cell 0, hb.cell 1, hb.cell 2, Lib.hid (h.out a c s)⟩
theorem cut_one {bs : List UInt8} {p : Nat} (hp : p < bs.length) : cutL bs p (p + 1) = [bs[p]] := by
  unfold cutL
  apply List.ext_getElem
  · simp; omega
  · intro i h1 h2
    simp at h2
    subst h2
    simp
theorem tok_ret {k p n : Nat} {t : List UInt8} {v : Value} {z : Int} (hv : v = Tv k t p) (hz : z = ((p + n : Nat) : Int)) : ScEnds (.tok k t n) p (.returned (.tuple #[v, .int .i64 z, .int .i64 (-1)])) := by
  subst hv hz; rfl
theorem bad_ret {p n k : Nat} {t : List UInt8} {z : Int} (hz : z = ((p + n : Nat) : Int)) : ScEnds (.bad n) p (.returned (.tuple #[Tv k t p, .int .i64 0, .int .i64 z])) := by
  subst hz; exact ⟨k, t, rfl⟩
end Go.Proofs.YtmnllioeaaimcaaDoor.tk
