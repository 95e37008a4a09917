/- Layer 6: what lies in memory: rows of numbers, of sorts, functions and terms; the table; an arena. -/
import Derived.WalkKit
import Derived.WalkLawsBesides
import Derived.Lib.Hide
import Derived.Deep.QuietTactic
import Derived.BigQuiet
import Derived.Deep.AppendLies
import Derived.Laws.OwnMore
import Derived.Maps.OwnSet
import Derived.Test.YtdnhhfhjjimcgaaDoorGa
namespace Go.Proofs.YtdnhhfhjjimcgaaDoor.dg
open Go Go.RowKit

/-- Block g is just the cells cs of element type t, none frozen. -/
def Bk (w : World) (g : Nat) (t : TypeId) (cs : Array Value) : Prop := w.heap[g]? = some (.cells cs t (0, 0))
section
variable {w w' : World} {g : Nat} {t : TypeId} {cs : Array Value}
theorem Bk.lt (h : Bk w g t cs) : g < w.heap.size := (Array.getElem?_eq_some_iff.1 h).1
theorem Bk.cell (h : Bk w g t cs) (i : Nat) : w.cell? ⟨g, i, none⟩ = cs[i]? := cell_of_row w g i cs t (0, 0) h
theorem Bk.frozen (h : Bk w g t cs) (i : Nat) : w.frozen? ⟨g, i, none⟩ = false := by
  unfold Bk at h
  simp [World.frozen?, h]
theorem Bk.new (w : World) (t : TypeId) (cs : Array Value) : Bk (w.alloc (.cells cs t)) w.heap.size t cs := heap_alloc_new w _
theorem Bk.alloc (h : Bk w g t cs) (o : Obj) : Bk (w.alloc o) g t cs := (Below.heap_alloc w o g h.lt).trans h
theorem Bk.set_ (h : Bk w g t cs) (i : Nat) (u : Value) : Bk (w.setCell ⟨g, i, none⟩ u) g t (cs.setIfInBounds i u) := by
  unfold Bk at h ⊢
  simp [World.setCell, Array.getElem?_modify, h]
theorem Bk.far (h : Bk w g t cs) {p : Addr} (hp : g ≠ p.block) (u : Value) : Bk (w.setCell p u) g t cs := (Below.heap_setCell w p u g hp).trans h
theorem Bk.below {B : Nat} (h : Bk w g t cs) (hb : Below B w w') (hg : g < B) : Bk w' g t cs := (hb.block g hg).trans h
theorem Bk.drewN (h : Bk w g t cs) (n : Nat) : Bk (w.drewN n) g t cs := h
end
theorem below_drew {B : Nat} {a w : World} (h : Below B a w) : Below B a w.drew := h.drew
theorem below_drewN {B : Nat} {w w' : World} (h : Below B w w') (n : Nat) : Below B w (w'.drewN n) := ⟨h.os, h.tape, h.output, h.size, h.block⟩

/-- only blocks of X have turned; new ones may have come -/
structure Sft (X : Nat → Prop) (W W' : World) : Prop where
  os : W'.os = W.os
  tape : W'.tape = W.tape
  output : W'.output = W.output
  size : W.heap.size ≤ W'.heap.size
  block : ∀ g, g < W.heap.size → ¬ X g → W'.heap[g]? = W.heap[g]?
theorem Sft.refl (X : Nat → Prop) (W : World) : Sft X W W := ⟨rfl, rfl, rfl, Nat.le_refl _, fun _ _ _ => rfl⟩
theorem Sft.mono {X Y : Nat → Prop} {A B : World} (h : Sft X A B) (hs : ∀ g, X g → Y g) : Sft Y A B := ⟨h.os, h.tape, h.output, h.size, fun g hg hn => h.block g hg (fun hx => hn (hs g hx))⟩
theorem Sft.trans {X Y : Nat → Prop} {A B C : World} (h : Sft X A B) (k : Sft Y B C) (hs : ∀ g, Y g → X g ∨ A.heap.size ≤ g) : Sft X A C :=
  ⟨k.os.trans h.os, k.tape.trans h.tape, k.output.trans h.output, Nat.le_trans h.size k.size, fun g hg hn => (k.block g (Nat.lt_of_lt_of_le hg h.size) (fun hy => (hs g hy).elim hn (fun h2 => by omega))).trans (h.block g hg hn)⟩
theorem Sft.alloc (X : Nat → Prop) (W : World) (o : Obj) : Sft X W (W.alloc o) := ⟨rfl, rfl, rfl, by simp, fun g hg _ => Below.heap_alloc W o g hg⟩
theorem Sft.setCell {X : Nat → Prop} {W : World} {p : Addr} (hp : X p.block) (v : Value) : Sft X W (W.setCell p v) :=
  ⟨rfl, rfl, rfl, by simp [World.setCell], fun g _ hn => Below.heap_setCell W p v g (fun e => hn (e ▸ hp))⟩
theorem Sft.of_grown {X : Nat → Prop} {W W' : World} {row : Option Nat} (hg : W.grownBy W' row) (hr : ∀ r, row = some r → X r) : Sft X W W' :=
  ⟨hg.os, hg.tape, hg.output, hg.size, fun g hl hn => hg.block g hl (fun e => hn (hr g e.symm))⟩
theorem Sft.of_below {X : Nat → Prop} {W W' : World} (h : Below W.heap.size W W') : Sft X W W' :=
  ⟨h.os, h.tape, h.output, h.size, fun g hg _ => h.block g hg⟩
theorem Sft.below {X : Nat → Prop} {B : Nat} {W W' : World} (h : Sft X W W') (hB : B ≤ W.heap.size) (hX : ∀ g, X g → B ≤ g) : Below B W W' :=
  ⟨h.os, h.tape, h.output, h.size, fun g hg => h.block g (by omega) (fun hx => by have := hX g hx; omega)⟩
theorem Sft.drew {X : Nat → Prop} {A B : World} (h : Sft X A B) : Sft X A B.drew := ⟨h.os, h.tape, h.output, h.size, h.block⟩

/-! ### rows of integers -/
def Ri (w : World) (F : Nat → Prop) (xs : List Int) (A : Option Addr) (c : Nat) : Prop :=
  xs.length ≤ c ∧ (0 < xs.length → ∃ g off, A = some ⟨g, off, none⟩ ∧ F g ∧ g < w.heap.size ∧ ∀ j (h : j < xs.length), w.cell? ⟨g, off + j, none⟩ = some (.int .i64 (xs[j]'h)))
section
variable {w w' : World} {F F' : Nat → Prop} {xs : List Int} {A : Option Addr} {c : Nat}
theorem Ri.stays (h : Ri w F xs A c) (hs : w.heap.size ≤ w'.heap.size) (hb : ∀ g, F g → g < w.heap.size → F' g ∧ w'.heap[g]? = w.heap[g]?) : Ri w' F' xs A c := by
  refine ⟨h.1, fun hp => ?_⟩
  obtain ⟨g, off, e, hF, hl, hc⟩ := h.2 hp
  exact ⟨g, off, e, (hb g hF hl).1, Nat.lt_of_lt_of_le hl hs, fun j hj => (World.cell?_of_block (hb g hF hl).2).trans (hc j hj)⟩
theorem Ri.below (h : Ri w F xs A c) (hb : Below w.heap.size w w') : Ri w' F xs A c := h.stays hb.size fun g hF hl => ⟨hF, hb.block g hl⟩
theorem Ri.drewN (h : Ri w F xs A c) (n : Nat) : Ri (w.drewN n) F xs A c := h
theorem Ri.mono (h : Ri w F xs A c) (hF : ∀ g, F g → g < w.heap.size → F' g) : Ri w F' xs A c := h.stays (Nat.le_refl _) fun g h1 h2 => ⟨hF g h1 h2, rfl⟩
theorem Ri.get (h : Ri w F xs A c) {j : Nat} (hj : j < xs.length) : ∃ g off, A = some ⟨g, off, none⟩ ∧ F g ∧ g < w.heap.size ∧ w.cell? ⟨g, off + j, none⟩ = some (.int .i64 (xs[j]'hj)) := by
  obtain ⟨g, off, e, hF, hl, hc⟩ := h.2 (by omega)
  exact ⟨g, off, e, hF, hl, hc j hj⟩
theorem Ri.nil (w : World) (F : Nat → Prop) (A : Option Addr) (c : Nat) : Ri w F [] A c := ⟨Nat.zero_le _, fun h => absurd h (by simp)⟩
end

/-! ### pieces, one behind the other -/
def Ch {α : Type} (ok : α → List Value → Prop) : List α → List Value → Prop
  | [], xs => xs = []
  | x :: r, xs => ∃ cs zs, xs = cs ++ zs ∧ ok x cs ∧ Ch ok r zs
theorem Ch.mono {α : Type} {ok ok' : α → List Value → Prop} : ∀ {l : List α} {xs : List Value}, (∀ x ∈ l, ∀ cs, ok x cs → ok' x cs) → Ch ok l xs → Ch ok' l xs
  | [], _, _, h => h
  | x :: r, _, hm, ⟨cs, zs, e, h1, h2⟩ => ⟨cs, zs, e, hm x (by simp) cs h1, Ch.mono (fun y hy => hm y (by simp [hy])) h2⟩
theorem Ch.len {α : Type} {ok : α → List Value → Prop} {n : Nat} (hn : ∀ x cs, ok x cs → cs.length = n) : ∀ {l : List α} {xs : List Value}, Ch ok l xs → xs.length = l.length * n
  | [], xs, h => by have h : xs = [] := h; subst h; simp
  | x :: r, _, ⟨cs, zs, e, h1, h2⟩ => by
    rw [e, List.length_append, hn x cs h1, Ch.len hn h2, List.length_cons, Nat.add_mul, Nat.one_mul, Nat.add_comm]
theorem Ch.at_ {α : Type} {ok : α → List Value → Prop} {n : Nat} (hn : ∀ x cs, ok x cs → cs.length = n) : ∀ {l : List α} {xs : List Value}, Ch ok l xs → ∀ j (h : j < l.length), ∃ cs, ok l[j] cs ∧ ∀ i, i < n → xs[j * n + i]? = cs[i]?
  | [], _, _, j, h => absurd h (by simp)
  | x :: r, _, ⟨cs, zs, e, h1, h2⟩, 0, _ => ⟨cs, h1, fun i hi => by rw [e, Nat.zero_mul, Nat.zero_add, List.getElem?_append_left (by rw [hn x cs h1]; exact hi)]⟩
  | x :: r, _, ⟨cs, zs, e, h1, h2⟩, j + 1, h => by
    obtain ⟨ds, k1, k2⟩ := Ch.at_ hn h2 j (by simpa using h)
    have hl := hn x cs h1
    refine ⟨ds, k1, fun i hi => ?_⟩
    rw [e, List.getElem?_append_right (by rw [hl, Nat.add_mul]; omega), hl, show (j + 1) * n + i - n = j * n + i by rw [Nat.add_mul]; omega]
    exact k2 i hi
theorem Ch.snoc {α : Type} {ok : α → List Value → Prop} {x : α} {cs : List Value} (hx : ok x cs) : ∀ {l : List α} {xs : List Value}, Ch ok l xs → Ch ok (l ++ [x]) (xs ++ cs)
  | [], xs, h => by have h : xs = [] := h; subst h; exact ⟨cs, [], by simp, hx, rfl⟩
  | y :: r, _, ⟨ds, zs, e, h1, h2⟩ => ⟨ds, zs ++ cs, by rw [e, List.append_assoc], h1, h2.snoc hx⟩
theorem Ch.one {α : Type} {ok : α → List Value → Prop} (h1 : ∀ x cs, ok x cs → ∀ u ∈ cs, u.oneCell' = true) : ∀ {l : List α} {xs : List Value}, Ch ok l xs → ∀ u ∈ xs, u.oneCell' = true
  | [], xs, h, u, hu => by have h : xs = [] := h; subst h; simp at hu
  | x :: r, _, ⟨cs, zs, e, k1, k2⟩, u, hu => by
    rw [e] at hu
    rcases List.mem_append.1 hu with hu | hu
    · exact h1 x cs k1 u hu
    · exact Ch.one h1 k2 u hu

/-- a sort's cells -/
def SrtC (w : World) (I : Nat → Prop) (s : Srt) (cs : List Value) : Prop := ∃ A c, cs = [.string s.name, .slice A s.args.length c] ∧ Ri w I s.args A c
def FnnC (w : World) (I : Nat → Prop) (f : Fnn) (cs : List Value) : Prop := ∃ A c, cs = [.string f.name, .slice A f.args.length c, .int .i64 f.res] ∧ Ri w I f.args A c
def EnC (w : World) (I : Nat → Prop) (e : En) (cs : List Value) : Prop := ∃ A c, cs = [.int .i64 e.t.op, .int .i64 e.t.fn, .slice A e.t.kids.length c, .string e.t.num, .int .i64 e.srt, .bool e.cst] ∧ Ri w I e.t.kids A c
def TmC (w : World) (I : Nat → Prop) (t : Tm) (cs : List Value) : Prop := ∃ A c, cs = [.int .i64 t.op, .int .i64 t.fn, .slice A t.kids.length c, .string t.num] ∧ Ri w I t.kids A c
theorem SrtC.len {w : World} {I : Nat → Prop} (s : Srt) (cs : List Value) (h : SrtC w I s cs) : cs.length = 2 := by obtain ⟨_, _, rfl, _⟩ := h; rfl
theorem FnnC.len {w : World} {I : Nat → Prop} (s : Fnn) (cs : List Value) (h : FnnC w I s cs) : cs.length = 3 := by obtain ⟨_, _, rfl, _⟩ := h; rfl
theorem EnC.len {w : World} {I : Nat → Prop} (s : En) (cs : List Value) (h : EnC w I s cs) : cs.length = 6 := by obtain ⟨_, _, rfl, _⟩ := h; rfl
theorem TmC.len {w : World} {I : Nat → Prop} (s : Tm) (cs : List Value) (h : TmC w I s cs) : cs.length = 4 := by obtain ⟨_, _, rfl, _⟩ := h; rfl

/-! ### a block's kind -/
/-- block g has cells of type e -/
def Ty (w : World) (g : Nat) (e : TypeId) : Prop := ∃ cs fr, w.heap[g]? = some (.cells cs e fr)
theorem Ty.ne {w : World} {g g' : Nat} {e e' : TypeId} (h : Ty w g e) (h' : Ty w g' e') (hne : e ≠ e') : g ≠ g' := by
  rintro rfl
  obtain ⟨_, _, h⟩ := h
  obtain ⟨_, _, h'⟩ := h'
  rw [h] at h'
  injection h' with h'
  injection h' with _ h' _
  exact hne h'
theorem Ty.lt {w : World} {g : Nat} {e : TypeId} (h : Ty w g e) : g < w.heap.size := by
  obtain ⟨_, _, h⟩ := h
  exact (Array.getElem?_eq_some_iff.1 h).1
theorem Bk.ty {w : World} {g : Nat} {t : TypeId} {cs : Array Value} (h : Bk w g t cs) : Ty w g t := ⟨cs, _, h⟩
theorem own_ty {w : World} {base size n : Nat} {e : TypeId} {v : Value} {xs : List Value} (h : w.ownsRow base e size v n xs) : ∀ g, v.ownBlock = some g → Ty w g e := by
  intro g hg
  rcases h.2 with ⟨rfl, _⟩ | ⟨g', cap, cur, rfl, _, hgg, _⟩
  · simp [Value.ownBlock] at hg
  · simp only [Value.ownBlock, Option.some.injEq] at hg
    subst hg
    exact ⟨_, _, hgg⟩
theorem own_stays {w w' : World} {base size n : Nat} {e : TypeId} {v : Value} {xs : List Value} (h : w.ownsRow base e size v n xs) (hb : ∀ g, v.ownBlock = some g → w'.heap[g]? = w.heap[g]?) : w'.ownsRow base e size v n xs := by
  refine ⟨h.1, h.2.imp id ?_⟩
  rintro ⟨g, cap, cur, rfl, e2, e3, q⟩
  exact ⟨g, cap, cur, rfl, e2, (hb g rfl).trans e3, q⟩
theorem own_slice {w : World} {base size n : Nat} {e : TypeId} {v : Value} {xs : List Value} (h : w.ownsRow base e size v n xs) : ∃ A c, v = .slice A n c ∧ (A = none → n = 0) ∧ n ≤ c := by
  rcases h.2 with ⟨rfl, rfl⟩ | ⟨g, cap, _, rfl, _, _, h2, _⟩
  · exact ⟨none, 0, rfl, fun _ => rfl, Nat.le_refl _⟩
  · exact ⟨_, _, rfl, (fun h => by cases h), h2⟩
theorem own_pos {w : World} {base size n : Nat} {e : TypeId} {v : Value} {xs : List Value} (h : w.ownsRow base e size v n xs) (hn : 0 < n) : ∃ g c, v = .slice (some ⟨g, 0, none⟩) n c ∧ g < w.heap.size ∧ n ≤ c ∧ (∀ j, j < n * size → w.cell? ⟨g, j, none⟩ = xs[j]?) ∧ ∀ j, w.frozen? ⟨g, j, none⟩ = false := by
  rcases h.2 with ⟨rfl, rfl⟩ | ⟨g, cap, cur, rfl, _, hg, h2, _⟩
  · omega
  · exact ⟨g, cap, rfl, (Array.getElem?_eq_some_iff.1 hg).1, h2, fun j hj => h.cellAt j hj, fun j => h.frozenAt j⟩
/-- a row of the call's own that reads as numbers -/
theorem Ri.of_own {w : World} {base n c : Nat} {e : TypeId} {A : Option Addr} {xs : List Int} {F : Nat → Prop} (h : w.ownsRow base e 1 (.slice A n c) n (xs.map (Value.int .i64))) (hF : ∀ g, (Value.slice A n c).ownBlock = some g → F g) : n = xs.length ∧ Ri w F xs A c := by
  have hl : n = xs.length := by have := h.1; simp at this; omega
  subst hl
  obtain ⟨A', c', e1, _, hc⟩ := own_slice h
  injection e1 with _ _ e1
  subst e1
  refine ⟨rfl, hc, fun hp => ?_⟩
  obtain ⟨g, c2, e2, hg, _, hcell, _⟩ := own_pos h hp
  injection e2 with e2 _ _
  subst e2
  refine ⟨g, 0, rfl, hF g rfl, hg, fun j hj => ?_⟩
  rw [Nat.zero_add, hcell j (by omega)]
  simp [hj]

/-- a row of pieces, of the call's own -/
def Ro {α : Type} (w : World) (F : Nat → Prop) (e : TypeId) (size : Nat) (ok : α → List Value → Prop) (l : List α) (v : Value) : Prop :=
  ∃ xs, w.ownsRow 0 e size v l.length xs ∧ Ch ok l xs ∧ ∀ g, v.ownBlock = some g → F g
theorem Ro.stays {α : Type} {w w' : World} {F F' : Nat → Prop} {e : TypeId} {size : Nat} {ok ok' : α → List Value → Prop} {l : List α} {v : Value} (h : Ro w F e size ok l v) (hb : ∀ g, v.ownBlock = some g → F' g ∧ w'.heap[g]? = w.heap[g]?) (hk : ∀ x ∈ l, ∀ cs, ok x cs → ok' x cs) : Ro w' F' e size ok' l v := by
  obtain ⟨xs, h1, h2, h3⟩ := h
  exact ⟨xs, own_stays h1 (fun g hg => (hb g hg).2), h2.mono hk, fun g hg => (hb g hg).1⟩
theorem Ro.get {α : Type} {w : World} {F : Nat → Prop} {e : TypeId} {size : Nat} {ok : α → List Value → Prop} {l : List α} {v : Value} (h : Ro w F e size ok l v) (hn : ∀ x cs, ok x cs → cs.length = size) {j : Nat} (hj : j < l.length) :
    ∃ g c cs, v = .slice (some ⟨g, 0, none⟩) l.length c ∧ F g ∧ g < w.heap.size ∧ ok l[j] cs ∧ ∀ i, i < size → w.cell? ⟨g, j * size + i, none⟩ = cs[i]? := by
  obtain ⟨xs, h1, h2, h3⟩ := h
  obtain ⟨g, c, e1, hg, _, hc, _⟩ := own_pos h1 (by omega)
  obtain ⟨cs, k1, k2⟩ := h2.at_ hn j hj
  subst e1
  refine ⟨g, c, cs, rfl, h3 g rfl, hg, k1, fun i hi => ?_⟩
  rw [← k2 i hi]
  have : (j + 1) * size ≤ l.length * size := Nat.mul_le_mul_right _ hj
  rw [Nat.add_mul] at this
  exact hc _ (by omega)
theorem Ro.slice {α : Type} {w : World} {F : Nat → Prop} {e : TypeId} {size : Nat} {ok : α → List Value → Prop} {l : List α} {v : Value} (h : Ro w F e size ok l v) : ∃ A c, v = .slice A l.length c ∧ (A = none → l.length = 0) ∧ l.length ≤ c := by
  obtain ⟨xs, h1, _⟩ := h
  exact own_slice h1
theorem Ro.ty {α : Type} {w : World} {F : Nat → Prop} {e : TypeId} {size : Nat} {ok : α → List Value → Prop} {l : List α} {v : Value} (h : Ro w F e size ok l v) : ∀ g, v.ownBlock = some g → Ty w g e ∧ F g := by
  obtain ⟨xs, h1, _, h3⟩ := h
  exact fun g hg => ⟨own_ty h1 g hg, h3 g hg⟩

/-! ### the table -/
/-- which bucket is a hash's, of n -/
def slot (h : Int) (n : Nat) : Nat := h.toNat % n
/-- the places below k in bucket b of n -/
def bucket (hs : List Int) (n b k : Nat) : List Int := ((List.range k).filter fun i => slot (hs.getD i 0) n == b).map fun i => ((i : Nat) : Int)
/-- the table at block ib: hashes, and n buckets that hold the places below k -/
def Tb (w : World) (F J : Nat → Prop) (ib : Nat) (hs : List Int) (n k : Nat) : Prop :=
  ∃ hv bv bs, Bk w ib 86 #[hv, bv] ∧ F ib ∧
    w.ownsRow 0 52 1 hv hs.length (hs.map (Value.int .u64)) ∧ (∀ g, hv.ownBlock = some g → F g) ∧
    w.ownsRow 0 33 1 bv n bs ∧ (∀ g, bv.ownBlock = some g → F g) ∧
    (∀ b, b < n → ∃ v, bs[b]? = some v ∧ w.ownsRow 0 3 1 v (bucket hs n b k).length ((bucket hs n b k).map (Value.int .i64)) ∧ ∀ g, v.ownBlock = some g → J g) ∧
    (∀ (b b' : Nat) (v v' : Value) (g : Nat), bs[b]? = some v → bs[b']? = some v' → v.ownBlock = some g → v'.ownBlock = some g → b = b')
theorem Tb.stays {w w' : World} {F F' J J' : Nat → Prop} {ib : Nat} {hs : List Int} {n k : Nat} (h : Tb w F J ib hs n k) (hb : ∀ g e, Ty w g e → e = 86 ∨ e = 52 ∨ e = 33 → F g → F' g ∧ w'.heap[g]? = w.heap[g]?) (hj : ∀ g, Ty w g 3 → J g → J' g ∧ w'.heap[g]? = w.heap[g]?) : Tb w' F' J' ib hs n k := by
  obtain ⟨hv, bv, bs, h1, h2, h3, h4, h5, h6, h7, h8⟩ := h
  refine ⟨hv, bv, bs, (hb ib _ h1.ty (.inl rfl) h2).2.trans h1, (hb ib _ h1.ty (.inl rfl) h2).1, own_stays h3 fun g hg => (hb g _ (own_ty h3 g hg) (.inr (.inl rfl)) (h4 g hg)).2, fun g hg => (hb g _ (own_ty h3 g hg) (.inr (.inl rfl)) (h4 g hg)).1, own_stays h5 fun g hg => (hb g _ (own_ty h5 g hg) (.inr (.inr rfl)) (h6 g hg)).2, fun g hg => (hb g _ (own_ty h5 g hg) (.inr (.inr rfl)) (h6 g hg)).1, fun b hb' => ?_, h8⟩
  obtain ⟨v, k1, k2, k3⟩ := h7 b hb'
  exact ⟨v, k1, own_stays k2 fun g hg => (hj g (own_ty k2 g hg) (k3 g hg)).2, fun g hg => (hj g (own_ty k2 g hg) (k3 g hg)).1⟩

/-- n is how many buckets there are for so many terms -/
def Nb (n len : Nat) : Prop := ∃ k, n = 16 * 2 ^ k ∧ len ≤ n ∧ (k = 0 ∨ n < 2 * len)
theorem Nb.unique {n m len : Nat} (h : Nb n len) (h' : Nb m len) : n = m := by
  obtain ⟨k, e, h1, h2⟩ := h
  obtain ⟨k', e', h1', h2'⟩ := h'
  rcases Nat.lt_trichotomy k k' with hlt | rfl | hlt
  · exfalso
    rcases h2' with h0 | h2'
    · omega
    · have : 2 ^ (k + 1) ≤ 2 ^ k' := Nat.pow_le_pow_right (by omega) hlt
      rw [Nat.pow_succ] at this
      omega
  · rw [e, e']
  · exfalso
    rcases h2 with h0 | h2
    · omega
    · have : 2 ^ (k' + 1) ≤ 2 ^ k := Nat.pow_le_pow_right (by omega) hlt
      rw [Nat.pow_succ] at this
      omega
theorem Nb.pos {n len : Nat} (h : Nb n len) : 16 ≤ n := by
  obtain ⟨k, e, _⟩ := h
  have := Nat.two_pow_pos k
  omega
theorem Nb.zero : Nb 16 0 := ⟨0, rfl, by omega, .inl rfl⟩
theorem Nb.same {n len : Nat} (h : Nb n len) (hl : len + 1 ≤ n) : Nb n (len + 1) := by
  obtain ⟨k, e, h1, h2⟩ := h
  exact ⟨k, e, hl, h2.imp id (fun h => by omega)⟩
theorem Nb.twice {n len : Nat} (h : Nb n len) (hl : n < len + 1) : Nb (2 * n) (len + 1) := by
  have hp := h.pos
  obtain ⟨k, e, h1, h2⟩ := h
  refine ⟨k + 1, ?_, ?_, Or.inr ?_⟩
  · rw [e, Nat.pow_succ]; generalize 2 ^ k = x; omega
  · clear e h2; omega
  · clear e h2; omega
end Go.Proofs.YtdnhhfhjjimcgaaDoor.dg
