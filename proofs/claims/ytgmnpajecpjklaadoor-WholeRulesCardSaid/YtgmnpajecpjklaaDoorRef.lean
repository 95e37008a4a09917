/- The document's answers reckon with decimal digits as ints: how such a row reads, and its number. Plain theorems. -/
import Derived.Test.YtgmnpajecpjklaaDoorOdd
namespace Go.Proofs.YtgmnpajecpjklaaDoor.wh
open Go.RowKit

/-- The digits of a []int as cells. -/
def i64s (ds : List Nat) : List Value := ds.map fun (d : Nat) => Value.int .i64 (d : Int)
theorem i64s_length (ds : List Nat) : (i64s ds).length = ds.length := by simp [i64s]
theorem i64s_get {ds : List Nat} {k : Nat} (h : k < ds.length) : (i64s ds)[k]? = some (.int .i64 ((ds[k]'h : Nat) : Int)) := by simp [i64s, h]
theorem i64s_take (ds : List Nat) (k : Nat) : (i64s ds).take k = i64s (ds.take k) := by simp [i64s, List.map_take]
theorem i64s_drop (ds : List Nat) (k : Nat) : (i64s ds).drop k = i64s (ds.drop k) := by simp [i64s, List.map_drop]
theorem i64s_append (a b : List Nat) : i64s (a ++ b) = i64s a ++ i64s b := by simp [i64s]

/-- The slice '.slice A n c' reads as the digits ds, in a block below B. -/
def Rn (w : World) (B : Nat) (A : Option Addr) (ds : List Nat) : Prop :=
  0 < ds.length → ∃ b off, A = some ⟨b, off, none⟩ ∧ b < B ∧ ∀ j (h : j < ds.length), w.cell? ⟨b, off + j, none⟩ = some (.int .i64 ((ds[j]'h : Nat) : Int))

section
variable {w w' : World} {B B' : Nat} {A : Option Addr} {ds : List Nat}
theorem Rn.nil : Rn w B A [] := fun h => absurd h (by simp)
theorem Rn.keep (h : Rn w B A ds) (hk : ∀ p : Addr, p.block < B → w'.cell? p = w.cell? p) : Rn w' B A ds := fun hn => by
  obtain ⟨b, off, e, hb, hc⟩ := h hn
  exact ⟨b, off, e, hb, fun j hj => (hk ⟨b, off + j, none⟩ hb).trans (hc j hj)⟩
theorem Rn.more (h : Rn w B A ds) (hB : B ≤ B') : Rn w B' A ds := fun hn => by
  obtain ⟨b, off, e, hb, hc⟩ := h hn
  exact ⟨b, off, e, by omega, hc⟩
theorem Rn.below (h : Rn w B A ds) (hb : Below B w w') : Rn w' B A ds := h.keep fun _ hp => hb.cell hp
/-- over a callee that keeps all that was there -/
theorem Rn.over (h : Rn w w.heap.size A ds) (hb : Below w.heap.size w w') : Rn w' w'.heap.size A ds := (h.below hb).more hb.size
theorem Rn.drewN (h : Rn w B A ds) (k : Nat) : Rn (w.drewN k) B A ds := h
theorem Rn.drew (h : Rn w B A ds) : Rn w.drew B A ds := h
theorem Rn.alloc (h : Rn w B A ds) (hB : B ≤ w.heap.size) (o : Obj) : Rn (w.alloc o) B A ds := h.keep fun p hp => World.cell?_alloc_lt w o p (by omega)
theorem Rn.alloc' (h : Rn w w.heap.size A ds) (o : Obj) : Rn (w.alloc o) (w.alloc o).heap.size A ds := (h.alloc (Nat.le_refl _) o).more (by simp)
theorem Rn.setCell (h : Rn w B A ds) {p : Addr} (hB : B ≤ p.block) (u : Value) : Rn (w.setCell p u) B A ds :=
  h.keep fun q hq => World.cell?_setCell_other w p q u (fun e => by subst e; omega)
theorem Rn.grown (h : Rn w B A ds) {row : Option Nat} (hg : w.grownBy w' row) (hB : B ≤ w.heap.size) (hr : ∀ g, row = some g → B ≤ g) : Rn w' B A ds :=
  h.keep fun p hp => World.cell?_of_block (hg.block p.block (by omega) (fun e => by have := hr _ e.symm; omega))
theorem Rn.at_ {k : Nat} (h : Rn w B A ds) (hk : k < ds.length) : ∃ b off, A = some ⟨b, off, none⟩ ∧ b < B ∧ w.cell? ⟨b, off + k, none⟩ = some (.int .i64 ((ds[k]'hk : Nat) : Int)) := by
  obtain ⟨b, off, e, hb, hc⟩ := h (by omega)
  exact ⟨b, off, e, hb, hc k hk⟩
theorem Rn.take (h : Rn w B A ds) (k : Nat) : Rn w B A (ds.take k) := fun hn => by
  have hl : k.min ds.length ≤ ds.length := Nat.min_le_right ..
  simp only [List.length_take] at hn
  obtain ⟨b, off, e, hb, hc⟩ := h (by omega)
  exact ⟨b, off, e, hb, fun j hj => by simp only [List.length_take] at hj; rw [hc j (by omega)]; simp⟩
theorem Rn.of_own {base e n c : Nat} (h : w.ownsRow base e 1 (.slice A n c) n (i64s ds)) : Rn w w.heap.size A ds := fun hn => by
  have hl : ds.length = n := by have := h.1; rw [i64s_length] at this; omega
  obtain ⟨g, cap, hv, _, hlt⟩ := h.form (by omega)
  have hA : A = some ⟨g, 0, none⟩ := by injection hv
  subst hA
  refine ⟨g, 0, rfl, hlt, fun j hj => ?_⟩
  have := h.cells (g := g) rfl j _ (i64s_get hj)
  rw [← this]
  unfold Addr.add
  by_cases h0 : j = 0 <;> simp [h0]
end


def tval : List Nat → Nat
  | [] => 0
  | d :: t => d + 10 * tval t
/-- each digit is below 10 -/
def Ten (ds : List Nat) : Prop := ∀ d ∈ ds, d < 10
theorem Ten.nil : Ten [] := fun _ h => by cases h
theorem Ten.cons {d : Nat} {t : List Nat} (h : d < 10) (ht : Ten t) : Ten (d :: t) := fun x hx => by
  rcases List.mem_cons.1 hx with rfl | hx
  · exact h
  · exact ht x hx
theorem Ten.head {d : Nat} {t : List Nat} (h : Ten (d :: t)) : d < 10 := h d (by simp)
theorem Ten.tail {d : Nat} {t : List Nat} (h : Ten (d :: t)) : Ten t := fun x hx => h x (by simp [hx])
theorem Ten.get {ds : List Nat} (h : Ten ds) (k : Nat) (hk : k < ds.length) : ds[k] < 10 := h _ (List.getElem_mem hk)
theorem Ten.append {a b : List Nat} (ha : Ten a) (hb : Ten b) : Ten (a ++ b) := fun x hx => by
  rcases List.mem_append.1 hx with hx | hx
  · exact ha x hx
  · exact hb x hx
theorem Ten.take {a : List Nat} (ha : Ten a) (k : Nat) : Ten (a.take k) := fun x hx => ha x (List.mem_of_mem_take hx)
theorem Ten.drop {a : List Nat} (ha : Ten a) (k : Nat) : Ten (a.drop k) := fun x hx => ha x (List.mem_of_mem_drop hx)
theorem tval_append (a b : List Nat) : tval (a ++ b) = tval a + 10 ^ a.length * tval b := by
  induction a with
  | nil => simp [tval]
  | cons d t ih =>
    simp only [List.cons_append, tval, ih, List.length_cons, Nat.pow_succ, Nat.mul_add]
    rw [← Nat.mul_assoc, Nat.mul_comm 10 (10 ^ t.length)]
    omega
theorem tval_snoc (a : List Nat) (d : Nat) : tval (a ++ [d]) = tval a + 10 ^ a.length * d := by
  rw [tval_append]; simp [tval]
theorem tval_lt {a : List Nat} (h : Ten a) : tval a < 10 ^ a.length := by
  induction a with
  | nil => simp [tval]
  | cons d t ih =>
    have h1 := ih h.tail
    have h2 := h.head
    simp only [tval, List.length_cons, Nat.pow_succ]
    omega
theorem tval_zeros (n : Nat) : tval (List.replicate n 0) = 0 := by
  induction n with
  | zero => rfl
  | succ n ih => simp [List.replicate_succ, tval, ih]
theorem ttop_ge {a : List Nat} (h : Top a) (hn : a ≠ []) : 10 ^ (a.length - 1) ≤ tval a := by
  have e := List.dropLast_concat_getLast hn
  have hl : a.getLast hn ≠ 0 := h hn
  rw [← e, tval_snoc]
  simp only [List.length_append, List.length_dropLast, List.length_cons, List.length_nil, Nat.zero_add, Nat.add_sub_cancel]
  have : 10 ^ (a.length - 1) * 1 ≤ 10 ^ (a.length - 1) * a.getLast hn := Nat.mul_le_mul_left _ (by omega)
  omega
theorem tval_drop {ds : List Nat} {k : Nat} (hk : k < ds.length) : tval (ds.drop k) = ds[k] + 10 * tval (ds.drop (k + 1)) := by
  rw [List.drop_eq_getElem_cons hk]; rfl
theorem tval_split (ds : List Nat) (k : Nat) (hk : k ≤ ds.length) : tval ds = tval (ds.take k) + 10 ^ k * tval (ds.drop k) := by
  conv => lhs; rw [← List.take_append_drop k ds]
  rw [tval_append, List.length_take, Nat.min_eq_left hk]
/-- the number of a sign and decimal digits -/
def tz (neg : Bool) (ds : List Nat) : Int := if neg then -(tval ds : Int) else (tval ds : Int)

/-- The value v (a sign, and decimal digits) is the integer z: its digits lie below block B, and are at most m. -/
def IsNum (w : World) (B m : Nat) (v : Value) (z : Int) : Prop :=
  ∃ neg A n c ds, v = .agg #[.bool neg, .slice A n c] ∧ ds.length = n ∧ Rn w B A ds ∧ n ≤ m ∧ n ≤ c ∧ Ten ds ∧ Top ds ∧ (ds = [] → neg = false) ∧ tz neg ds = z
theorem IsNum.more {w : World} {B B' m m' : Nat} {v : Value} {z : Int} (h : IsNum w B m v z) (hB : B ≤ B') (hm : m ≤ m') : IsNum w B' m' v z := by
  obtain ⟨neg, A, n, c, ds, h1, h2, h3, h4, h5⟩ := h
  exact ⟨neg, A, n, c, ds, h1, h2, h3.more hB, by omega, h5⟩
theorem IsNum.over {w w' : World} {m : Nat} {v : Value} {z : Int} (h : IsNum w w.heap.size m v z) (hb : Below w.heap.size w w') : IsNum w' w'.heap.size m v z := by
  obtain ⟨neg, A, n, c, ds, h1, h2, h3, h4⟩ := h
  exact ⟨neg, A, n, c, ds, h1, h2, h3.over hb, h4⟩

/-- nothing but noughts from k on: cut there -/
def CutAt (ds : List Nat) (k : Nat) : Prop := k ≤ ds.length ∧ Top (ds.take k) ∧ tval (ds.take k) = tval ds
theorem noughts_tval {ds : List Nat} {k : Nat} (hk : k ≤ ds.length) (h : Noughts ds k) : tval (ds.take k) = tval ds := by
  rw [tval_split ds k hk]
  have : ds.drop k = List.replicate (ds.length - k) 0 := by
    apply List.ext_getElem
    · simp
    · intro i h1 h2
      simp at h1
      simp [h (k + i) (by omega) (by omega)]
  rw [this, tval_zeros]
  simp
theorem cutAt_zero {ds : List Nat} (h : Noughts ds 0) : CutAt ds 0 := ⟨Nat.zero_le _, by simp [Top.nil], noughts_tval (Nat.zero_le _) h⟩
theorem cutAt_last {ds : List Nat} {k : Nat} (hk : k + 1 ≤ ds.length) (h : Noughts ds (k + 1)) (hz : ds[k] ≠ 0) : CutAt ds (k + 1) := by
  refine ⟨hk, ?_, noughts_tval hk h⟩
  intro hn
  rw [List.getLast_eq_getElem]
  simpa [Nat.min_eq_left hk] using hz

def CutTo (A : Option Addr) (c : Nat) (ds : List Nat) (e : Ending) : Prop := ∃ k, e = .returned (.slice A k c) ∧ CutAt ds k

set_option maxHeartbeats 400000 in
theorem cut_any (A : Option Addr) (n c : Nat) (ds : List Nat) (w : World) (hl : ds.length = n) (hn : ds.length ≤ maxLen) (hnc : ds.length ≤ c) (hr : Rn w w.heap.size A ds) :
    Calls Tryd.prog 39 #[.slice A n c] w fun e w' => CutTo A c ds e ∧ w = w' := by
  subst hl
  unfold maxLen at hn
  have HR := Lib.hid hr
  clear hr
  go_enter Tryd.func39, Tryd.ntmps39
  go_wp2
  go_loop [3] (fun v => ∃ k : Nat, k ≤ ds.length ∧ v = .int .i64 k ∧ Hid (Noughts ds k)) (fun v => (intOf v).toNat)
  case atStart => exact ⟨ds.length, Nat.le_refl _, rfl, fun j hj hk => absurd hk (by omega)⟩
  case round =>
    obtain ⟨k, hk, rfl, ha⟩ := hrel
    cases k with
    | zero =>
      go_wp2
      go_ret
      exact ⟨⟨0, rfl, cutAt_zero ha.out⟩, rfl⟩
    | succ k =>
      obtain ⟨b, off, rfl, hb, hc⟩ := HR.out.at_ (k := k) (by omega)
      by_cases hz : ds[k] = 0
      · have hz' : (((ds[k] : Nat) : Int) == 0) = true := by simpa using hz
        have HZ := Lib.hid hz
        clear hz
        go_wp2
        go_round
        case rel => exact ⟨k, by omega, by go_num, noughts_step hk ha.out HZ.out⟩
        case measure => simp [intOf]
      · have hz' : (((ds[k] : Nat) : Int) == 0) = false := by simpa using hz
        go_wp2
        go_ret
        exact ⟨⟨k + 1, rfl, cutAt_last hk ha.out hz⟩, rfl⟩
end Go.Proofs.YtgmnpajecpjklaaDoor.wh
