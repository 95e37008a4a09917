/- Words for memory that the walks of package whole share: a slice that reads as a list of digits, a block that is known whole. Plain theorems, no program. Digits to the base of 10^9, the least one first: their number, and what sums, products and comparisons of them come to. Plain mathematics: no program. Package whole: Right, clean: whether an integer may be. Package whole: trim, signed, compare. Package whole: split, join, Of, Small: numbers of the machine as digits, and back. Package whole: join, Of, Small. -/
import Derived.WalkKit
import Derived.Laws.OwnMore
import Derived.Deep.AppendLies
import Derived.Deep.Draws
import Derived.Lib.Hide
import Derived.Test.YtpikbhcjgcbdfaaDoorRows
import Derived.Deep.QuietTactic
import Derived.BigQuiet
import Derived.Deep.RegionHeld3
/- Words for memory that the walks of package whole share: a slice that reads as a list of digits, a block that is known whole. Plain theorems, no program. -/
namespace Go.Proofs.YtpikbhcjgcbdfaaDoor.wh
open Go.RowKit

/-- The digits of a []uint32 as cells. -/
def u32s (ds : List Nat) : List Value := ds.map fun (d : Nat) => Value.int .u32 (d : Int)
theorem u32s_length (ds : List Nat) : (u32s ds).length = ds.length := by simp [u32s]
theorem u32s_get {ds : List Nat} {k : Nat} (h : k < ds.length) : (u32s ds)[k]? = some (.int .u32 ((ds[k]'h : Nat) : Int)) := by simp [u32s, h]
theorem u32s_take (ds : List Nat) (k : Nat) : (u32s ds).take k = u32s (ds.take k) := by simp [u32s, List.map_take]
theorem u32s_drop (ds : List Nat) (k : Nat) : (u32s ds).drop k = u32s (ds.drop k) := by simp [u32s, List.map_drop]
theorem u32s_append (a b : List Nat) : u32s (a ++ b) = u32s a ++ u32s b := by simp [u32s]

/-- The slice '.slice A n c' reads as the digits ds, in a block below B. -/
def Rd (w : World) (B : Nat) (A : Option Addr) (ds : List Nat) : Prop :=
  0 < ds.length → ∃ b off, A = some ⟨b, off, none⟩ ∧ b < B ∧ ∀ j (h : j < ds.length), w.cell? ⟨b, off + j, none⟩ = some (.int .u32 ((ds[j]'h : Nat) : Int))

section
variable {w w' : World} {B B' : Nat} {A : Option Addr} {ds : List Nat}
theorem Rd.nil : Rd w B A [] := fun h => absurd h (by simp)
theorem Rd.keep (h : Rd w B A ds) (hk : ∀ p : Addr, p.block < B → w'.cell? p = w.cell? p) : Rd w' B A ds := fun hn => by
  obtain ⟨b, off, e, hb, hc⟩ := h hn
  exact ⟨b, off, e, hb, fun j hj => (hk ⟨b, off + j, none⟩ hb).trans (hc j hj)⟩
theorem Rd.more (h : Rd w B A ds) (hB : B ≤ B') : Rd w B' A ds := fun hn => by
  obtain ⟨b, off, e, hb, hc⟩ := h hn
  exact ⟨b, off, e, by omega, hc⟩
theorem Rd.below (h : Rd w B A ds) (hb : Below B w w') : Rd w' B A ds := h.keep fun _ hp => hb.cell hp
/-- over a callee that keeps all that was there -/
theorem Rd.over (h : Rd w w.heap.size A ds) (hb : Below w.heap.size w w') : Rd w' w'.heap.size A ds := (h.below hb).more hb.size
theorem Rd.drewN (h : Rd w B A ds) (k : Nat) : Rd (w.drewN k) B A ds := h
theorem Rd.drew (h : Rd w B A ds) : Rd w.drew B A ds := h
theorem Rd.alloc (h : Rd w B A ds) (hB : B ≤ w.heap.size) (o : Obj) : Rd (w.alloc o) B A ds := h.keep fun p hp => World.cell?_alloc_lt w o p (by omega)
theorem Rd.alloc' (h : Rd w w.heap.size A ds) (o : Obj) : Rd (w.alloc o) (w.alloc o).heap.size A ds := (h.alloc (Nat.le_refl _) o).more (by simp)
theorem Rd.setCell (h : Rd w B A ds) {p : Addr} (hB : B ≤ p.block) (u : Value) : Rd (w.setCell p u) B A ds :=
  h.keep fun q hq => World.cell?_setCell_other w p q u (fun e => by subst e; omega)
theorem Rd.grown (h : Rd w B A ds) {row : Option Nat} (hg : w.grownBy w' row) (hB : B ≤ w.heap.size) (hr : ∀ g, row = some g → B ≤ g) : Rd w' B A ds :=
  h.keep fun p hp => World.cell?_of_block (hg.block p.block (by omega) (fun e => by have := hr _ e.symm; omega))
theorem Rd.at_ {k : Nat} (h : Rd w B A ds) (hk : k < ds.length) : ∃ b off, A = some ⟨b, off, none⟩ ∧ b < B ∧ w.cell? ⟨b, off + k, none⟩ = some (.int .u32 ((ds[k]'hk : Nat) : Int)) := by
  obtain ⟨b, off, e, hb, hc⟩ := h (by omega)
  exact ⟨b, off, e, hb, hc k hk⟩
theorem Rd.take (h : Rd w B A ds) (k : Nat) : Rd w B A (ds.take k) := fun hn => by
  have hl : k.min ds.length ≤ ds.length := Nat.min_le_right ..
  simp only [List.length_take] at hn
  obtain ⟨b, off, e, hb, hc⟩ := h (by omega)
  exact ⟨b, off, e, hb, fun j hj => by simp only [List.length_take] at hj; rw [hc j (by omega)]; simp⟩
theorem Rd.of_own {base e n c : Nat} (h : w.ownsRow base e 1 (.slice A n c) n (u32s ds)) : Rd w w.heap.size A ds := fun hn => by
  have hl : ds.length = n := by have := h.1; rw [u32s_length] at this; omega
  obtain ⟨g, cap, hv, _, hlt⟩ := h.form (by omega)
  have hA : A = some ⟨g, 0, none⟩ := by injection hv
  subst hA
  refine ⟨g, 0, rfl, hlt, fun j hj => ?_⟩
  have := h.cells (g := g) rfl j _ (u32s_get hj)
  rw [← this]
  unfold Addr.add
  by_cases h0 : j = 0 <;> simp [h0]
end

/-- Block g is just the cells cs of element type t, none frozen. -/
def Blk (w : World) (g : Nat) (t : TypeId) (cs : Array Value) : Prop := w.heap[g]? = some (.cells cs t (0, 0))
section
variable {w w' : World} {g : Nat} {t : TypeId} {cs : Array Value}
theorem Blk.lt (h : Blk w g t cs) : g < w.heap.size := by
  rcases Nat.lt_or_ge g w.heap.size with hlt | hge
  · exact hlt
  · unfold Blk at h; rw [Array.getElem?_eq_none hge] at h; cases h
theorem Blk.cell (h : Blk w g t cs) (i : Nat) : w.cell? ⟨g, i, none⟩ = cs[i]? := cell_of_row w g i cs t (0, 0) h
theorem Blk.frozen (h : Blk w g t cs) (i : Nat) : w.frozen? ⟨g, i, none⟩ = false := by
  unfold Blk at h
  simp [World.frozen?, h]
theorem Blk.new (w : World) (t : TypeId) (cs : Array Value) : Blk (w.alloc (.cells cs t)) w.heap.size t cs := heap_alloc_new w _
theorem Blk.drew (h : Blk w g t cs) : Blk w.drew g t cs := h
theorem Blk.drewN (h : Blk w g t cs) (n : Nat) : Blk (w.drewN n) g t cs := h
theorem Blk.alloc (h : Blk w g t cs) (o : Obj) : Blk (w.alloc o) g t cs := (Below.heap_alloc w o g h.lt).trans h
theorem Blk.set_ (h : Blk w g t cs) (i : Nat) (u : Value) : Blk (w.setCell ⟨g, i, none⟩ u) g t (cs.setIfInBounds i u) := by
  unfold Blk at h ⊢
  simp [World.setCell, Array.getElem?_modify, h]
theorem Blk.far (h : Blk w g t cs) {p : Addr} (hp : g ≠ p.block) (u : Value) : Blk (w.setCell p u) g t cs := (Below.heap_setCell w p u g hp).trans h
theorem Blk.below {B : Nat} (h : Blk w g t cs) (hb : Below B w w') (hg : g < B) : Blk w' g t cs := (hb.block g hg).trans h
theorem Blk.grown {row : Option Nat} (h : Blk w g t cs) (hb : w.grownBy w' row) (hg : some g ≠ row) : Blk w' g t cs := (hb.block g h.lt hg).trans h
end

theorem below_drewN {B : Nat} {a w : World} (h : Below B a w) (n : Nat) : Below B a (w.drewN n) := ⟨h.os, h.tape, h.output, h.size, h.block⟩
theorem bcell {W w1 : World} (hb : Below W.heap.size W w1) : (∀ b o, b < W.heap.size → w1.cell? ⟨b, o, none⟩ = W.cell? ⟨b, o, none⟩) ∧ (∀ b o, b < W.heap.size → w1.frozen? ⟨b, o, none⟩ = W.frozen? ⟨b, o, none⟩) :=
  ⟨fun b o h => hb.cell (p := ⟨b, o, none⟩) h, fun b o h => hb.frozen (p := ⟨b, o, none⟩) h⟩
theorem hide {p : Prop} (h : p) : Hid p := h
theorem ret_int {k : IntKind} {a b : Int} (h : a = b) : Ending.returned (.int k a) = .returned (.int k b) := by rw [h]
theorem ret_bool {a b : Bool} (h : a = b) : Ending.returned (.bool a) = .returned (.bool b) := by rw [h]
end Go.Proofs.YtpikbhcjgcbdfaaDoor.wh

/- Digits to the base of 10^9, the least one first: their number, and what sums, products and comparisons of them come to. Plain mathematics: no program. -/
namespace Go.Proofs.YtpikbhcjgcbdfaaDoor.wh

def val : List Nat → Nat
  | [] => 0
  | d :: t => d + 1000000000 * val t

/-- each digit is below the base -/
def Dig (ds : List Nat) : Prop := ∀ d ∈ ds, d < 1000000000

theorem Dig.nil : Dig [] := fun _ h => by cases h
theorem Dig.cons {d : Nat} {t : List Nat} (h : d < 1000000000) (ht : Dig t) : Dig (d :: t) := fun x hx => by
  rcases List.mem_cons.1 hx with rfl | hx
  · exact h
  · exact ht x hx
theorem Dig.head {d : Nat} {t : List Nat} (h : Dig (d :: t)) : d < 1000000000 := h d (by simp)
theorem Dig.tail {d : Nat} {t : List Nat} (h : Dig (d :: t)) : Dig t := fun x hx => h x (by simp [hx])
theorem Dig.get {ds : List Nat} (h : Dig ds) (k : Nat) (hk : k < ds.length) : ds[k] < 1000000000 := h _ (List.getElem_mem hk)
theorem Dig.append {a b : List Nat} (ha : Dig a) (hb : Dig b) : Dig (a ++ b) := fun x hx => by
  rcases List.mem_append.1 hx with hx | hx
  · exact ha x hx
  · exact hb x hx
theorem Dig.take {a : List Nat} (ha : Dig a) (k : Nat) : Dig (a.take k) := fun x hx => ha x (List.mem_of_mem_take hx)
theorem Dig.drop {a : List Nat} (ha : Dig a) (k : Nat) : Dig (a.drop k) := fun x hx => ha x (List.mem_of_mem_drop hx)
theorem Dig.replicate (n : Nat) : Dig (List.replicate n 0) := fun x hx => by rw [List.mem_replicate] at hx; omega

theorem val_append (a b : List Nat) : val (a ++ b) = val a + 1000000000 ^ a.length * val b := by
  induction a with
  | nil => simp [val]
  | cons d t ih =>
    simp only [List.cons_append, val, ih, List.length_cons, Nat.pow_succ, Nat.mul_add]
    rw [← Nat.mul_assoc, Nat.mul_comm 1000000000 (1000000000 ^ t.length)]
    omega
theorem val_snoc (a : List Nat) (d : Nat) : val (a ++ [d]) = val a + 1000000000 ^ a.length * d := by
  rw [val_append]; simp [val]
theorem val_lt {a : List Nat} (h : Dig a) : val a < 1000000000 ^ a.length := by
  induction a with
  | nil => simp [val]
  | cons d t ih =>
    have h1 := ih h.tail
    have h2 := h.head
    simp only [val, List.length_cons, Nat.pow_succ]
    omega
theorem val_zeros (n : Nat) : val (List.replicate n 0) = 0 := by
  induction n with
  | zero => rfl
  | succ n ih => simp [List.replicate_succ, val, ih]
theorem val_zero {a : List Nat} (h : val a = 0) : ∀ d ∈ a, d = 0 := by
  induction a with
  | nil => intro d hd; cases hd
  | cons x t ih =>
    simp only [val] at h
    intro d hd
    rcases List.mem_cons.1 hd with rfl | hd
    · omega
    · exact ih (by omega) d hd
/-- two lists of digits of one length and one number are one -/
theorem val_inj_len {a b : List Nat} (ha : Dig a) (hb : Dig b) (hl : a.length = b.length) (h : val a = val b) : a = b := by
  induction a generalizing b with
  | nil => cases b with
    | nil => rfl
    | cons _ _ => simp at hl
  | cons x t ih => cases b with
    | nil => simp at hl
    | cons y u =>
      simp only [val] at h
      have h1 := ha.head
      have h2 := hb.head
      have hx : x = y := by omega
      subst hx
      rw [ih ha.tail hb.tail (by simpa using hl) (by omega)]

/-- the last digit isn't 0 -/
def Top (ds : List Nat) : Prop := ∀ h : ds ≠ [], ds.getLast h ≠ 0
theorem Top.nil : Top [] := fun h => absurd rfl h
theorem top_ge {a : List Nat} (h : Top a) (hn : a ≠ []) : 1000000000 ^ (a.length - 1) ≤ val a := by
  have e := List.dropLast_concat_getLast hn
  have hl : a.getLast hn ≠ 0 := h hn
  rw [← e, val_snoc]
  simp only [List.length_append, List.length_dropLast, List.length_cons, List.length_nil, Nat.zero_add, Nat.add_sub_cancel]
  have : 1000000000 ^ (a.length - 1) * 1 ≤ 1000000000 ^ (a.length - 1) * a.getLast hn := Nat.mul_le_mul_left _ (by omega)
  omega
theorem pow_mono {m n : Nat} (h : m ≤ n) : 1000000000 ^ m ≤ 1000000000 ^ n := Nat.pow_le_pow_right (by omega) h
theorem top_len {a : List Nat} (h : Top a) {m : Nat} (hm : val a < 1000000000 ^ m) : a.length ≤ m := by
  rcases Nat.lt_or_ge m a.length with hlt | hge
  · have hn : a ≠ [] := fun e => by subst e; simp at hlt
    have h1 := top_ge h hn
    have h2 : 1000000000 ^ m ≤ 1000000000 ^ (a.length - 1) := pow_mono (by omega)
    omega
  · exact hge
theorem val_inj {a b : List Nat} (ha : Dig a) (hb : Dig b) (ta : Top a) (tb : Top b) (h : val a = val b) : a = b := by
  refine val_inj_len ha hb ?_ h
  have h1 := top_len ta (m := b.length) (by rw [h]; exact val_lt hb)
  have h2 := top_len tb (m := a.length) (by rw [← h]; exact val_lt ha)
  omega
theorem top_short {a b : List Nat} (ha : Dig a) (tb : Top b) (hl : a.length < b.length) : val a < val b := by
  have hn : b ≠ [] := fun e => by subst e; simp at hl
  have h1 := val_lt ha
  have h2 := top_ge tb hn
  have h3 : 1000000000 ^ a.length ≤ 1000000000 ^ (b.length - 1) := pow_mono (by omega)
  omega
/-- where all digits behind k are one, digit k tells which is less -/
theorem val_at {a b : List Nat} (ha : Dig a) (k : Nat) (hka : k < a.length) (hkb : k < b.length) (hd : a.drop (k + 1) = b.drop (k + 1)) (h : a[k] < b[k]) : val a < val b := by
  have ea : a = a.take k ++ a[k] :: a.drop (k + 1) := by simp
  have eb : b = b.take k ++ b[k] :: b.drop (k + 1) := by simp
  have va : val a = val (a.take k) + 1000000000 ^ k * (a[k] + 1000000000 * val (a.drop (k + 1))) := by
    conv => lhs; rw [ea]
    rw [val_append, List.length_take, Nat.min_eq_left (by omega)]; rfl
  have vb : val b = val (b.take k) + 1000000000 ^ k * (b[k] + 1000000000 * val (b.drop (k + 1))) := by
    conv => lhs; rw [eb]
    rw [val_append, List.length_take, Nat.min_eq_left (by omega)]; rfl
  have l1 := val_lt (ha.take k)
  rw [List.length_take, Nat.min_eq_left (by omega)] at l1
  rw [va, vb, hd]
  have : 1000000000 ^ k * (a[k] + 1 + 1000000000 * val (b.drop (k + 1))) ≤ 1000000000 ^ k * (b[k] + 1000000000 * val (b.drop (k + 1))) := Nat.mul_le_mul_left _ (by omega)
  have e2 : 1000000000 ^ k * (a[k] + 1 + 1000000000 * val (b.drop (k + 1))) = 1000000000 ^ k * (a[k] + 1000000000 * val (b.drop (k + 1))) + 1000000000 ^ k := by
    rw [show a[k] + 1 + 1000000000 * val (b.drop (k + 1)) = (a[k] + 1000000000 * val (b.drop (k + 1))) + 1 by omega, Nat.mul_add, Nat.mul_one]
  omega

/-- the number of a sign and digits -/
def zval (neg : Bool) (ds : List Nat) : Int := if neg then -(val ds : Int) else (val ds : Int)

/-- the order of two numbers, as -1, 0, 1 -/
def cmpN (a b : Nat) : Int := if a < b then -1 else if b < a then 1 else 0
def cmpZ (a b : Int) : Int := if a < b then -1 else if b < a then 1 else 0
theorem cmpN_lt {a b : Nat} (h : a < b) : cmpN a b = -1 := by unfold cmpN; rw [if_pos h]
theorem cmpN_gt {a b : Nat} (h : b < a) : cmpN a b = 1 := by unfold cmpN; rw [if_neg (by omega), if_pos h]
theorem cmpN_eq {a b : Nat} (h : a = b) : cmpN a b = 0 := by unfold cmpN; rw [if_neg (by omega), if_neg (by omega)]
end Go.Proofs.YtpikbhcjgcbdfaaDoor.wh

/- Package whole: Right, clean: whether an integer may be. -/
namespace Go.Proofs.YtpikbhcjgcbdfaaDoor.wh
open Go.RowKit

/-- whether digits and a sign are an integer -/
def rightB (neg : Bool) (ds : List Nat) : Bool := ds.all (fun d => decide (d < 1000000000)) && (if ds.length = 0 then !neg else decide (ds.getD (ds.length - 1) 0 ≠ 0))

theorem rightB_false {neg : Bool} {ds : List Nat} (k : Nat) (hk : k < ds.length) (h : 1000000000 ≤ ds[k]) : rightB neg ds = false := by
  unfold rightB
  rw [Bool.and_eq_false_iff]
  left
  rw [List.all_eq_false]
  exact ⟨ds[k], List.getElem_mem hk, by simp; omega⟩
theorem rightB_all {neg : Bool} {ds : List Nat} (h : ∀ j (hj : j < ds.length), ds[j] < 1000000000) : rightB neg ds = (if ds.length = 0 then !neg else decide (ds.getD (ds.length - 1) 0 ≠ 0)) := by
  unfold rightB
  have : ds.all (fun d => decide (d < 1000000000)) = true := by
    rw [List.all_eq_true]
    intro d hd
    obtain ⟨j, hj, rfl⟩ := List.getElem_of_mem hd
    simpa using h j hj
  rw [this, Bool.true_and]

set_option maxHeartbeats 400000 in
theorem right_any (neg : Bool) (A : Option Addr) (c : Nat) (ds : List Nat) (w : World) (hn : ds.length ≤ maxLen) (hr : Rd w w.heap.size A ds) :
    Calls Tryd.prog 32 #[.agg #[.bool neg, .slice A ds.length c]] w fun e w' => e = .returned (.bool (rightB neg ds)) ∧ Below w.heap.size w w' := by
  unfold maxLen at hn
  have HR := Lib.hid hr
  clear hr
  go_enter Tryd.func32, Tryd.ntmps32
  go_wp2
  go_loop [8] (fun i => ∃ k : Nat, k ≤ ds.length ∧ i = .int .i64 k ∧ Hid (∀ j (hj : j < ds.length), j < k → ds[j] < 1000000000)) (fun i => ds.length - (intOf i).toNat)
  case atStart => exact ⟨0, Nat.zero_le _, rfl, fun j _ hk => absurd hk (by omega)⟩
  case round =>
    obtain ⟨k, hk, rfl, ha⟩ := hrel
    by_cases hlt : k < ds.length
    · obtain ⟨b, off, rfl, hb, hc⟩ := HR.out.at_ hlt
      have hc1 : (w.alloc (.cells #[.bool neg, .slice (some ⟨b, off, none⟩) ds.length c] 24)).cell? ⟨b, off + k, none⟩ = some (.int .u32 ((ds[k] : Nat) : Int)) := by
        rw [World.cell?_alloc_lt _ _ _ (by simpa using hb)]; exact hc
      by_cases hd : ds[k] < 1000000000
      · have hd' : ¬ ((1000000000 : Int) ≤ ((ds[k] : Nat) : Int)) := by omega
        go_wp2
        go_round
        case rel => exact ⟨k + 1, by omega, by go_num, fun j hj hjk => by
          by_cases e : j = k
          · subst e; exact hd
          · exact ha.out j hj (by omega)⟩
        case measure => simp [intOf]; omega
      · have hd' : ((1000000000 : Int) ≤ ((ds[k] : Nat) : Int)) := by omega
        go_wp2
        go_ret
        exact ⟨ret_bool (rightB_false k hlt (by omega)).symm, (Below.refl _ _).alloc (Nat.le_refl _) _⟩
    · have hall : Hid (rightB neg ds = (if ds.length = 0 then !neg else decide (ds.getD (ds.length - 1) 0 ≠ 0))) := rightB_all fun j hj => ha.out j hj (by omega)
      by_cases h0 : ds.length = 0
      · have h0' : (((ds.length : Nat) : Int) == 0) = true := by simp [h0]
        have H0 := Lib.hid h0
        clear h0
        go_wp2
        go_ret
        refine ⟨ret_bool ?_, (Below.refl _ _).alloc (Nat.le_refl _) _⟩
        rw [hall.out, if_pos H0.out]
      · have h0' : (((ds.length : Nat) : Int) == 0) = false := by simpa using h0
        obtain ⟨b, off, rfl, hb, hc⟩ := HR.out.at_ (k := ds.length - 1) (by omega)
        have hc1 : (w.alloc (.cells #[.bool neg, .slice (some ⟨b, off, none⟩) ds.length c] 24)).cell? ⟨b, off + (ds.length - 1), none⟩ = some (.int .u32 ((ds[ds.length - 1] : Nat) : Int)) := by
          rw [World.cell?_alloc_lt _ _ _ (by simpa using hb)]; exact hc
        go_wp2
        go_ret
        refine ⟨ret_bool ?_, (Below.refl _ _).alloc (Nat.le_refl _) _⟩
        rw [hall.out, if_neg h0]
        rw [List.getD_eq_getElem?_getD, List.getElem?_eq_getElem (by omega)]
        rw [Bool.eq_iff_iff]
        simp

theorem right_yes (neg : Bool) (A : Option Addr) (n c : Nat) (ds : List Nat) (w : World) (hl : ds.length = n) (hn : ds.length ≤ maxLen) (hr : Rd w w.heap.size A ds) (hR : rightB neg ds = true) :
    Calls Tryd.prog 32 #[.agg #[.bool neg, .slice A n c]] w fun e w' => e = .returned (.bool true) ∧ Below w.heap.size w w' := by
  subst hl
  exact (right_any neg A c ds w hn hr).mono fun e w' h => by rw [hR] at h; exact h

set_option maxHeartbeats 400000 in
/-- What 'clean' gives: the same integer. -/
theorem clean_any (neg : Bool) (A : Option Addr) (n c : Nat) (ds : List Nat) (w : World) (hl : ds.length = n) (hn : ds.length ≤ maxLen) (hr : Rd w w.heap.size A ds) (hR : rightB neg ds = true) :
    Calls Tryd.prog 62 #[.agg #[.bool neg, .slice A n c]] w fun e w' => e = .returned (.agg #[.bool neg, .slice A n c]) ∧ Below w.heap.size w w' := by
  have HR := Lib.hid hr
  clear hr
  have HRB := Lib.hid hR
  clear hR
  have HL := Lib.hid hl
  clear hl
  go_enter Tryd.func62, Tryd.ntmps62
  go_wp2_with fail
  refine (right_yes _ _ _ _ ds _ HL.out hn ((HR.out.alloc' _).alloc' _) HRB.out).mono ?_
  rintro e w1 ⟨rfl, hb⟩
  obtain ⟨hc, hf⟩ := bcell hb
  have hz : w.heap.size + 1 < w1.heap.size := by have := hb.size; simp at this; omega
  go_wp2
  exact bodyPost_ret (v := .agg #[.bool neg, .slice A n c]) (by simp [results, Tryd.results62, go_sem, hc]) rfl ⟨rfl, (((((Below.refl _ _).alloc (Nat.le_refl _) _).alloc (by simp) _).trans (hb.mono (by simp; omega))).setCell (by simp) _).setCell (by simp) _⟩
end Go.Proofs.YtpikbhcjgcbdfaaDoor.wh

/- Package whole: trim, signed, compare. -/
namespace Go.Proofs.YtpikbhcjgcbdfaaDoor.wh
open Go.RowKit

/-- k is the place behind the last digit that isn't 0 -/
def TrimAt (ds : List Nat) (k : Nat) : Prop := k ≤ ds.length ∧ Top (ds.take k) ∧ val (ds.take k) = val ds
/-- nothing but noughts from k on -/
def Noughts (ds : List Nat) (k : Nat) : Prop := ∀ j (h : j < ds.length), k ≤ j → ds[j] = 0
theorem noughts_val {ds : List Nat} {k : Nat} (hk : k ≤ ds.length) (h : Noughts ds k) : val (ds.take k) = val ds := by
  have e : val ds = val (ds.take k ++ ds.drop k) := by rw [List.take_append_drop]
  rw [e, val_append]
  have : ds.drop k = List.replicate (ds.length - k) 0 := by
    apply List.ext_getElem
    · simp
    · intro i h1 h2
      simp at h1
      simp [h (k + i) (by omega) (by omega)]
  rw [this, val_zeros]
  simp
theorem trimAt_zero {ds : List Nat} (h : Noughts ds 0) : TrimAt ds 0 := ⟨Nat.zero_le _, by simp [Top.nil], noughts_val (Nat.zero_le _) h⟩
theorem trimAt_last {ds : List Nat} {k : Nat} (hk : k + 1 ≤ ds.length) (h : Noughts ds (k + 1)) (hz : ds[k] ≠ 0) : TrimAt ds (k + 1) := by
  refine ⟨hk, ?_, noughts_val hk h⟩
  intro hn
  rw [List.getLast_eq_getElem]
  simpa [Nat.min_eq_left hk] using hz
theorem noughts_step {ds : List Nat} {k : Nat} (hk : k + 1 ≤ ds.length) (h : Noughts ds (k + 1)) (hz : ds[k] = 0) : Noughts ds k := fun j hj hkj => by
  by_cases e : j = k
  · subst e; exact hz
  · exact h j hj (by omega)

def Trimmed (A : Option Addr) (c : Nat) (ds : List Nat) (e : Ending) : Prop := ∃ k, e = .returned (.slice A k c) ∧ TrimAt ds k

set_option maxHeartbeats 400000 in
theorem trim_any (A : Option Addr) (n c : Nat) (ds : List Nat) (w : World) (hl : ds.length = n) (hn : ds.length ≤ maxLen) (hnc : ds.length ≤ c) (hr : Rd w w.heap.size A ds) :
    Calls Tryd.prog 92 #[.slice A n c] w fun e w' => Trimmed A c ds e ∧ w = w' := by
  subst hl
  unfold maxLen at hn
  have HR := Lib.hid hr
  clear hr
  go_enter Tryd.func92, Tryd.ntmps92
  go_wp2
  go_loop [0] (fun v => ∃ k : Nat, k ≤ ds.length ∧ v = .slice A k c ∧ Hid (Noughts ds k)) (fun v => match v with | .slice _ k _ => k | _ => 0)
  case atStart => exact ⟨ds.length, Nat.le_refl _, rfl, fun j hj hk => absurd hk (by omega)⟩
  case round =>
    obtain ⟨k, hk, rfl, ha⟩ := hrel
    cases k with
    | zero =>
      go_wp2
      go_ret
      exact ⟨⟨0, rfl, trimAt_zero ha.out⟩, rfl⟩
    | succ k =>
      obtain ⟨b, off, rfl, hb, hc⟩ := HR.out.at_ (k := k) (by omega)
      by_cases hz : ds[k] = 0
      · have hz' : (((ds[k] : Nat) : Int) == 0) = true := by simpa using hz
        have HZ := Lib.hid hz
        clear hz
        go_wp2
        go_round
        case rel => exact ⟨k, by omega, rfl, noughts_step hk ha.out HZ.out⟩
        case measure => simp
      · have hz' : (((ds[k] : Nat) : Int) == 0) = false := by simpa using hz
        go_wp2
        go_ret
        exact ⟨⟨k + 1, rfl, trimAt_last hk ha.out hz⟩, rfl⟩

/-- The value v is the integer z: its digits lie below block B, and are at most m. -/
def IsInt (w : World) (B m : Nat) (v : Value) (z : Int) : Prop :=
  ∃ neg A n c ds, v = .agg #[.bool neg, .slice A n c] ∧ ds.length = n ∧ Rd w B A ds ∧ n ≤ m ∧ n ≤ c ∧ rightB neg ds = true ∧ zval neg ds = z

theorem right_dig {neg : Bool} {ds : List Nat} (h : rightB neg ds = true) : Dig ds := by
  unfold rightB at h
  rw [Bool.and_eq_true] at h
  intro d hd
  simpa using List.all_eq_true.1 h.1 d hd
theorem right_top {neg : Bool} {ds : List Nat} (h : rightB neg ds = true) : Top ds := by
  intro hn
  rw [rightB_all (fun j hj => right_dig h _ (List.getElem_mem hj))] at h
  have hl : ds.length ≠ 0 := fun e => hn (List.eq_nil_of_length_eq_zero e)
  rw [if_neg hl] at h
  rw [List.getLast_eq_getElem]
  have := of_decide_eq_true h
  rwa [List.getD_eq_getElem?_getD, List.getElem?_eq_getElem (by omega)] at this
theorem right_nil {neg : Bool} (h : rightB neg [] = true) : neg = false := by
  simpa [rightB] using h
theorem right_mk {neg : Bool} {ds : List Nat} (hd : Dig ds) (ht : Top ds) (h0 : ds = [] → neg = false) : rightB neg ds = true := by
  rw [rightB_all (fun j hj => hd _ (List.getElem_mem hj))]
  by_cases hl : ds.length = 0
  · rw [if_pos hl, h0 (List.eq_nil_of_length_eq_zero hl)]; rfl
  · rw [if_neg hl]
    have hn : ds ≠ [] := fun e => hl (by rw [e]; rfl)
    have := ht hn
    rw [List.getLast_eq_getElem] at this
    rw [List.getD_eq_getElem?_getD, List.getElem?_eq_getElem (by omega)]
    exact decide_eq_true this

theorem IsInt.more {w : World} {B B' m m' : Nat} {v : Value} {z : Int} (h : IsInt w B m v z) (hB : B ≤ B') (hm : m ≤ m') : IsInt w B' m' v z := by
  obtain ⟨neg, A, n, c, ds, h1, h2, h3, h4, h5⟩ := h
  exact ⟨neg, A, n, c, ds, h1, h2, h3.more hB, by omega, h5⟩
theorem IsInt.below {w w' : World} {B m : Nat} {v : Value} {z : Int} (h : IsInt w B m v z) (hb : Below B w w') : IsInt w' B m v z := by
  obtain ⟨neg, A, n, c, ds, h1, h2, h3, h4⟩ := h
  exact ⟨neg, A, n, c, ds, h1, h2, h3.below hb, h4⟩

/-- Block g is a variable of type api.Int: its two cells. -/
def Box (w : World) (g : Nat) (x : Bool) (a : Option Addr) (n c : Nat) : Prop := Blk w g 24 #[.bool x, .slice a n c]
/-- both cells of a variable are stored -/
abbrev put2 (w : World) (g : Nat) (x : Bool) (a : Option Addr) (n c : Nat) : World := (w.setCell ⟨g, 0, none⟩ (.bool x)).setCell ⟨g, 1, none⟩ (.slice a n c)
section
variable {w w' : World} {g B : Nat} {x y : Bool} {a a' : Option Addr} {n c n' c' : Nat}
theorem Box.new (w : World) (x : Bool) (a : Option Addr) (n c : Nat) : Box (w.alloc (.cells #[.bool x, .slice a n c] 24)) w.heap.size x a n c := Blk.new _ _ _
theorem Box.c0 (h : Box w g x a n c) : w.cell? ⟨g, 0, none⟩ = some (.bool x) := Blk.cell h 0
theorem Box.c1 (h : Box w g x a n c) : w.cell? ⟨g, 1, none⟩ = some (.slice a n c) := Blk.cell h 1
theorem Box.f0 (h : Box w g x a n c) : w.frozen? ⟨g, 0, none⟩ = false := Blk.frozen h 0
theorem Box.f1 (h : Box w g x a n c) : w.frozen? ⟨g, 1, none⟩ = false := Blk.frozen h 1
theorem Box.put (h : Box w g x a n c) (y : Bool) (a' : Option Addr) (n' c' : Nat) : Box (put2 w g y a' n' c') g y a' n' c' := (Blk.set_ (Blk.set_ h 0 (.bool y)) 1 (.slice a' n' c'))
theorem Box.far (h : Box w g x a n c) {k : Nat} (hk : g ≠ k) (y : Bool) (a' : Option Addr) (n' c' : Nat) : Box (put2 w k y a' n' c') g x a n c := Blk.far (Blk.far h (p := ⟨k, 0, none⟩) hk _) (p := ⟨k, 1, none⟩) hk _
theorem Box.below (h : Box w g x a n c) (hb : Below B w w') (hg : g < B) : Box w' g x a n c := Blk.below h hb hg
theorem Box.over (h : Box w g x a n c) (hb : Below w.heap.size w w') : Box w' g x a n c := Blk.below h hb (Blk.lt h)
theorem Box.alloc (h : Box w g x a n c) (o : Obj) : Box (w.alloc o) g x a n c := Blk.alloc h o
theorem Box.drew (h : Box w g x a n c) : Box w.drew g x a n c := h
theorem Box.drewN (h : Box w g x a n c) (k : Nat) : Box (w.drewN k) g x a n c := h
theorem Box.lt (h : Box w g x a n c) : g < w.heap.size := Blk.lt h
theorem Box.no_int (h : Box w g x a n c) (i : Nat) (d : Int) : w.cell? ⟨g, i, none⟩ ≠ some (.int .u32 d) := by
  rw [Blk.cell h i]
  match i with
  | 0 => simp
  | 1 => simp
  | i + 2 => simp
theorem Rd.put {A : Option Addr} {ds : List Nat} (h : Rd w B A ds) (hx : Box w g x a n c) (y : Bool) (a' : Option Addr) (n' c' : Nat) : Rd (put2 w g y a' n' c') B A ds := fun hn => by
  obtain ⟨b, off, e, hb, hc⟩ := h hn
  have hne : b ≠ g := fun e => by subst e; exact hx.no_int _ _ (hc 0 hn)
  refine ⟨b, off, e, hb, fun j hj => ?_⟩
  rw [World.cell?_setCell_far _ _ _ _ (fun e => hne e.symm), World.cell?_setCell_far _ _ _ _ (fun e => hne e.symm)]
  exact hc j hj
theorem IsInt.put {m : Nat} {v : Value} {z : Int} (h : IsInt w B m v z) (hx : Box w g x a n c) (y : Bool) (a' : Option Addr) (n' c' : Nat) : IsInt (put2 w g y a' n' c') B m v z := by
  obtain ⟨neg, A, n, c, ds, h1, h2, h3, h4⟩ := h
  exact ⟨neg, A, n, c, ds, h1, h2, h3.put hx _ _ _ _, h4⟩
theorem below_put {w0 : World} (h : Below B w0 w) (hg : B ≤ g) (y : Bool) (a' : Option Addr) (n' c' : Nat) : Below B w0 (put2 w g y a' n' c') := (h.setCell (p := ⟨g, 0, none⟩) hg _).setCell (p := ⟨g, 1, none⟩) hg _
theorem put2_size (w : World) (g : Nat) (y : Bool) (a' : Option Addr) (n' c' : Nat) : (put2 w g y a' n' c').heap.size = w.heap.size := by simp [put2, World.setCell]
end

/-- the nought -/
def zeroInt : Value := .agg #[.bool false, .slice none 0 0]
theorem isInt_zero (w : World) (B m : Nat) : IsInt w B m (.agg #[.bool false, .slice none 0 0]) 0 :=
  ⟨false, none, 0, 0, [], rfl, rfl, Rd.nil, Nat.zero_le _, Nat.le_refl _, by simp [rightB], by simp [zval, val]⟩

def GivesInt (W : World) (B m : Nat) (z : Int) (e : Ending) (w' : World) : Prop := ∃ v, e = .returned v ∧ IsInt w' B m v z ∧ Below W.heap.size W w'

set_option maxHeartbeats 400000 in
theorem signed_any (neg : Bool) (A : Option Addr) (n c : Nat) (ds : List Nat) (w : World) (hl : ds.length = n) (hn : ds.length ≤ maxLen) (hnc : ds.length ≤ c) (hr : Rd w w.heap.size A ds) (hd : Dig ds) :
    Calls Tryd.prog 66 #[.bool neg, .slice A n c] w fun e w' => GivesInt w w.heap.size n (zval neg ds) e w' := by
  have HR := Lib.hid hr
  clear hr
  have HL := Lib.hid hl
  clear hl
  go_enter Tryd.func66, Tryd.ntmps66
  go_wp2_with fail
  refine (trim_any _ _ _ ds _ HL.out hn hnc (HR.out.alloc' _)).mono ?_
  rintro e w1 ⟨⟨k, rfl, ht⟩, rfl⟩
  have HT := Lib.hid ht
  clear ht
  cases k with
  | zero =>
    go_wp2
    refine bodyPost_ret (v := .agg #[.bool false, .slice none 0 0]) (by simp [results, Tryd.results66, go_sem]) rfl ⟨_, rfl, ?_, ?_⟩
    · have h0 : zval neg ds = 0 := by
        have := HT.out.2.2
        simp [val] at this
        cases neg <;> simp [zval, ← this]
      rw [h0]
      exact isInt_zero _ _ _
    · exact (Below.refl _ _).alloc (Nat.le_refl _) _
  | succ k =>
    have h0 : (((k + 1 : Nat) : Int) == 0) = false := by simp; omega
    go_wp2
    refine bodyPost_ret (v := .agg #[.bool neg, .slice A (k + 1) c]) (by simp [results, Tryd.results66, go_sem]) rfl ⟨_, rfl, ?_, ?_⟩
    · obtain ⟨hk, ht, hv⟩ := HT.out
      have hL := HL.out
      have hlt : (ds.take (k + 1)).length = k + 1 := by rw [List.length_take]; omega
      exact ⟨neg, A, k + 1, c, ds.take (k + 1), rfl, hlt, ((HR.out.take _).alloc (Nat.le_refl _) _), by omega, by omega,
        right_mk (hd.take _) ht (fun e => by rw [e] at hlt; simp at hlt), by simp [zval, hv]⟩
    · exact (Below.refl _ _).alloc (Nat.le_refl _) _

/-- digits behind k are one -/
def SameFrom (a b : List Nat) (k : Nat) : Prop := a.drop k = b.drop k
theorem same_step {a b : List Nat} {k : Nat} (ha : k < a.length) (hb : k < b.length) (h : SameFrom a b (k + 1)) (e : a[k] = b[k]) : SameFrom a b k := by
  unfold SameFrom at *
  rw [List.drop_eq_getElem_cons ha, List.drop_eq_getElem_cons hb, e, h]

set_option maxHeartbeats 400000 in
theorem compare_any (A B : Option Addr) (n m c d : Nat) (xs bs : List Nat) (w : World) (hla : xs.length = n) (hlb : bs.length = m) (hn : xs.length ≤ maxLen) (hra : Rd w w.heap.size A xs) (hrb : Rd w w.heap.size B bs)
    (hda : Dig xs) (hdb : Dig bs) (hta : Top xs) (htb : Top bs) :
    Calls Tryd.prog 70 #[.slice A n c, .slice B m d] w fun e w' => e = .returned (.int .i64 (cmpN (val xs) (val bs))) ∧ Below w.heap.size w w' := by
  subst hla
  subst hlb
  unfold maxLen at hn
  have HA := Lib.hid hra
  have HB := Lib.hid hrb
  clear hra hrb
  rcases Nat.lt_trichotomy xs.length bs.length with hlt | heq | hgt
  · have h1 : (((xs.length : Nat) : Int) != ((bs.length : Nat) : Int)) = true := by simp; omega
    have h2 : ((xs.length : Nat) : Int) < ((bs.length : Nat) : Int) := by omega
    go_enter Tryd.func70, Tryd.ntmps70
    go_wp2
    go_ret
    exact ⟨ret_int (cmpN_lt (top_short hda htb hlt)).symm, Below.refl _ _⟩
  · have h1 : (((xs.length : Nat) : Int) != ((bs.length : Nat) : Int)) = false := by simp; omega
    have HL := Lib.hid heq
    clear heq
    go_enter Tryd.func70, Tryd.ntmps70
    go_wp2
    go_loopw [5] (fun i wr => (∃ (k : Nat) (q : Int), k ≤ xs.length ∧ i = .int .i64 q ∧ Hid (q = (k : Int) - 1) ∧ Hid (SameFrom xs bs k)) ∧ Below w.heap.size w wr) (fun i _ => (intOf i + 1).toNat)
    case atStart => exact ⟨⟨xs.length, _, Nat.le_refl _, rfl, rfl, by have := HL.out; show xs.drop _ = bs.drop _; rw [List.drop_eq_nil_of_le (by omega), List.drop_eq_nil_of_le (by omega)]⟩, Below.refl _ _⟩
    case round =>
      obtain ⟨⟨k, q, hk, rfl, hq, ha⟩, hbw⟩ := hrel
      cases k with
      | zero =>
        obtain rfl : q = -1 := by have := hq.out; omega
        go_wp2
        go_ret
        exact ⟨ret_int (cmpN_eq (by have h0 := ha.out; unfold SameFrom at h0; rw [List.drop_zero, List.drop_zero] at h0; rw [h0])).symm, hbw⟩
      | succ k =>
        obtain rfl : q = (k : Int) := by have := hq.out; omega
        have hkb : k < bs.length := by have := HL.out; omega
        obtain ⟨b, off, rfl, hb, hc⟩ := (HA.out.below hbw).at_ (k := k) (by omega)
        obtain ⟨b', off', rfl, hb', hc'⟩ := (HB.out.below hbw).at_ (k := k) hkb
        rcases Nat.lt_trichotomy xs[k] bs[k] with hlt | he | hgt
        · have hc1 : ((xs[k] : Nat) : Int) < ((bs[k] : Nat) : Int) := by omega
          have HQ := Lib.hid (val_at hda k hk hkb ha.out hlt)
          clear hlt
          go_wp2
          go_quiet (fail)
          go_wp2
          go_ret
          exact ⟨ret_int (cmpN_lt HQ.out).symm, below_drewN hbw _⟩
        · have hc1 : ¬ ((xs[k] : Nat) : Int) < ((bs[k] : Nat) : Int) := by omega
          have hc2 : ¬ ((bs[k] : Nat) : Int) < ((xs[k] : Nat) : Int) := by omega
          have HE := Lib.hid (same_step hk hkb ha.out he)
          clear he
          go_wp2
          go_quiet (fail)
          go_wp2
          go_quiet (fail)
          go_wp2
          go_roundw
          case rel => exact ⟨⟨k, _, by omega, rfl, rfl, HE.out⟩, below_drewN hbw _⟩
          case measure => simp [intOf]
        · have hc1 : ¬ ((xs[k] : Nat) : Int) < ((bs[k] : Nat) : Int) := by omega
          have hc2 : ((bs[k] : Nat) : Int) < ((xs[k] : Nat) : Int) := by omega
          have HQ := Lib.hid (val_at hdb k hkb hk (Eq.symm ha.out) hgt)
          clear hgt
          go_wp2
          go_quiet (fail)
          go_wp2
          go_quiet (fail)
          go_wp2
          go_ret
          exact ⟨ret_int (cmpN_gt HQ.out).symm, below_drewN (below_drewN hbw _) _⟩
  · have h1 : (((xs.length : Nat) : Int) != ((bs.length : Nat) : Int)) = true := by simp; omega
    have h2 : ¬ ((xs.length : Nat) : Int) < ((bs.length : Nat) : Int) := by omega
    go_enter Tryd.func70, Tryd.ntmps70
    go_wp2
    go_ret
    exact ⟨ret_int (cmpN_gt (top_short hdb hta hgt)).symm, Below.refl _ _⟩
end Go.Proofs.YtpikbhcjgcbdfaaDoor.wh

/- Package whole: split, join, Of, Small: numbers of the machine as digits, and back. -/
namespace Go.Proofs.YtpikbhcjgcbdfaaDoor.wh
open Go.RowKit

theorem info_u32 : (Tryd.prog.info? 82).map (fun i => (i.zero, i.size, i.bytes)) = some (some (.int .u32 0), 1, 4) := by kernel_rfl

/-- what stands in a loop of split: the digits so far, and what is left -/
def SplitAt (n : Nat) (ds : List Nat) (q : Nat) : Prop := Dig ds ∧ val ds + 1000000000 ^ ds.length * q = n
theorem split_step {n q : Nat} {ds : List Nat} (h : SplitAt n ds q) : SplitAt n (ds ++ [q % 1000000000]) (q / 1000000000) := by
  obtain ⟨h1, h2⟩ := h
  refine ⟨h1.append (Dig.cons (Nat.mod_lt _ (by omega)) Dig.nil), ?_⟩
  rw [val_snoc, List.length_append, List.length_singleton, Nat.pow_succ]
  rw [← h2, Nat.add_assoc, Nat.mul_assoc, ← Nat.mul_add, Nat.mod_add_div]
/-- a uint64 has it -/
def W64 (n : Nat) : Prop := n < 18446744073709551616
theorem W64.le {n : Nat} (h : W64 n) : (n : Int) ≤ 18446744073709551615 := by unfold W64 at h; omega
theorem W64.of {n : Nat} (h : n < 18446744073709551616) : W64 n := h
theorem split_len {n q : Nat} {ds : List Nat} (h : SplitAt n ds q) (hq : 0 < q) (hn : W64 n) : ds.length ≤ 2 := by
  obtain ⟨_, h2⟩ := h
  unfold W64 at hn
  rcases Nat.lt_or_ge 2 ds.length with hlt | hge
  · have h3 : 1000000000 ^ 3 ≤ 1000000000 ^ ds.length := pow_mono (by omega)
    have h4 : 1000000000 ^ ds.length * 1 ≤ 1000000000 ^ ds.length * q := Nat.mul_le_mul_left _ hq
    omega
  · exact hge

def GivesDigits (W : World) (n : Nat) (e : Ending) (w' : World) : Prop :=
  ∃ A m c ds, e = .returned (.slice A m c) ∧ ds.length = m ∧ Rd w' w'.heap.size A ds ∧ m ≤ c ∧ m ≤ 3 ∧ Dig ds ∧ val ds = n ∧ Below W.heap.size W w'

set_option maxRecDepth 100000 in
set_option maxHeartbeats 400000 in
theorem split_any (n : Nat) (w : World) (hn : W64 n) :
    Calls Tryd.prog 75 #[.int .u64 n] w fun e w' => GivesDigits w n e w' := by
  obtain ⟨i0, hi, hz0, hz1, hz2⟩ := info_parts info_u32
  go_enter Tryd.func75, Tryd.ntmps75
  go_wp2
  go_loopw [0, 3] (fun u v wr => ∃ (q : Nat) (ds : List Nat), W64 q ∧ u = .int .u64 q ∧ wr.ownsRow w.heap.size 82 1 v ds.length (u32s ds) ∧ Hid (SplitAt n ds q) ∧ ds.length ≤ 3 ∧ Below w.heap.size w wr) (fun u _ _ => (intOf u).toNat)
  case atStart => exact ⟨n, [], hn, rfl, World.ownsRow_nil _ _ _ _, ⟨Dig.nil, by simp [val]⟩, by simp, Below.refl _ _⟩
  case round =>
    obtain ⟨q, ds, hq, rfl, hown, hsp, hl3, hb⟩ := hrel
    by_cases h0 : 0 < q
    · have hl := split_len hsp.out h0 hn
      have hq1 : (0 : Int) < (q : Int) := by omega
      have hq2 := hq.le
      obtain ⟨r, hr⟩ : ∃ r : Nat, r = q % 1000000000 := ⟨_, rfl⟩
      obtain ⟨p, hp⟩ : ∃ p : Nat, p = q / 1000000000 := ⟨_, rfl⟩
      have hr1 : ((q : Int) % 1000000000) = (r : Int) := by omega
      have hp1 : ((q : Int) / 1000000000) = (p : Int) := by omega
      have hr3 : r < 1000000000 := by omega
      have hp3 : p < q := by omega
      have HR := Lib.hid hr
      have HP := Lib.hid hp
      clear hr hp
      have hbs := hb.size
      go_wp2_with (at_builtin; refine wpList_append_own _ rfl (.tmp 6) (.tmp 10) 22 rfl w.heap.size 82 i0 (.int .u32 0) 1 4 Tryd.underlying22 hi hz0 hz1 hz2 rfl (by decide) _ _ _ rfl (hown.alloc _) ⟨wr.heap.size, 0, none⟩ 1 1 [.int .u32 (r : Int)] rfl rfl ?c1 ?c2 ?c3 ?c4 ?c5 ?_)
      case c1 =>
        intro j u hj
        match j, hj with
        | 0, hj => simp at hj; subst hj; simp [Addr.add]
      case c2 => intro u hu; simp at hu; subst hu; rfl
      case c3 => unfold maxLen; omega
      case c4 => omega
      case c5 => simp; omega
      intro v' w1 hown' hgrow _
      have hb1 : Below w.heap.size w w1 := (hb.alloc hbs _).grown hgrow (by simp; omega) (fun g hg => (hown.lt g hg).1)
      clear hgrow hown
      go_wp2
      go_roundw
      case rel => exact ⟨p, ds ++ [r], W64.of (by have := hq; unfold W64 at this; omega), rfl, by rw [List.length_append, u32s_append]; exact hown', by have h := split_step hsp.out; rw [← HR.out, ← HP.out] at h; exact h, by simp; omega, hb1⟩
      case measure => simp [intOf]; omega
    · have hq1 : ¬ (0 : Int) < (q : Int) := by omega
      go_wp2
      go_ret
      obtain ⟨A, m, c, rfl⟩ : ∃ A m c, u3 = .slice A m c := by
        rcases hown.2 with ⟨h, _⟩ | ⟨g, cap, cur, h, _⟩
        · exact ⟨_, _, _, h⟩
        · exact ⟨_, _, _, h⟩
      have hm : ds.length = m := by
        rcases hown.2 with ⟨h, h'⟩ | ⟨g, cap, cur, h, _⟩
        · injection h with _ h2 _; omega
        · injection h with _ h2 _; omega
      have hmc : m ≤ c := by
        rcases hown.2 with ⟨h, h'⟩ | ⟨g, cap, cur, h, _, _, h4, _⟩
        · injection h with _ h2 h3; omega
        · injection h with _ h2 h3; omega
      have hv : val ds = n := by
        have := hsp.out.2
        have h0 : q = 0 := by omega
        rw [h0] at this; simpa using this
      exact ⟨A, m, c, ds, rfl, hm, Rd.of_own (base := w.heap.size) (n := m) (c := c) (by rw [hm] at hown; exact hown), hmc, by omega, hsp.out.1, hv, hb⟩
end Go.Proofs.YtpikbhcjgcbdfaaDoor.wh

/- Package whole: join, Of, Small. -/
namespace Go.Proofs.YtpikbhcjgcbdfaaDoor.wh
open Go.RowKit

theorem val_drop {ds : List Nat} {k : Nat} (hk : k < ds.length) : val (ds.drop k) = ds[k] + 1000000000 * val (ds.drop (k + 1)) := by
  rw [List.drop_eq_getElem_cons hk]; rfl
theorem val_drop_le (ds : List Nat) (k : Nat) : val (ds.drop k) ≤ val ds := by
  have e : val ds = val (ds.take k ++ ds.drop k) := by rw [List.take_append_drop]
  rw [e, val_append]
  have h : 1 ≤ 1000000000 ^ (ds.take k).length := Nat.pow_pos (by omega)
  have : 1 * val (ds.drop k) ≤ 1000000000 ^ (ds.take k).length * val (ds.drop k) := Nat.mul_le_mul_right _ h
  omega

/-- the number of the digits from k on -/
def HighIs (ds : List Nat) (k t : Nat) : Prop := t = val (ds.drop k)

set_option maxRecDepth 100000 in
set_option maxHeartbeats 400000 in
theorem join_any (A : Option Addr) (n c : Nat) (ds : List Nat) (w : World) (hl : ds.length = n) (hn : ds.length ≤ maxLen) (hr : Rd w w.heap.size A ds) (hd : Dig ds) (hv : W64 (val ds)) :
    Calls Tryd.prog 74 #[.slice A n c] w fun e w' => e = .returned (.int .u64 (val ds : Nat)) ∧ w = w' := by
  subst hl
  unfold maxLen at hn
  have HR := Lib.hid hr
  clear hr
  have HD := Lib.hid hd
  clear hd
  go_enter Tryd.func74, Tryd.ntmps74
  go_wp2
  go_loop [3, 4] (fun u i => ∃ (k t : Nat) (q : Int), k ≤ ds.length ∧ u = .int .u64 t ∧ i = .int .i64 q ∧ Hid (q = (k : Int) - 1) ∧ Hid (HighIs ds k t)) (fun _ i => (intOf i + 1).toNat)
  case atStart => exact ⟨ds.length, 0, _, Nat.le_refl _, rfl, rfl, rfl, by show 0 = val (ds.drop ds.length); rw [List.drop_length]; rfl⟩
  case round =>
    obtain ⟨k, t, q, hk, rfl, rfl, hq, ht⟩ := hrel
    cases k with
    | zero =>
      obtain rfl : q = -1 := by have := hq.out; omega
      have HT : Hid (t = val ds) := by have h := ht.out; unfold HighIs at h; rw [List.drop_zero] at h; exact h
      go_wp2
      go_ret
      exact ⟨ret_int (by rw [HT.out]), rfl⟩
    | succ k =>
      obtain rfl : q = (k : Int) := by have := hq.out; omega
      obtain ⟨b, off, rfl, hb, hc⟩ := HR.out.at_ (k := k) (by omega)
      obtain ⟨s, hs⟩ : ∃ s : Nat, s = ds[k] := ⟨_, rfl⟩
      have hs9 : s < 1000000000 := by rw [hs]; exact HD.out.get k _
      have hsum : val (ds.drop k) = s + 1000000000 * t := by rw [hs, ht.out]; exact val_drop (by omega)
      have hle := val_drop_le ds k
      have hb1 : (t : Int) * 1000000000 + (s : Int) ≤ 18446744073709551615 := by have := hv.le; omega
      have HS : Hid (HighIs ds k (t * 1000000000 + s)) := by show _ = _; omega
      rw [← hs] at hc
      clear hs hsum hle
      go_wp2
      go_round
      case rel => exact ⟨k, t * 1000000000 + s, _, by omega, by go_num, rfl, rfl, HS.out⟩
      case measure => simp [intOf]

def magN (n : Int) : Nat := n.natAbs
def GivesI (W : World) (z : Int) (e : Ending) (w' : World) : Prop := ∃ v, e = .returned v ∧ IsInt w' w'.heap.size 3 v z ∧ Below W.heap.size W w'

theorem GivesInt.of {W w' : World} {B m : Nat} {z : Int} {e : Ending} (h : GivesInt W B m z e w') (hB : B ≤ w'.heap.size) (hm : m ≤ 3) : GivesI W z e w' := by
  obtain ⟨v, h1, h2, h3⟩ := h
  exact ⟨v, h1, h2.more hB hm, h3⟩

set_option maxRecDepth 100000 in
set_option maxHeartbeats 400000 in
theorem of_any (n : Int) (w : World) (h1 : -9223372036854775808 ≤ n) (h2 : n ≤ 9223372036854775807) :
    Calls Tryd.prog 34 #[.int .i64 n] w fun e w' => GivesI w n e w' := by
  obtain ⟨s, hs⟩ : ∃ s : Nat, s = n.natAbs := ⟨_, rfl⟩
  have hs2 : W64 s := by unfold W64; omega
  by_cases h0 : n < 0
  · obtain ⟨a, ha⟩ : ∃ a, IntKind.u64.wrap n = a := ⟨_, rfl⟩
    have hb : IntKind.u64.wrap (-a) = (s : Int) := by rw [← ha]; simp [IntKind.wrap, IntKind.bits, IntKind.signed]; omega
    have HS := Lib.hid hs
    clear hs
    go_enter Tryd.func34, Tryd.ntmps34
    go_wp2_with fail
    refine (split_any _ _ hs2).mono ?_
    rintro e w1 ⟨A, m, c, ds, rfl, hl, hr, hmc, hm3, hd, hv, hbw⟩
    have HL := Lib.hid hl
    have HV := Lib.hid hv
    have HRD := Lib.hid hr
    clear hl hv hr
    go_wp2_with fail
    refine (signed_any true A m c ds _ HL.out (by have := HL.out; unfold maxLen; omega) (by have := HL.out; omega) HRD.out hd).mono ?_
    rintro e w2 ⟨v, rfl, hi, hb2⟩
    obtain ⟨neg, A', n', c', ds', rfl, hl', hr', hm', hc', hR', hz'⟩ := hi
    have hzz : zval neg ds' = n := by rw [hz']; have := HV.out; have := HS.out; simp [zval]; omega
    have hw1 := hbw.size
    have hw2 := hb2.size
    have hx := ((Box.new w false none 0 0).over hbw).over hb2
    have c0 := hx.c0
    have c1 := hx.c1
    have f0 := hx.f0
    have f1 := hx.f1
    rw [World.size_alloc] at hw1
    go_wp2
    refine bodyPost_ret (v := .agg #[.bool neg, .slice A' n' c']) (by simp [results, Tryd.results34, go_sem, c0, c1]) rfl ⟨_, rfl, ?_, ?_⟩
    · have hi2 : IsInt w2 w1.heap.size m (.agg #[.bool neg, .slice A' n' c']) n := ⟨neg, A', n', c', ds', rfl, hl', hr', hm', hc', hR', hzz⟩
      exact (hi2.put hx _ _ _ _).more (by rw [put2_size]; omega) hm3
    · exact below_put ((((Below.refl _ _).alloc (Nat.le_refl _) _).trans (hbw.mono (by simp))).trans (hb2.mono (by omega))) (Nat.le_refl _) _ _ _ _
  · obtain ⟨u, rfl⟩ := Int.eq_ofNat_of_zero_le (show 0 ≤ n by omega)
    obtain rfl : s = u := by simpa using hs
    clear hs
    have h0' : ¬ ((s : Int) < 0) := by omega
    go_enter Tryd.func34, Tryd.ntmps34
    go_wp2_with fail
    refine (split_any _ _ hs2).mono ?_
    rintro e w1 ⟨A, m, c, ds, rfl, hl, hr, hmc, hm3, hd, hv, hbw⟩
    have HL := Lib.hid hl
    have HV := Lib.hid hv
    have HRD := Lib.hid hr
    clear hl hv hr
    go_wp2_with fail
    refine (signed_any false A m c ds _ HL.out (by have := HL.out; unfold maxLen; omega) (by have := HL.out; omega) HRD.out hd).mono ?_
    rintro e w2 ⟨v, rfl, hi, hb2⟩
    obtain ⟨neg, A', n', c', ds', rfl, hl', hr', hm', hc', hR', hz'⟩ := hi
    have hzz : Hid (zval neg ds' = (s : Int)) := by show zval neg ds' = (s : Int); rw [hz']; have := HV.out; simp [zval]; omega
    clear hz'
    have hw1 := hbw.size
    have hw2 := hb2.size
    have hx := ((Box.new w false none 0 0).over hbw).over hb2
    have c0 := hx.c0
    have c1 := hx.c1
    have f0 := hx.f0
    have f1 := hx.f1
    rw [World.size_alloc] at hw1
    go_wp2
    refine bodyPost_ret (v := .agg #[.bool neg, .slice A' n' c']) (by simp [results, Tryd.results34, go_sem, c0, c1]) rfl ⟨_, rfl, ?_, ?_⟩
    · have hi2 : IsInt w2 w1.heap.size m (.agg #[.bool neg, .slice A' n' c']) (s : Int) := ⟨neg, A', n', c', ds', rfl, hl', hr', hm', hc', hR', hzz.out⟩
      exact (hi2.put hx _ _ _ _).more (by rw [put2_size]; omega) hm3
    · exact below_put ((((Below.refl _ _).alloc (Nat.le_refl _) _).trans (hbw.mono (by simp))).trans (hb2.mono (by omega))) (Nat.le_refl _) _ _ _ _

/-- what an int of -2^62 to 2^62 is -/
def smallZ (z : Int) : Int := if -4611686018427387904 ≤ z ∧ z ≤ 4611686018427387904 then z else 0
def isSmall (z : Int) : Bool := decide (-4611686018427387904 ≤ z ∧ z ≤ 4611686018427387904)
theorem small_no {z : Int} (h : ¬ (-4611686018427387904 ≤ z ∧ z ≤ 4611686018427387904)) : smallZ z = 0 ∧ isSmall z = false := by
  unfold smallZ isSmall
  exact ⟨if_neg h, decide_eq_false h⟩
theorem small_yes {z : Int} (h : -4611686018427387904 ≤ z ∧ z ≤ 4611686018427387904) : smallZ z = z ∧ isSmall z = true := by
  unfold smallZ isSmall
  exact ⟨if_pos h, decide_eq_true h⟩
theorem zval_abs (neg : Bool) (ds : List Nat) : (zval neg ds).natAbs = val ds := by cases neg <;> simp [zval]

def GivesSmall (W : World) (z : Int) (e : Ending) (w' : World) : Prop := e = .returned (.tuple #[.int .i64 (smallZ z), .bool (isSmall z)]) ∧ Below W.heap.size W w'

set_option maxRecDepth 100000 in
set_option maxHeartbeats 400000 in
theorem small_any (v : Value) (m : Nat) (z : Int) (w : World) (hm : m ≤ maxLen) (hi : IsInt w w.heap.size m v z) :
    Calls Tryd.prog 36 #[v] w fun e w' => GivesSmall w z e w' := by
  obtain ⟨neg, A, n, c, ds, rfl, hl, hr, hnm, hnc, hR, hz⟩ := hi
  have hn : ds.length ≤ maxLen := by omega
  have HL := Lib.hid hl
  have HRD := Lib.hid hr
  have HR := Lib.hid hR
  have HZ := Lib.hid hz
  clear hl hr hR hz
  go_enter Tryd.func36, Tryd.ntmps36
  go_wp2_with fail
  refine (clean_any _ _ _ _ ds _ HL.out hn (HRD.out.alloc' _) HR.out).mono ?_
  rintro e w1 ⟨rfl, hb⟩
  have hw1 := hb.size
  rw [World.size_alloc] at hw1
  have hx := (Box.new w neg A n c).over hb
  have c0 := hx.c0
  have c1 := hx.c1
  have f0 := hx.f0
  have f1 := hx.f1
  have hbelow : Below w.heap.size w (put2 w1 w.heap.size neg A n c) := below_put (((Below.refl _ _).alloc (Nat.le_refl _) _).trans (hb.mono (by simp))) (Nat.le_refl _) _ _ _ _
  have hrd : Hid (Rd (put2 w1 w.heap.size neg A n c) w.heap.size A ds) := HRD.out.below hbelow
  by_cases h3 : 3 < n
  · have h3' : (3 : Int) < (n : Int) := by omega
    have hno : Hid (smallZ z = 0 ∧ isSmall z = false) := by
      refine small_no ?_
      have h1 := top_ge (right_top HR.out) (fun e => by have := HL.out; rw [e] at this; simp at this; omega)
      have h2 : 1000000000 ^ 3 ≤ 1000000000 ^ (ds.length - 1) := pow_mono (by have := HL.out; omega)
      have h4 := zval_abs neg ds
      rw [HZ.out] at h4
      omega
    go_wp2
    go_ret2
    exact ⟨by rw [hno.out.1, hno.out.2]; rfl, hbelow⟩
  · have h3' : ¬ (3 : Int) < (n : Int) := by omega
    by_cases hbig : ∃ h : 2 < ds.length, 4 < ds[2]
    · obtain ⟨h2, h4⟩ := hbig
      obtain rfl : n = 3 := by have := HL.out; omega
      obtain ⟨b, off, rfl, hb', hc⟩ := hrd.out.at_ (k := 2) h2
      have h4' : (4 : Int) < ((ds[2] : Nat) : Int) := by omega
      have hno : Hid (smallZ z = 0 ∧ isSmall z = false) := by
        refine small_no ?_
        have hv : val ds = val (ds.take 2) + 1000000000 ^ 2 * val (ds.drop 2) := by
          conv => lhs; rw [← List.take_append_drop 2 ds]
          rw [val_append, List.length_take, Nat.min_eq_left (by omega)]
        rw [val_drop h2] at hv
        have h5 := zval_abs neg ds
        rw [HZ.out] at h5
        omega
      go_wp2
      go_ret2
      exact ⟨by rw [hno.out.1, hno.out.2]; rfl, hbelow⟩
    · have hlow : Hid (val ds < 5000000000000000000) := by
        show _ < _
        have hd := right_dig HR.out
        have hlen := HL.out
        by_cases h2 : 2 < ds.length
        · have hv : val ds = val (ds.take 2) + 1000000000 ^ 2 * val (ds.drop 2) := by
            conv => lhs; rw [← List.take_append_drop 2 ds]
            rw [val_append, List.length_take, Nat.min_eq_left (by omega)]
          rw [val_drop h2, List.drop_eq_nil_of_le (by omega)] at hv
          have hlt := val_lt (hd.take 2)
          rw [List.length_take, Nat.min_eq_left (by omega)] at hlt
          have : ¬ 4 < ds[2] := fun h => hbig ⟨h2, h⟩
          simp only [val] at hv
          omega
        · have h1 := val_lt hd
          have h2 : 1000000000 ^ ds.length ≤ 1000000000 ^ 2 := pow_mono (by omega)
          omega
      obtain ⟨s, hs⟩ : ∃ s : Nat, s = val ds := ⟨_, rfl⟩
      have hw64 : W64 (val ds) := by have := hlow.out; unfold W64; omega
      have HS : Hid ((zval neg ds).natAbs = s) := by show _ = s; rw [hs]; exact zval_abs neg ds
      have HD : Hid (Dig ds) := right_dig HR.out
      have hjoin : ∀ W : World, Rd W W.heap.size A ds → Calls Tryd.prog 74 #[.slice A n c] W fun e w' => e = .returned (.int .u64 (s : Nat)) ∧ W = w' := by
        intro W hW
        rw [hs]
        exact join_any A n c ds W HL.out hn hW HD.out hw64
      have HJ := Lib.hid hjoin
      clear hjoin hs
      have hsz : w.heap.size ≤ (put2 w1 w.heap.size neg A n c).heap.size := by rw [put2_size]; omega
      have HC : ∀ h : n = 3, ∃ b off d2 : Nat, A = some ⟨b, off, none⟩ ∧ (put2 w1 w.heap.size neg A n c).cell? ⟨b, off + 2, none⟩ = some (.int .u32 (d2 : Int)) ∧ ¬ 4 < d2 := fun h => by
        have h2 : 2 < ds.length := by have := HL.out; omega
        obtain ⟨b, off, e, _, hc⟩ := hrd.out.at_ (k := 2) h2
        exact ⟨b, off, ds[2], e, hc, fun h4 => hbig ⟨h2, h4⟩⟩
      by_cases hn3 : n = 3
      · obtain ⟨b, off, d2, rfl, hc, h4⟩ := HC hn3
        subst hn3
        have h4' : ¬ (4 : Int) < ((d2 : Nat) : Int) := by omega
        clear HC hbig
        go_wp2_with fail
        refine (HJ.out _ (hrd.out.more hsz)).mono ?_
        rintro e w' ⟨rfl, rfl⟩
        by_cases hgt : (4611686018427387904 : Int) < (s : Int)
        · have hno : Hid (smallZ z = 0 ∧ isSmall z = false) := small_no (by have := HS.out; rw [HZ.out] at this; omega)
          go_wp2
          go_ret2
          exact ⟨by rw [hno.out.1, hno.out.2]; rfl, hbelow⟩
        · cases neg with
          | true =>
            have hyes : Hid (smallZ z = -(s : Int) ∧ isSmall z = true) := by
              have h1 := HZ.out
              have h2 := HS.out
              rw [h1] at h2
              simp only [zval, if_true] at h1
              have := small_yes (z := z) (by omega)
              exact ⟨by rw [this.1]; omega, this.2⟩
            go_wp2
            go_ret2
            exact ⟨by rw [hyes.out.1, hyes.out.2]; rfl, hbelow⟩
          | false =>
            have hyes : Hid (smallZ z = (s : Int) ∧ isSmall z = true) := by
              have h1 := HZ.out
              have h2 := HS.out
              rw [h1] at h2
              simp only [zval] at h1
              have := small_yes (z := z) (by omega)
              exact ⟨by rw [this.1]; simp at h1; omega, this.2⟩
            go_wp2
            go_ret2
            exact ⟨by rw [hyes.out.1, hyes.out.2]; rfl, hbelow⟩
      · have hn3' : ((n : Int) == 3) = false := by simp; omega
        clear HC hbig
        go_wp2_with fail
        refine (HJ.out _ (hrd.out.more hsz)).mono ?_
        rintro e w' ⟨rfl, rfl⟩
        by_cases hgt : (4611686018427387904 : Int) < (s : Int)
        · have hno : Hid (smallZ z = 0 ∧ isSmall z = false) := small_no (by have := HS.out; rw [HZ.out] at this; omega)
          go_wp2
          go_ret2
          exact ⟨by rw [hno.out.1, hno.out.2]; rfl, hbelow⟩
        · cases neg with
          | true =>
            have hyes : Hid (smallZ z = -(s : Int) ∧ isSmall z = true) := by
              have h1 := HZ.out
              have h2 := HS.out
              rw [h1] at h2
              simp only [zval, if_true] at h1
              have := small_yes (z := z) (by omega)
              exact ⟨by rw [this.1]; omega, this.2⟩
            go_wp2
            go_ret2
            exact ⟨by rw [hyes.out.1, hyes.out.2]; rfl, hbelow⟩
          | false =>
            have hyes : Hid (smallZ z = (s : Int) ∧ isSmall z = true) := by
              have h1 := HZ.out
              have h2 := HS.out
              rw [h1] at h2
              simp only [zval] at h1
              have := small_yes (z := z) (by omega)
              exact ⟨by rw [this.1]; simp at h1; omega, this.2⟩
            go_wp2
            go_ret2
            exact ⟨by rw [hyes.out.1, hyes.out.2]; rfl, hbelow⟩
end Go.Proofs.YtpikbhcjgcbdfaaDoor.wh
