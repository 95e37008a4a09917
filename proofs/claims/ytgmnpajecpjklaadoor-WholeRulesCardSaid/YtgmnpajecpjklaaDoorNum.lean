/- Digits to the base of 10^9, the least one first: their number, and what sums, products and comparisons of them come to. Plain mathematics: no program. -/
import Derived.Test.YtgmnpajecpjklaaDoorWords
namespace Go.Proofs.YtgmnpajecpjklaaDoor.wh

def val : List Nat → Nat
  | [] => 0
  | d :: t => d + 1000000000 * val t

/-- each digit is below the base -/
def Dig (ds : List Nat) : Prop := ∀ d ∈ ds, d < 1000000000

theorem Dig.nil : Dig [] := fun _ h => by cases h
theorem Dig.cons {d : Nat} {t : List Nat} (h : d < 1000000000) (ht : Dig t) : Dig (d :: t) := fun x hx => by
  rcases List.mem_cons.1 hx with rfl | hx
  · exact h
  · exact ht x hx
theorem Dig.head {d : Nat} {t : List Nat} (h : Dig (d :: t)) : d < 1000000000 := h d (by simp)
theorem Dig.tail {d : Nat} {t : List Nat} (h : Dig (d :: t)) : Dig t := fun x hx => h x (by simp [hx])
theorem Dig.get {ds : List Nat} (h : Dig ds) (k : Nat) (hk : k < ds.length) : ds[k] < 1000000000 := h _ (List.getElem_mem hk)
theorem Dig.append {a b : List Nat} (ha : Dig a) (hb : Dig b) : Dig (a ++ b) := fun x hx => by
  rcases List.mem_append.1 hx with hx | hx
  · exact ha x hx
  · exact hb x hx
theorem Dig.take {a : List Nat} (ha : Dig a) (k : Nat) : Dig (a.take k) := fun x hx => ha x (List.mem_of_mem_take hx)
theorem Dig.drop {a : List Nat} (ha : Dig a) (k : Nat) : Dig (a.drop k) := fun x hx => ha x (List.mem_of_mem_drop hx)
theorem Dig.replicate (n : Nat) : Dig (List.replicate n 0) := fun x hx => by rw [List.mem_replicate] at hx; omega

theorem val_append (a b : List Nat) : val (a ++ b) = val a + 1000000000 ^ a.length * val b := by
  induction a with
  | nil => simp [val]
  | cons d t ih =>
    simp only [List.cons_append, val, ih, List.length_cons, Nat.pow_succ, Nat.mul_add]
    rw [← Nat.mul_assoc, Nat.mul_comm 1000000000 (1000000000 ^ t.length)]
    omega
theorem val_snoc (a : List Nat) (d : Nat) : val (a ++ [d]) = val a + 1000000000 ^ a.length * d := by
  rw [val_append]; simp [val]
theorem val_lt {a : List Nat} (h : Dig a) : val a < 1000000000 ^ a.length := by
  induction a with
  | nil => simp [val]
  | cons d t ih =>
    have h1 := ih h.tail
    have h2 := h.head
    simp only [val, List.length_cons, Nat.pow_succ]
    omega
theorem val_zeros (n : Nat) : val (List.replicate n 0) = 0 := by
  induction n with
  | zero => rfl
  | succ n ih => simp [List.replicate_succ, val, ih]
theorem val_zero {a : List Nat} (h : val a = 0) : ∀ d ∈ a, d = 0 := by
  induction a with
  | nil => intro d hd; cases hd
  | cons x t ih =>
    simp only [val] at h
    intro d hd
    rcases List.mem_cons.1 hd with rfl | hd
    · omega
    · exact ih (by omega) d hd
/-- two lists of digits of one length and one number are one -/
theorem val_inj_len {a b : List Nat} (ha : Dig a) (hb : Dig b) (hl : a.length = b.length) (h : val a = val b) : a = b := by
  induction a generalizing b with
  | nil => cases b with
    | nil => rfl
    | cons _ _ => simp at hl
  | cons x t ih => cases b with
    | nil => simp at hl
    | cons y u =>
      simp only [val] at h
      have h1 := ha.head
      have h2 := hb.head
      have hx : x = y := by omega
      subst hx
      rw [ih ha.tail hb.tail (by simpa using hl) (by omega)]

/-- the last digit isn't 0 -/
def Top (ds : List Nat) : Prop := ∀ h : ds ≠ [], ds.getLast h ≠ 0
theorem Top.nil : Top [] := fun h => absurd rfl h
theorem top_ge {a : List Nat} (h : Top a) (hn : a ≠ []) : 1000000000 ^ (a.length - 1) ≤ val a := by
  have e := List.dropLast_concat_getLast hn
  have hl : a.getLast hn ≠ 0 := h hn
  rw [← e, val_snoc]
  simp only [List.length_append, List.length_dropLast, List.length_cons, List.length_nil, Nat.zero_add, Nat.add_sub_cancel]
  have : 1000000000 ^ (a.length - 1) * 1 ≤ 1000000000 ^ (a.length - 1) * a.getLast hn := Nat.mul_le_mul_left _ (by omega)
  omega
theorem pow_mono {m n : Nat} (h : m ≤ n) : 1000000000 ^ m ≤ 1000000000 ^ n := Nat.pow_le_pow_right (by omega) h
theorem top_len {a : List Nat} (h : Top a) {m : Nat} (hm : val a < 1000000000 ^ m) : a.length ≤ m := by
  rcases Nat.lt_or_ge m a.length with hlt | hge
  · have hn : a ≠ [] := fun e => by subst e; simp at hlt
    have h1 := top_ge h hn
    have h2 : 1000000000 ^ m ≤ 1000000000 ^ (a.length - 1) := pow_mono (by omega)
    omega
  · exact hge
theorem val_inj {a b : List Nat} (ha : Dig a) (hb : Dig b) (ta : Top a) (tb : Top b) (h : val a = val b) : a = b := by
  refine val_inj_len ha hb ?_ h
  have h1 := top_len ta (m := b.length) (by rw [h]; exact val_lt hb)
  have h2 := top_len tb (m := a.length) (by rw [← h]; exact val_lt ha)
  omega
theorem top_short {a b : List Nat} (ha : Dig a) (tb : Top b) (hl : a.length < b.length) : val a < val b := by
  have hn : b ≠ [] := fun e => by subst e; simp at hl
  have h1 := val_lt ha
  have h2 := top_ge tb hn
  have h3 : 1000000000 ^ a.length ≤ 1000000000 ^ (b.length - 1) := pow_mono (by omega)
  omega
/-- where all digits behind k are one, digit k tells which is less -/
theorem val_at {a b : List Nat} (ha : Dig a) (k : Nat) (hka : k < a.length) (hkb : k < b.length) (hd : a.drop (k + 1) = b.drop (k + 1)) (h : a[k] < b[k]) : val a < val b := by
  have ea : a = a.take k ++ a[k] :: a.drop (k + 1) := by simp
  have eb : b = b.take k ++ b[k] :: b.drop (k + 1) := by simp
  have va : val a = val (a.take k) + 1000000000 ^ k * (a[k] + 1000000000 * val (a.drop (k + 1))) := by
    conv => lhs; rw [ea]
    rw [val_append, List.length_take, Nat.min_eq_left (by omega)]; rfl
  have vb : val b = val (b.take k) + 1000000000 ^ k * (b[k] + 1000000000 * val (b.drop (k + 1))) := by
    conv => lhs; rw [eb]
    rw [val_append, List.length_take, Nat.min_eq_left (by omega)]; rfl
  have l1 := val_lt (ha.take k)
  rw [List.length_take, Nat.min_eq_left (by omega)] at l1
  rw [va, vb, hd]
  have : 1000000000 ^ k * (a[k] + 1 + 1000000000 * val (b.drop (k + 1))) ≤ 1000000000 ^ k * (b[k] + 1000000000 * val (b.drop (k + 1))) := Nat.mul_le_mul_left _ (by omega)
  have e2 : 1000000000 ^ k * (a[k] + 1 + 1000000000 * val (b.drop (k + 1))) = 1000000000 ^ k * (a[k] + 1000000000 * val (b.drop (k + 1))) + 1000000000 ^ k := by
    rw [show a[k] + 1 + 1000000000 * val (b.drop (k + 1)) = (a[k] + 1000000000 * val (b.drop (k + 1))) + 1 by omega, Nat.mul_add, Nat.mul_one]
  omega

/-- the number of a sign and digits -/
def zval (neg : Bool) (ds : List Nat) : Int := if neg then -(val ds : Int) else (val ds : Int)

/-- the order of two numbers, as -1, 0, 1 -/
def cmpN (a b : Nat) : Int := if a < b then -1 else if b < a then 1 else 0
def cmpZ (a b : Int) : Int := if a < b then -1 else if b < a then 1 else 0
theorem cmpN_lt {a b : Nat} (h : a < b) : cmpN a b = -1 := by unfold cmpN; rw [if_pos h]
theorem cmpN_gt {a b : Nat} (h : b < a) : cmpN a b = 1 := by unfold cmpN; rw [if_neg (by omega), if_pos h]
theorem cmpN_eq {a b : Nat} (h : a = b) : cmpN a b = 0 := by unfold cmpN; rw [if_neg (by omega), if_neg (by omega)]
end Go.Proofs.YtgmnpajecpjklaaDoor.wh
