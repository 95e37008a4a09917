/- Float64 as words: how two stand by their signs and rungs, that what comes of a product is no NaN, and what twice a number is. Plain mathematics. -/
import Derived.Laws.FloatArith
namespace Go.Proofs.Ytpikbhcjgcbdfaa.sc
open Ieee

abbrev D : Format := double
/-- the rung, the sign -/
def rg (x : Nat) : Nat := x % 9223372036854775808
def sg (x : Nat) : Bool := x / 9223372036854775808 % 2 == 1
/-- the value of a rung, in units of the least place -/
def V (r : Nat) : Nat := if r < 4503599627370496 then r else (4503599627370496 + r % 4503599627370496) * 2 ^ (r / 4503599627370496 - 1)
abbrev I : Nat := 9218868437227405312
def isN (x : Nat) : Bool := decide (I < rg x)

theorem V_succ (r : Nat) : V r < V (r + 1) := by
  unfold V
  by_cases h1 : r + 1 < 4503599627370496
  · rw [if_pos (by omega), if_pos h1]; omega
  · rw [if_neg h1]
    by_cases h2 : r < 4503599627370496
    · obtain rfl : r = 4503599627370495 := by omega
      decide
    · rw [if_neg h2]
      obtain ⟨q, hq⟩ : ∃ q, r / 4503599627370496 = q + 1 := ⟨r / 4503599627370496 - 1, by omega⟩
      by_cases h3 : r % 4503599627370496 + 1 < 4503599627370496
      · have e1 : (r + 1) / 4503599627370496 = q + 1 := by omega
        have e2 : (r + 1) % 4503599627370496 = r % 4503599627370496 + 1 := by omega
        rw [hq, e1, e2]
        exact Nat.mul_lt_mul_of_pos_right (by omega) (Nat.two_pow_pos _)
      · have e1 : (r + 1) / 4503599627370496 = q + 2 := by omega
        have e2 : (r + 1) % 4503599627370496 = 0 := by omega
        rw [hq, e1, e2, Nat.add_sub_cancel, show q + 2 - 1 = q + 1 by omega, Nat.pow_succ]
        have hp := Nat.two_pow_pos q
        have e3 : r % 4503599627370496 = 4503599627370495 := by omega
        rw [e3]
        generalize 2 ^ q = t at *
        omega
theorem V_mono {a b : Nat} (h : a < b) : V a < V b := by
  induction b with
  | zero => omega
  | succ b ih =>
    by_cases e : a = b
    · subst e; exact V_succ a
    · exact Nat.lt_trans (ih (by omega)) (V_succ b)
theorem V_lt {a b : Nat} : V a < V b ↔ a < b := ⟨fun h => by
  rcases Nat.lt_trichotomy a b with g | g | g
  · exact g
  · subst g; omega
  · have := V_mono g; omega, V_mono⟩
theorem V_zero : V 0 = 0 := rfl

theorem binade_eq : double.binade = 4503599627370496 := by decide
theorem inf_eq : double.infRung = 9218868437227405312 := by decide
theorem sw_eq : double.signWeight = 9223372036854775808 := by decide
theorem least_eq : double.leastPlace = -1074 := by decide

theorem read_num {x : Nat} (h : rg x < I) : ∃ m k : Nat, double.read x = .number (sg x) m (-1074 + (k : Int)) ∧ m * 2 ^ k = V (rg x) := by
  unfold Format.read
  simp only [binade_eq, inf_eq, sw_eq, least_eq]
  change rg x < 9218868437227405312 at h
  change ∃ m k : Nat, (if rg x < _ then _ else if rg x < _ then _ else if rg x = _ then _ else _) = _ ∧ _
  by_cases h1 : rg x < 4503599627370496
  · rw [if_pos h1]
    exact ⟨rg x, 0, rfl, by unfold V; rw [if_pos h1]; simp⟩
  · rw [if_neg h1, if_pos h]
    exact ⟨_, _, rfl, by unfold V; rw [if_neg h1]; rfl⟩
theorem read_inf {x : Nat} (h : rg x = I) : double.read x = .infinity (sg x) := by
  unfold Format.read
  simp only [binade_eq, inf_eq, sw_eq, least_eq]
  change rg x = 9218868437227405312 at h
  change (if rg x < _ then _ else if rg x < _ then _ else if rg x = _ then _ else _) = _
  rw [if_neg (by omega), if_neg (by omega), if_pos h]; rfl
theorem read_nan {x : Nat} (h : I < rg x) : ∃ t, double.read x = .nan (sg x) t := by
  unfold Format.read
  simp only [binade_eq, inf_eq, sw_eq, least_eq]
  change 9218868437227405312 < rg x at h
  change ∃ t, (if rg x < _ then _ else if rg x < _ then _ else if rg x = _ then _ else _) = _
  rw [if_neg (by omega), if_neg (by omega), if_neg (by omega)]
  exact ⟨_, rfl⟩

/-- the signed rung -/
def sr (x : Nat) : Int := if sg x then -(rg x : Int) else rg x

theorem shl_signed (s : Bool) (m n : Nat) : signed s m n = (if s then -1 else 1) * ((m * 2 ^ n : Nat) : Int) := by
  unfold signed
  rw [Nat.shiftLeft_eq]
  cases s <;> simp
theorem cmp_scale (a b : Int) (t : Nat) (ht : 0 < t) : compare (a * t) (b * t) = compare a b := by
  have hz : (0 : Int) < t := by omega
  rcases Int.lt_trichotomy a b with h | h | h
  · have h2 : a * t < b * t := Int.mul_lt_mul_of_pos_right h hz
    rw [Int.compare_eq_lt.2 h, Int.compare_eq_lt.2 h2]
  · subst h; rw [Int.compare_eq_eq.2 rfl, Int.compare_eq_eq.2 rfl]
  · have h2 : b * t < a * t := Int.mul_lt_mul_of_pos_right h hz
    rw [Int.compare_eq_gt.2 h, Int.compare_eq_gt.2 h2]
theorem cmp_V (s t : Bool) (a b : Nat) : compare ((if s then -1 else 1) * ((V a : Nat) : Int)) ((if t then -1 else 1) * ((V b : Nat) : Int)) = compare (if s then -(a : Int) else a) (if t then -(b : Int) else b) := by
  have hab := @V_lt a b
  have hba := @V_lt b a
  have h0a := @V_lt 0 a
  have h0b := @V_lt 0 b
  rw [V_zero] at h0a h0b
  generalize V a = va at *
  generalize V b = vb at *
  have key : ∀ (p q p' q' : Int), (p < q ↔ p' < q') → (q < p ↔ q' < p') → compare p q = compare p' q' := by
    intro p q p' q' h1 h2
    rcases Int.lt_trichotomy p q with h | h | h
    · rw [Int.compare_eq_lt.2 h, Int.compare_eq_lt.2 (h1.1 h)]
    · have e : p' = q' := by
        rcases Int.lt_trichotomy p' q' with g | g | g
        · have := h1.2 g; omega
        · exact g
        · have := h2.2 g; omega
      rw [Int.compare_eq_eq.2 h, Int.compare_eq_eq.2 e]
    · rw [Int.compare_eq_gt.2 h, Int.compare_eq_gt.2 (h2.1 h)]
  cases s <;> cases t <;> refine key _ _ _ _ ?_ ?_ <;> simp <;> omega
theorem order_num {x y : Nat} (hx : rg x < I) (hy : rg y < I) : double.order x y = some (compare (sr x) (sr y)) := by
  obtain ⟨m, k, ex, vx⟩ := read_num hx
  obtain ⟨n, l, ey, vy⟩ := read_num hy
  unfold Format.order
  rw [ex, ey]
  simp only [Datum.order, shl_signed]
  congr 1
  unfold sr
  rw [← cmp_V, ← vx, ← vy]
  rcases Nat.le_total k l with h | h
  · have e1 : min (-1074 + (k : Int)) (-1074 + (l : Int)) = -1074 + (k : Int) := by omega
    rw [e1]
    have e2 : (-1074 + (k : Int) - (-1074 + (k : Int))).toNat = 0 := by omega
    have e3 : (-1074 + (l : Int) - (-1074 + (k : Int))).toNat = l - k := by omega
    rw [e2, e3, ← cmp_scale _ _ (2 ^ k) (Nat.two_pow_pos _)]
    congr 1
    · rw [Int.mul_assoc, ← Int.natCast_mul, Nat.pow_zero, Nat.mul_one]
    · rw [Int.mul_assoc, ← Int.natCast_mul, Nat.mul_assoc, ← Nat.pow_add, Nat.sub_add_cancel h]
  · have e1 : min (-1074 + (k : Int)) (-1074 + (l : Int)) = -1074 + (l : Int) := by omega
    rw [e1]
    have e2 : (-1074 + (l : Int) - (-1074 + (l : Int))).toNat = 0 := by omega
    have e3 : (-1074 + (k : Int) - (-1074 + (l : Int))).toNat = k - l := by omega
    rw [e2, e3, ← cmp_scale _ _ (2 ^ l) (Nat.two_pow_pos _)]
    congr 1
    · rw [Int.mul_assoc, ← Int.natCast_mul, Nat.mul_assoc, ← Nat.pow_add, Nat.sub_add_cancel h]
    · rw [Int.mul_assoc, ← Int.natCast_mul, Nat.pow_zero, Nat.mul_one]
/-- how two that are no NaN stand to each other -/
theorem order_sr {x y : Nat} (hx : rg x ≤ I) (hy : rg y ≤ I) : double.order x y = some (compare (sr x) (sr y)) := by
  by_cases h1 : rg x < I <;> by_cases h2 : rg y < I
  · exact order_num h1 h2
  · obtain ⟨m, k, ex, _⟩ := read_num h1
    have ey := read_inf (x := y) (by omega)
    unfold Format.order
    rw [ex, ey]
    simp only [Datum.order]
    congr 1
    unfold sr
    cases hs : sg y <;> cases sg x <;> simp
    · symm; rw [Int.compare_eq_lt]; omega
    · symm; rw [Int.compare_eq_lt]; omega
    · symm; rw [Int.compare_eq_gt]; omega
    · symm; rw [Int.compare_eq_gt]; omega
  · obtain ⟨m, k, ey, _⟩ := read_num h2
    have ex := read_inf (x := x) (by omega)
    unfold Format.order
    rw [ex, ey]
    simp only [Datum.order]
    congr 1
    unfold sr
    cases hs : sg x <;> cases sg y <;> simp
    · symm; rw [Int.compare_eq_gt]; omega
    · symm; rw [Int.compare_eq_gt]; omega
    · symm; rw [Int.compare_eq_lt]; omega
    · symm; rw [Int.compare_eq_lt]; omega
  · have ex := read_inf (x := x) (by omega)
    have ey := read_inf (x := y) (by omega)
    have e1 : rg x = I := by omega
    have e2 : rg y = I := by omega
    unfold Format.order
    rw [ex, ey]
    simp only [Datum.order]
    congr 1
    unfold sr
    rw [e1, e2]
    cases sg x <;> cases sg y <;> decide
theorem order_nan_l {x y : Nat} (h : I < rg x) : double.order x y = none := by
  obtain ⟨t, e⟩ := read_nan h
  unfold Format.order
  rw [e]; rfl
theorem order_nan_r {x y : Nat} (h : I < rg y) : double.order x y = none := by
  obtain ⟨t, e⟩ := read_nan h
  unfold Format.order
  rw [e]
  cases double.read x <;> rfl
/-- the place of a score in the order of all -/
def key (x : Nat) : Int := if I < rg x then -18446744073709551616 else if sg x then -1 - (rg x : Int) else rg x

theorem rg_lt (x : Nat) : rg x < 9223372036854775808 := Nat.mod_lt _ (by omega)
theorem eq_self (x : Nat) : (double.order x x == some .eq) = !isN x := by
  unfold isN
  by_cases h : I < rg x
  · rw [order_nan_l h]; simp [h]
  · rw [order_sr (by omega) (by omega), Int.compare_eq_eq.2 rfl]; simp; omega
theorem lt_of {x y : Nat} : (double.order x y == some .lt) = (!isN x && (!isN y && decide (sr x < sr y))) := by
  unfold isN
  by_cases hx : I < rg x
  · rw [order_nan_l hx]; simp [hx]
  · by_cases hy : I < rg y
    · rw [order_nan_r hy]; simp [hy]
    · rw [order_sr (by omega) (by omega)]
      simp only [hx, hy, decide_false, Bool.not_false, Bool.true_and]
      by_cases h : sr x < sr y
      · rw [Int.compare_eq_lt.2 h]; simp [h]
      · have : compare (sr x) (sr y) ≠ .lt := fun e => h (Int.compare_eq_lt.1 e)
        simp [h, this]
theorem gt_of {x y : Nat} : (double.order x y == some .gt) = (!isN x && (!isN y && decide (sr y < sr x))) := by
  unfold isN
  by_cases hx : I < rg x
  · rw [order_nan_l hx]; simp [hx]
  · by_cases hy : I < rg y
    · rw [order_nan_r hy]; simp [hy]
    · rw [order_sr (by omega) (by omega)]
      simp only [hx, hy, decide_false, Bool.not_false, Bool.true_and]
      by_cases h : sr y < sr x
      · rw [Int.compare_eq_gt.2 h]; simp [h]
      · have : compare (sr x) (sr y) ≠ .gt := fun e => h (Int.compare_eq_gt.1 e)
        simp [h, this]
theorem eq_of {x y : Nat} : (double.order x y == some .eq) = (!isN x && (!isN y && decide (sr x = sr y))) := by
  unfold isN
  by_cases hx : I < rg x
  · rw [order_nan_l hx]; simp [hx]
  · by_cases hy : I < rg y
    · rw [order_nan_r hy]; simp [hy]
    · rw [order_sr (by omega) (by omega)]
      simp only [hx, hy, decide_false, Bool.not_false, Bool.true_and]
      by_cases h : sr x = sr y
      · rw [Int.compare_eq_eq.2 h]; simp [h]
      · have : compare (sr x) (sr y) ≠ .eq := fun e => h (Int.compare_eq_eq.1 e)
        simp [h, this]
theorem word_eq {x : Nat} (h : x < 18446744073709551616) : x = if sg x then 9223372036854775808 + rg x else rg x := by
  unfold sg rg
  have : x / 9223372036854775808 = 0 ∨ x / 9223372036854775808 = 1 := by omega
  rcases this with e | e
  · rw [e]; simp; omega
  · rw [e]; simp; omega
theorem word_inj {x y : Nat} (hx : x < 18446744073709551616) (hy : y < 18446744073709551616) (h1 : sg x = sg y) (h2 : rg x = rg y) : x = y := by
  rw [word_eq hx, word_eq hy, h1, h2]
theorem key_num {x : Nat} (h : rg x ≤ I) : key x = if sg x then -1 - (rg x : Int) else rg x := by unfold key; rw [if_neg (by omega)]
theorem key_nan {x : Nat} (h : I < rg x) : key x = -18446744073709551616 := by unfold key; rw [if_pos h]
theorem key_low {x : Nat} (h : rg x ≤ I) : -18446744073709551616 < key x := by
  have := rg_lt x
  rw [key_num h]
  split <;> omega
theorem key_inj {x y : Nat} (hx : x < 18446744073709551616) (hy : y < 18446744073709551616) (h : key x = key y) (hn : isN x = false) : x = y := by
  have hn : ¬ I < rg x := by simpa [isN] using hn
  by_cases hm : I < rg y
  · have := key_low (x := x) (by omega)
    rw [key_nan hm] at h
    omega
  · rw [key_num (by omega), key_num (by omega)] at h
    refine word_inj hx hy ?_ ?_
    · cases e1 : sg x <;> cases e2 : sg y <;> first | rfl | (rw [e1, e2] at h; simp at h; omega)
    · cases e1 : sg x <;> cases e2 : sg y <;> (rw [e1, e2] at h; simp at h; omega)
/-- the order of scores, in the program's words -/
theorem less_key (x y : Nat) : (if isN x then !isN y else ((double.order x y == some .lt) || ((double.order x y == some .eq) && (sg x && !sg y)))) = decide (key x < key y) := by
  rw [lt_of, eq_of]
  unfold isN
  by_cases hx : I < rg x
  · rw [key_nan hx]
    by_cases hy : I < rg y
    · rw [key_nan hy]; simp [hx, hy]
    · have := key_low (x := y) (by omega)
      simp [hx, hy, this]
  · by_cases hy : I < rg y
    · have := key_low (x := x) (by omega)
      rw [key_nan hy]
      simp [hx, hy]
      omega
    · rw [key_num (by omega), key_num (by omega)]
      unfold sr
      simp only [hx, hy, decide_false, Bool.not_false, Bool.true_and]
      cases sg x <;> cases sg y <;> (rw [Bool.eq_iff_iff]; simp; try omega)
def zeroW (x : Nat) : Bool := rg x == 0
theorem sr_zero : sr 0 = 0 := by decide
theorem isN_zero : isN 0 = false := by decide
theorem eq_zero {x : Nat} : (double.order x 0 == some .eq) = (rg x == 0) := by
  rw [eq_of, isN_zero, sr_zero]
  unfold isN sr
  by_cases h : I < rg x
  · simp [h]; omega
  · cases sg x <;> simp [h] <;> (rw [Bool.eq_iff_iff]; simp)
theorem lt_zero {x : Nat} : (double.order x 0 == some .lt) = (!isN x && (sg x && rg x != 0)) := by
  rw [lt_of, isN_zero, sr_zero]
  unfold isN sr
  by_cases h : I < rg x
  · simp [h]
  · cases sg x <;> simp [h] <;> (rw [Bool.eq_iff_iff]; simp; omega)
/-- the rank of a score, by the document -/
def rk (x : Nat) : Int := if isN x then 0 else if (sg x && rg x != 0) then 1 else if rg x = 0 then (if sg x then 2 else 3) else 4
theorem rk_key (x y : Nat) : (if rk x = rk y then (double.order x y == some .lt) else decide (rk x < rk y)) = decide (key x < key y) := by
  rw [lt_of]
  unfold rk isN
  by_cases hx : I < rg x
  · rw [key_nan hx]
    by_cases hy : I < rg y
    · rw [key_nan hy]; simp [hx, hy]
    · have := key_low (x := y) (by omega)
      simp only [hx, hy, this, decide_true, decide_false, Bool.not_true, Bool.false_and, if_true]
      cases sg y <;> by_cases zy : rg y = 0 <;> simp [zy]
  · by_cases hy : I < rg y
    · have := key_low (x := x) (by omega)
      rw [key_nan hy]
      simp [hx, hy]
      split <;> (try split) <;> (try split) <;> simp <;> omega
    · rw [key_num (by omega), key_num (by omega)]
      unfold sr
      simp only [hx, hy, decide_false, Bool.not_false, Bool.true_and]
      by_cases zx : rg x = 0 <;> by_cases zy : rg y = 0 <;> cases sg x <;> cases sg y <;> simp [zx, zy] <;> omega
end Go.Proofs.Ytpikbhcjgcbdfaa.sc
