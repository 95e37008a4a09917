/- Float64 as words: products, quotients and sums are no NaN where they are valid, an infinite one stays so, and twice a number that is neither 0 nor infinite is another one. Plain mathematics. -/
import Derived.Test.YtpikbhcjgcbdfaaFl
namespace Go.Proofs.Ytpikbhcjgcbdfaa.sc
open Ieee

theorem rg_word (s : Bool) {r : Nat} (h : r ≤ I) : rg (double.word s r) = r := by
  have hI : I = 9218868437227405312 := rfl
  unfold rg Format.word
  rw [sw_eq]
  cases s <;> simp <;> omega
theorem sg_word (s : Bool) {r : Nat} (h : r ≤ I) : sg (double.word s r) = s := by
  have hI : I = 9218868437227405312 := rfl
  unfold sg Format.word
  rw [sw_eq]
  cases s
  · simp; omega
  · simp; omega
theorem nearest_rg (s : Bool) (m : Nat) (p : Int) : rg (double.nearest s m p) ≤ I ∧ sg (double.nearest s m p) = s := by
  unfold Format.nearest
  dsimp only
  split
  · exact ⟨by rw [rg_word _ (Nat.zero_le _)]; exact Nat.zero_le _, sg_word _ (Nat.zero_le _)⟩
  · have h : ∀ r, min r double.infRung ≤ I := fun r => by rw [inf_eq]; exact Nat.min_le_right _ _
    exact ⟨by rw [rg_word _ (h _)]; exact h _, sg_word _ (h _)⟩
theorem write_rg {d : Datum} (h : d.isNaN = false) : rg (double.write d) ≤ I := by
  cases d with
  | number s m p => exact (nearest_rg s m p).1
  | infinity s => rw [Format.write, rg_word _ (by rw [inf_eq]; exact Nat.le_refl _)]; rw [inf_eq]; exact Nat.le_refl _
  | nan s t => cases h
theorem sum_real {a b d : Datum} (h : a.sum b = some d) : d.isNaN = false := by
  cases a <;> cases b <;> simp [Datum.sum] at h
  · rw [← h]; rfl
  · rw [← h]; rfl
  · rw [← h]; rfl
  · rw [← h.2]; rfl
theorem product_real {a b d : Datum} (h : a.product b = some d) : d.isNaN = false := by
  cases a <;> cases b <;> simp [Datum.product] at h
  · rw [← h]; rfl
  · rw [← h.2]; rfl
  · rw [← h.2]; rfl
  · rw [← h]; rfl
theorem quotient_real {n : Nat} {a b d : Datum} (h : a.quotient n b = some d) : d.isNaN = false := by
  cases a <;> cases b <;> simp [Datum.quotient] at h
  · split at h
    · split at h
      · cases h
      · cases h; rfl
    · cases h; rfl
  · rw [← h]; rfl
  · rw [← h]; rfl
theorem add_rg {x y z : Nat} (h : double.add x y = some z) : rg z ≤ I := by
  unfold Format.add at h
  cases e : (double.read x).sum (double.read y) with
  | none => rw [e] at h; cases h
  | some d => rw [e] at h; cases h; exact write_rg (sum_real e)
theorem mul_rg {x y z : Nat} (h : double.mul x y = some z) : rg z ≤ I := by
  unfold Format.mul at h
  cases e : (double.read x).product (double.read y) with
  | none => rw [e] at h; cases h
  | some d => rw [e] at h; cases h; exact write_rg (product_real e)
theorem div_rg {x y z : Nat} (h : double.div x y = some z) : rg z ≤ I := by
  unfold Format.div at h
  cases e : (double.read x).quotient (double.fractionBits + 2) (double.read y) with
  | none => rw [e] at h; cases h
  | some d => rw [e] at h; cases h; exact write_rg (quotient_real e)
theorem width_eq : 2 ^ double.width = 18446744073709551616 := by decide
theorem add_lt {x y z : Nat} (h : double.add x y = some z) : z < 18446744073709551616 := width_eq ▸ double.add_lt h
theorem mul_lt {x y z : Nat} (h : double.mul x y = some z) : z < 18446744073709551616 := width_eq ▸ double.mul_lt h
theorem div_lt {x y z : Nat} (h : double.div x y = some z) : z < 18446744073709551616 := width_eq ▸ double.div_lt h

theorem read_pos {x : Nat} (h : rg x < I) (hz : 0 < rg x) : ∃ m k : Nat, 0 < m ∧ double.read x = .number (sg x) m (-1074 + (k : Int)) := by
  obtain ⟨m, k, e, v⟩ := read_num h
  refine ⟨m, k, ?_, e⟩
  have := V_mono hz
  rcases Nat.eq_zero_or_pos m with h0 | h0
  · subst h0; rw [V_zero] at this; omega
  · exact h0

/-- 1e-100 -/
abbrev M : Nat := 3100852626170556990
theorem mul_small {x : Nat} (h : rg x ≤ I) {c : Nat} (hc : rg c < I) (hc0 : 0 < rg c) (hs : sg c = false) : ∃ z, double.mul x c = some z ∧ rg z ≤ I ∧ z < 18446744073709551616 ∧ (rg x = I → x < 18446744073709551616 → z = x) := by
  obtain ⟨n, j, hn, ec⟩ := read_pos hc hc0
  by_cases hx : rg x < I
  · obtain ⟨m, k, ex, _⟩ := read_num hx
    have e : double.mul x c = some (double.write (.number (sg x ^^ sg c) (m * n) (-1074 + (k : Int) + (-1074 + (j : Int))))) := by
      unfold Format.mul; rw [ex, ec]; rfl
    exact ⟨_, e, mul_rg e, mul_lt e, fun h' => by omega⟩
  · have ex := read_inf (x := x) (by omega)
    have e : double.mul x c = some (double.write (.infinity (sg x ^^ sg c))) := by
      unfold Format.mul; rw [ex, ec]; simp [Datum.product, Nat.ne_of_gt hn]
    refine ⟨_, e, mul_rg e, mul_lt e, fun h' h2 => ?_⟩
    refine word_inj (mul_lt e) h2 ?_ ?_
    · rw [Format.write, sg_word _ (by rw [inf_eq]; exact Nat.le_refl _), hs]; simp
    · rw [Format.write, rg_word _ (by rw [inf_eq]; exact Nat.le_refl _), inf_eq, h']
theorem div_small {x : Nat} (h : rg x ≤ I) {c : Nat} (hc : rg c < I) (hc0 : 0 < rg c) : ∃ z, double.div x c = some z ∧ rg z ≤ I ∧ z < 18446744073709551616 := by
  obtain ⟨n, j, hn, ec⟩ := read_pos hc hc0
  have : ∃ z, double.div x c = some z := by
    by_cases hx : rg x < I
    · obtain ⟨m, k, ex, _⟩ := read_num hx
      unfold Format.div
      rw [ex, ec]
      simp [Datum.quotient, Nat.ne_of_gt hn]
    · have ex := read_inf (x := x) (by omega)
      unfold Format.div
      rw [ex, ec]
      simp [Datum.quotient]
  obtain ⟨z, e⟩ := this
  exact ⟨z, e, div_rg e, div_lt e⟩
theorem cut_exact (m a : Nat) (s : Bool) (L : Nat) (ha : a ≤ L + 2) (hl : (m * 2 ^ a).log2 = L) : Toward.even.cut s (m * 2 ^ a) a = m := by
  unfold Toward.cut
  simp only [hl, Nat.min_eq_left ha, Nat.shiftLeft_eq, Nat.one_mul]
  rw [Nat.mul_div_cancel _ (Nat.two_pow_pos a), Nat.mul_mod_left]
  have h2 : (2 ^ a == 2 * 0) = false := by
    have := Nat.two_pow_pos a
    rw [beq_eq_false_iff_ne]; omega
  simp [h2]
theorem cut_exact' {n m a : Nat} {s : Bool} {L : Nat} (e : n = m * 2 ^ a) (hl : n.log2 = L) (ha : a ≤ L + 2) : Toward.even.cut s n a = m := by
  subst e
  exact cut_exact m a s L ha hl
/-- 2.0 -/
abbrev two : Nat := 4611686018427387904
theorem read_two : double.read two = .number false 4503599627370496 (-51) := by decide
theorem log_at {n k : Nat} (h1 : 2 ^ k ≤ n) (h2 : n < 2 ^ (k + 1)) : n.log2 = k := by
  have : n ≠ 0 := by have := Nat.two_pow_pos k; omega
  exact (Nat.log2_eq_iff this).2 ⟨h1, h2⟩
theorem p52 : (2 : Nat) ^ 52 = 4503599627370496 := by decide
theorem p51 : (2 : Nat) ^ 51 = 2251799813685248 := by decide
theorem p53 : (2 : Nat) ^ 53 = 9007199254740992 := by decide
theorem log_norm {B m : Nat} (hB : B = 2 ^ 52) (h1 : 2 ^ 52 ≤ m) (h2 : m < 2 ^ 53) : (B * m).log2 = 104 := by
  subst hB
  refine log_at ?_ ?_
  · rw [show 104 = 52 + 52 from rfl, Nat.pow_add]; exact Nat.mul_le_mul_left _ h1
  · rw [show 104 + 1 = 52 + 53 from rfl, Nat.pow_add]; exact Nat.mul_lt_mul_of_pos_left h2 (Nat.two_pow_pos _)
theorem log_sub {B m L : Nat} (hB : B = 2 ^ 52) (h1 : 2 ^ L ≤ m) (h2 : m < 2 ^ (L + 1)) : (B * m).log2 = 52 + L := by
  subst hB
  refine log_at ?_ ?_
  · rw [Nat.pow_add]; exact Nat.mul_le_mul_left _ h1
  · rw [Nat.add_assoc, Nat.pow_add]; exact Nat.mul_lt_mul_of_pos_left h2 (Nat.two_pow_pos _)
theorem half_at {B r : Nat} (hB : B = 2 ^ 52) : B * r = (2 * r) * 2 ^ 51 := by
  subst hB
  rw [show 52 = 51 + 1 from rfl, Nat.pow_succ, Nat.mul_assoc, Nat.mul_comm]
theorem whole_at {B m : Nat} (hB : B = 2 ^ 52) : B * m = m * 2 ^ 52 := by rw [hB, Nat.mul_comm]
theorem up_ne {k r B X : Nat} (hB : 0 < B) (hk : r / B - 1 = k) (h : B ≤ r) (hX : r < X) : min ((k + 1) * B + (B + r % B)) X ≠ r := by
  have e : r = r / B * B + r % B := by rw [Nat.mul_comm]; exact (Nat.div_add_mod r B).symm
  have h1 : 1 ≤ r / B := (Nat.one_le_div_iff hB).2 h
  have h2 : k + 1 = r / B := by omega
  rw [h2]
  generalize r / B * B = q at *
  omega
/-- twice a number that is neither 0 nor infinite is another one -/
theorem twice {x : Nat} (h : rg x < I) (hz : 0 < rg x) : ∃ z, double.mul two x = some z ∧ rg z ≤ I ∧ sg z = sg x ∧ rg z ≠ rg x := by
  have ex : ∃ m k : Nat, double.read x = .number (sg x) m (-1074 + (k : Int)) ∧ ((rg x < 4503599627370496 ∧ m = rg x ∧ k = 0) ∨ (4503599627370496 ≤ rg x ∧ m = 4503599627370496 + rg x % 4503599627370496 ∧ k = rg x / 4503599627370496 - 1)) := by
    unfold Format.read
    simp only [binade_eq, inf_eq, sw_eq, least_eq]
    change rg x < 9218868437227405312 at h
    change ∃ m k : Nat, (if rg x < _ then _ else if rg x < _ then _ else if rg x = _ then _ else _) = _ ∧ _
    by_cases h1 : rg x < 4503599627370496
    · rw [if_pos h1]
      exact ⟨rg x, 0, rfl, .inl ⟨h1, rfl, rfl⟩⟩
    · rw [if_neg h1, if_pos h]
      exact ⟨_, _, rfl, .inr ⟨by omega, rfl, rfl⟩⟩
  obtain ⟨m, k, e, hm⟩ := ex
  have em : double.mul two x = some (double.nearest (false ^^ sg x) (4503599627370496 * m) (-51 + (-1074 + (k : Int)))) := by
    unfold Format.mul; rw [read_two, e]; rfl
  refine ⟨_, em, (nearest_rg _ _ _).1, by rw [(nearest_rg _ _ _).2]; simp, ?_⟩
  have hfb : (double.fractionBits : Int) = 52 := by decide
  have hI : I = 9218868437227405312 := rfl
  rcases hm with ⟨hr, rfl, rfl⟩ | ⟨hr, rfl, rfl⟩
  · obtain ⟨L, hL, hL1, hL2⟩ : ∃ L, (rg x).log2 = L ∧ 2 ^ L ≤ rg x ∧ rg x < 2 ^ (L + 1) := ⟨_, rfl, ((Nat.log2_eq_iff (by omega)).1 rfl).1, ((Nat.log2_eq_iff (by omega)).1 rfl).2⟩
    have h52 : (2 : Nat) ^ 52 = 4503599627370496 := by decide
    have hL51 : L < 52 := (Nat.pow_lt_pow_iff_right (a := 2) (by omega)).1 (Nat.lt_of_le_of_lt hL1 (by rw [h52]; exact hr))
    have hlog : (4503599627370496 * rg x).log2 = 52 + L := log_sub p52.symm hL1 hL2
    unfold Format.nearest
    dsimp only
    rw [if_neg (by omega), hlog, least_eq, hfb, binade_eq, inf_eq]
    have e1 : max (-51 + (-1074 + ((0 : Nat) : Int)) + ((52 + L : Nat) : Int) - 52) (-1074) = -1074 := by omega
    rw [e1]
    have e2 : (-51 + (-1074 + ((0 : Nat) : Int)) - (-1074)).toNat = 0 := by omega
    have e3 : (-1074 - (-51 + (-1074 + ((0 : Nat) : Int)))).toNat = 51 := by omega
    rw [e2, e3, Nat.shiftLeft_zero]
    have e4 : 4503599627370496 * rg x = (2 * rg x) * 2 ^ 51 := half_at p52.symm
    rw [cut_exact' e4 hlog (by omega)]
    have e5 : ((-1074 : Int) - -1074).toNat = 0 := by decide
    rw [e5, rg_word _ (Nat.min_le_right _ _)]
    omega
  · have hmod := Nat.mod_lt (rg x) (show 0 < 4503599627370496 by omega)
    have hlog : (4503599627370496 * (4503599627370496 + rg x % 4503599627370496)).log2 = 104 := log_norm p52.symm (by rw [p52]; omega) (by rw [p53]; omega)
    unfold Format.nearest
    dsimp only
    rw [if_neg (by omega), hlog, least_eq, hfb, binade_eq, inf_eq]
    generalize hk : rg x / 4503599627370496 - 1 = k
    have e1 : max (-51 + (-1074 + (k : Int)) + ((104 : Nat) : Int) - 52) (-1074) = -1074 + (k : Int) + 1 := by omega
    rw [e1]
    have e2 : (-51 + (-1074 + (k : Int)) - (-1074 + (k : Int) + 1)).toNat = 0 := by omega
    have e3 : (-1074 + (k : Int) + 1 - (-51 + (-1074 + (k : Int)))).toNat = 52 := by omega
    rw [e2, e3, Nat.shiftLeft_zero]
    have e4 : 4503599627370496 * (4503599627370496 + rg x % 4503599627370496) = (4503599627370496 + rg x % 4503599627370496) * 2 ^ 52 := whole_at p52.symm
    rw [cut_exact' e4 hlog (by omega)]
    have e5 : (-1074 + (k : Int) + 1 - -1074).toNat = k + 1 := by omega
    rw [e5, rg_word _ (Nat.min_le_right _ _)]
    exact up_ne (by omega) hk hr h
end Go.Proofs.Ytpikbhcjgcbdfaa.sc
