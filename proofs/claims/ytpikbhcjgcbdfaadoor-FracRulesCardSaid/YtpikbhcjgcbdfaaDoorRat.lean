/- Fractions as pairs in lowest terms: what sums, products, quotients of them are. Plain mathematics. -/
import Derived.Test.YtpikbhcjgcbdfaaDoorWhA
namespace Go.Proofs.YtpikbhcjgcbdfaaDoor.wh
theorem rat_pos {a b : Int} (hb : 0 < b) (hg : Nat.gcd a.natAbs b.natAbs = 1) : (Rat.divInt a b).num = a ∧ ((Rat.divInt a b).den : Int) = b := by
  obtain ⟨d, rfl⟩ : ∃ d : Nat, b = (d : Int) := ⟨b.natAbs, by omega⟩
  have hd : d ≠ 0 := by omega
  have hc : a.natAbs.Coprime d := by simpa [Nat.Coprime] using hg
  have e := @Rat.mk_eq_divInt a d hd hc
  rw [← e]
  exact ⟨rfl, rfl⟩
theorem rat_neg {a b : Int} (hb : b < 0) (hg : Nat.gcd a.natAbs b.natAbs = 1) : (Rat.divInt a b).num = -a ∧ ((Rat.divInt a b).den : Int) = -b := by
  have e : Rat.divInt a b = Rat.divInt (-a) (-b) := (Rat.neg_divInt_neg a b).symm
  rw [e]
  exact rat_pos (by omega) (by simpa using hg)
/-- what divides is divided out -/
theorem coprime_quo {a : Int} {n d : Nat} (hd : (d : Int) ∣ a) (h : a.natAbs.Coprime n) : (a / (d : Int)).natAbs.Coprime n := by
  obtain ⟨c, rfl⟩ := hd
  rcases Nat.eq_zero_or_pos d with h0 | h0
  · subst h0
    simpa using h
  · rw [Int.mul_ediv_cancel_left _ (by omega)]
    rw [Int.natAbs_mul] at h
    exact Nat.Coprime.coprime_dvd_left (Nat.dvd_mul_left _ _) h
theorem coprime_sym {m n : Nat} (h : m.Coprime n) : n.Coprime m := h.symm
theorem cop_dvd {m n k : Nat} (h : m.Coprime n) (hk : k ∣ n) : m.Coprime k := Nat.Coprime.coprime_dvd_right hk h
/-- products -/
theorem mul_parts (x y : Rat) (down up : Nat) (hd : down = Nat.gcd x.num.natAbs y.den) (hu : up = Nat.gcd y.num.natAbs x.den) :
    Nat.gcd (x.num / (down : Int) * (y.num / (up : Int))).natAbs (((x.den : Int) / (up : Int)) * ((y.den : Int) / (down : Int))).natAbs = 1 ∧ Rat.divInt (x.num / (down : Int) * (y.num / (up : Int))) (((x.den : Int) / (up : Int)) * ((y.den : Int) / (down : Int))) = x * y ∧ 0 < ((x.den : Int) / (up : Int)) * ((y.den : Int) / (down : Int)) := by
  have px := x.den_pos
  have py := y.den_pos
  have hd0 : 0 < down := by rw [hd]; exact Nat.gcd_pos_of_pos_right _ py
  have hu0 : 0 < up := by rw [hu]; exact Nat.gcd_pos_of_pos_right _ px
  have d1 : down ∣ x.num.natAbs := by rw [hd]; exact Nat.gcd_dvd_left _ _
  have d2 : down ∣ y.den := by rw [hd]; exact Nat.gcd_dvd_right _ _
  have u1 : up ∣ y.num.natAbs := by rw [hu]; exact Nat.gcd_dvd_left _ _
  have u2 : up ∣ x.den := by rw [hu]; exact Nat.gcd_dvd_right _ _
  obtain ⟨a, ha⟩ := Int.ofNat_dvd_left.2 d1
  obtain ⟨b, hb⟩ := Int.ofNat_dvd_left.2 u1
  obtain ⟨f, hf⟩ := d2
  obtain ⟨e, he⟩ := u2
  have ea : x.num / (down : Int) = a := by rw [ha, Int.mul_ediv_cancel_left _ (by omega)]
  have eb : y.num / (up : Int) = b := by rw [hb, Int.mul_ediv_cancel_left _ (by omega)]
  have ef : (y.den : Int) / (down : Int) = f := by rw [hf, Int.natCast_mul, Int.mul_ediv_cancel_left _ (by omega)]
  have ee : (x.den : Int) / (up : Int) = e := by rw [he, Int.natCast_mul, Int.mul_ediv_cancel_left _ (by omega)]
  rw [ea, eb, ef, ee]
  have ha' : x.num.natAbs = down * a.natAbs := by rw [ha, Int.natAbs_mul]; simp
  have hb' : y.num.natAbs = up * b.natAbs := by rw [hb, Int.natAbs_mul]; simp
  have rx := x.reduced
  have ry := y.reduced
  rw [ha', he] at rx
  rw [hb', hf] at ry
  have c1 : a.natAbs.Coprime e := Nat.Coprime.coprime_dvd_left (Nat.dvd_mul_left _ _) (cop_dvd rx (Nat.dvd_mul_left _ _))
  have c2 : b.natAbs.Coprime f := Nat.Coprime.coprime_dvd_left (Nat.dvd_mul_left _ _) (cop_dvd ry (Nat.dvd_mul_left _ _))
  have c3 : a.natAbs.Coprime f := by
    have h := Nat.coprime_div_gcd_div_gcd (m := x.num.natAbs) (n := y.den) (by rw [← hd]; exact hd0)
    rw [← hd, ha', hf, Nat.mul_div_cancel_left _ hd0, Nat.mul_div_cancel_left _ hd0] at h
    exact h
  have c4 : b.natAbs.Coprime e := by
    have h := Nat.coprime_div_gcd_div_gcd (m := y.num.natAbs) (n := x.den) (by rw [← hu]; exact hu0)
    rw [← hu, hb', he, Nat.mul_div_cancel_left _ hu0, Nat.mul_div_cancel_left _ hu0] at h
    exact h
  have he0 : 0 < e := by
    rcases Nat.eq_zero_or_pos e with h | h
    · subst h; simp at he; omega
    · exact h
  have hf0 : 0 < f := by
    rcases Nat.eq_zero_or_pos f with h | h
    · subst h; simp at hf; omega
    · exact h
  refine ⟨?_, ?_, ?_⟩
  · rw [Int.natAbs_mul, ← Int.natCast_mul, Int.natAbs_natCast]
    exact Nat.Coprime.mul_right (Nat.Coprime.mul_left c1 c4) (Nat.Coprime.mul_left c3 c2)
  · conv => rhs; rw [← Rat.num_divInt_den x, ← Rat.num_divInt_den y, Rat.divInt_mul_divInt]
    rw [Rat.divInt_eq_divInt_iff (by have := Nat.mul_pos he0 hf0; rw [← Int.natCast_mul]; omega) (by have := Nat.mul_pos px py; rw [← Int.natCast_mul]; omega)]
    rw [ha, hb, hf, he]
    simp only [Int.natCast_mul]
    grind
  · have := Nat.mul_pos he0 hf0
    rw [← Int.natCast_mul]
    omega
/-- sums -/
theorem add_parts (x y : Rat) (g : Nat) (hg : g = Nat.gcd x.den y.den) (o : Int) (ho : o = x.num * ((y.den : Int) / (g : Int)) + y.num * ((x.den : Int) / (g : Int))) (k : Nat) (hk : k = Nat.gcd o.natAbs g) :
    Nat.gcd (o / (k : Int)).natAbs (((x.den : Int) / (g : Int)) * ((y.den : Int) / (k : Int))).natAbs = 1 ∧ Rat.divInt (o / (k : Int)) (((x.den : Int) / (g : Int)) * ((y.den : Int) / (k : Int))) = x + y ∧ 0 < ((x.den : Int) / (g : Int)) * ((y.den : Int) / (k : Int)) := by
  have px := x.den_pos
  have py := y.den_pos
  have hg0 : 0 < g := by rw [hg]; exact Nat.gcd_pos_of_pos_right _ py
  have g1 : g ∣ x.den := by rw [hg]; exact Nat.gcd_dvd_left _ _
  have g2 : g ∣ y.den := by rw [hg]; exact Nat.gcd_dvd_right _ _
  have hk0 : 0 < k := by rw [hk]; exact Nat.gcd_pos_of_pos_right _ hg0
  have k1 : k ∣ o.natAbs := by rw [hk]; exact Nat.gcd_dvd_left _ _
  have k2 : k ∣ g := by rw [hk]; exact Nat.gcd_dvd_right _ _
  obtain ⟨e, he⟩ := g1
  obtain ⟨f, hf⟩ := g2
  obtain ⟨c, hc⟩ := k2
  obtain ⟨t, ht⟩ := Int.ofNat_dvd_left.2 k1
  have ef : (y.den : Int) / (g : Int) = f := by rw [hf, Int.natCast_mul, Int.mul_ediv_cancel_left _ (by omega)]
  have ee : (x.den : Int) / (g : Int) = e := by rw [he, Int.natCast_mul, Int.mul_ediv_cancel_left _ (by omega)]
  have et : o / (k : Int) = t := by rw [ht, Int.mul_ediv_cancel_left _ (by omega)]
  have ek : (y.den : Int) / (k : Int) = c * f := by
    rw [hf, hc, Nat.mul_assoc, Int.natCast_mul, Int.mul_ediv_cancel_left _ (by omega), Int.natCast_mul]
  rw [ef, ee] at ho
  rw [ee, et, ek]
  have he0 : 0 < e := by
    rcases Nat.eq_zero_or_pos e with h | h
    · subst h; simp at he; omega
    · exact h
  have hf0 : 0 < f := by
    rcases Nat.eq_zero_or_pos f with h | h
    · subst h; simp at hf; omega
    · exact h
  have hc0 : 0 < c := by
    rcases Nat.eq_zero_or_pos c with h | h
    · subst h; simp at hc; omega
    · exact h
  have rx := x.reduced
  have ry := y.reduced
  rw [he] at rx
  rw [hf] at ry
  have cx : x.num.natAbs.Coprime e := cop_dvd rx (Nat.dvd_mul_left _ _)
  have cy : y.num.natAbs.Coprime f := cop_dvd ry (Nat.dvd_mul_left _ _)
  have cef : e.Coprime f := by
    have h := Nat.coprime_div_gcd_div_gcd (m := x.den) (n := y.den) (by rw [← hg]; exact hg0)
    rw [← hg, he, hf, Nat.mul_div_cancel_left _ hg0, Nat.mul_div_cancel_left _ hg0] at h
    exact h
  have oe : o.natAbs.Coprime e := by
    have h : (x.num * (f : Int)).natAbs.Coprime e := by
      rw [Int.natAbs_mul, Int.natAbs_natCast]
      exact Nat.Coprime.mul_left cx cef.symm
    have h2 : Int.gcd (x.num * (f : Int) + y.num * (e : Int)) (e : Int) = Int.gcd (x.num * (f : Int)) (e : Int) := Int.gcd_add_mul_right_left ..
    rw [← ho] at h2
    have h3 : Int.gcd (x.num * (f : Int)) (e : Int) = 1 := by unfold Int.gcd; rw [Int.natAbs_natCast]; exact h
    rw [h3] at h2
    unfold Int.gcd at h2
    rwa [Int.natAbs_natCast] at h2
  have of_ : o.natAbs.Coprime f := by
    have h : (y.num * (e : Int)).natAbs.Coprime f := by
      rw [Int.natAbs_mul, Int.natAbs_natCast]
      exact Nat.Coprime.mul_left cy cef
    have h2 : Int.gcd (y.num * (e : Int) + x.num * (f : Int)) (f : Int) = Int.gcd (y.num * (e : Int)) (f : Int) := Int.gcd_add_mul_right_left ..
    rw [Int.add_comm, ← ho] at h2
    have h3 : Int.gcd (y.num * (e : Int)) (f : Int) = 1 := by unfold Int.gcd; rw [Int.natAbs_natCast]; exact h
    rw [h3] at h2
    unfold Int.gcd at h2
    rwa [Int.natAbs_natCast] at h2
  have ht' : o.natAbs = k * t.natAbs := by rw [ht, Int.natAbs_mul]; simp
  have te : t.natAbs.Coprime e := by rw [ht'] at oe; exact Nat.Coprime.coprime_dvd_left (Nat.dvd_mul_left _ _) oe
  have tf : t.natAbs.Coprime f := by rw [ht'] at of_; exact Nat.Coprime.coprime_dvd_left (Nat.dvd_mul_left _ _) of_
  have tc : t.natAbs.Coprime c := by
    have h := Nat.coprime_div_gcd_div_gcd (m := o.natAbs) (n := g) (by rw [← hk]; exact hk0)
    rw [← hk, ht', hc, Nat.mul_div_cancel_left _ hk0, Nat.mul_div_cancel_left _ hk0] at h
    exact h
  have hp : 0 < e * (c * f) := Nat.mul_pos he0 (Nat.mul_pos hc0 hf0)
  have hcast : (e : Int) * ((c : Int) * (f : Int)) = ((e * (c * f) : Nat) : Int) := by simp
  refine ⟨?_, ?_, ?_⟩
  · rw [hcast, Int.natAbs_natCast]
    exact Nat.Coprime.mul_right te (Nat.Coprime.mul_right tc tf)
  · conv => rhs; rw [← Rat.num_divInt_den x, ← Rat.num_divInt_den y, Rat.divInt_add_divInt _ _ (by omega) (by omega)]
    rw [Rat.divInt_eq_divInt_iff (by rw [hcast]; omega) (by have := Nat.mul_pos px py; rw [← Int.natCast_mul]; omega)]
    have hx : (x.den : Int) = (e : Int) * (g : Int) := by rw [he]; simp [Int.mul_comm]
    have hy : (y.den : Int) = (f : Int) * (g : Int) := by rw [hf]; simp [Int.mul_comm]
    have hgk : (g : Int) = (c : Int) * (k : Int) := by rw [hc]; simp [Int.mul_comm]
    rw [hx, hy]
    grind
  · rw [hcast]; omega
/-- the order -/
theorem cmp_rat (x y : Rat) : (if x < y then (-1 : Int) else if y < x then 1 else 0) = (if x.num * (y.den : Int) < y.num * (x.den : Int) then (-1 : Int) else if y.num * (x.den : Int) < x.num * (y.den : Int) then 1 else 0) := by
  simp only [Rat.lt_iff]
end Go.Proofs.YtpikbhcjgcbdfaaDoor.wh
