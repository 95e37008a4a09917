/- Infinite scores, great ones; the document's table made. -/
import Derived.Test.YtpikbhcjgcbdfaaSg
namespace Go.Proofs.Ytpikbhcjgcbdfaa.sc
open Go.RowKit

def infB (x : Nat) : Bool := decide (rg x = I)
theorem twice_inf {x : Nat} (h : rg x = I) (hx : x < 18446744073709551616) : Ieee.double.mul two x = some x := by
  have e : Ieee.double.mul two x = some (Ieee.double.write (.infinity (sg x))) := by
    unfold Ieee.Format.mul
    rw [read_two, read_inf h]
    show some (Ieee.double.write (.infinity (sg x ^^ false))) = _
    rw [Bool.xor_false]
  rw [e]
  congr 1
  refine word_inj (mul_lt e) hx ?_ ?_
  · rw [Ieee.Format.write, sg_word _ (by rw [inf_eq]; exact Nat.le_refl _)]
  · rw [Ieee.Format.write, rg_word _ (by rw [inf_eq]; exact Nat.le_refl _), inf_eq, h]
theorem two_any {x : Nat} (hx : x < 18446744073709551616) (hn : isN x = false) (hz : rg x ≠ 0) : ∃ z, Ieee.double.mul two x = some z ∧ (Ieee.double.order x z == some .eq) = infB x := by
  have hr : rg x ≤ I := by
    have : ¬ I < rg x := by simpa [isN] using hn
    omega
  by_cases hi : rg x = I
  · refine ⟨x, twice_inf hi hx, ?_⟩
    rw [eq_self, hn]
    unfold infB
    simp [hi]
  · obtain ⟨z, e, h1, h2, h3⟩ := twice (x := x) (by omega) (by omega)
    refine ⟨z, e, ?_⟩
    rw [eq_of, hn]
    unfold infB sr
    rw [h2]
    have : ¬ (rg x : Int) = rg z := by omega
    cases sg x <;> simp [hi, this]
set_option maxRecDepth 100000 in
theorem refInf_any {x : Nat} (hx : x < 18446744073709551616) (w : World) :
    Calls Try.prog 31 #[.float .f64 x] w fun e w' => e = .returned (.bool (infB x)) ∧ w = w' := by
  have Z := Lib.hid (@eq_zero x)
  rw [← fmt_eq] at Z
  have S := Lib.hid (eq_self x)
  rw [← fmt_eq] at S
  cases h1 : (FloatKind.f64.format.order x x == some Ordering.eq)
  · have R : Hid (infB x = false) := Lib.hid (by
      have := S.out
      rw [h1] at this
      have hn : isN x = true := by simpa using this.symm
      have hr : I < rg x := by simpa [isN] using hn
      unfold infB
      simp
      omega)
    go_enter Try.func31, Try.ntmps31
    go_wp2
    go_ret
    exact ⟨ret_bool R.out.symm, rfl⟩
  · have hn : isN x = false := by
      have := S.out
      rw [h1] at this
      simpa using this.symm
    cases h2 : (FloatKind.f64.format.order x 0 == some Ordering.eq)
    · have h3 : (FloatKind.f64.format.order x 0 != some Ordering.eq) = true := by rw [bne, h2]; rfl
      have hz : rg x ≠ 0 := by
        have := Z.out
        rw [h2] at this
        simpa using this.symm
      obtain ⟨z, hd, ho⟩ := two_any hx hn hz
      have HO := Lib.hid ho
      rw [← fmt_eq] at HO
      have HN := Lib.hid hn
      clear ho hz hn hx
      have hr := fun W => @run_float_arith Try.prog W .mul 22 .f64 4611686018427387904 x z hd
      clear hd
      go_enter Try.func31, Try.ntmps31
      go_wp2
      go_ret
      exact ⟨ret_bool HO.out, rfl⟩
    · have h3 : (FloatKind.f64.format.order x 0 != some Ordering.eq) = false := by rw [bne, h2]; rfl
      have R : Hid (infB x = false) := Lib.hid (by
        have := Z.out
        rw [h2] at this
        have hz : rg x = 0 := by simpa using this.symm
        unfold infB
        rw [hz]
        decide)
      go_enter Try.func31, Try.ntmps31
      go_wp2
      go_ret
      exact ⟨ret_bool R.out.symm, rfl⟩
/-- is it above 1e100? -/
def abvB (x : Nat) : Bool := FloatKind.f64.format.order x 6103021453049119613 == some Ordering.gt
theorem above_any (x : Nat) (w : World) :
    Calls Try.prog 28 #[.float .f64 x] w fun e w' => e = .returned (.bool (abvB x)) ∧ w = w' := by
  go_enter Try.func28, Try.ntmps28
  go_wp2
  go_ret
  exact ⟨rfl, rfl⟩
theorem abv_pos {x : Nat} (h : abvB x = true) : rg x ≤ I ∧ sg x = false := by
  unfold abvB at h
  rw [fmt_eq, gt_of] at h
  simp only [Bool.and_eq_true, Bool.not_eq_true', decide_eq_true_eq] at h
  obtain ⟨h1, _, h3⟩ := h
  refine ⟨?_, ?_⟩
  · have : ¬ I < rg x := by simpa [isN] using h1
    omega
  · have e : sr 6103021453049119613 = 6103021453049119613 := by decide
    rw [e] at h3
    unfold sr at h3
    cases hs : sg x
    · rfl
    · rw [hs] at h3; simp at h3; omega
theorem isinf_any {x : Nat} (h : abvB x = true) (w : World) :
    Calls Try.prog 29 #[.float .f64 x, .int .i64 1] w fun e w' => e = .returned (.bool (infB x)) ∧ w = w' := by
  have P := Lib.hid (abv_pos h)
  clear h
  go_enter Try.func29, Try.ntmps29
  go_wp2
  go_ret
  refine ⟨ret_bool ?_, rfl⟩
  obtain ⟨h1, h2⟩ := P.out
  rw [fmt_eq, gt_of]
  have e : sr 9218868437227405311 = 9218868437227405311 := by decide
  have e2 : isN 9218868437227405311 = false := by decide
  have hI : I = 9218868437227405312 := rfl
  have hn : isN x = false := by unfold isN; simp; omega
  rw [e, e2, hn]
  unfold infB sr
  rw [h2, Bool.eq_iff_iff]
  simp
  omega
/-- the document's table -/
theorem refMade (w : World) (m d : Nat) (d' : Nat) (e : decayOf d = d') : Made 35 m d w (.returned (.pointer (some ⟨w.heap.size + 1, 0, none⟩))) ((w.alloc (.cells (fls m (fun _ => 0)) 22)).alloc (.cells #[.slice (some ⟨w.heap.size, 0, none⟩) m m, .float .f64 4607182418800017408, .float .f64 d'] 35)) := by
  subst e
  refine ⟨w.heap.size + 1, w.heap.size, rfl, by omega, Nat.le_refl _, ⟨?_, (Blk.new w _ _).alloc _, by omega⟩, ((Below.refl _ _).alloc (Nat.le_refl _) _).alloc (by simp) _⟩
  have h := Blk.new (w.alloc (.cells (fls m (fun _ => 0)) 22)) 35 #[.slice (some ⟨w.heap.size, 0, none⟩) m m, .float .f64 4607182418800017408, .float .f64 (decayOf d)]
  simpa using h
set_option maxRecDepth 100000 in
theorem refNew_pos {m d : Nat} (hm : m ≤ 1048576) (w : World) :
    Calls Try.prog 8 #[.int .i64 (m : Int), .float .f64 d] w (Made 35 m d w) := by
  have hmk := fun W => run_make_fl (z := (m : Int)) (n := m) rfl hm W
  have h1 : ¬ ((m : Int) < 0) := by omega
  have h2 : (m : Int) ≤ 1048576 := by omega
  clear hm
  cases g1 : (FloatKind.f64.format.order d 0 == some Ordering.gt)
  · have E := Lib.hid (decay_no g1)
    go_enter Try.func8, Try.ntmps8
    go_wp2
    go_ret
    exact refMade _ _ _ _ E.out
  · cases g2 : (FloatKind.f64.format.order d 4607182418800017408 == some Ordering.lt)
    · have E := Lib.hid (decay_two g2)
      go_enter Try.func8, Try.ntmps8
      go_wp2
      go_ret
      exact refMade _ _ _ _ E.out
    · have E := Lib.hid (decay_yes g1 g2)
      go_enter Try.func8, Try.ntmps8
      go_wp2
      go_ret
      exact refMade _ _ _ _ E.out
set_option maxRecDepth 100000 in
theorem refNew_neg {n : Int} {d : Nat} (hn : n < 0) (w : World) :
    Calls Try.prog 8 #[.int .i64 n, .float .f64 d] w (Made 35 0 d w) := by
  have hmk := fun W => run_make_fl (z := 0) (n := 0) rfl (by omega) W
  cases g1 : (FloatKind.f64.format.order d 0 == some Ordering.gt)
  · have E := Lib.hid (decay_no g1)
    go_enter Try.func8, Try.ntmps8
    go_wp2
    go_ret
    exact refMade _ _ _ _ E.out
  · cases g2 : (FloatKind.f64.format.order d 4607182418800017408 == some Ordering.lt)
    · have E := Lib.hid (decay_two g2)
      go_enter Try.func8, Try.ntmps8
      go_wp2
      go_ret
      exact refMade _ _ _ _ E.out
    · have E := Lib.hid (decay_yes g1 g2)
      go_enter Try.func8, Try.ntmps8
      go_wp2
      go_ret
      exact refMade _ _ _ _ E.out
end Go.Proofs.Ytpikbhcjgcbdfaa.sc
