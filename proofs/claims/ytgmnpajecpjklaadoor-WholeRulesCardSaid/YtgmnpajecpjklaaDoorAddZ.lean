/- Package whole: Add, Neg. -/
import Derived.Test.YtgmnpajecpjklaaDoorMul
namespace Go.Proofs.YtgmnpajecpjklaaDoor.wh
open Go.RowKit

theorem sgn_add {nx : Bool} {xs ys : List Nat} {a b : Int} (hx : zval nx xs = a) (hy : zval nx ys = b) : sgn nx (val xs + val ys) = a + b := by
  subst hx hy
  cases nx <;> simp [sgn, zval] <;> omega
theorem sgn_sub {nx ny : Bool} {xs ys : List Nat} {a b : Int} (hx : zval nx xs = a) (hy : zval ny ys = b) (hn : nx ≠ ny) (hle : val ys ≤ val xs) : sgn nx (val xs - val ys) = a + b := by
  subst hx hy
  cases nx <;> cases ny <;> simp [sgn, zval] at hn ⊢ <;> omega
theorem sgn_neg {nx : Bool} {xs : List Nat} {a : Int} (hx : zval nx xs = a) : sgn (!nx) (val xs) = -a := by
  subst hx
  cases nx <;> simp [sgn, zval]

set_option maxRecDepth 100000 in
set_option maxHeartbeats 2000000 in
theorem add_any (v u : Value) (p q : Nat) (a b : Int) (w : World) (hp : p ≤ 900) (hq : q ≤ 900) (hx : IsInt w w.heap.size p v a) (hy : IsInt w w.heap.size q u b) :
    Calls Tryd.prog 13 #[v, u] w fun e w' => GivesZ w (max p q + 1) (a + b) e w' := by
  obtain ⟨nx, A, n, c, xs, rfl, hnp, CX, ZX⟩ := hx.cells
  obtain ⟨ny, B, m, d, ys, rfl, hmq, CY, ZY⟩ := hy.cells
  clear hx hy
  have HT : Hid (Three w w.heap.size nx A n c (w.heap.size + 1) ny B m d (w.heap.size + 2) (((w.alloc (.cells #[.bool nx, .slice A n c] 24)).alloc (.cells #[.bool ny, .slice B m d] 24)).alloc (.cells #[.bool false, .slice none 0 0] 24))) :=
    ⟨(((Below.refl _ _).alloc (Nat.le_refl _) _).alloc (by simp) _).alloc (by simp; omega) _, ((Box.new _ _ _ _ _).alloc _).alloc _, by have h := (Box.new (w.alloc (.cells #[.bool nx, .slice A n c] 24)) ny B m d).alloc (.cells #[.bool false, .slice none 0 0] 24); rwa [World.size_alloc] at h,
      ⟨false, none, 0, 0, by have h := Box.new ((w.alloc (.cells #[.bool nx, .slice A n c] 24)).alloc (.cells #[.bool ny, .slice B m d] 24)) false none 0 0; rwa [World.size_alloc, World.size_alloc] at h⟩, by omega⟩
  go_enter Tryd.func13, Tryd.ntmps13
  go_wp2
  go_region_held3 (fun w' => (w'.cell? ⟨w.heap.size, 0, none⟩ = some (.bool nx) ∧ w'.cell? ⟨w.heap.size, 1, none⟩ = some (.slice A n c) ∧ w'.cell? ⟨w.heap.size + 1, 0, none⟩ = some (.bool ny) ∧ w'.cell? ⟨w.heap.size + 1, 1, none⟩ = some (.slice B m d) ∧ w'.cell? ⟨w.heap.size + 2, 0, none⟩ = some (cellOf w' (w.heap.size + 2) 0) ∧ w'.cell? ⟨w.heap.size + 2, 1, none⟩ = some (cellOf w' (w.heap.size + 2) 1)) ∧ (w'.frozen? ⟨w.heap.size, 0, none⟩ = false ∧ w'.frozen? ⟨w.heap.size, 1, none⟩ = false ∧ w'.frozen? ⟨w.heap.size + 1, 0, none⟩ = false ∧ w'.frozen? ⟨w.heap.size + 1, 1, none⟩ = false ∧ w'.frozen? ⟨w.heap.size + 2, 0, none⟩ = false ∧ w'.frozen? ⟨w.heap.size + 2, 1, none⟩ = false) ∧ Hid (Three w (w.heap.size) nx A n c (w.heap.size + 1) ny B m d (w.heap.size + 2) w'))
    (first | (with_reducible exact HT.out.drew.all) | (with_reducible exact (Three.over hb (Three.get (by assumption))).all) | (with_reducible exact (Three.put1 (Three.get (by assumption)) _ _ _ _).all) | (with_reducible exact (Three.put2 (Three.get (by assumption)) _ _ _ _).all) | (with_reducible exact (Three.put3 (Three.get (by assumption)) _ _ _ _).all))
    (first
      | (go_at_call_of 34 A; refine (clean_cells CX.out (by omega) (Three.get (by assumption)).below).mono ?_; rintro e w1 ⟨rfl, hb⟩)
      | (go_at_call_of 34 B; refine (clean_cells CY.out (by omega) (Three.get (by assumption)).below).mono ?_; rintro e w1 ⟨rfl, hb⟩))
  generalize ((((w1.setCell ⟨w.heap.size, 0, none⟩ (.bool nx)).setCell ⟨w.heap.size, 1, none⟩ (.slice A n c)).setCell ⟨w.heap.size + 1, 0, none⟩ (.bool ny)).setCell ⟨w.heap.size + 1, 1, none⟩ (.slice B m d)) = W at *
  have HE : Hid (Three w w.heap.size nx A n c (w.heap.size + 1) ny B m d (w.heap.size + 2) W) := Three.get (by assumption)
  by_cases hs : nx = ny
  · subst hs
    go_wp2
    go_region_held3 (fun w' => (w'.cell? ⟨w.heap.size, 0, none⟩ = some (.bool nx) ∧ w'.cell? ⟨w.heap.size, 1, none⟩ = some (.slice A n c) ∧ w'.cell? ⟨w.heap.size + 1, 0, none⟩ = some (.bool nx) ∧ w'.cell? ⟨w.heap.size + 1, 1, none⟩ = some (.slice B m d) ∧ w'.cell? ⟨w.heap.size + 2, 0, none⟩ = some (cellOf w' (w.heap.size + 2) 0) ∧ w'.cell? ⟨w.heap.size + 2, 1, none⟩ = some (cellOf w' (w.heap.size + 2) 1)) ∧ (w'.frozen? ⟨w.heap.size, 0, none⟩ = false ∧ w'.frozen? ⟨w.heap.size, 1, none⟩ = false ∧ w'.frozen? ⟨w.heap.size + 1, 0, none⟩ = false ∧ w'.frozen? ⟨w.heap.size + 1, 1, none⟩ = false ∧ w'.frozen? ⟨w.heap.size + 2, 0, none⟩ = false ∧ w'.frozen? ⟨w.heap.size + 2, 1, none⟩ = false) ∧ Hid (Three w (w.heap.size) nx A n c (w.heap.size + 1) nx B m d (w.heap.size + 2) w'))
      (first | (with_reducible exact HE.out.drew.all) | (with_reducible exact (Three.over hb (Three.get (by assumption))).all) | (with_reducible exact (Three.put1 (Three.get (by assumption)) _ _ _ _).all) | (with_reducible exact (Three.put2 (Three.get (by assumption)) _ _ _ _).all) | (with_reducible exact (Three.put3 (Three.get (by assumption)) _ _ _ _).all))
      (first
        | (go_at_call 36; refine (sum_cells CX.out CY.out (by omega) (by omega) (Three.get (by assumption)).below).mono ?_; rintro e w2 ⟨A2, c2, rfl, hrow, hb⟩; have hb2 := hb)
        | (go_at_call 38; refine (signed_row _ A2 _ c2 _ _ (by omega) hrow.out).mono ?_; rintro e w3 ⟨neg3, A3, n3, c3, rfl, hint, hb⟩; have hb3 := hb))
    have T3 := (Three.over hb3 (Three.over hb2 HE.out.drew))
    obtain ⟨y3, b3, m3, d3, hr3⟩ := T3.res
    have HI := Lib.hid (T3.int3 hint.out neg3 A3 n3 c3)
    have c0 := (hr3.put neg3 A3 n3 c3).c0
    have c1 := (hr3.put neg3 A3 n3 c3).c1
    have HB := Lib.hid (T3.put3 neg3 A3 n3 c3).below
    have HSZ := Lib.hid (put2_size w3 (w.heap.size + 2) neg3 A3 n3 c3)
    go_wp2
    refine bodyPost_ret (v := .agg #[.bool neg3, .slice A3 n3 c3]) (by simp [results, Tryd.results13, go_sem, c0, c1]) rfl ⟨neg3, A3, n3, c3, rfl, ?_, HB⟩
    have h : IsInt (put2 w3 (w.heap.size + 2) neg3 A3 n3 c3) (put2 w3 (w.heap.size + 2) neg3 A3 n3 c3).heap.size (max p q + 1) _ _ := HI.out.more (by rw [HSZ.out]; exact Nat.le_refl _) (by omega)
    rw [show sgn nx (val xs + val ys) = a + b from sgn_add ZX.out ZY.out] at h
    exact h
  · have hne : (nx == ny) = false := by simpa using hs
    have HS := Lib.hid hs
    clear hs
    go_wp2_with fail
    refine (compare_cells CX.out CY.out (by omega) HE.out.below).mono ?_
    rintro e w4 ⟨rfl, hb4⟩
    have T4 := Lib.hid (Three.over hb4 HE.out)
    have A4 := T4.out.all.1
    have F4 := T4.out.all.2.1
    by_cases hlt : val xs < val ys
    · have hc : cmpN (val xs) (val ys) = -1 := cmpN_lt hlt
      have HLT := Lib.hid hlt
      clear hlt
      go_wp2
      have T5 : Hid (Three w w.heap.size ny B m d (w.heap.size + 1) nx A n c (w.heap.size + 2) ((((w4.setCell ⟨w.heap.size, 0, none⟩ (.bool ny)).setCell ⟨w.heap.size, 1, none⟩ (.slice B m d)).setCell ⟨w.heap.size + 1, 0, none⟩ (.bool nx)).setCell ⟨w.heap.size + 1, 1, none⟩ (.slice A n c))) := (T4.out.put1 ny B m d).put2 nx A n c
      generalize ((((w4.setCell ⟨w.heap.size, 0, none⟩ (.bool ny)).setCell ⟨w.heap.size, 1, none⟩ (.slice B m d)).setCell ⟨w.heap.size + 1, 0, none⟩ (.bool nx)).setCell ⟨w.heap.size + 1, 1, none⟩ (.slice A n c)) = W5 at *
      clear A4 F4
      go_region_held3 (fun w' => (w'.cell? ⟨w.heap.size, 0, none⟩ = some (.bool ny) ∧ w'.cell? ⟨w.heap.size, 1, none⟩ = some (.slice B m d) ∧ w'.cell? ⟨w.heap.size + 1, 0, none⟩ = some (.bool nx) ∧ w'.cell? ⟨w.heap.size + 1, 1, none⟩ = some (.slice A n c) ∧ w'.cell? ⟨w.heap.size + 2, 0, none⟩ = some (cellOf w' (w.heap.size + 2) 0) ∧ w'.cell? ⟨w.heap.size + 2, 1, none⟩ = some (cellOf w' (w.heap.size + 2) 1)) ∧ (w'.frozen? ⟨w.heap.size, 0, none⟩ = false ∧ w'.frozen? ⟨w.heap.size, 1, none⟩ = false ∧ w'.frozen? ⟨w.heap.size + 1, 0, none⟩ = false ∧ w'.frozen? ⟨w.heap.size + 1, 1, none⟩ = false ∧ w'.frozen? ⟨w.heap.size + 2, 0, none⟩ = false ∧ w'.frozen? ⟨w.heap.size + 2, 1, none⟩ = false) ∧ Hid (Three w (w.heap.size) ny B m d (w.heap.size + 1) nx A n c (w.heap.size + 2) w'))
        (first | (with_reducible exact T5.out.drew.all) | (with_reducible exact (Three.over hb (Three.get (by assumption))).all) | (with_reducible exact (Three.put1 (Three.get (by assumption)) _ _ _ _).all) | (with_reducible exact (Three.put2 (Three.get (by assumption)) _ _ _ _).all) | (with_reducible exact (Three.put3 (Three.get (by assumption)) _ _ _ _).all))
        (first
          | (go_at_call 37; refine (difference_cells CY.out CX.out (by omega) (Nat.le_of_lt HLT.out) (Three.get (by assumption)).below).mono ?_; rintro e w2 ⟨A2, c2, rfl, hrow, hb⟩; have hb2 := hb)
          | (go_at_call 38; refine (signed_row _ A2 _ c2 _ _ (by omega) hrow.out).mono ?_; rintro e w3 ⟨neg3, A3, n3, c3, rfl, hint, hb⟩; have hb3 := hb))
      have T3 := (Three.over hb3 (Three.over hb2 T5.out.drew))
      obtain ⟨y3, b3, m3, d3, hr3⟩ := T3.res
      have HI := Lib.hid (T3.int3 hint.out neg3 A3 n3 c3)
      have c0 := (hr3.put neg3 A3 n3 c3).c0
      have c1 := (hr3.put neg3 A3 n3 c3).c1
      have HB := Lib.hid (T3.put3 neg3 A3 n3 c3).below
      have HSZ := Lib.hid (put2_size w3 (w.heap.size + 2) neg3 A3 n3 c3)
      go_wp2
      refine bodyPost_ret (v := .agg #[.bool neg3, .slice A3 n3 c3]) (by simp [results, Tryd.results13, go_sem, c0, c1]) rfl ⟨neg3, A3, n3, c3, rfl, ?_, HB⟩
      have h : IsInt (put2 w3 (w.heap.size + 2) neg3 A3 n3 c3) (put2 w3 (w.heap.size + 2) neg3 A3 n3 c3).heap.size (max p q + 1) _ _ := HI.out.more (by rw [HSZ.out]; exact Nat.le_refl _) (by omega)
      rw [show sgn ny (val ys - val xs) = a + b from (sgn_sub ZY.out ZX.out (fun e => HS.out e.symm) (Nat.le_of_lt HLT.out)).trans (Int.add_comm _ _)] at h
      exact h
    · have hc : ¬ cmpN (val xs) (val ys) < 0 := by
        unfold cmpN
        rw [if_neg hlt]
        split <;> omega
      have HLE : Hid (val ys ≤ val xs) := Nat.le_of_not_lt hlt
      clear hlt
      go_wp2
      go_region_held3 (fun w' => (w'.cell? ⟨w.heap.size, 0, none⟩ = some (.bool nx) ∧ w'.cell? ⟨w.heap.size, 1, none⟩ = some (.slice A n c) ∧ w'.cell? ⟨w.heap.size + 1, 0, none⟩ = some (.bool ny) ∧ w'.cell? ⟨w.heap.size + 1, 1, none⟩ = some (.slice B m d) ∧ w'.cell? ⟨w.heap.size + 2, 0, none⟩ = some (cellOf w' (w.heap.size + 2) 0) ∧ w'.cell? ⟨w.heap.size + 2, 1, none⟩ = some (cellOf w' (w.heap.size + 2) 1)) ∧ (w'.frozen? ⟨w.heap.size, 0, none⟩ = false ∧ w'.frozen? ⟨w.heap.size, 1, none⟩ = false ∧ w'.frozen? ⟨w.heap.size + 1, 0, none⟩ = false ∧ w'.frozen? ⟨w.heap.size + 1, 1, none⟩ = false ∧ w'.frozen? ⟨w.heap.size + 2, 0, none⟩ = false ∧ w'.frozen? ⟨w.heap.size + 2, 1, none⟩ = false) ∧ Hid (Three w (w.heap.size) nx A n c (w.heap.size + 1) ny B m d (w.heap.size + 2) w'))
        (first | (with_reducible exact T4.out.drew.all) | (with_reducible exact (Three.over hb (Three.get (by assumption))).all) | (with_reducible exact (Three.put1 (Three.get (by assumption)) _ _ _ _).all) | (with_reducible exact (Three.put2 (Three.get (by assumption)) _ _ _ _).all) | (with_reducible exact (Three.put3 (Three.get (by assumption)) _ _ _ _).all))
        (first
          | (go_at_call 37; refine (difference_cells CX.out CY.out (by omega) HLE.out (Three.get (by assumption)).below).mono ?_; rintro e w2 ⟨A2, c2, rfl, hrow, hb⟩; have hb2 := hb)
          | (go_at_call 38; refine (signed_row _ A2 _ c2 _ _ (by omega) hrow.out).mono ?_; rintro e w3 ⟨neg3, A3, n3, c3, rfl, hint, hb⟩; have hb3 := hb))
      have T3 := (Three.over hb3 (Three.over hb2 T4.out.drew))
      obtain ⟨y3, b3, m3, d3, hr3⟩ := T3.res
      have HI := Lib.hid (T3.int3 hint.out neg3 A3 n3 c3)
      have c0 := (hr3.put neg3 A3 n3 c3).c0
      have c1 := (hr3.put neg3 A3 n3 c3).c1
      have HB := Lib.hid (T3.put3 neg3 A3 n3 c3).below
      have HSZ := Lib.hid (put2_size w3 (w.heap.size + 2) neg3 A3 n3 c3)
      go_wp2
      refine bodyPost_ret (v := .agg #[.bool neg3, .slice A3 n3 c3]) (by simp [results, Tryd.results13, go_sem, c0, c1]) rfl ⟨neg3, A3, n3, c3, rfl, ?_, HB⟩
      have h : IsInt (put2 w3 (w.heap.size + 2) neg3 A3 n3 c3) (put2 w3 (w.heap.size + 2) neg3 A3 n3 c3).heap.size (max p q + 1) _ _ := HI.out.more (by rw [HSZ.out]; exact Nat.le_refl _) (by omega)
      rw [show sgn nx (val xs - val ys) = a + b from sgn_sub ZX.out ZY.out HS.out HLE.out] at h
      exact h
end Go.Proofs.YtgmnpajecpjklaaDoor.wh
