/- Package whole: Gcd. -/
import Derived.Test.YtgmnpajecpjklaaDoorNeg
namespace Go.Proofs.YtgmnpajecpjklaaDoor.wh
open Go.RowKit

theorem rd_unique {w : World} {B : Nat} {A : Option Addr} {xs ys : List Nat} (h : Rd w B A xs) (k : Rd w B A ys) (hl : xs.length = ys.length) : xs = ys := by
  refine List.ext_getElem hl fun i hi hj => ?_
  obtain ⟨b, off, rfl, _, hc⟩ := h (by omega)
  obtain ⟨b', off', e, _, hc'⟩ := k (by omega)
  cases e
  have h1 := hc i hi
  rw [hc' i hj] at h1
  simp only [Option.some.injEq, Value.int.injEq, true_and] at h1
  omega
theorem rowtop_unique {w : World} {A : Option Addr} {n c X Y : Nat} (h : RowTop w A n c X) (k : RowTop w A n c Y) : X = Y := by
  obtain ⟨xs, h1, rfl⟩ := h
  obtain ⟨ys, k1, rfl⟩ := k
  rw [rd_unique h1.rd k1.rd (by rw [h1.len, k1.len])]
/-- the number of a row -/
noncomputable def rowVal (w : World) (v : Value) : Nat := @Classical.epsilon _ ⟨0⟩ fun Y => ∃ A n c, v = .slice A n c ∧ RowTop w A n c Y
theorem rowVal_eq {w : World} {A : Option Addr} {n c Y : Nat} (h : RowTop w A n c Y) : rowVal w (.slice A n c) = Y := by
  have hex : ∃ Y, ∃ A' n' c', Value.slice A n c = .slice A' n' c' ∧ RowTop w A' n' c' Y := ⟨Y, A, n, c, rfl, h⟩
  obtain ⟨A', n', c', e, h2⟩ := @Classical.epsilon_spec _ (fun Y => ∃ A' n' c', Value.slice A n c = .slice A' n' c' ∧ RowTop w A' n' c' Y) hex
  cases e
  exact rowtop_unique h2 h
theorem rowtop_zero {w : World} {A : Option Addr} {c Y : Nat} (h : RowTop w A 0 c Y) : Y = 0 := by
  obtain ⟨ds, h1, rfl⟩ := h
  rw [List.eq_nil_of_length_eq_zero h1.len]
  rfl
theorem rowtop_pos {w : World} {A : Option Addr} {n c Y : Nat} (h : RowTop w A n c Y) (hn : 0 < n) : 0 < Y := by
  obtain ⟨ds, h1, rfl⟩ := h
  exact top_pos h1.top (by rw [h1.len]; exact hn)
theorem rowtop_two {w : World} {A : Option Addr} {n c Y : Nat} (h : RowTop w A n c Y) (hn : n ≤ 2) : Y < 1000000000000000000 := by
  obtain ⟨ds, h1, rfl⟩ := h
  have h2 := val_lt h1.dig
  rw [h1.len] at h2
  have h3 : 1000000000 ^ n ≤ 1000000000 ^ 2 := pow_mono hn
  omega
theorem divide_rows {A B : Option Addr} {n c m d X Y : Nat} {w : World} (hx : RowTop w A n c X) (hy : RowTop w B m d Y) (hn : n ≤ 1000) (hm : m ≤ 1000) (hm0 : 0 < m) :
    Calls Tryd.prog 35 #[.slice A n c, .slice B m d] w fun e w' => GivesDiv w n m X Y e w' := by
  have hY := rowtop_pos hy hm0
  obtain ⟨xs, h1, h2⟩ := hx
  obtain ⟨ys, k1, k2⟩ := hy
  exact divides_all X Y hY xs ys A B n c m d w h2 k2 h1 k1 hn hm hm0
theorem clone_row {A : Option Addr} {n c X : Nat} {w : World} (hx : RowTop w A n c X) (hn : n ≤ 1000) :
    Calls Tryd.prog 45 #[.slice A n c] w fun e w' => ∃ A2 c2, e = .returned (.slice A2 n c2) ∧ Hid (RowIs w' A2 n c2 X) ∧ Hid (Below w.heap.size w w') := by
  obtain ⟨xs, h1, rfl⟩ := hx
  exact (clone_digs h1 hn).mono fun e w' ⟨A2, c2, h2, h3, h4⟩ => ⟨A2, c2, h2, h3.out.row, h4⟩
theorem join_row {A : Option Addr} {n c X : Nat} {w : World} (hx : RowTop w A n c X) (hn : n ≤ 2) :
    Calls Tryd.prog 46 #[.slice A n c] w fun e w' => e = .returned (.int .u64 (X : Nat)) ∧ w = w' := by
  have h9 := rowtop_two hx hn
  obtain ⟨xs, h1, rfl⟩ := hx
  exact join_any A n c xs w h1.len (by rw [h1.len]; unfold maxLen; omega) h1.rd h1.dig (by unfold W64; omega)

set_option maxRecDepth 100000 in
set_option maxHeartbeats 4000000 in
theorem gcd_any (v u : Value) (p q L : Nat) (a b : Int) (w : World) (hp : p ≤ L) (hq : q ≤ L) (hL : L ≤ 1000) (hx : IsInt w w.heap.size p v a) (hy : IsInt w w.heap.size q u b) :
    Calls Tryd.prog 20 #[v, u] w fun e w' => GivesZ w (L + 3) ((Nat.gcd a.natAbs b.natAbs : Nat) : Int) e w' := by
  obtain ⟨nx, A, n, c, xs, rfl, hnp, CX, ZX⟩ := hx.cells
  obtain ⟨ny, B, m, d, ys, rfl, hmq, CY, ZY⟩ := hy.cells
  clear hx hy
  have HT : Hid (Three w w.heap.size nx A n c (w.heap.size + 1) ny B m d (w.heap.size + 2) (((w.alloc (.cells #[.bool nx, .slice A n c] 24)).alloc (.cells #[.bool ny, .slice B m d] 24)).alloc (.cells #[.bool false, .slice none 0 0] 24))) :=
    ⟨(((Below.refl _ _).alloc (Nat.le_refl _) _).alloc (by simp) _).alloc (by simp; omega) _, ((Box.new _ _ _ _ _).alloc _).alloc _, by have h := (Box.new (w.alloc (.cells #[.bool nx, .slice A n c] 24)) ny B m d).alloc (.cells #[.bool false, .slice none 0 0] 24); rwa [World.size_alloc] at h,
      ⟨false, none, 0, 0, by have h := Box.new ((w.alloc (.cells #[.bool nx, .slice A n c] 24)).alloc (.cells #[.bool ny, .slice B m d] 24)) false none 0 0; rwa [World.size_alloc, World.size_alloc] at h⟩, by omega⟩
  have AX : Hid (val xs = a.natAbs) := by show _ = _; rw [← ZX.out, zval_abs]
  have AY : Hid (val ys = b.natAbs) := by show _ = _; rw [← ZY.out, zval_abs]
  obtain ⟨G, hG⟩ : ∃ G, G = Nat.gcd a.natAbs b.natAbs := ⟨_, rfl⟩
  rw [← hG]
  have HG : Hid (Nat.gcd (val xs) (val ys) = G) := by show _ = _; rw [AX.out, AY.out, hG]
  clear hG AX AY ZX ZY
  have hfx : ∀ W : World, (Instr.field 24 (.agg #[.bool nx, .slice A n c]) 1).run Tryd.prog W = .ok (.slice A n c) W := fun _ => by kernel_rfl
  have hfy : ∀ W : World, (Instr.field 24 (.agg #[.bool ny, .slice B m d]) 1).run Tryd.prog W = .ok (.slice B m d) W := fun _ => by kernel_rfl
  go_enter Tryd.func20, Tryd.ntmps20
  go_wp2
  go_region_held3 (fun w' => (w'.cell? ⟨w.heap.size, 0, none⟩ = some (.bool nx) ∧ w'.cell? ⟨w.heap.size, 1, none⟩ = some (.slice A n c) ∧ w'.cell? ⟨w.heap.size + 1, 0, none⟩ = some (.bool ny) ∧ w'.cell? ⟨w.heap.size + 1, 1, none⟩ = some (.slice B m d) ∧ w'.cell? ⟨w.heap.size + 2, 0, none⟩ = some (cellOf w' (w.heap.size + 2) 0) ∧ w'.cell? ⟨w.heap.size + 2, 1, none⟩ = some (cellOf w' (w.heap.size + 2) 1)) ∧ (w'.frozen? ⟨w.heap.size, 0, none⟩ = false ∧ w'.frozen? ⟨w.heap.size, 1, none⟩ = false ∧ w'.frozen? ⟨w.heap.size + 1, 0, none⟩ = false ∧ w'.frozen? ⟨w.heap.size + 1, 1, none⟩ = false ∧ w'.frozen? ⟨w.heap.size + 2, 0, none⟩ = false ∧ w'.frozen? ⟨w.heap.size + 2, 1, none⟩ = false) ∧ Hid (Three w w.heap.size nx A n c (w.heap.size + 1) ny B m d (w.heap.size + 2) w'))
    (first | (with_reducible exact HT.out.drew.all) | (with_reducible exact (Three.over hb (Three.get (by assumption))).all))
    (first
      | (go_at_call_of 34 A; refine (clean_cells CX.out (by omega) (Three.get (by assumption)).below).mono ?_; rintro e w1 ⟨rfl, hb⟩)
      | (go_at_call_of 34 B; refine (clean_cells CY.out (by omega) (Three.get (by assumption)).below).mono ?_; rintro e w2 ⟨rfl, hb⟩))
  have HE : Hid (Three w w.heap.size nx A n c (w.heap.size + 1) ny B m d (w.heap.size + 2) w2) := Three.get (by assumption)
  have RX : Hid (RowTop w2 A n c (val xs)) := ⟨xs, (CX.out.over HE.out.below).digs, rfl⟩
  have RY : Hid (RowTop w2 B m d (val ys)) := ⟨ys, (CY.out.over HE.out.below).digs, rfl⟩
  clear CX CY HT
  go_wp2
  go_loopw [5, 6] (fun u v wr => (∃ (A1 : Option Addr) (n1 c1 : Nat) (B1 : Option Addr) (m1 d1 X Y : Nat), u = .slice A1 n1 c1 ∧ v = .slice B1 m1 d1 ∧ n1 ≤ L ∧ m1 ≤ L ∧ Hid (RowTop wr A1 n1 c1 X) ∧ Hid (RowTop wr B1 m1 d1 Y) ∧ Hid (Nat.gcd X Y = G)) ∧ Hid (Three w w.heap.size nx A n c (w.heap.size + 1) ny B m d (w.heap.size + 2) wr)) (fun _ v wr => rowVal wr v)
  case atStart => exact ⟨⟨A, n, c, B, m, d, val xs, val ys, rfl, rfl, by omega, by omega, RX, RY, HG⟩, HE⟩
  case round =>
    obtain ⟨⟨A1, n1, c1, B1, m1, d1, X, Y, rfl, rfl, hn1L, hm1L, hx, hy, hg⟩, ht⟩ := hrel
    by_cases hn2 : 2 < n1
    · have gn : (2 : Int) < (n1 : Int) := by omega
      by_cases hm0 : m1 = 0
      · subst hm0
        have HX0 : Hid (X = G) := by
          have h0 := rowtop_zero hy.out
          have h1 := hg.out
          rw [h0, Nat.gcd_zero_right] at h1
          exact h1
        go_wp2_with fail
        refine (clone_row hx.out (by omega)).mono ?_
        rintro e5 w5 ⟨A2, c2, rfl, hrow, hb5⟩
        have T5 := Lib.hid (Three.over hb5 ht.out)
        go_wp2_with fail
        refine (signed_row false A2 n1 c2 X w5 (by omega) hrow.out).mono ?_
        rintro e6 wz ⟨neg3, A3, n3, c3, rfl, hint, hb6⟩
        have T6 := Lib.hid (Three.over hb6 T5.out)
        obtain ⟨y3, b3, m3, d3, hr3⟩ := T6.out.res
        have HI := Lib.hid (T6.out.int3 hint.out neg3 A3 n3 c3)
        have p0 := (hr3.put neg3 A3 n3 c3).c0
        have p1 := (hr3.put neg3 A3 n3 c3).c1
        have r0 := hr3.c0
        have r1 := hr3.c1
        have s0 := hr3.f0
        have s1 := hr3.f1
        have HB := Lib.hid (T6.out.put3 neg3 A3 n3 c3).below
        have HSZ := Lib.hid (put2_size wz (w.heap.size + 2) neg3 A3 n3 c3)
        clear hr3
        go_wp2
        (try simp only [Exit.inBlock, Exit.then])
        refine bodyPost_ret (v := .agg #[.bool neg3, .slice A3 n3 c3]) (by simp [results, Tryd.results20, go_sem, p0, p1]) rfl ⟨neg3, A3, n3, c3, rfl, ?_, HB⟩
        have h : IsInt (put2 wz (w.heap.size + 2) neg3 A3 n3 c3) (put2 wz (w.heap.size + 2) neg3 A3 n3 c3).heap.size (L + 3) _ _ := HI.out.more (by rw [HSZ.out]; exact Nat.le_refl _) (by omega)
        rw [show sgn false X = (G : Int) from by rw [HX0.out]; rfl] at h
        exact h
      · have hm1 : ((m1 : Int) == 0) = false := by rw [beq_eq_false_iff_ne]; omega
        have HY0 := Lib.hid (rowtop_pos hy.out (by omega))
        go_wp2_with fail
        refine (divide_rows hx.out hy.out (by omega) (by omega) (by omega)).mono ?_
        rintro e5 w5 ⟨A4, n4, c4, A5, n5, c5, rfl, hn4, hn5, _, hrest, hb5⟩
        have HG2 : Hid (Nat.gcd Y (X % Y) = G) := by
          show _ = _
          rw [← hg.out, Nat.gcd_comm Y (X % Y), ← Nat.gcd_rec, Nat.gcd_comm]
        have HY5 := Lib.hid (hy.out.over hb5.out)
        have HM : Hid (rowVal w5 (.slice A5 n5 c5) < rowVal wr (.slice B1 m1 d1)) := by
          show _ < _
          rw [rowVal_eq hrest.out, rowVal_eq hy.out]
          exact Nat.mod_lt _ HY0.out
        have T5 := Lib.hid (Three.over hb5 ht.out)
        go_wp2
        go_roundw
        case rel => exact ⟨⟨B1, m1, d1, A5, n5, c5, Y, X % Y, rfl, rfl, hm1L, by omega, HY5, hrest, HG2⟩, T5⟩
        case measure => exact HM.out
    · have gn : ¬ (2 : Int) < (n1 : Int) := by omega
      by_cases hm2 : 2 < m1
      · have gm : (2 : Int) < (m1 : Int) := by omega
        have hm1 : ((m1 : Int) == 0) = false := by rw [beq_eq_false_iff_ne]; omega
        have HY0 := Lib.hid (rowtop_pos hy.out (by omega))
        go_wp2_with fail
        refine (divide_rows hx.out hy.out (by omega) (by omega) (by omega)).mono ?_
        rintro e5 w5 ⟨A4, n4, c4, A5, n5, c5, rfl, hn4, hn5, _, hrest, hb5⟩
        have HG2 : Hid (Nat.gcd Y (X % Y) = G) := by
          show _ = _
          rw [← hg.out, Nat.gcd_comm Y (X % Y), ← Nat.gcd_rec, Nat.gcd_comm]
        have HY5 := Lib.hid (hy.out.over hb5.out)
        have HM : Hid (rowVal w5 (.slice A5 n5 c5) < rowVal wr (.slice B1 m1 d1)) := by
          show _ < _
          rw [rowVal_eq hrest.out, rowVal_eq hy.out]
          exact Nat.mod_lt _ HY0.out
        have T5 := Lib.hid (Three.over hb5 ht.out)
        go_wp2
        go_roundw
        case rel => exact ⟨⟨B1, m1, d1, A5, n5, c5, Y, X % Y, rfl, rfl, hm1L, by omega, HY5, hrest, HG2⟩, T5⟩
        case measure => exact HM.out
      · have gm : ¬ (2 : Int) < (m1 : Int) := by omega
        have X9 := rowtop_two hx.out (by omega)
        have Y9 := rowtop_two hy.out (by omega)
        go_wp2_with fail
        refine (join_row hx.out (by omega)).mono ?_
        rintro e5 w5 ⟨rfl, rfl⟩
        go_wp2_with fail
        refine (join_row hy.out (by omega)).mono ?_
        rintro e6 w6 ⟨rfl, rfl⟩
        go_wp2
        go_loopw [9, 10] (fun u v ws => (∃ (X1 Y1 : Nat), u = .int .u64 (X1 : Int) ∧ v = .int .u64 (Y1 : Int) ∧ X1 < 1000000000000000000 ∧ Y1 < 1000000000000000000 ∧ Hid (Nat.gcd X1 Y1 = G)) ∧ Hid (Three w w.heap.size nx A n c (w.heap.size + 1) ny B m d (w.heap.size + 2) ws)) (fun _ v _ => (intOf v).toNat)
        case atStart => exact ⟨⟨X, Y, rfl, rfl, X9, Y9, hg⟩, ht⟩
        case round =>
          obtain ⟨⟨X1, Y1, rfl, rfl, hX9, hY9, hg1⟩, hts⟩ := hrel
          by_cases hy0 : Y1 = 0
          · subst hy0
            have HX0 : Hid (X1 = G) := by
              have h1 := hg1.out
              rw [Nat.gcd_zero_right] at h1
              exact h1
            go_wp2_with fail
            refine (split_any X1 _ (by unfold W64; omega)).mono ?_
            rintro e7 w7 ⟨A2, m2, c2, ds, rfl, hl, hr, hmc, hm3, hd, hv, hb⟩
            have hrow : Hid (RowIs w7 A2 m2 c2 X1) := ⟨ds, hl, hmc, hr, hd, hv⟩
            have hb7 := Lib.hid hb
            clear hl hr hd hv hb
            have T5 := Lib.hid (Three.over hb7 hts.out)
            go_wp2_with fail
            refine (signed_row false A2 m2 c2 X1 w7 (by omega) hrow.out).mono ?_
            rintro e8 wz ⟨neg3, A3, n3, c3, rfl, hint, hb6⟩
            have T6 := Lib.hid (Three.over hb6 T5.out)
            obtain ⟨y3, b3, m3, d3, hr3⟩ := T6.out.res
            have HI := Lib.hid (T6.out.int3 hint.out neg3 A3 n3 c3)
            have p0 := (hr3.put neg3 A3 n3 c3).c0
            have p1 := (hr3.put neg3 A3 n3 c3).c1
            have r0 := hr3.c0
            have r1 := hr3.c1
            have s0 := hr3.f0
            have s1 := hr3.f1
            have HB := Lib.hid (T6.out.put3 neg3 A3 n3 c3).below
            have HSZ := Lib.hid (put2_size wz (w.heap.size + 2) neg3 A3 n3 c3)
            clear hr3
            go_wp2
            (try simp only [Exit.inBlock, Exit.then])
            refine bodyPost_ret (v := .agg #[.bool neg3, .slice A3 n3 c3]) (by simp [results, Tryd.results20, go_sem, p0, p1]) rfl ⟨neg3, A3, n3, c3, rfl, ?_, HB⟩
            have h : IsInt (put2 wz (w.heap.size + 2) neg3 A3 n3 c3) (put2 wz (w.heap.size + 2) neg3 A3 n3 c3).heap.size (L + 3) _ _ := HI.out.more (by rw [HSZ.out]; exact Nat.le_refl _) (by omega)
            rw [show sgn false X1 = (G : Int) from by rw [HX0.out]; rfl] at h
            exact h
          · have hy1 : ((Y1 : Int) == 0) = false := by rw [beq_eq_false_iff_ne]; omega
            obtain ⟨Z, hZ⟩ : ∃ Z, Z = X1 % Y1 := ⟨_, rfl⟩
            have hz1 : (X1 : Int) % (Y1 : Int) = (Z : Int) := by rw [hZ]; simp
            have hz2 : (X1 : Int).tmod (Y1 : Int) = (Z : Int) := by rw [hZ]; rfl
            have hZY : Z < Y1 := by rw [hZ]; exact Nat.mod_lt _ (by omega)
            have HG2 : Hid (Nat.gcd Y1 Z = G) := by
              show _ = _
              rw [← hg1.out, hZ, Nat.gcd_comm Y1 (X1 % Y1), ← Nat.gcd_rec, Nat.gcd_comm]
            clear hZ
            go_wp2
            go_region_held3 (fun w' => True) (trivial) (fail)
            have T8 := Lib.hid hts.out.drew
            go_wp2
            go_roundw
            case rel => exact ⟨⟨Y1, Z, rfl, rfl, hY9, by omega, HG2⟩, T8⟩
            case measure => simp [intOf]; omega
end Go.Proofs.YtgmnpajecpjklaaDoor.wh
