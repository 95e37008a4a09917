/- Package dag: what is wrong with a term. -/
import Derived.Test.YtdnhhfhjjimcgaaDoorGh
import Derived.Test.YtdnhhfhjjimcgaaDoorGj
import Derived.Test.YtdnhhfhjjimcgaaDoorGm
namespace Go.Proofs.YtdnhhfhjjimcgaaDoor.dg
open Go Go.RowKit

theorem formed_op {t : Tm} (h : formed t = true) : 1 ≤ t.op ∧ t.op ≤ 19 := by
  unfold formed at h
  split at h
  · cases h
  · omega
theorem counted_fn {S : St} {t : Tm} (h : S.counted t = true) (h3 : t.op = 3) : (S.fnAt t.fn).args.length = t.kids.length := by
  unfold St.counted St.takes at h
  rw [if_neg (by omega), if_pos h3] at h
  simp at h
  omega
theorem counted_ite {S : St} {t : Tm} (h : S.counted t = true) (h10 : t.op = 10) : 1 < t.kids.length := by
  unfold St.counted St.takes at h
  rw [if_neg (by omega), if_neg (by omega), if_neg (by omega), if_pos h10] at h
  simp at h
  omega
section
variable {S : St} {t : Tm}
theorem wrong1 (h : formed t = false) : S.wrong t = 1 := by unfold St.wrong; rw [if_pos h]
theorem wrong2 (h : formed t = true) (h2 : t.op = 3 ∧ S.hasFun t.fn = false) : S.wrong t = 2 := by unfold St.wrong; rw [if_neg (show ¬ formed t = false by rw [h]; simp), if_pos h2]
theorem wrong3 (h : formed t = true) (h2 : ¬ (t.op = 3 ∧ S.hasFun t.fn = false)) (h3 : t.kids.all S.has = false) : S.wrong t = 2 := by unfold St.wrong; rw [if_neg (show ¬ formed t = false by rw [h]; simp), if_neg h2, if_pos h3]
theorem wrong4 (h : formed t = true) (h2 : ¬ (t.op = 3 ∧ S.hasFun t.fn = false)) (h3 : t.kids.all S.has = true) (h4 : S.counted t = false) : S.wrong t = 15 := by unfold St.wrong; rw [if_neg (show ¬ formed t = false by rw [h]; simp), if_neg h2, if_neg (show ¬ t.kids.all S.has = false by rw [h3]; simp), if_pos h4]
theorem wrong5 (h : formed t = true) (h2 : ¬ (t.op = 3 ∧ S.hasFun t.fn = false)) (h3 : t.kids.all S.has = true) (h4 : S.counted t = true) (h5 : S.fits t = false) : S.wrong t = 14 := by unfold St.wrong; rw [if_neg (show ¬ formed t = false by rw [h]; simp), if_neg h2, if_neg (show ¬ t.kids.all S.has = false by rw [h3]; simp), if_neg (show ¬ S.counted t = false by rw [h4]; simp), if_pos h5]
theorem wrong6 (h : formed t = true) (h2 : ¬ (t.op = 3 ∧ S.hasFun t.fn = false)) (h3 : t.kids.all S.has = true) (h4 : S.counted t = true) (h5 : S.fits t = true) : S.wrong t = if t.op = 19 ∧ 1 < S.free t.kids then 16 else 0 := by unfold St.wrong; rw [if_neg (show ¬ formed t = false by rw [h]; simp), if_neg h2, if_neg (show ¬ t.kids.all S.has = false by rw [h3]; simp), if_neg (show ¬ S.counted t = false by rw [h4]; simp), if_neg (show ¬ S.fits t = false by rw [h5]; simp)]
end
set_option maxRecDepth 100000 in
set_option maxHeartbeats 8000000 in
theorem wrong_any {w : World} {F G : Nat → Prop} {a : Nat} {S : St} (H : Hid (Ar w F a S)) {t : Tm} {A : Option Addr} {c : Nat} (hr : Hid (Ri w G t.kids A c)) (hl : t.kids.length ≤ 1000000) :
    Calls Tryd.prog 45 #[.pointer (some ⟨a, 0, none⟩), .agg #[.int .i64 t.op, .int .i64 t.fn, .slice A t.kids.length c, .string t.num]] w fun e w' => e = .returned (.int .i64 (S.wrong t)) ∧ Hid (Below w.heap.size w w') := by
  obtain ⟨r, hr2⟩ : ∃ r, S.wrong t = r := ⟨_, rfl⟩
  have HR2 := Lib.hid hr2
  rw [hr2]
  clear hr2
  have AX : Hid (∀ W, Bx w W 41 #[.int .i64 t.op, .int .i64 t.fn, .slice A t.kids.length c, .string t.num] → Hid (Ar W F a S) ∧ Hid (Ri W G t.kids A c)) := Lib.hid fun W h => ⟨Lib.hid (H.out.below h.1), Lib.hid (hr.out.below h.1)⟩
  cases hF : formed t with
  | false =>
    have HF := Lib.hid hF
    obtain rfl : r = 1 := by rw [← HR2.out, wrong1 hF]
    clear hF
    go_enter Tryd.func45, Tryd.ntmps45
    go_upto_region 1 with fail
    generalize hW : World.alloc _ _ = W1
    have HX : Hid (Bx w W1 41 #[.int .i64 t.op, .int .i64 t.fn, .slice A t.kids.length c, .string t.num]) := Lib.hid (hW ▸ ⟨(Below.refl _ w).alloc (Nat.le_refl _) _, Bk.new w _ _⟩)
    clear hW
    have x0 := HX.out.2.cell 0
    have x1 := HX.out.2.cell 1
    have x2 := HX.out.2.cell 2
    have x3 := HX.out.2.cell 3
    go_wp2_with (go_at_call 53; refine (formed_any (t := t)).mono ?_; rintro e W2 ⟨rfl, HB2⟩; rw [HF.out]; have HX2 := Lib.hid (Bx.over HB2.out HX.out); (have y0 := HX2.out.2.cell 0); (have y1 := HX2.out.2.cell 1); (have y2 := HX2.out.2.cell 2); (have y3 := HX2.out.2.cell 3))
    go_ret
    exact ⟨rfl, Lib.hid HX2.out.1⟩
  | true =>
    have HF := Lib.hid hF
    clear hF
    by_cases h3 : t.op = 3
    · have H3 := Lib.hid h3
      have b3 : (t.op == 3) = true := by simpa using h3
      clear h3
      by_cases hn : t.fn < 0
      · obtain rfl : r = 2 := by rw [← HR2.out, wrong2 HF.out ⟨H3.out, by simp [St.hasFun]; omega⟩]
        go_enter Tryd.func45, Tryd.ntmps45
        go_upto_region 1 with fail
        generalize hW : World.alloc _ _ = W1
        have HX : Hid (Bx w W1 41 #[.int .i64 t.op, .int .i64 t.fn, .slice A t.kids.length c, .string t.num]) := Lib.hid (hW ▸ ⟨(Below.refl _ w).alloc (Nat.le_refl _) _, Bk.new w _ _⟩)
        clear hW
        have x0 := HX.out.2.cell 0
        have x1 := HX.out.2.cell 1
        have x2 := HX.out.2.cell 2
        have x3 := HX.out.2.cell 3
        go_upto_region 3 with (go_at_call 53; refine (formed_any (t := t)).mono ?_; rintro e W2 ⟨rfl, HB2⟩; rw [HF.out]; have HX2 := Lib.hid (Bx.over HB2.out HX.out); (have y0 := HX2.out.2.cell 0); (have y1 := HX2.out.2.cell 1); (have y2 := HX2.out.2.cell 2); (have y3 := HX2.out.2.cell 3))
        clear x0 x1 x2 x3
        obtain ⟨As, cs, Af, cf, At, ct, mb, ib, c0, c1, c2, c3, c4, c5, hlt⟩ := (AX.out _ HX2.out).1.out.cells
        go_quiet (fail)
        have HX3 : Hid (Bx w (W2.drewN nq) 41 #[.int .i64 t.op, .int .i64 t.fn, .slice A t.kids.length c, .string t.num]) := Lib.hid ⟨below_drewN HX2.out.1 nq, HX2.out.2⟩
        clear y0 y1 y2 y3 c0 c1 c2 c3 c4 c5 hlt HX2
        generalize W2.drewN nq = W3 at *
        have z0 := HX3.out.2.cell 0
        have z1 := HX3.out.2.cell 1
        have z2 := HX3.out.2.cell 2
        have z3 := HX3.out.2.cell 3
        go_wp2_with fail
        go_ret
        exact ⟨rfl, Lib.hid HX3.out.1⟩
      · have hnd : decide (t.fn < 0) = false := by simpa using hn
        by_cases hm : (S.funs.length : Int) ≤ t.fn
        · obtain rfl : r = 2 := by rw [← HR2.out, wrong2 HF.out ⟨H3.out, by simp [St.hasFun]; omega⟩]
          go_enter Tryd.func45, Tryd.ntmps45
          go_upto_region 1 with fail
          generalize hW : World.alloc _ _ = W1
          have HX : Hid (Bx w W1 41 #[.int .i64 t.op, .int .i64 t.fn, .slice A t.kids.length c, .string t.num]) := Lib.hid (hW ▸ ⟨(Below.refl _ w).alloc (Nat.le_refl _) _, Bk.new w _ _⟩)
          clear hW
          have x0 := HX.out.2.cell 0
          have x1 := HX.out.2.cell 1
          have x2 := HX.out.2.cell 2
          have x3 := HX.out.2.cell 3
          go_upto_region 3 with (go_at_call 53; refine (formed_any (t := t)).mono ?_; rintro e W2 ⟨rfl, HB2⟩; rw [HF.out]; have HX2 := Lib.hid (Bx.over HB2.out HX.out); (have y0 := HX2.out.2.cell 0); (have y1 := HX2.out.2.cell 1); (have y2 := HX2.out.2.cell 2); (have y3 := HX2.out.2.cell 3))
          clear x0 x1 x2 x3
          obtain ⟨As, cs, Af, cf, At, ct, mb, ib, c0, c1, c2, c3, c4, c5, hlt⟩ := (AX.out _ HX2.out).1.out.cells
          go_quiet (fail)
          have HX3 : Hid (Bx w (W2.drewN nq) 41 #[.int .i64 t.op, .int .i64 t.fn, .slice A t.kids.length c, .string t.num]) := Lib.hid ⟨below_drewN HX2.out.1 nq, HX2.out.2⟩
          clear y0 y1 y2 y3 c0 c1 c2 c3 c4 c5 hlt HX2
          generalize W2.drewN nq = W3 at *
          have z0 := HX3.out.2.cell 0
          have z1 := HX3.out.2.cell 1
          have z2 := HX3.out.2.cell 2
          have z3 := HX3.out.2.cell 3
          go_wp2_with fail
          go_ret
          exact ⟨rfl, Lib.hid HX3.out.1⟩
        · have hmd : decide ((S.funs.length : Int) ≤ t.fn) = false := by simpa using hm
          have HHF : Hid (S.hasFun t.fn = true) := Lib.hid (by simp [St.hasFun]; omega)
          have HFN : Hid (t.op = 3 → S.hasFun t.fn = true) := Lib.hid fun _ => HHF.out
          have HN3 : Hid (¬ (t.op = 3 ∧ S.hasFun t.fn = false)) := Lib.hid fun h => by rw [HHF.out] at h; exact absurd h.2 (by simp)
          have b19 : (t.op == 19) = false := by rw [H3.out]; rfl
          go_enter Tryd.func45, Tryd.ntmps45
          go_upto_region 1 with fail
          generalize hW : World.alloc _ _ = W1
          have HX : Hid (Bx w W1 41 #[.int .i64 t.op, .int .i64 t.fn, .slice A t.kids.length c, .string t.num]) := Lib.hid (hW ▸ ⟨(Below.refl _ w).alloc (Nat.le_refl _) _, Bk.new w _ _⟩)
          clear hW
          have x0 := HX.out.2.cell 0
          have x1 := HX.out.2.cell 1
          have x2 := HX.out.2.cell 2
          have x3 := HX.out.2.cell 3
          go_upto_region 3 with (go_at_call 53; refine (formed_any (t := t)).mono ?_; rintro e W2 ⟨rfl, HB2⟩; rw [HF.out]; have HX2 := Lib.hid (Bx.over HB2.out HX.out); (have y0 := HX2.out.2.cell 0); (have y1 := HX2.out.2.cell 1); (have y2 := HX2.out.2.cell 2); (have y3 := HX2.out.2.cell 3))
          clear x0 x1 x2 x3
          obtain ⟨As, cs, Af, cf, At, ct, mb, ib, c0, c1, c2, c3, c4, c5, hlt⟩ := (AX.out _ HX2.out).1.out.cells
          go_quiet (fail)
          have HX3 : Hid (Bx w (W2.drewN nq) 41 #[.int .i64 t.op, .int .i64 t.fn, .slice A t.kids.length c, .string t.num]) := Lib.hid ⟨below_drewN HX2.out.1 nq, HX2.out.2⟩
          clear y0 y1 y2 y3 c0 c1 c2 c3 c4 c5 hlt HX2
          generalize W2.drewN nq = W3 at *
          have z0 := HX3.out.2.cell 0
          have z1 := HX3.out.2.cell 1
          have z2 := HX3.out.2.cell 2
          have z3 := HX3.out.2.cell 3
          go_upto_region 5 with fail
          cases ha : t.kids.all S.has with
          | false =>
            have HA := Lib.hid ha
            obtain rfl : r = 2 := by rw [← HR2.out, wrong3 HF.out HN3.out ha]
            clear ha
            go_wp2_with (go_at_call 54; refine (hasAll_any (AX.out _ HX3.out).1 (AX.out _ HX3.out).2 hl).mono ?_; rintro e W9 ⟨rfl, rfl⟩; rw [HA.out])
            go_ret
            exact ⟨rfl, Lib.hid HX3.out.1⟩
          | true =>
            have HA := Lib.hid ha
            clear ha
            go_upto_region 7 with (go_at_call 54; refine (hasAll_any (AX.out _ HX3.out).1 (AX.out _ HX3.out).2 hl).mono ?_; rintro e W9 ⟨rfl, rfl⟩; rw [HA.out])
            cases hc : S.counted t with
            | false =>
              have HC := Lib.hid hc
              obtain rfl : r = 15 := by rw [← HR2.out, wrong4 HF.out HN3.out HA.out hc]
              clear hc
              go_wp2_with (go_at_call 55; refine (counted_any (AX.out _ HX3.out).1 (AX.out _ HX3.out).2 hl HFN).mono ?_; rintro e W4 ⟨rfl, HB4⟩; rw [HC.out]; have HX4 := Lib.hid (Bx.over HB4.out HX3.out); (have v0 := HX4.out.2.cell 0); (have v1 := HX4.out.2.cell 1); (have v2 := HX4.out.2.cell 2); (have v3 := HX4.out.2.cell 3))
              go_ret
              exact ⟨rfl, Lib.hid HX4.out.1⟩
            | true =>
              have HC := Lib.hid hc
              have HFC : Hid (t.op = 3 → S.hasFun t.fn = true ∧ (S.fnAt t.fn).args.length = t.kids.length) := Lib.hid fun h => ⟨HFN.out h, counted_fn hc h⟩
              have H10 : Hid (t.op = 10 → 1 < t.kids.length) := Lib.hid fun h => counted_ite hc h
              clear hc
              go_upto_region 9 with (go_at_call 55; refine (counted_any (AX.out _ HX3.out).1 (AX.out _ HX3.out).2 hl HFN).mono ?_; rintro e W4 ⟨rfl, HB4⟩; rw [HC.out]; have HX4 := Lib.hid (Bx.over HB4.out HX3.out); (have v0 := HX4.out.2.cell 0); (have v1 := HX4.out.2.cell 1); (have v2 := HX4.out.2.cell 2); (have v3 := HX4.out.2.cell 3))
              clear z0 z1 z2 z3
              cases hi : S.fits t with
              | false =>
                have HI := Lib.hid hi
                obtain rfl : r = 14 := by rw [← HR2.out, wrong5 HF.out HN3.out HA.out HC.out hi]
                clear hi
                go_wp2_with (go_at_call 56; refine (fits_any (AX.out _ HX4.out).1 (AX.out _ HX4.out).2 hl HFC H10).mono ?_; rintro e W5 ⟨rfl, HB5⟩; rw [HI.out]; have HX5 := Lib.hid (Bx.over HB5.out HX4.out); (have u0 := HX5.out.2.cell 0); (have u1 := HX5.out.2.cell 1); (have u2 := HX5.out.2.cell 2); (have u3 := HX5.out.2.cell 3))
                go_ret
                exact ⟨rfl, Lib.hid HX5.out.1⟩
              | true =>
                have HI := Lib.hid hi
                clear hi
                go_upto_region 11 with (go_at_call 56; refine (fits_any (AX.out _ HX4.out).1 (AX.out _ HX4.out).2 hl HFC H10).mono ?_; rintro e W5 ⟨rfl, HB5⟩; rw [HI.out]; have HX5 := Lib.hid (Bx.over HB5.out HX4.out); (have u0 := HX5.out.2.cell 0); (have u1 := HX5.out.2.cell 1); (have u2 := HX5.out.2.cell 2); (have u3 := HX5.out.2.cell 3))
                clear v0 v1 v2 v3
                have HR3 : Hid ((if t.op = 19 ∧ 1 < S.free t.kids then 16 else 0) = r) := Lib.hid (by rw [← HR2.out, wrong6 HF.out HN3.out HA.out HC.out HI.out])
                obtain rfl : r = 0 := by rw [← HR3.out, if_neg (by rw [H3.out]; omega)]
                go_wp2_with fail
                go_ret
                exact ⟨rfl, Lib.hid HX5.out.1⟩
    · have b3 : (t.op == 3) = false := by simpa using h3
      have HFN : Hid (t.op = 3 → S.hasFun t.fn = true) := Lib.hid fun h => absurd h h3
      have HN3 : Hid (¬ (t.op = 3 ∧ S.hasFun t.fn = false)) := Lib.hid fun h => h3 h.1
      clear h3
      go_enter Tryd.func45, Tryd.ntmps45
      go_upto_region 1 with fail
      generalize hW : World.alloc _ _ = W1
      have HX : Hid (Bx w W1 41 #[.int .i64 t.op, .int .i64 t.fn, .slice A t.kids.length c, .string t.num]) := Lib.hid (hW ▸ ⟨(Below.refl _ w).alloc (Nat.le_refl _) _, Bk.new w _ _⟩)
      clear hW
      have x0 := HX.out.2.cell 0
      have x1 := HX.out.2.cell 1
      have x2 := HX.out.2.cell 2
      have x3 := HX.out.2.cell 3
      go_upto_region 3 with (go_at_call 53; refine (formed_any (t := t)).mono ?_; rintro e W2 ⟨rfl, HB2⟩; rw [HF.out]; have HX2 := Lib.hid (Bx.over HB2.out HX.out); (have y0 := HX2.out.2.cell 0); (have y1 := HX2.out.2.cell 1); (have y2 := HX2.out.2.cell 2); (have y3 := HX2.out.2.cell 3))
      clear x0 x1 x2 x3
      obtain ⟨As, cs, Af, cf, At, ct, mb, ib, c0, c1, c2, c3, c4, c5, hlt⟩ := (AX.out _ HX2.out).1.out.cells
      go_quiet (fail)
      have HX3 : Hid (Bx w (W2.drewN nq) 41 #[.int .i64 t.op, .int .i64 t.fn, .slice A t.kids.length c, .string t.num]) := Lib.hid ⟨below_drewN HX2.out.1 nq, HX2.out.2⟩
      clear y0 y1 y2 y3 c0 c1 c2 c3 c4 c5 hlt HX2
      generalize W2.drewN nq = W3 at *
      have z0 := HX3.out.2.cell 0
      have z1 := HX3.out.2.cell 1
      have z2 := HX3.out.2.cell 2
      have z3 := HX3.out.2.cell 3
      go_upto_region 5 with fail
      cases ha : t.kids.all S.has with
      | false =>
        have HA := Lib.hid ha
        obtain rfl : r = 2 := by rw [← HR2.out, wrong3 HF.out HN3.out ha]
        clear ha
        go_wp2_with (go_at_call 54; refine (hasAll_any (AX.out _ HX3.out).1 (AX.out _ HX3.out).2 hl).mono ?_; rintro e W9 ⟨rfl, rfl⟩; rw [HA.out])
        go_ret
        exact ⟨rfl, Lib.hid HX3.out.1⟩
      | true =>
        have HA := Lib.hid ha
        clear ha
        go_upto_region 7 with (go_at_call 54; refine (hasAll_any (AX.out _ HX3.out).1 (AX.out _ HX3.out).2 hl).mono ?_; rintro e W9 ⟨rfl, rfl⟩; rw [HA.out])
        cases hc : S.counted t with
        | false =>
          have HC := Lib.hid hc
          obtain rfl : r = 15 := by rw [← HR2.out, wrong4 HF.out HN3.out HA.out hc]
          clear hc
          go_wp2_with (go_at_call 55; refine (counted_any (AX.out _ HX3.out).1 (AX.out _ HX3.out).2 hl HFN).mono ?_; rintro e W4 ⟨rfl, HB4⟩; rw [HC.out]; have HX4 := Lib.hid (Bx.over HB4.out HX3.out); (have v0 := HX4.out.2.cell 0); (have v1 := HX4.out.2.cell 1); (have v2 := HX4.out.2.cell 2); (have v3 := HX4.out.2.cell 3))
          go_ret
          exact ⟨rfl, Lib.hid HX4.out.1⟩
        | true =>
          have HC := Lib.hid hc
          have HFC : Hid (t.op = 3 → S.hasFun t.fn = true ∧ (S.fnAt t.fn).args.length = t.kids.length) := Lib.hid fun h => ⟨HFN.out h, counted_fn hc h⟩
          have H10 : Hid (t.op = 10 → 1 < t.kids.length) := Lib.hid fun h => counted_ite hc h
          clear hc
          go_upto_region 9 with (go_at_call 55; refine (counted_any (AX.out _ HX3.out).1 (AX.out _ HX3.out).2 hl HFN).mono ?_; rintro e W4 ⟨rfl, HB4⟩; rw [HC.out]; have HX4 := Lib.hid (Bx.over HB4.out HX3.out); (have v0 := HX4.out.2.cell 0); (have v1 := HX4.out.2.cell 1); (have v2 := HX4.out.2.cell 2); (have v3 := HX4.out.2.cell 3))
          clear z0 z1 z2 z3
          cases hi : S.fits t with
          | false =>
            have HI := Lib.hid hi
            obtain rfl : r = 14 := by rw [← HR2.out, wrong5 HF.out HN3.out HA.out HC.out hi]
            clear hi
            go_wp2_with (go_at_call 56; refine (fits_any (AX.out _ HX4.out).1 (AX.out _ HX4.out).2 hl HFC H10).mono ?_; rintro e W5 ⟨rfl, HB5⟩; rw [HI.out]; have HX5 := Lib.hid (Bx.over HB5.out HX4.out); (have u0 := HX5.out.2.cell 0); (have u1 := HX5.out.2.cell 1); (have u2 := HX5.out.2.cell 2); (have u3 := HX5.out.2.cell 3))
            go_ret
            exact ⟨rfl, Lib.hid HX5.out.1⟩
          | true =>
            have HI := Lib.hid hi
            clear hi
            go_upto_region 11 with (go_at_call 56; refine (fits_any (AX.out _ HX4.out).1 (AX.out _ HX4.out).2 hl HFC H10).mono ?_; rintro e W5 ⟨rfl, HB5⟩; rw [HI.out]; have HX5 := Lib.hid (Bx.over HB5.out HX4.out); (have u0 := HX5.out.2.cell 0); (have u1 := HX5.out.2.cell 1); (have u2 := HX5.out.2.cell 2); (have u3 := HX5.out.2.cell 3))
            clear v0 v1 v2 v3
            have HR3 : Hid ((if t.op = 19 ∧ 1 < S.free t.kids then 16 else 0) = r) := Lib.hid (by rw [← HR2.out, wrong6 HF.out HN3.out HA.out HC.out HI.out])
            by_cases h19 : t.op = 19
            · have b19 : (t.op == 19) = true := by simpa using h19
              by_cases hfr : 1 < S.free t.kids
              · have gfr : (1 : Int) < (S.free t.kids : Int) := by omega
                obtain rfl : r = 16 := by rw [← HR3.out, if_pos ⟨h19, hfr⟩]
                clear h19
                go_wp2_with (go_at_call 57; refine (unknowns_any (AX.out _ HX5.out).1 (AX.out _ HX5.out).2 hl).mono ?_; rintro e W9 ⟨rfl, rfl⟩)
                go_ret
                exact ⟨rfl, Lib.hid HX5.out.1⟩
              · have gfr : ¬ (1 : Int) < (S.free t.kids : Int) := by omega
                have gfd : decide ((1 : Int) < (S.free t.kids : Int)) = false := decide_eq_false gfr
                obtain rfl : r = 0 := by rw [← HR3.out, if_neg (fun h => hfr h.2)]
                clear h19
                go_wp2_with (go_at_call 57; refine (unknowns_any (AX.out _ HX5.out).1 (AX.out _ HX5.out).2 hl).mono ?_; rintro e W9 ⟨rfl, rfl⟩)
                go_ret
                exact ⟨rfl, Lib.hid HX5.out.1⟩
            · have b19 : (t.op == 19) = false := by simpa using h19
              obtain rfl : r = 0 := by rw [← HR3.out, if_neg (fun h => h19 h.1)]
              clear h19
              go_wp2_with fail
              go_ret
              exact ⟨rfl, Lib.hid HX5.out.1⟩
end Go.Proofs.YtdnhhfhjjimcgaaDoor.dg
