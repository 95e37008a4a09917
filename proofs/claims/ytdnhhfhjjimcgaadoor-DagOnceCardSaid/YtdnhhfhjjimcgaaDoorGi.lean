/- Package dag: which sort a kid must have; has each the one that it must. -/
import Derived.Deep.RegionHeld3
import Derived.Test.YtdnhhfhjjimcgaaDoorGg
namespace Go.Proofs.YtdnhhfhjjimcgaaDoor.dg
open Go Go.RowKit

set_option maxRecDepth 100000 in
set_option maxHeartbeats 4000000 in
theorem wants_any {w : World} {F G : Nat → Prop} {a : Nat} {S : St} (H : Hid (Ar w F a S)) {t : Tm} {A : Option Addr} {c : Nat} (hr : Hid (Ri w G t.kids A c)) (hl : t.kids.length ≤ 1000000) {i : Nat} (hil : i < t.kids.length) (hf : Hid (t.op = 3 → S.hasFun t.fn = true ∧ i < (S.fnAt t.fn).args.length)) (h10 : Hid (t.op = 10 → 1 < t.kids.length)) :
    Calls Tryd.prog 66 #[.pointer (some ⟨a, 0, none⟩), .agg #[.int .i64 t.op, .int .i64 t.fn, .slice A t.kids.length c, .string t.num], .int .i64 (i : Int)] w fun e w' => e = .returned (.int .i64 (S.wants t i)) ∧ Hid (Below w.heap.size w w') := by
  obtain ⟨op, hop⟩ : ∃ op, t.op = op := ⟨_, rfl⟩
  have HOP := Lib.hid hop
  rw [hop]
  clear hop
  obtain ⟨z, hz⟩ : ∃ z, S.wants t i = z := ⟨_, rfl⟩
  rw [hz]
  have HZ := Lib.hid hz
  clear hz
  unfold St.wants at HZ
  rw [HOP.out] at HZ
  have all : ∀ (P : Prop), (op = 3 → P) → (op = 5 ∨ op = 6 ∨ op = 7 ∨ op = 8 ∨ op = 9 → P) → (op = 10 → P) → (op = 11 ∨ op = 12 → P) → (op ≠ 3 ∧ (op ≠ 5 ∧ op ≠ 6 ∧ op ≠ 7 ∧ op ≠ 8 ∧ op ≠ 9) ∧ op ≠ 10 ∧ op ≠ 11 ∧ op ≠ 12 → P) → P := fun P h1 h2 h3 h4 h5 => by
    by_cases k1 : op = 3
    · exact h1 k1
    by_cases k2 : op = 5 ∨ op = 6 ∨ op = 7 ∨ op = 8 ∨ op = 9
    · exact h2 k2
    by_cases k3 : op = 10
    · exact h3 k3
    by_cases k4 : op = 11 ∨ op = 12
    · exact h4 k4
    exact h5 ⟨k1, ⟨fun e => k2 (.inl e), fun e => k2 (.inr (.inl e)), fun e => k2 (.inr (.inr (.inl e))), fun e => k2 (.inr (.inr (.inr (.inl e)))), fun e => k2 (.inr (.inr (.inr (.inr e))))⟩, k3, fun e => k4 (.inl e), fun e => k4 (.inr e)⟩
  apply all
  · rintro rfl
    obtain ⟨⟨j, hj, hjl⟩, hia⟩ := (show (∃ j : Nat, t.fn = (j : Int) ∧ j < S.funs.length) ∧ i < (S.fnAt t.fn).args.length from ⟨hasFun_nat (hf.out HOP.out).1, (hf.out HOP.out).2⟩)
    rw [hj, fnAt_at hjl] at hia
    obtain rfl : S.funs[j].args[i] = z := by
      have := HZ.out
      rw [hj, fnAt_at hjl] at this
      simpa [List.getD, hia] using this
    rw [hj]
    have h1 : (j : Int) < (S.funs.length : Int) := by omega
    have h2 : (i : Int) < (S.funs[j].args.length : Int) := by omega
    go_enter Tryd.func66, Tryd.ntmps66
    go_upto_region 1 with fail
    generalize hW : World.alloc _ _ = W1
    have HB : Hid (Below w.heap.size w W1) := Lib.hid (hW ▸ (Below.refl _ w).alloc (Nat.le_refl _) _)
    have HX : Hid (Bk W1 w.heap.size 41 #[.int .i64 3, .int .i64 (j : Int), .slice A t.kids.length c, .string t.num]) := Lib.hid (hW ▸ Bk.new w _ _)
    have HA := Lib.hid (H.out.below HB.out)
    have HR := Lib.hid (hr.out.below HB.out)
    clear hW
    have x0 := HX.out.cell 0
    have x1 := HX.out.cell 1
    have x2 := HX.out.cell 2
    have x3 := HX.out.cell 3
    obtain ⟨g, cc, A2, q, hF, hg, c3, f0, f1, f2, hri⟩ := HA.out.func hjl
    obtain ⟨g', off', rfl, _, _, hci⟩ := hri.get hia
    clear hri
    go_upto_region 3 with fail
    go_quiet (fail)
    have HB2 := Lib.hid (below_drewN HB.out nq)
    clear HB x0 x1 x2 x3 c3 f0 f1 f2 hci HX HA HR
    generalize W1.drewN nq = W2 at *
    go_wp2_with fail
    go_ret
    exact ⟨rfl, HB2⟩
  · rintro (rfl | rfl | rfl | rfl | rfl)
    · obtain rfl : z = 0 := by have := HZ.out; simp at this; exact this.symm
      go_enter Tryd.func66, Tryd.ntmps66
      go_upto_region 1 with fail
      generalize hW : World.alloc _ _ = W1
      have HB : Hid (Below w.heap.size w W1) := Lib.hid (hW ▸ (Below.refl _ w).alloc (Nat.le_refl _) _)
      have HX : Hid (Bk W1 w.heap.size 41 #[.int .i64 5, .int .i64 t.fn, .slice A t.kids.length c, .string t.num]) := Lib.hid (hW ▸ Bk.new w _ _)
      have HA := Lib.hid (H.out.below HB.out)
      have HR := Lib.hid (hr.out.below HB.out)
      clear hW
      have x0 := HX.out.cell 0
      have x1 := HX.out.cell 1
      have x2 := HX.out.cell 2
      have x3 := HX.out.cell 3
      go_wp2_with fail
      go_ret
      exact ⟨rfl, HB⟩
    · obtain rfl : z = 0 := by have := HZ.out; simp at this; exact this.symm
      go_enter Tryd.func66, Tryd.ntmps66
      go_upto_region 1 with fail
      generalize hW : World.alloc _ _ = W1
      have HB : Hid (Below w.heap.size w W1) := Lib.hid (hW ▸ (Below.refl _ w).alloc (Nat.le_refl _) _)
      have HX : Hid (Bk W1 w.heap.size 41 #[.int .i64 6, .int .i64 t.fn, .slice A t.kids.length c, .string t.num]) := Lib.hid (hW ▸ Bk.new w _ _)
      have HA := Lib.hid (H.out.below HB.out)
      have HR := Lib.hid (hr.out.below HB.out)
      clear hW
      have x0 := HX.out.cell 0
      have x1 := HX.out.cell 1
      have x2 := HX.out.cell 2
      have x3 := HX.out.cell 3
      go_wp2_with fail
      go_ret
      exact ⟨rfl, HB⟩
    · obtain rfl : z = 0 := by have := HZ.out; simp at this; exact this.symm
      go_enter Tryd.func66, Tryd.ntmps66
      go_upto_region 1 with fail
      generalize hW : World.alloc _ _ = W1
      have HB : Hid (Below w.heap.size w W1) := Lib.hid (hW ▸ (Below.refl _ w).alloc (Nat.le_refl _) _)
      have HX : Hid (Bk W1 w.heap.size 41 #[.int .i64 7, .int .i64 t.fn, .slice A t.kids.length c, .string t.num]) := Lib.hid (hW ▸ Bk.new w _ _)
      have HA := Lib.hid (H.out.below HB.out)
      have HR := Lib.hid (hr.out.below HB.out)
      clear hW
      have x0 := HX.out.cell 0
      have x1 := HX.out.cell 1
      have x2 := HX.out.cell 2
      have x3 := HX.out.cell 3
      go_wp2_with fail
      go_ret
      exact ⟨rfl, HB⟩
    · obtain rfl : z = 0 := by have := HZ.out; simp at this; exact this.symm
      go_enter Tryd.func66, Tryd.ntmps66
      go_upto_region 1 with fail
      generalize hW : World.alloc _ _ = W1
      have HB : Hid (Below w.heap.size w W1) := Lib.hid (hW ▸ (Below.refl _ w).alloc (Nat.le_refl _) _)
      have HX : Hid (Bk W1 w.heap.size 41 #[.int .i64 8, .int .i64 t.fn, .slice A t.kids.length c, .string t.num]) := Lib.hid (hW ▸ Bk.new w _ _)
      have HA := Lib.hid (H.out.below HB.out)
      have HR := Lib.hid (hr.out.below HB.out)
      clear hW
      have x0 := HX.out.cell 0
      have x1 := HX.out.cell 1
      have x2 := HX.out.cell 2
      have x3 := HX.out.cell 3
      go_wp2_with fail
      go_ret
      exact ⟨rfl, HB⟩
    · obtain rfl : z = 0 := by have := HZ.out; simp at this; exact this.symm
      go_enter Tryd.func66, Tryd.ntmps66
      go_upto_region 1 with fail
      generalize hW : World.alloc _ _ = W1
      have HB : Hid (Below w.heap.size w W1) := Lib.hid (hW ▸ (Below.refl _ w).alloc (Nat.le_refl _) _)
      have HX : Hid (Bk W1 w.heap.size 41 #[.int .i64 9, .int .i64 t.fn, .slice A t.kids.length c, .string t.num]) := Lib.hid (hW ▸ Bk.new w _ _)
      have HA := Lib.hid (H.out.below HB.out)
      have HR := Lib.hid (hr.out.below HB.out)
      clear hW
      have x0 := HX.out.cell 0
      have x1 := HX.out.cell 1
      have x2 := HX.out.cell 2
      have x3 := HX.out.cell 3
      go_wp2_with fail
      go_ret
      exact ⟨rfl, HB⟩
  · rintro rfl
    by_cases hi0 : i = 0
    · subst hi0
      obtain rfl : z = 0 := by have := HZ.out; simp at this; exact this.symm
      go_enter Tryd.func66, Tryd.ntmps66
      go_upto_region 1 with fail
      generalize hW : World.alloc _ _ = W1
      have HB : Hid (Below w.heap.size w W1) := Lib.hid (hW ▸ (Below.refl _ w).alloc (Nat.le_refl _) _)
      have HX : Hid (Bk W1 w.heap.size 41 #[.int .i64 10, .int .i64 t.fn, .slice A t.kids.length c, .string t.num]) := Lib.hid (hW ▸ Bk.new w _ _)
      have HA := Lib.hid (H.out.below HB.out)
      have HR := Lib.hid (hr.out.below HB.out)
      clear hW
      have x0 := HX.out.cell 0
      have x1 := HX.out.cell 1
      have x2 := HX.out.cell 2
      have x3 := HX.out.cell 3
      go_wp2_with fail
      go_ret
      exact ⟨rfl, HB⟩
    · have hk := h10.out HOP.out
      obtain rfl : S.of (t.kids[1]'hk) = z := by
        have := HZ.out
        simpa [List.getD, hk, hi0] using this
      have g1 : (1 : Int) < (t.kids.length : Int) := by omega
      have g0 : (((i : Nat) : Int) == 0) = false := by rw [beq_eq_false_iff_ne]; omega
      clear hi0
      go_enter Tryd.func66, Tryd.ntmps66
      go_upto_region 1 with fail
      generalize hW : World.alloc _ _ = W1
      have HB : Hid (Below w.heap.size w W1) := Lib.hid (hW ▸ (Below.refl _ w).alloc (Nat.le_refl _) _)
      have HX : Hid (Bk W1 w.heap.size 41 #[.int .i64 10, .int .i64 t.fn, .slice A t.kids.length c, .string t.num]) := Lib.hid (hW ▸ Bk.new w _ _)
      have HA := Lib.hid (H.out.below HB.out)
      have HR := Lib.hid (hr.out.below HB.out)
      clear hW
      have x0 := HX.out.cell 0
      have x1 := HX.out.cell 1
      have x2 := HX.out.cell 2
      have x3 := HX.out.cell 3
      obtain ⟨g, off, rfl, _, _, hc⟩ := HR.out.get hk
      go_wp2_with (go_at_call 17; refine (of_any HA _).mono ?_; rintro e w5 ⟨rfl, rfl⟩)
      go_ret
      exact ⟨rfl, HB⟩
  · have hk : 0 < t.kids.length := by omega
    have hk0 : (0 : Int) < (t.kids.length : Int) := by omega
    rintro (rfl | rfl)
    · obtain rfl : S.of (t.kids[0]'hk) = z := by
        have := HZ.out
        simpa [List.getD, hk] using this
      go_enter Tryd.func66, Tryd.ntmps66
      go_upto_region 1 with fail
      generalize hW : World.alloc _ _ = W1
      have HB : Hid (Below w.heap.size w W1) := Lib.hid (hW ▸ (Below.refl _ w).alloc (Nat.le_refl _) _)
      have HX : Hid (Bk W1 w.heap.size 41 #[.int .i64 11, .int .i64 t.fn, .slice A t.kids.length c, .string t.num]) := Lib.hid (hW ▸ Bk.new w _ _)
      have HA := Lib.hid (H.out.below HB.out)
      have HR := Lib.hid (hr.out.below HB.out)
      clear hW
      have x0 := HX.out.cell 0
      have x1 := HX.out.cell 1
      have x2 := HX.out.cell 2
      have x3 := HX.out.cell 3
      obtain ⟨g, off, rfl, _, _, hc⟩ := HR.out.get hk
      rw [Nat.add_zero] at hc
      go_wp2_with (go_at_call 17; refine (of_any HA _).mono ?_; rintro e w5 ⟨rfl, rfl⟩)
      go_ret
      exact ⟨rfl, HB⟩
    · obtain rfl : S.of (t.kids[0]'hk) = z := by
        have := HZ.out
        simpa [List.getD, hk] using this
      go_enter Tryd.func66, Tryd.ntmps66
      go_upto_region 1 with fail
      generalize hW : World.alloc _ _ = W1
      have HB : Hid (Below w.heap.size w W1) := Lib.hid (hW ▸ (Below.refl _ w).alloc (Nat.le_refl _) _)
      have HX : Hid (Bk W1 w.heap.size 41 #[.int .i64 12, .int .i64 t.fn, .slice A t.kids.length c, .string t.num]) := Lib.hid (hW ▸ Bk.new w _ _)
      have HA := Lib.hid (H.out.below HB.out)
      have HR := Lib.hid (hr.out.below HB.out)
      clear hW
      have x0 := HX.out.cell 0
      have x1 := HX.out.cell 1
      have x2 := HX.out.cell 2
      have x3 := HX.out.cell 3
      obtain ⟨g, off, rfl, _, _, hc⟩ := HR.out.get hk
      rw [Nat.add_zero] at hc
      go_wp2_with (go_at_call 17; refine (of_any HA _).mono ?_; rintro e w5 ⟨rfl, rfl⟩)
      go_ret
      exact ⟨rfl, HB⟩
  · rintro ⟨k3, ⟨k5, k6, k7, k8, k9⟩, k10, k11, k12⟩
    obtain rfl : z = 1 := by
      have := HZ.out
      rw [if_neg k3, if_neg (by omega), if_neg k10, if_neg (by omega)] at this
      exact this.symm
    have e3 := beq_no k3
    have e5 := beq_no k5
    have e6 := beq_no k6
    have e7 := beq_no k7
    have e8 := beq_no k8
    have e9 := beq_no k9
    have e10 := beq_no k10
    have e11 := beq_no k11
    have e12 := beq_no k12
    clear k3 k5 k6 k7 k8 k9 k10 k11 k12
    go_enter Tryd.func66, Tryd.ntmps66
    go_upto_region 1 with fail
    generalize hW : World.alloc _ _ = W1
    have HB : Hid (Below w.heap.size w W1) := Lib.hid (hW ▸ (Below.refl _ w).alloc (Nat.le_refl _) _)
    have HX : Hid (Bk W1 w.heap.size 41 #[.int .i64 op, .int .i64 t.fn, .slice A t.kids.length c, .string t.num]) := Lib.hid (hW ▸ Bk.new w _ _)
    have HA := Lib.hid (H.out.below HB.out)
    have HR := Lib.hid (hr.out.below HB.out)
    clear hW
    have x0 := HX.out.cell 0
    have x1 := HX.out.cell 1
    have x2 := HX.out.cell 2
    have x3 := HX.out.cell 3
    go_wp2_with fail
    go_ret
    exact ⟨rfl, HB⟩
end Go.Proofs.YtdnhhfhjjimcgaaDoor.dg
