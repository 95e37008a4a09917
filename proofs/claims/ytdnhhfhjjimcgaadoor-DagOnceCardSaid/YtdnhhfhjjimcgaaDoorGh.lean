/- Package dag: are a term's kids as many as it takes; what it gives; is it constant; which sorts it wants. -/
import Derived.Deep.RegionHeld3
import Derived.Test.YtdnhhfhjjimcgaaDoorGg
namespace Go.Proofs.YtdnhhfhjjimcgaaDoor.dg
open Go Go.RowKit

set_option maxRecDepth 100000 in
set_option maxHeartbeats 4000000 in
theorem counted_any {w : World} {F G : Nat → Prop} {a : Nat} {S : St} (H : Hid (Ar w F a S)) {t : Tm} {A : Option Addr} {c : Nat} (hr : Hid (Ri w G t.kids A c)) (hl : t.kids.length ≤ 1000000) (hf : Hid (t.op = 3 → S.hasFun t.fn = true)) :
    Calls Tryd.prog 55 #[.pointer (some ⟨a, 0, none⟩), .agg #[.int .i64 t.op, .int .i64 t.fn, .slice A t.kids.length c, .string t.num]] w fun e w' => e = .returned (.bool (S.counted t)) ∧ Hid (Below w.heap.size w w') := by
  obtain ⟨lo, hlo⟩ : ∃ lo, (S.takes t).1 = lo := ⟨_, rfl⟩
  obtain ⟨hi, hhi⟩ : ∃ hi, (S.takes t).2 = hi := ⟨_, rfl⟩
  have HT : Hid (S.takes t = (lo, hi)) := Lib.hid (by rw [← hlo, ← hhi])
  obtain ⟨r, hr2⟩ : ∃ r, S.counted t = r := ⟨_, rfl⟩
  rw [hr2]
  have HR2 : Hid ((decide (lo ≤ (t.kids.length : Int)) && decide ((t.kids.length : Int) ≤ hi)) = r) := Lib.hid (by rw [← hr2]; unfold St.counted; rw [hlo, hhi])
  clear hlo hhi hr2
  have fin : ∀ W1 w5 : World, Hid (Bk W1 w.heap.size 41 #[.int .i64 t.op, .int .i64 t.fn, .slice A t.kids.length c, .string t.num]) → Hid (Below W1.heap.size W1 w5) → w5.cell? ⟨w.heap.size, 2, none⟩ = some (.slice A t.kids.length c) := fun W1 w5 h1 h2 => (h1.out.below h2.out h1.out.lt).cell 2
  by_cases h1 : lo ≤ (t.kids.length : Int)
  · by_cases h2 : (t.kids.length : Int) ≤ hi
    · obtain rfl : r = true := by rw [← HR2.out]; simp [h1, h2]
      go_enter Tryd.func55, Tryd.ntmps55
      go_upto_region 1 with fail
      generalize hW : World.alloc _ _ = W1
      have HB : Hid (Below w.heap.size w W1) := Lib.hid (hW ▸ (Below.refl _ w).alloc (Nat.le_refl _) _)
      have HX : Hid (Bk W1 w.heap.size 41 #[.int .i64 t.op, .int .i64 t.fn, .slice A t.kids.length c, .string t.num]) := Lib.hid (hW ▸ Bk.new w _ _)
      have HA := Lib.hid (H.out.below HB.out)
      have HR := Lib.hid (hr.out.below HB.out)
      clear hW
      have x0 := HX.out.cell 0
      have x1 := HX.out.cell 1
      have x2 := HX.out.cell 2
      have x3 := HX.out.cell 3
      go_wp2_with (go_at_call 65; refine (takes_any HA HR hl hf HT).mono ?_; rintro e w5 ⟨rfl, HB5⟩; have x5 := fin _ _ HX HB5)
      go_ret
      exact ⟨rfl, Lib.hid (HB.out.trans (HB5.out.mono HB.out.size))⟩
    · obtain rfl : r = false := by rw [← HR2.out]; simp [h2]
      have h4 : decide ((t.kids.length : Int) ≤ hi) = false := by simp [h2]
      go_enter Tryd.func55, Tryd.ntmps55
      go_upto_region 1 with fail
      generalize hW : World.alloc _ _ = W1
      have HB : Hid (Below w.heap.size w W1) := Lib.hid (hW ▸ (Below.refl _ w).alloc (Nat.le_refl _) _)
      have HX : Hid (Bk W1 w.heap.size 41 #[.int .i64 t.op, .int .i64 t.fn, .slice A t.kids.length c, .string t.num]) := Lib.hid (hW ▸ Bk.new w _ _)
      have HA := Lib.hid (H.out.below HB.out)
      have HR := Lib.hid (hr.out.below HB.out)
      clear hW
      have x0 := HX.out.cell 0
      have x1 := HX.out.cell 1
      have x2 := HX.out.cell 2
      have x3 := HX.out.cell 3
      go_wp2_with (go_at_call 65; refine (takes_any HA HR hl hf HT).mono ?_; rintro e w5 ⟨rfl, HB5⟩; have x5 := fin _ _ HX HB5)
      go_ret
      exact ⟨rfl, Lib.hid (HB.out.trans (HB5.out.mono HB.out.size))⟩
  · obtain rfl : r = false := by rw [← HR2.out]; simp [h1]
    have h3 : decide (lo ≤ (t.kids.length : Int)) = false := by simp [h1]
    go_enter Tryd.func55, Tryd.ntmps55
    go_upto_region 1 with fail
    generalize hW : World.alloc _ _ = W1
    have HB : Hid (Below w.heap.size w W1) := Lib.hid (hW ▸ (Below.refl _ w).alloc (Nat.le_refl _) _)
    have HX : Hid (Bk W1 w.heap.size 41 #[.int .i64 t.op, .int .i64 t.fn, .slice A t.kids.length c, .string t.num]) := Lib.hid (hW ▸ Bk.new w _ _)
    have HA := Lib.hid (H.out.below HB.out)
    have HR := Lib.hid (hr.out.below HB.out)
    clear hW
    have x0 := HX.out.cell 0
    have x1 := HX.out.cell 1
    have x2 := HX.out.cell 2
    have x3 := HX.out.cell 3
    go_wp2_with (go_at_call 65; refine (takes_any HA HR hl hf HT).mono ?_; rintro e w5 ⟨rfl, HB5⟩; have x5 := fin _ _ HX HB5)
    go_ret
    exact ⟨rfl, Lib.hid (HB.out.trans (HB5.out.mono HB.out.size))⟩

set_option maxRecDepth 100000 in
set_option maxHeartbeats 4000000 in
theorem gives_any {w : World} {F G : Nat → Prop} {a : Nat} {S : St} (H : Hid (Ar w F a S)) {t : Tm} {A : Option Addr} {c : Nat} (hr : Hid (Ri w G t.kids A c)) (hl : t.kids.length ≤ 1000000) (hf : Hid (t.op = 3 → S.hasFun t.fn = true)) (h10 : Hid (t.op = 10 → 1 < t.kids.length)) :
    Calls Tryd.prog 47 #[.pointer (some ⟨a, 0, none⟩), .agg #[.int .i64 t.op, .int .i64 t.fn, .slice A t.kids.length c, .string t.num]] w fun e w' => e = .returned (.int .i64 (S.gives t)) ∧ Hid (Below w.heap.size w w') := by
  obtain ⟨op, hop⟩ : ∃ op, t.op = op := ⟨_, rfl⟩
  have HOP := Lib.hid hop
  rw [hop]
  clear hop
  obtain ⟨z, hz⟩ : ∃ z, S.gives t = z := ⟨_, rfl⟩
  rw [hz]
  have HZ := Lib.hid hz
  clear hz
  unfold St.gives at HZ
  rw [HOP.out] at HZ
  have all : ∀ (P : Prop), (op = 3 → P) → (op = 10 → P) → (op = 4 ∨ op = 17 ∨ op = 18 ∨ op = 19 → P) → (op ≠ 3 ∧ op ≠ 10 ∧ op ≠ 4 ∧ op ≠ 17 ∧ op ≠ 18 ∧ op ≠ 19 → P) → P := fun P h1 h2 h3 h4 => by
    by_cases k1 : op = 3
    · exact h1 k1
    by_cases k2 : op = 10
    · exact h2 k2
    by_cases k3 : op = 4 ∨ op = 17 ∨ op = 18 ∨ op = 19
    · exact h3 k3
    exact h4 ⟨k1, k2, fun e => k3 (.inl e), fun e => k3 (.inr (.inl e)), fun e => k3 (.inr (.inr (.inl e))), fun e => k3 (.inr (.inr (.inr e)))⟩
  apply all
  · rintro rfl
    obtain ⟨j, hj, hjl⟩ := hasFun_nat (hf.out HOP.out)
    obtain rfl : S.funs[j].res = z := by
      have := HZ.out
      rw [hj, fnAt_at hjl] at this
      simpa using this
    rw [hj]
    have h1 : (j : Int) < (S.funs.length : Int) := by omega
    go_enter Tryd.func47, Tryd.ntmps47
    go_upto_region 1 with fail
    generalize hW : World.alloc _ _ = W1
    have HB : Hid (Below w.heap.size w W1) := Lib.hid (hW ▸ (Below.refl _ w).alloc (Nat.le_refl _) _)
    have HX : Hid (Bk W1 w.heap.size 41 #[.int .i64 3, .int .i64 (j : Int), .slice A t.kids.length c, .string t.num]) := Lib.hid (hW ▸ Bk.new w _ _)
    have HA := Lib.hid (H.out.below HB.out)
    have HR := Lib.hid (hr.out.below HB.out)
    clear hW
    have x0 := HX.out.cell 0
    have x1 := HX.out.cell 1
    have x2 := HX.out.cell 2
    have x3 := HX.out.cell 3
    obtain ⟨g, cc, A2, q, hF, hg, c3, f0, f1, f2, _⟩ := HA.out.func hjl
    go_upto_region 3 with fail
    go_quiet (fail)
    have HB2 := Lib.hid (below_drewN HB.out nq)
    clear HB x0 x1 x2 x3 c3 f0 f1 f2 HX HA HR
    generalize W1.drewN nq = W2 at *
    go_wp2_with fail
    go_ret
    exact ⟨rfl, HB2⟩
  · rintro rfl
    have hk := h10.out HOP.out
    obtain rfl : S.of (t.kids[1]'hk) = z := by
      have := HZ.out
      simpa [List.getD, hk] using this
    have g1 : (1 : Int) < (t.kids.length : Int) := by omega
    go_enter Tryd.func47, Tryd.ntmps47
    go_upto_region 1 with fail
    generalize hW : World.alloc _ _ = W1
    have HB : Hid (Below w.heap.size w W1) := Lib.hid (hW ▸ (Below.refl _ w).alloc (Nat.le_refl _) _)
    have HX : Hid (Bk W1 w.heap.size 41 #[.int .i64 10, .int .i64 t.fn, .slice A t.kids.length c, .string t.num]) := Lib.hid (hW ▸ Bk.new w _ _)
    have HA := Lib.hid (H.out.below HB.out)
    have HR := Lib.hid (hr.out.below HB.out)
    clear hW
    have x0 := HX.out.cell 0
    have x1 := HX.out.cell 1
    have x2 := HX.out.cell 2
    have x3 := HX.out.cell 3
    obtain ⟨g, off, rfl, _, _, hc⟩ := HR.out.get hk
    go_wp2_with (go_at_call 17; refine (of_any HA _).mono ?_; rintro e w5 ⟨rfl, rfl⟩)
    go_ret
    exact ⟨rfl, HB⟩
  · rintro (rfl | rfl | rfl | rfl)
    · obtain rfl : z = 1 := by have := HZ.out; simp at this; exact this.symm
      go_enter Tryd.func47, Tryd.ntmps47
      go_upto_region 1 with fail
      generalize hW : World.alloc _ _ = W1
      have HB : Hid (Below w.heap.size w W1) := Lib.hid (hW ▸ (Below.refl _ w).alloc (Nat.le_refl _) _)
      have HX : Hid (Bk W1 w.heap.size 41 #[.int .i64 4, .int .i64 t.fn, .slice A t.kids.length c, .string t.num]) := Lib.hid (hW ▸ Bk.new w _ _)
      have HA := Lib.hid (H.out.below HB.out)
      have HR := Lib.hid (hr.out.below HB.out)
      clear hW
      have x0 := HX.out.cell 0
      have x1 := HX.out.cell 1
      have x2 := HX.out.cell 2
      have x3 := HX.out.cell 3
      go_wp2_with fail
      go_ret
      exact ⟨rfl, HB⟩
    · obtain rfl : z = 1 := by have := HZ.out; simp at this; exact this.symm
      go_enter Tryd.func47, Tryd.ntmps47
      go_upto_region 1 with fail
      generalize hW : World.alloc _ _ = W1
      have HB : Hid (Below w.heap.size w W1) := Lib.hid (hW ▸ (Below.refl _ w).alloc (Nat.le_refl _) _)
      have HX : Hid (Bk W1 w.heap.size 41 #[.int .i64 17, .int .i64 t.fn, .slice A t.kids.length c, .string t.num]) := Lib.hid (hW ▸ Bk.new w _ _)
      have HA := Lib.hid (H.out.below HB.out)
      have HR := Lib.hid (hr.out.below HB.out)
      clear hW
      have x0 := HX.out.cell 0
      have x1 := HX.out.cell 1
      have x2 := HX.out.cell 2
      have x3 := HX.out.cell 3
      go_wp2_with fail
      go_ret
      exact ⟨rfl, HB⟩
    · obtain rfl : z = 1 := by have := HZ.out; simp at this; exact this.symm
      go_enter Tryd.func47, Tryd.ntmps47
      go_upto_region 1 with fail
      generalize hW : World.alloc _ _ = W1
      have HB : Hid (Below w.heap.size w W1) := Lib.hid (hW ▸ (Below.refl _ w).alloc (Nat.le_refl _) _)
      have HX : Hid (Bk W1 w.heap.size 41 #[.int .i64 18, .int .i64 t.fn, .slice A t.kids.length c, .string t.num]) := Lib.hid (hW ▸ Bk.new w _ _)
      have HA := Lib.hid (H.out.below HB.out)
      have HR := Lib.hid (hr.out.below HB.out)
      clear hW
      have x0 := HX.out.cell 0
      have x1 := HX.out.cell 1
      have x2 := HX.out.cell 2
      have x3 := HX.out.cell 3
      go_wp2_with fail
      go_ret
      exact ⟨rfl, HB⟩
    · obtain rfl : z = 1 := by have := HZ.out; simp at this; exact this.symm
      go_enter Tryd.func47, Tryd.ntmps47
      go_upto_region 1 with fail
      generalize hW : World.alloc _ _ = W1
      have HB : Hid (Below w.heap.size w W1) := Lib.hid (hW ▸ (Below.refl _ w).alloc (Nat.le_refl _) _)
      have HX : Hid (Bk W1 w.heap.size 41 #[.int .i64 19, .int .i64 t.fn, .slice A t.kids.length c, .string t.num]) := Lib.hid (hW ▸ Bk.new w _ _)
      have HA := Lib.hid (H.out.below HB.out)
      have HR := Lib.hid (hr.out.below HB.out)
      clear hW
      have x0 := HX.out.cell 0
      have x1 := HX.out.cell 1
      have x2 := HX.out.cell 2
      have x3 := HX.out.cell 3
      go_wp2_with fail
      go_ret
      exact ⟨rfl, HB⟩
  · rintro ⟨k3, k10, k4, k17, k18, k19⟩
    obtain rfl : z = 0 := by have := HZ.out; simp [k3, k10, k4, k17, k18, k19] at this; exact this.symm
    have e3 := beq_no k3
    have e10 := beq_no k10
    have e4 := beq_no k4
    have e17 := beq_no k17
    have e18 := beq_no k18
    have e19 := beq_no k19
    clear k3 k10 k4 k17 k18 k19
    go_enter Tryd.func47, Tryd.ntmps47
    go_upto_region 1 with fail
    generalize hW : World.alloc _ _ = W1
    have HB : Hid (Below w.heap.size w W1) := Lib.hid (hW ▸ (Below.refl _ w).alloc (Nat.le_refl _) _)
    have HX : Hid (Bk W1 w.heap.size 41 #[.int .i64 op, .int .i64 t.fn, .slice A t.kids.length c, .string t.num]) := Lib.hid (hW ▸ Bk.new w _ _)
    have HA := Lib.hid (H.out.below HB.out)
    have HR := Lib.hid (hr.out.below HB.out)
    clear hW
    have x0 := HX.out.cell 0
    have x1 := HX.out.cell 1
    have x2 := HX.out.cell 2
    have x3 := HX.out.cell 3
    go_wp2_with fail
    go_ret
    exact ⟨rfl, HB⟩

set_option maxRecDepth 100000 in
set_option maxHeartbeats 4000000 in
theorem isCst_any {w : World} {F G : Nat → Prop} {a : Nat} {S : St} (H : Hid (Ar w F a S)) {t : Tm} {A : Option Addr} {c : Nat} (hr : Hid (Ri w G t.kids A c)) (hl : t.kids.length ≤ 1000000) :
    Calls Tryd.prog 48 #[.pointer (some ⟨a, 0, none⟩), .agg #[.int .i64 t.op, .int .i64 t.fn, .slice A t.kids.length c, .string t.num]] w fun e w' => e = .returned (.bool (S.isCst t)) ∧ Hid (Below w.heap.size w w') := by
  obtain ⟨op, hop⟩ : ∃ op, t.op = op := ⟨_, rfl⟩
  have HOP := Lib.hid hop
  rw [hop]
  clear hop
  obtain ⟨z, hz⟩ : ∃ z, S.isCst t = z := ⟨_, rfl⟩
  rw [hz]
  have HZ := Lib.hid hz
  clear hz
  unfold St.isCst at HZ
  rw [HOP.out] at HZ
  obtain ⟨n, hn⟩ : ∃ n, t.kids.length = n := ⟨_, rfl⟩
  have HN := Lib.hid hn
  rw [hn] at HZ ⊢ hl
  clear hn
  by_cases k18 : op = 18
  · subst k18
    by_cases hk : n = 1
    · subst hk
      have hk0 : 0 < t.kids.length := by have := HN.out; omega
      obtain rfl : S.cst (t.kids[0]'hk0) = z := by
        have := HZ.out
        simpa [List.getD, hk0] using this
      go_enter Tryd.func48, Tryd.ntmps48
      go_upto_region 1 with fail
      generalize hW : World.alloc _ _ = W1
      have HB : Hid (Below w.heap.size w W1) := Lib.hid (hW ▸ (Below.refl _ w).alloc (Nat.le_refl _) _)
      have HX : Hid (Bk W1 w.heap.size 41 #[.int .i64 18, .int .i64 t.fn, .slice A 1 c, .string t.num]) := Lib.hid (hW ▸ Bk.new w _ _)
      have HA := Lib.hid (H.out.below HB.out)
      have HR := Lib.hid (hr.out.below HB.out)
      clear hW
      have x0 := HX.out.cell 0
      have x1 := HX.out.cell 1
      have x2 := HX.out.cell 2
      have x3 := HX.out.cell 3
      obtain ⟨g, off, rfl, _, _, hc⟩ := HR.out.get hk0
      clear HZ
      rw [Nat.add_zero] at hc
      go_wp2_with (go_at_call 18; refine (cst_any HA _).mono ?_; rintro e w5 ⟨rfl, rfl⟩)
      go_ret
      exact ⟨rfl, HB⟩
    · obtain rfl : z = false := by have := HZ.out; simp [hk] at this; exact this
      have g1 : (((n : Nat) : Int) == 1) = false := by rw [beq_eq_false_iff_ne]; omega
      have g2 : (n == 1) = false := by rw [beq_eq_false_iff_ne]; exact hk
      go_enter Tryd.func48, Tryd.ntmps48
      go_upto_region 1 with fail
      generalize hW : World.alloc _ _ = W1
      have HB : Hid (Below w.heap.size w W1) := Lib.hid (hW ▸ (Below.refl _ w).alloc (Nat.le_refl _) _)
      have HX : Hid (Bk W1 w.heap.size 41 #[.int .i64 18, .int .i64 t.fn, .slice A n c, .string t.num]) := Lib.hid (hW ▸ Bk.new w _ _)
      have HA := Lib.hid (H.out.below HB.out)
      have HR := Lib.hid (hr.out.below HB.out)
      clear hW
      have x0 := HX.out.cell 0
      have x1 := HX.out.cell 1
      have x2 := HX.out.cell 2
      have x3 := HX.out.cell 3
      go_wp2_with fail
      go_ret
      exact ⟨rfl, HB⟩
  · have e18 := beq_no k18
    obtain rfl : (op == 4) = z := by have := HZ.out; simp [k18] at this; rw [← this]; rfl
    clear k18
    go_enter Tryd.func48, Tryd.ntmps48
    go_upto_region 1 with fail
    generalize hW : World.alloc _ _ = W1
    have HB : Hid (Below w.heap.size w W1) := Lib.hid (hW ▸ (Below.refl _ w).alloc (Nat.le_refl _) _)
    have HX : Hid (Bk W1 w.heap.size 41 #[.int .i64 op, .int .i64 t.fn, .slice A n c, .string t.num]) := Lib.hid (hW ▸ Bk.new w _ _)
    have HA := Lib.hid (H.out.below HB.out)
    have HR := Lib.hid (hr.out.below HB.out)
    clear hW
    have x0 := HX.out.cell 0
    have x1 := HX.out.cell 1
    have x2 := HX.out.cell 2
    have x3 := HX.out.cell 3
    go_wp2_with fail
    go_ret
    exact ⟨rfl, HB⟩
end Go.Proofs.YtdnhhfhjjimcgaaDoor.dg
