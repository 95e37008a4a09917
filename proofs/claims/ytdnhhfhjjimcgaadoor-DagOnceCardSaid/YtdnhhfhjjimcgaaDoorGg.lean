/- Package dag: how many kids a term takes; which sorts; what it gives; is it constant. -/
import Derived.StillTailTactics
import Derived.Test.YtdnhhfhjjimcgaaDoorGf
namespace Go.Proofs.YtdnhhfhjjimcgaaDoor.dg
open Go Go.RowKit

theorem beq_no {a b : Int} (h : a ≠ b) : (a == b) = false := by simpa using h

set_option maxRecDepth 100000 in
set_option maxHeartbeats 1000000 in
theorem takes_any {w : World} {F G : Nat → Prop} {a : Nat} {S : St} (H : Hid (Ar w F a S)) {t : Tm} {A : Option Addr} {c : Nat} (hr : Hid (Ri w G t.kids A c)) (hl : t.kids.length ≤ 1000000) (hf : Hid (t.op = 3 → S.hasFun t.fn = true)) {lo hi : Int} (hz : Hid (S.takes t = (lo, hi))) :
    Calls Tryd.prog 65 #[.pointer (some ⟨a, 0, none⟩), .agg #[.int .i64 t.op, .int .i64 t.fn, .slice A t.kids.length c, .string t.num]] w fun e w' => e = .returned (.tuple #[.int .i64 lo, .int .i64 hi]) ∧ Hid (Below w.heap.size w w') := by
  obtain ⟨op, hop⟩ : ∃ op, t.op = op := ⟨_, rfl⟩
  have HOP := Lib.hid hop
  rw [hop]
  clear hop
  have HZ := Lib.hid (show S.takes t = (lo, hi) from hz.out)
  unfold St.takes at HZ
  rw [HOP.out] at HZ
  have all : ∀ (P : Prop), (op = 1 ∨ op = 2 ∨ op = 4 → P) → (op = 3 → P) → (op = 5 → P) → (op = 10 → P) → (op = 18 → P) → (op ≠ 1 ∧ op ≠ 2 ∧ op ≠ 4 ∧ op ≠ 3 ∧ op ≠ 5 ∧ op ≠ 10 ∧ op ≠ 18 → P) → P := fun P h1 h2 h3 h4 h5 h6 => by
    by_cases k1 : op = 1 ∨ op = 2 ∨ op = 4
    · exact h1 k1
    by_cases k2 : op = 3
    · exact h2 k2
    by_cases k3 : op = 5
    · exact h3 k3
    by_cases k4 : op = 10
    · exact h4 k4
    by_cases k5 : op = 18
    · exact h5 k5
    exact h6 ⟨fun e => k1 (.inl e), fun e => k1 (.inr (.inl e)), fun e => k1 (.inr (.inr e)), k2, k3, k4, k5⟩
  apply all
  · rintro (rfl | rfl | rfl)
    · obtain ⟨rfl, rfl⟩ : lo = 0 ∧ hi = 0 := by have := HZ.out; simp at this; exact ⟨this.1.symm, this.2.symm⟩
      go_enter Tryd.func65, Tryd.ntmps65
      go_upto_region 1 with fail
      generalize hW : World.alloc _ _ = W1
      have HB : Hid (Below w.heap.size w W1) := Lib.hid (hW ▸ (Below.refl _ w).alloc (Nat.le_refl _) _)
      have HX : Hid (Bk W1 w.heap.size 41 #[.int .i64 1, .int .i64 t.fn, .slice A t.kids.length c, .string t.num]) := Lib.hid (hW ▸ Bk.new w _ _)
      have HA := Lib.hid (H.out.below HB.out)
      have HR := Lib.hid (hr.out.below HB.out)
      clear hW
      have x0 := HX.out.cell 0
      have x1 := HX.out.cell 1
      have x2 := HX.out.cell 2
      have x3 := HX.out.cell 3
      go_wp2_with fail
      go_ret2
      exact ⟨rfl, HB⟩
    · obtain ⟨rfl, rfl⟩ : lo = 0 ∧ hi = 0 := by have := HZ.out; simp at this; exact ⟨this.1.symm, this.2.symm⟩
      go_enter Tryd.func65, Tryd.ntmps65
      go_upto_region 1 with fail
      generalize hW : World.alloc _ _ = W1
      have HB : Hid (Below w.heap.size w W1) := Lib.hid (hW ▸ (Below.refl _ w).alloc (Nat.le_refl _) _)
      have HX : Hid (Bk W1 w.heap.size 41 #[.int .i64 2, .int .i64 t.fn, .slice A t.kids.length c, .string t.num]) := Lib.hid (hW ▸ Bk.new w _ _)
      have HA := Lib.hid (H.out.below HB.out)
      have HR := Lib.hid (hr.out.below HB.out)
      clear hW
      have x0 := HX.out.cell 0
      have x1 := HX.out.cell 1
      have x2 := HX.out.cell 2
      have x3 := HX.out.cell 3
      go_wp2_with fail
      go_ret2
      exact ⟨rfl, HB⟩
    · obtain ⟨rfl, rfl⟩ : lo = 0 ∧ hi = 0 := by have := HZ.out; simp at this; exact ⟨this.1.symm, this.2.symm⟩
      go_enter Tryd.func65, Tryd.ntmps65
      go_upto_region 1 with fail
      generalize hW : World.alloc _ _ = W1
      have HB : Hid (Below w.heap.size w W1) := Lib.hid (hW ▸ (Below.refl _ w).alloc (Nat.le_refl _) _)
      have HX : Hid (Bk W1 w.heap.size 41 #[.int .i64 4, .int .i64 t.fn, .slice A t.kids.length c, .string t.num]) := Lib.hid (hW ▸ Bk.new w _ _)
      have HA := Lib.hid (H.out.below HB.out)
      have HR := Lib.hid (hr.out.below HB.out)
      clear hW
      have x0 := HX.out.cell 0
      have x1 := HX.out.cell 1
      have x2 := HX.out.cell 2
      have x3 := HX.out.cell 3
      go_wp2_with fail
      go_ret2
      exact ⟨rfl, HB⟩
  · rintro rfl
    obtain ⟨j, hj, hjl⟩ := hasFun_nat (hf.out HOP.out)
    obtain ⟨rfl, rfl⟩ : lo = (S.funs[j].args.length : Int) ∧ hi = (S.funs[j].args.length : Int) := by
      have := HZ.out
      rw [hj, fnAt_at hjl] at this
      simp at this
      exact ⟨this.1.symm, this.2.symm⟩
    rw [hj]
    have h1 : (j : Int) < (S.funs.length : Int) := by omega
    go_enter Tryd.func65, Tryd.ntmps65
    go_upto_region 1 with fail
    generalize hW : World.alloc _ _ = W1
    have HB : Hid (Below w.heap.size w W1) := Lib.hid (hW ▸ (Below.refl _ w).alloc (Nat.le_refl _) _)
    have HX : Hid (Bk W1 w.heap.size 41 #[.int .i64 3, .int .i64 (j : Int), .slice A t.kids.length c, .string t.num]) := Lib.hid (hW ▸ Bk.new w _ _)
    have HA := Lib.hid (H.out.below HB.out)
    have HR := Lib.hid (hr.out.below HB.out)
    clear hW
    have x0 := HX.out.cell 0
    have x1 := HX.out.cell 1
    have x2 := HX.out.cell 2
    have x3 := HX.out.cell 3
    obtain ⟨g, cc, A2, q, hF, hg, c3, f0, f1, f2, _⟩ := HA.out.func hjl
    go_upto_region 7 with fail
    go_quiet (fail)
    have HB2 := Lib.hid (below_drewN HB.out nq)
    clear HB x0 x1 x2 x3 c3 f0 f1 f2 HX HA HR
    generalize W1.drewN nq = W2 at *
    go_wp2_with fail
    go_ret2
    exact ⟨rfl, HB2⟩
  · rintro rfl
    obtain ⟨rfl, rfl⟩ : lo = 1 ∧ hi = 1 := by have := HZ.out; simp at this; exact ⟨this.1.symm, this.2.symm⟩
    go_enter Tryd.func65, Tryd.ntmps65
    go_upto_region 1 with fail
    generalize hW : World.alloc _ _ = W1
    have HB : Hid (Below w.heap.size w W1) := Lib.hid (hW ▸ (Below.refl _ w).alloc (Nat.le_refl _) _)
    have HX : Hid (Bk W1 w.heap.size 41 #[.int .i64 5, .int .i64 t.fn, .slice A t.kids.length c, .string t.num]) := Lib.hid (hW ▸ Bk.new w _ _)
    have HA := Lib.hid (H.out.below HB.out)
    have HR := Lib.hid (hr.out.below HB.out)
    clear hW
    have x0 := HX.out.cell 0
    have x1 := HX.out.cell 1
    have x2 := HX.out.cell 2
    have x3 := HX.out.cell 3
    go_wp2_with fail
    go_ret2
    exact ⟨rfl, HB⟩
  · rintro rfl
    obtain ⟨rfl, rfl⟩ : lo = 3 ∧ hi = 3 := by have := HZ.out; simp at this; exact ⟨this.1.symm, this.2.symm⟩
    go_enter Tryd.func65, Tryd.ntmps65
    go_upto_region 1 with fail
    generalize hW : World.alloc _ _ = W1
    have HB : Hid (Below w.heap.size w W1) := Lib.hid (hW ▸ (Below.refl _ w).alloc (Nat.le_refl _) _)
    have HX : Hid (Bk W1 w.heap.size 41 #[.int .i64 10, .int .i64 t.fn, .slice A t.kids.length c, .string t.num]) := Lib.hid (hW ▸ Bk.new w _ _)
    have HA := Lib.hid (H.out.below HB.out)
    have HR := Lib.hid (hr.out.below HB.out)
    clear hW
    have x0 := HX.out.cell 0
    have x1 := HX.out.cell 1
    have x2 := HX.out.cell 2
    have x3 := HX.out.cell 3
    go_wp2_with fail
    go_ret2
    exact ⟨rfl, HB⟩
  · rintro rfl
    obtain ⟨rfl, rfl⟩ : lo = 1 ∧ hi = maxI := by have := HZ.out; simp at this; exact ⟨this.1.symm, this.2.symm⟩
    go_enter Tryd.func65, Tryd.ntmps65
    go_upto_region 1 with fail
    generalize hW : World.alloc _ _ = W1
    have HB : Hid (Below w.heap.size w W1) := Lib.hid (hW ▸ (Below.refl _ w).alloc (Nat.le_refl _) _)
    have HX : Hid (Bk W1 w.heap.size 41 #[.int .i64 18, .int .i64 t.fn, .slice A t.kids.length c, .string t.num]) := Lib.hid (hW ▸ Bk.new w _ _)
    have HA := Lib.hid (H.out.below HB.out)
    have HR := Lib.hid (hr.out.below HB.out)
    clear hW
    have x0 := HX.out.cell 0
    have x1 := HX.out.cell 1
    have x2 := HX.out.cell 2
    have x3 := HX.out.cell 3
    go_wp2_with fail
    go_ret2
    exact ⟨rfl, HB⟩
  · rintro ⟨k1, k2, k4, k3, k5, k10, k18⟩
    obtain ⟨rfl, rfl⟩ : lo = 2 ∧ hi = maxI := by have := HZ.out; simp [k1, k2, k4, k3, k5, k10, k18] at this; exact ⟨this.1.symm, this.2.symm⟩
    have e1 := beq_no k1
    have e2 := beq_no k2
    have e4 := beq_no k4
    have e3 := beq_no k3
    have e5 := beq_no k5
    have e10 := beq_no k10
    have e18 := beq_no k18
    clear k1 k2 k4 k3 k5 k10 k18
    go_enter Tryd.func65, Tryd.ntmps65
    go_upto_region 1 with fail
    generalize hW : World.alloc _ _ = W1
    have HB : Hid (Below w.heap.size w W1) := Lib.hid (hW ▸ (Below.refl _ w).alloc (Nat.le_refl _) _)
    have HX : Hid (Bk W1 w.heap.size 41 #[.int .i64 op, .int .i64 t.fn, .slice A t.kids.length c, .string t.num]) := Lib.hid (hW ▸ Bk.new w _ _)
    have HA := Lib.hid (H.out.below HB.out)
    have HR := Lib.hid (hr.out.below HB.out)
    clear hW
    have x0 := HX.out.cell 0
    have x1 := HX.out.cell 1
    have x2 := HX.out.cell 2
    have x3 := HX.out.cell 3
    go_wp2_with fail
    go_ret2
    exact ⟨rfl, HB⟩
end Go.Proofs.YtdnhhfhjjimcgaaDoor.dg
