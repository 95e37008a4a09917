/- The document's answer: are two terms one. -/
import Derived.Test.YtdnhhfhjjimcgaaDoorIa
namespace Go.Proofs.YtdnhhfhjjimcgaaDoor.dg
open Go Go.RowKit
set_option linter.unusedVariables false
set_option linter.unusedSimpArgs false

set_option maxRecDepth 100000 in
set_option maxHeartbeats 2000000 in
theorem refSame_any {w : World} {F G : Nat → Prop} {s t : Tm} {A B : Option Addr} {c d : Nat} (hx : Hid (Ri w F s.kids A c)) (hy : Hid (Ri w G t.kids B d)) (hl : s.kids.length ≤ 1000000) :
    Calls Tryd.prog 19 #[.agg #[.int .i64 s.op, .int .i64 s.fn, .slice A s.kids.length c, .string s.num], .agg #[.int .i64 t.op, .int .i64 t.fn, .slice B t.kids.length d, .string t.num]] w fun e w' => e = .returned (.bool (sameT s t)) ∧ Hid (Below w.heap.size w w') := by
  obtain ⟨r, hr⟩ : ∃ r, sameT s t = r := ⟨_, rfl⟩
  rw [hr]
  have HR := Lib.hid hr
  clear hr
  go_enter Tryd.func19, Tryd.ntmps19
  go_upto_region 1 with fail
  generalize hW : World.alloc (World.alloc w _) _ = W1
  have HB : Hid (Below w.heap.size w W1) := Lib.hid (hW ▸ ((Below.refl _ w).alloc (Nat.le_refl _) _).alloc (by simp) _)
  have HX : Hid (Bk W1 w.heap.size 41 #[.int .i64 s.op, .int .i64 s.fn, .slice A s.kids.length c, .string s.num]) := Lib.hid (hW ▸ (Bk.new w _ _).alloc _)
  have HY : Hid (Bk W1 (w.heap.size + 1) 41 #[.int .i64 t.op, .int .i64 t.fn, .slice B t.kids.length d, .string t.num]) := Lib.hid (by
    have := Bk.new (w.alloc (.cells #[.int .i64 s.op, .int .i64 s.fn, .slice A s.kids.length c, .string s.num] 41)) 41 #[.int .i64 t.op, .int .i64 t.fn, .slice B t.kids.length d, .string t.num]
    rw [hW] at this
    simpa using this)
  have HR1 := Lib.hid (hx.out.below HB.out)
  have HR2 := Lib.hid (hy.out.below HB.out)
  clear hW
  have x0 := HX.out.cell 0
  have x1 := HX.out.cell 1
  have x2 := HX.out.cell 2
  have x3 := HX.out.cell 3
  have y0 := HY.out.cell 0
  have y1 := HY.out.cell 1
  have y2 := HY.out.cell 2
  have y3 := HY.out.cell 3
  cases h1 : (s.op == t.op) with
  | false =>
    obtain rfl : r = false := by rw [← HR.out]; unfold sameT; rw [h1]; rfl
    go_wp2_with fail
    go_ret
    exact ⟨rfl, HB⟩
  | true =>
    cases h2 : (s.fn == t.fn) with
    | false =>
      obtain rfl : r = false := by rw [← HR.out]; unfold sameT; rw [h1, h2]; rfl
      go_wp2_with fail
      go_ret
      exact ⟨rfl, HB⟩
    | true =>
      cases h3 : (s.num.toList == t.num.toList) with
      | false =>
        obtain rfl : r = false := by rw [← HR.out]; unfold sameT sameB; rw [h1, h2, h3]; rfl
        go_wp2_with fail
        go_ret
        exact ⟨rfl, HB⟩
      | true =>
        obtain rfl : r = (s.kids == t.kids) := by rw [← HR.out]; unfold sameT sameB; rw [h1, h2, h3]; rfl
        go_wp2_with (go_at_call 25; refine (sameInts_any HR1 HR2 hl).mono ?_; rintro e W2 ⟨rfl, HQ⟩)
        go_ret
        exact ⟨rfl, Lib.hid (by obtain ⟨q, rfl⟩ := HQ; exact below_drewN HB.out q)⟩
end Go.Proofs.YtdnhhfhjjimcgaaDoor.dg
