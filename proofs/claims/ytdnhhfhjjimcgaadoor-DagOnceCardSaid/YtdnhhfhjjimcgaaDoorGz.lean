/- Package dag: a term is added. -/
import Derived.StillTailTactics
import Derived.Test.YtdnhhfhjjimcgaaDoorGo
import Derived.Test.YtdnhhfhjjimcgaaDoorGy
namespace Go.Proofs.YtdnhhfhjjimcgaaDoor.dg
open Go Go.RowKit

theorem found_some (p : Nat) : foundV (some p) = .tuple #[.int .i64 (p : Int), .bool true] := rfl
theorem found_none : foundV none = .tuple #[.int .i64 0, .bool false] := rfl
theorem Bx.alloc {w W : World} {t : TypeId} {cs : Array Value} (h : Bx w W t cs) (o : Obj) : Bx w (W.alloc o) t cs := ⟨h.1.alloc h.1.size _, h.2.alloc o⟩
theorem Bx.drewN {w W : World} {t : TypeId} {cs : Array Value} (h : Bx w W t cs) (n : Nat) : Bx w (W.drewN n) t cs := ⟨below_drewN h.1 n, h.2⟩
theorem Bx.far {w W : World} {t : TypeId} {cs : Array Value} (h : Bx w W t cs) {p : Addr} (hp : w.heap.size < p.block) (u : Value) : Bx w (W.setCell p u) t cs := ⟨h.1.setCell (Nat.le_of_lt hp) u, h.2.far (by omega) u⟩

set_option maxRecDepth 100000 in
set_option maxHeartbeats 8000000 in
theorem term_bad {w : World} {F G : Nat → Prop} {a : Nat} {S : St} (H : Hid (Ar w F a S)) {t : Tm} {A : Option Addr} {c : Nat} (hr : Hid (Ri w G t.kids A c)) (hl : t.kids.length ≤ 1000000) (hs : t.num.size ≤ 1000000) (HS : Hid (Sz S)) (hk : Hid (∀ e ∈ S.terms, e.t.kids.length ≤ 1000000)) {r : Int} (HW : Hid (S.wrong t = r)) (hr0 : r ≠ 0) :
    Calls Tryd.prog 29 #[.pointer (some ⟨a, 0, none⟩), .agg #[.int .i64 t.op, .int .i64 t.fn, .slice A t.kids.length c, .string t.num]] w fun e w' => e = .returned (.tuple #[.int .i64 0, .int .i64 r]) ∧ Hid (ArEnd w w' F a S) := by
  have AX : Hid (∀ W, Bx w W 41 #[.int .i64 t.op, .int .i64 t.fn, .slice A t.kids.length c, .string t.num] → Hid (Ar W F a S) ∧ Hid (Ri W G t.kids A c)) := Lib.hid fun W h => ⟨Lib.hid (H.out.below h.1), Lib.hid (hr.out.below h.1)⟩
  have hb : ((r != 0) : Bool) = true := by simpa using hr0
  go_enter Tryd.func29, Tryd.ntmps29
  go_upto_region 1 with fail
  generalize hW : World.alloc _ _ = W1
  have HX1 : Hid (Bx w W1 41 #[.int .i64 t.op, .int .i64 t.fn, .slice A t.kids.length c, .string t.num]) := Lib.hid (hW ▸ ⟨(Below.refl _ w).alloc (Nat.le_refl _) _, Bk.new w _ _⟩)
  clear hW
  have x0 := HX1.out.2.cell 0
  have x1 := HX1.out.2.cell 1
  have x2 := HX1.out.2.cell 2
  have x3 := HX1.out.2.cell 3
  go_wp2_with (go_at_call 45; refine (wrong_any (AX.out _ HX1.out).1 (AX.out _ HX1.out).2 hl).mono ?_; rw [HW.out]; rintro e W2 ⟨rfl, HB2⟩; have HX2 := Lib.hid (Bx.over HB2.out HX1.out); (have y0 := HX2.out.2.cell 0); (have y1 := HX2.out.2.cell 1); (have y2 := HX2.out.2.cell 2); (have y3 := HX2.out.2.cell 3))
  go_ret2
  exact ⟨rfl, Lib.hid (ArEnd.same H.out HX2.out.1)⟩

set_option maxRecDepth 100000 in
set_option maxHeartbeats 8000000 in
theorem term_there {w : World} {F G : Nat → Prop} {a : Nat} {S : St} (H : Hid (Ar w F a S)) {t : Tm} {A : Option Addr} {c : Nat} (hr : Hid (Ri w G t.kids A c)) (hl : t.kids.length ≤ 1000000) (hs : t.num.size ≤ 1000000) (HS : Hid (Sz S)) (hk : Hid (∀ e ∈ S.terms, e.t.kids.length ≤ 1000000)) (HW : Hid (S.wrong t = 0)) {p : Nat} (HO : Hid (S.placeT t = some p)) :
    Calls Tryd.prog 29 #[.pointer (some ⟨a, 0, none⟩), .agg #[.int .i64 t.op, .int .i64 t.fn, .slice A t.kids.length c, .string t.num]] w fun e w' => e = .returned (.tuple #[.int .i64 (p : Int), .int .i64 0]) ∧ Hid (ArEnd w w' F a S) := by
  have AX : Hid (∀ W, Bx w W 41 #[.int .i64 t.op, .int .i64 t.fn, .slice A t.kids.length c, .string t.num] → Hid (Ar W F a S) ∧ Hid (Ri W G t.kids A c)) := Lib.hid fun W h => ⟨Lib.hid (H.out.below h.1), Lib.hid (hr.out.below h.1)⟩
  go_enter Tryd.func29, Tryd.ntmps29
  go_upto_region 1 with fail
  generalize hW : World.alloc _ _ = W1
  have HX1 : Hid (Bx w W1 41 #[.int .i64 t.op, .int .i64 t.fn, .slice A t.kids.length c, .string t.num]) := Lib.hid (hW ▸ ⟨(Below.refl _ w).alloc (Nat.le_refl _) _, Bk.new w _ _⟩)
  clear hW
  have x0 := HX1.out.2.cell 0
  have x1 := HX1.out.2.cell 1
  have x2 := HX1.out.2.cell 2
  have x3 := HX1.out.2.cell 3
  go_upto_region 4 with (go_at_call 45; refine (wrong_any (AX.out _ HX1.out).1 (AX.out _ HX1.out).2 hl).mono ?_; rw [HW.out]; rintro e W2 ⟨rfl, HB2⟩; have HX2 := Lib.hid (Bx.over HB2.out HX1.out); (have y0 := HX2.out.2.cell 0); (have y1 := HX2.out.2.cell 1); (have y2 := HX2.out.2.cell 2); (have y3 := HX2.out.2.cell 3))
  clear x0 x1 x2 x3
  go_upto_region 5 with (go_at_call 23; refine (hash_any (AX.out _ HX2.out).2 hl hs).mono ?_; rintro e W3 ⟨rfl, HB3⟩; have HX3 := Lib.hid (Bx.over HB3.out HX2.out); (have z0 := HX3.out.2.cell 0); (have z1 := HX3.out.2.cell 1); (have z2 := HX3.out.2.cell 2); (have z3 := HX3.out.2.cell 3))
  clear y0 y1 y2 y3
  go_wp2_with (go_at_call 46; refine (find_any (AX.out _ HX3.out).1 (AX.out _ HX3.out).2 hk HS.out.t).mono ?_; rw [HO.out, found_some]; rintro e W4 ⟨rfl, HB4⟩; have HX4 := Lib.hid (Bx.over HB4.out HX3.out); (have v0 := HX4.out.2.cell 0); (have v1 := HX4.out.2.cell 1); (have v2 := HX4.out.2.cell 2); (have v3 := HX4.out.2.cell 3))
  go_ret2
  exact ⟨rfl, Lib.hid (ArEnd.same H.out HX4.out.1)⟩

set_option maxRecDepth 100000 in
set_option maxHeartbeats 8000000 in
theorem term_full {w : World} {F G : Nat → Prop} {a : Nat} {S : St} (H : Hid (Ar w F a S)) {t : Tm} {A : Option Addr} {c : Nat} (hr : Hid (Ri w G t.kids A c)) (hl : t.kids.length ≤ 1000000) (hs : t.num.size ≤ 1000000) (HS : Hid (Sz S)) (hk : Hid (∀ e ∈ S.terms, e.t.kids.length ≤ 1000000)) (HW : Hid (S.wrong t = 0)) (HO : Hid (S.placeT t = none)) (hm : S.most ≤ (S.terms.length : Int)) :
    Calls Tryd.prog 29 #[.pointer (some ⟨a, 0, none⟩), .agg #[.int .i64 t.op, .int .i64 t.fn, .slice A t.kids.length c, .string t.num]] w fun e w' => e = .returned (.tuple #[.int .i64 0, .int .i64 4]) ∧ Hid (ArEnd w w' F a S) := by
  have AX : Hid (∀ W, Bx w W 41 #[.int .i64 t.op, .int .i64 t.fn, .slice A t.kids.length c, .string t.num] → Hid (Ar W F a S) ∧ Hid (Ri W G t.kids A c)) := Lib.hid fun W h => ⟨Lib.hid (H.out.below h.1), Lib.hid (hr.out.below h.1)⟩
  have hmd : decide (S.most ≤ (S.terms.length : Int)) = true := decide_eq_true hm
  go_enter Tryd.func29, Tryd.ntmps29
  go_upto_region 1 with fail
  generalize hW : World.alloc _ _ = W1
  have HX1 : Hid (Bx w W1 41 #[.int .i64 t.op, .int .i64 t.fn, .slice A t.kids.length c, .string t.num]) := Lib.hid (hW ▸ ⟨(Below.refl _ w).alloc (Nat.le_refl _) _, Bk.new w _ _⟩)
  clear hW
  have x0 := HX1.out.2.cell 0
  have x1 := HX1.out.2.cell 1
  have x2 := HX1.out.2.cell 2
  have x3 := HX1.out.2.cell 3
  go_upto_region 4 with (go_at_call 45; refine (wrong_any (AX.out _ HX1.out).1 (AX.out _ HX1.out).2 hl).mono ?_; rw [HW.out]; rintro e W2 ⟨rfl, HB2⟩; have HX2 := Lib.hid (Bx.over HB2.out HX1.out); (have y0 := HX2.out.2.cell 0); (have y1 := HX2.out.2.cell 1); (have y2 := HX2.out.2.cell 2); (have y3 := HX2.out.2.cell 3))
  clear x0 x1 x2 x3
  go_upto_region 5 with (go_at_call 23; refine (hash_any (AX.out _ HX2.out).2 hl hs).mono ?_; rintro e W3 ⟨rfl, HB3⟩; have HX3 := Lib.hid (Bx.over HB3.out HX2.out); (have z0 := HX3.out.2.cell 0); (have z1 := HX3.out.2.cell 1); (have z2 := HX3.out.2.cell 2); (have z3 := HX3.out.2.cell 3))
  clear y0 y1 y2 y3
  go_upto_region 8 with (go_at_call 46; refine (find_any (AX.out _ HX3.out).1 (AX.out _ HX3.out).2 hk HS.out.t).mono ?_; rw [HO.out, found_none]; rintro e W4 ⟨rfl, HB4⟩; have HX4 := Lib.hid (Bx.over HB4.out HX3.out); (have v0 := HX4.out.2.cell 0); (have v1 := HX4.out.2.cell 1); (have v2 := HX4.out.2.cell 2); (have v3 := HX4.out.2.cell 3))
  clear z0 z1 z2 z3 v0 v1 v2 v3
  obtain ⟨As, cs, Af, cf, At, ct, mb, ib, c0, c1, c2, c3, c4, c5, hlt⟩ := (AX.out _ HX4.out).1.out.cells
  go_quiet (fail)
  have HX5 : Hid (Bx w (W4.drewN nq) 41 #[.int .i64 t.op, .int .i64 t.fn, .slice A t.kids.length c, .string t.num]) := Lib.hid (HX4.out.drewN nq)
  clear c0 c1 c2 c3 c4 c5 hlt HX4
  generalize W4.drewN nq = W5 at *
  go_wp2_with fail
  go_ret2
  exact ⟨rfl, Lib.hid (ArEnd.same H.out HX5.out.1)⟩
end Go.Proofs.YtdnhhfhjjimcgaaDoor.dg
