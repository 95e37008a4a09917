/- Package dag: has each kid the sort that it must. -/
import Derived.StillTailTactics
import Derived.Test.YtdnhhfhjjimcgaaDoorGi
namespace Go.Proofs.YtdnhhfhjjimcgaaDoor.dg
open Go Go.RowKit

theorem turned {P : Program} {f : FuncId} {args : Array Value} {w : World} {v : Value} (h : Calls P f args w fun e w' => e = .returned v ∧ w = w') : Calls P f args w fun e w' => e = .returned v ∧ w' = w :=
  Calls.mono h fun _ _ hh => ⟨hh.1, hh.2.symm⟩
/-- a call's box, the first block that it makes; what was there is as it was -/
def Bx (w W : World) (t : TypeId) (cs : Array Value) : Prop := Below w.heap.size w W ∧ Bk W w.heap.size t cs
theorem Bx.get {w W : World} {t : TypeId} {cs : Array Value} (h : Hid (Bx w W t cs)) : Bx w W t cs := h
theorem Bx.over {w W W' : World} {t : TypeId} {cs : Array Value} (hb : Below W.heap.size W W') (h : Bx w W t cs) : Bx w W' t cs := ⟨h.1.trans (hb.mono h.1.size), h.2.below hb h.2.lt⟩
theorem Bx.drew {w W : World} {t : TypeId} {cs : Array Value} (h : Bx w W t cs) : Bx w W.drew t cs := ⟨h.1.drew, h.2⟩

set_option maxRecDepth 100000 in
set_option maxHeartbeats 4000000 in
theorem fits_any {w : World} {F G : Nat → Prop} {a : Nat} {S : St} (H : Hid (Ar w F a S)) {t : Tm} {A : Option Addr} {c : Nat} (hr : Hid (Ri w G t.kids A c)) (hl : t.kids.length ≤ 1000000) (hf : Hid (t.op = 3 → S.hasFun t.fn = true ∧ (S.fnAt t.fn).args.length = t.kids.length)) (h10 : Hid (t.op = 10 → 1 < t.kids.length)) :
    Calls Tryd.prog 56 #[.pointer (some ⟨a, 0, none⟩), .agg #[.int .i64 t.op, .int .i64 t.fn, .slice A t.kids.length c, .string t.num]] w fun e w' => e = .returned (.bool (S.fits t)) ∧ Hid (Below w.heap.size w w') := by
  obtain ⟨r, hr2⟩ : ∃ r, S.fits t = r := ⟨_, rfl⟩
  have HR2 := Lib.hid hr2
  rw [hr2]
  clear hr2
  go_enter Tryd.func56, Tryd.ntmps56
  go_upto_region 1 with fail
  generalize hW : World.alloc _ _ = W1
  have HB : Hid (Below w.heap.size w W1) := Lib.hid (hW ▸ (Below.refl _ w).alloc (Nat.le_refl _) _)
  have HX : Hid (Bk W1 w.heap.size 41 #[.int .i64 t.op, .int .i64 t.fn, .slice A t.kids.length c, .string t.num]) := Lib.hid (hW ▸ Bk.new w _ _)
  clear hW
  have x0 := HX.out.cell 0
  have x1 := HX.out.cell 1
  have x2 := HX.out.cell 2
  have x3 := HX.out.cell 3
  go_upto_region 2 with fail
  clear x0 x1 x2 x3
  go_loopw [10] (fun iv wr => ∃ k : Nat, k ≤ t.kids.length ∧ iv = .int .i64 (k : Int) ∧ Hid (∀ j, j < k → S.of (t.kids.getD j 0) = S.wants t j) ∧ Hid (Below w.heap.size w wr) ∧ Hid (Bk wr w.heap.size 41 #[.int .i64 t.op, .int .i64 t.fn, .slice A t.kids.length c, .string t.num])) (fun iv _ => t.kids.length - (intOf iv).toNat)
  case atStart => exact ⟨0, Nat.zero_le _, rfl, Lib.hid (fun j hj => absurd hj (by omega)), HB, HX⟩
  case round =>
    clear HB HX
    obtain ⟨k, hk, rfl, HK, HB, HX⟩ := hrel
    by_cases hlt : k < t.kids.length
    · have g7 : (k : Int) < (t.kids.length : Int) := by omega
      have HRI : Hid (Ri wr G t.kids A c) := Lib.hid (hr.out.below HB.out)
      obtain ⟨g, off, rfl, _, _, hc⟩ := HRI.out.get hlt
      have HKF : Hid (t.op = 3 → S.hasFun t.fn = true ∧ k < (S.fnAt t.fn).args.length) := Lib.hid (fun h => ⟨(hf.out h).1, by rw [(hf.out h).2]; exact hlt⟩)
      have HAX : Hid (∀ W, Bx w W 41 #[.int .i64 t.op, .int .i64 t.fn, .slice (some ⟨g, off, none⟩) t.kids.length c, .string t.num] → Hid (Ar W F a S) ∧ Hid (Ri W G t.kids (some ⟨g, off, none⟩) c)) := Lib.hid fun W h => ⟨Lib.hid (H.out.below h.1), Lib.hid (hr.out.below h.1)⟩
      have T0 : Hid (Bx w wr 41 #[.int .i64 t.op, .int .i64 t.fn, .slice (some ⟨g, off, none⟩) t.kids.length c, .string t.num]) := Lib.hid ⟨HB.out, HX.out⟩
      obtain ⟨x, hx⟩ : ∃ x, S.of (t.kids[k]'hlt) = x := ⟨_, rfl⟩
      obtain ⟨y, hy⟩ : ∃ y, S.wants t k = y := ⟨_, rfl⟩
      have HOF : Hid (S.of (t.kids.getD k 0) = x) := Lib.hid (by simp [List.getD, hlt, hx])
      have HXX := Lib.hid hx
      have HYY := Lib.hid hy
      clear hx hy HRI HB HX
      go_upto_region 4 with fail
      cases hxy : (x != y) with
      | false =>
        have HE : Hid (x = y) := Lib.hid (by simpa using hxy)
        refine wp_region_still_tail 6 (by kernel_rfl) (by kernel_rfl) ?_
        simp only [List.take_succ_cons, List.take_zero, List.drop_succ_cons, List.drop_zero]
        show wpStill _ _ wr.drew (fun a' => wpList _ _ _ _ a' wr.drew) _ _
        have T1 : Hid (Bx w wr.drew 41 #[.int .i64 t.op, .int .i64 t.fn, .slice (some ⟨g, off, none⟩) t.kids.length c, .string t.num]) := Lib.hid T0.out.drew
        have HA1 := (HAX.out _ T1.out).1
        have HR1 := (HAX.out _ T1.out).2
        have CO := turned (of_any HA1 (t.kids[k]'hlt))
        rw [HXX.out] at CO
        have HCO := Lib.hid CO
        have x0 := T1.out.2.cell 0
        have x1 := T1.out.2.cell 1
        have x2 := T1.out.2.cell 2
        have x3 := T1.out.2.cell 3
        clear CO T0
        generalize wr.drew = w2 at *
        repeat still_step
        still_call HCO.out
        repeat still_step
        refine wpStill_nil ?_
        go_wp2_with (go_at_call 66; refine (wants_any HA1 HR1 hl hlt HKF h10).mono ?_; rw [HYY.out]; rintro e w6 ⟨rfl, hb'⟩)
        have T2 := Lib.hid (Bx.over hb'.out T1.out)
        go_roundw
        case rel => exact ⟨k + 1, by omega, by go_num, Lib.hid (fun j hj => by
          by_cases e : j = k
          · subst e; rw [HOF.out, HYY.out, HE.out]
          · exact HK.out j (by omega)), Lib.hid T2.out.1, Lib.hid T2.out.2⟩
        case measure => simp [intOf]; omega
      | true =>
        obtain rfl : r = false := by
          rw [← HR2.out]
          unfold St.fits
          rw [List.all_eq_false]
          refine ⟨k, by simpa using hlt, ?_⟩
          rw [HOF.out, HYY.out]
          simpa using hxy
        refine wp_region_still_tail 6 (by kernel_rfl) (by kernel_rfl) ?_
        simp only [List.take_succ_cons, List.take_zero, List.drop_succ_cons, List.drop_zero]
        show wpStill _ _ wr.drew (fun a' => wpList _ _ _ _ a' wr.drew) _ _
        have T1 : Hid (Bx w wr.drew 41 #[.int .i64 t.op, .int .i64 t.fn, .slice (some ⟨g, off, none⟩) t.kids.length c, .string t.num]) := Lib.hid T0.out.drew
        have HA1 := (HAX.out _ T1.out).1
        have HR1 := (HAX.out _ T1.out).2
        have CO := turned (of_any HA1 (t.kids[k]'hlt))
        rw [HXX.out] at CO
        have HCO := Lib.hid CO
        have x0 := T1.out.2.cell 0
        have x1 := T1.out.2.cell 1
        have x2 := T1.out.2.cell 2
        have x3 := T1.out.2.cell 3
        clear CO T0
        generalize wr.drew = w2 at *
        repeat still_step
        still_call HCO.out
        repeat still_step
        refine wpStill_nil ?_
        go_wp2_with (go_at_call 66; refine (wants_any HA1 HR1 hl hlt HKF h10).mono ?_; rw [HYY.out]; rintro e w6 ⟨rfl, hb'⟩)
        have T2 := Lib.hid (Bx.over hb'.out T1.out)
        go_ret
        exact ⟨rfl, Lib.hid T2.out.1⟩
    · obtain rfl : k = t.kids.length := by omega
      have g7 : ¬ ((t.kids.length : Int) < (t.kids.length : Int)) := by omega
      obtain rfl : r = true := by
        rw [← HR2.out]
        unfold St.fits
        rw [List.all_eq_true]
        intro j hj
        rw [HK.out j (by simpa using hj)]
        simp
      go_wp2_with fail
      go_ret
      exact ⟨rfl, HB⟩
end Go.Proofs.YtdnhhfhjjimcgaaDoor.dg
