/- Package dag: is a term well made. -/
import Derived.Test.YtdnhhfhjjimcgaaDoorGl
namespace Go.Proofs.YtdnhhfhjjimcgaaDoor.dg
open Go Go.RowKit

theorem empty_size (s : ByteArray) : s.toList.isEmpty = decide (s.size = 0) := by
  rw [ByteArray.toList_eq]
  have := size_list s
  cases h : s.data.toList with
  | nil => rw [h] at this; simp at this; simp [← this]
  | cons x r => rw [h] at this; have : s.size ≠ 0 := by simp at this; omega
                simp [this]
set_option maxRecDepth 100000 in
set_option maxHeartbeats 4000000 in
theorem formed_any {w : World} {t : Tm} {A : Option Addr} {n c : Nat} :
    Calls Tryd.prog 53 #[.agg #[.int .i64 t.op, .int .i64 t.fn, .slice A n c, .string t.num]] w fun e w' => e = .returned (.bool (formed t)) ∧ Hid (Below w.heap.size w w') := by
  obtain ⟨op, hop⟩ : ∃ op, t.op = op := ⟨_, rfl⟩
  obtain ⟨fn, hfn⟩ : ∃ fn, t.fn = fn := ⟨_, rfl⟩
  obtain ⟨r, hr⟩ : ∃ r, formed t = r := ⟨_, rfl⟩
  rw [hr]
  have HR := Lib.hid hr
  unfold formed at HR
  rw [hop, hfn] at HR
  rw [hop, hfn]
  clear hr hop hfn
  obtain ⟨num, hnum⟩ : ∃ s, t.num = s := ⟨_, rfl⟩
  rw [hnum] at HR ⊢
  clear hnum
  go_enter Tryd.func53, Tryd.ntmps53
  go_upto_region 1 with fail
  generalize hW : World.alloc _ _ = W1
  have HB : Hid (Below w.heap.size w W1) := Lib.hid (hW ▸ (Below.refl _ w).alloc (Nat.le_refl _) _)
  have HX : Hid (Bk W1 w.heap.size 41 #[.int .i64 op, .int .i64 fn, .slice A n c, .string num]) := Lib.hid (hW ▸ Bk.new w _ _)
  clear hW
  have x0 := HX.out.cell 0
  have x1 := HX.out.cell 1
  have x2 := HX.out.cell 2
  have x3 := HX.out.cell 3
  go_wp2_with (go_at_call 64; refine (isNum_any _).mono ?_; rintro e w5 ⟨rfl, rfl⟩)
  all_goals (go_ret; refine ⟨?_, HB⟩; rw [← HR.out]; clear HB HX x0 x1 x2 x3 HR)
  all_goals (first | (simp_all; done) | (simp_all; omega) | (simp [empty_size]; repeat' split) <;> simp_all <;> omega)
end Go.Proofs.YtdnhhfhjjimcgaaDoor.dg
