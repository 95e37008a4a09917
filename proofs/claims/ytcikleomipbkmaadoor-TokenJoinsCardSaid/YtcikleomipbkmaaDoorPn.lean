/- The statements of layer 4: their first part, the example of the document. -/
import Derived.Laws.StructEq
import Derived.Lib.SlBytesConst
import Derived.Test.YtcikleomipbkmaaDoorPm
import Derived.Test.YtcikleomipbkmaaDoorTr
namespace Go.Proofs.YtcikleomipbkmaaDoor.tk
open Go.RowKit

theorem speak1 : readL [40, 102, 32, 35, 120, 49, 70, 32, 124, 97, 32, 98, 124, 41] = .ok [⟨1, [40], 0⟩, ⟨3, [102], 1⟩, ⟨7, [49, 70], 3⟩, ⟨3, [97, 32, 98], 8⟩, ⟨2, [41], 13⟩] := by
  simp [readL, readF, skipL, scan, isBlank, isDigit, isInner, hashL, barL, wordL, marks, isHex, isBar, isPlain, endsAt, innerNext, reservedWords, List.takeWhile, List.dropWhile]
theorem speak2 : readL [92] = .error 0 := by
  simp [readL, readF, skipL, scan, isBlank, isDigit, isInner, marks]
theorem rb_lit {w : World} {g : Nat} {t : TypeId} {cs : Array Value} {fr : Nat × Nat} {bs : List UInt8} (h : w.heap[g]? = some (.cells cs t fr)) (hc : cs.toList = bs.map byV) : Rb w (some ⟨g, 0, none⟩) bs := fun _ => by
  refine ⟨g, 0, rfl, (Array.getElem?_eq_some_iff.1 h).1, fun j hj => ?_⟩
  rw [cell_of_row w g _ _ _ _ h, ← Array.getElem?_toList, hc, List.getElem?_map, Nat.zero_add, List.getElem?_eq_getElem hj]
  rfl
theorem fault_eql (w : World) (a b a' b' : Int) : (binOp .eql 31 (.agg #[.int .i64 a, .int .i64 b]) (.agg #[.int .i64 a', .int .i64 b'])).run Tryd.prog w = .ok (.bool (a == a' && b == b')) w := by
  have hp : Tryd.prog.stoodInHeld 31 = false := by kernel_rfl
  have ht : Tryd.prog.underlying 31 = some (.struct (Tryd.prog.fieldsOf 31)) := by simp [Program.fieldsOf, Tryd.underlying31]
  rw [run_eql_struct, run_equalIn_agg w _ _ _ _ ht hp]
  simp [Program.fieldsOf, Tryd.underlying31, Op.eqFields, go_sem, Tryd.underlying3, Tryd.underlying29]
  by_cases h1 : a = a' <;> by_cases h3 : b = b' <;> simp [h1, h3]
theorem tok_eql (w : World) (a b a' b' : Int) (s s' : ByteArray) : (binOp .eql 23 (.agg #[.int .i64 a, .string s, .int .i64 b]) (.agg #[.int .i64 a', .string s', .int .i64 b'])).run Tryd.prog w = .ok (.bool (a == a' && (s.toList == s'.toList && b == b'))) w := by
  have hp : Tryd.prog.stoodInHeld 23 = false := by kernel_rfl
  have ht : Tryd.prog.underlying 23 = some (.struct (Tryd.prog.fieldsOf 23)) := by simp [Program.fieldsOf, Tryd.underlying23]
  rw [run_eql_struct, run_equalIn_agg w _ _ _ _ ht hp]
  simp [Program.fieldsOf, Tryd.underlying23, Op.eqFields, go_sem, Tryd.underlying3, Tryd.underlying9]
  by_cases h1 : a = a' <;> by_cases h2 : s.toList = s'.toList <;> by_cases h3 : b = b' <;> simp [h1, h2, h3]
theorem fault_guard (w : World) (x y : Operand) (xs ys : Array Value) : (eqGuard .eql 31 x y (.agg xs) (.agg ys)).run Tryd.prog w = .ok () w := run_eqGuard_agg w _ _ _ _ _ _ (by kernel_rfl)
theorem tok_guard2 (w : World) (x y : Operand) (xs ys : Array Value) : (eqGuard .eql 23 x y (.agg xs) (.agg ys)).run Tryd.prog w = .ok () w := run_eqGuard_agg w _ _ _ _ _ _ (by kernel_rfl)
attribute [go_sem] fault_eql tok_eql fault_guard tok_guard2

set_option maxRecDepth 100000 in
set_option maxHeartbeats 2000000 in
theorem speaks_any (w : World) : Calls Tryd.prog 5 #[] w fun e w' => e = .returned (.bool true) ∧ Hid (Below w.heap.size w w') := by
  have hcv := fun (w : World) (C : Array Value) (n c : Nat) => Lib.run_convert_bytes_const (P := Tryd.prog) w 24 5 C n c Tryd.underlying24 Tryd.underlying5
  go_enter Tryd.func5, Tryd.ntmps5
  go_upto_region 2 with (go_at_call 8; refine (pread_ok (bs := [40, 102, 32, 35, 120, 49, 70, 32, 124, 97, 32, 98, 124, 41]) (m := 99) (Lib.hid (rb_lit (heap_alloc_new w _) (by rfl))) (by decide) (by decide) (by decide) speak1).mono ?_; rintro e w1 ⟨A3, c3, rfl, hDl, hDc, HO1, HB1⟩)
  have HT1 : Hid (Tr w1 A3 [⟨1, [40], 0⟩, ⟨3, [102], 1⟩, ⟨7, [49, 70], 3⟩, ⟨3, [97, 32, 98], 8⟩, ⟨2, [41], 13⟩]) := Lib.hid (Tr.of_own HO1.out)
  have HBW : Hid (Below w.heap.size w w1) := Lib.hid (((Below.refl w.heap.size w).alloc (Nat.le_refl _) _).trans (HB1.out.mono (by simp)))
  clear HO1 HB1 hDl hDc
  generalize hW : w1.alloc _ = W2
  have HF2 : Hid (Bk W2 w1.heap.size 31 #[.int .i64 0, .int .i64 0]) := Lib.hid (hW ▸ Bk.new w1 _ _)
  have HB2 : Hid (Below w1.heap.size w1 W2) := Lib.hid (hW ▸ (Below.refl _ _).alloc (Nat.le_refl _) _)
  have hg := HF2.out.lt
  clear hW
  go_upto_region 3 with (go_at_call 8; refine (pread_bad (bs := [92]) (m := 99) (Lib.hid (rb_lit (heap_alloc_new W2 _) (by rfl))) (by decide) (by decide) (by decide) speak2).mono ?_; rintro e w3 ⟨rfl, HB3⟩)
  have HB3' : Hid (Below W2.heap.size W2 w3) := Lib.hid (((Below.refl W2.heap.size W2).alloc (Nat.le_refl _) _).trans (HB3.out.mono (by simp)))
  clear HB3
  generalize hW : w3.alloc _ = W4
  have HF4 : Hid (Bk W4 w3.heap.size 31 #[.int .i64 10, .int .i64 0]) := Lib.hid (hW ▸ Bk.new w3 _ _)
  have HB4 : Hid (Below W2.heap.size W2 W4) := Lib.hid (hW ▸ HB3'.out.alloc HB3'.out.size _)
  have HFF : Bk W4 w1.heap.size 31 #[.int .i64 0, .int .i64 0] := HF2.out.below HB4.out hg
  have HB5 : Hid (Below w1.heap.size w1 W4) := Lib.hid (HB2.out.trans (HB4.out.mono HB2.out.size))
  clear hW
  obtain ⟨g, rfl, hcells⟩ := HT1.out (by decide)
  have hc2 := hcells 2 (by decide)
  have a0 : W4.cell? ⟨g, 6, none⟩ = some (.int .i64 7) := (HB5.out.cell (p := ⟨g, 6, none⟩) (World.block_lt_of_cell? w1 _ hc2.1)).trans hc2.1
  have a1 : W4.cell? ⟨g, 7, none⟩ = some (.string ⟨#[49, 70]⟩) := (HB5.out.cell (p := ⟨g, 7, none⟩) (World.block_lt_of_cell? w1 _ hc2.2.1)).trans hc2.2.1
  have a2 : W4.cell? ⟨g, 8, none⟩ = some (.int .i64 3) := (HB5.out.cell (p := ⟨g, 8, none⟩) (World.block_lt_of_cell? w1 _ hc2.2.2)).trans hc2.2.2
  have f0 : W4.cell? ⟨w1.heap.size, 0, none⟩ = some (.int .i64 0) := HFF.cell 0
  have f1 : W4.cell? ⟨w1.heap.size, 1, none⟩ = some (.int .i64 0) := HFF.cell 1
  have g0 : W4.cell? ⟨w3.heap.size, 0, none⟩ = some (.int .i64 10) := HF4.out.cell 0
  have g1 : W4.cell? ⟨w3.heap.size, 1, none⟩ = some (.int .i64 0) := HF4.out.cell 1
  have HBF : Hid (Below w.heap.size w W4) := Lib.hid (HBW.out.trans (HB5.out.mono HBW.out.size))
  clear hcells hc2
  go_wp2_with fail
  go_ret
  exact ⟨rfl, HBF⟩
end Go.Proofs.YtcikleomipbkmaaDoor.tk
