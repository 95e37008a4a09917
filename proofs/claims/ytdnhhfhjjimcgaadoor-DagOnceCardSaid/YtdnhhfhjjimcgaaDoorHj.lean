/- Package dag: the term at a place. -/
import Derived.Test.YtdnhhfhjjimcgaaDoorHi
namespace Go.Proofs.YtdnhhfhjjimcgaaDoor.dg
open Go Go.RowKit

theorem bk_put4' {W : World} {g : Nat} {T : TypeId} {a0 a1 a2 a3 : Value} (h : Bk W g T #[a0, a1, a2, a3]) (b0 b1 b2 b3 : Value) : Bk ((((W.setCell ⟨g, 0, none⟩ b0).setCell ⟨g, 1, none⟩ b1).setCell ⟨g, 2, none⟩ b2).setCell ⟨g, 3, none⟩ b3) g T #[b0, b1, b2, b3] := by
  have := (((h.set_ 0 b0).set_ 1 b1).set_ 2 b2).set_ 3 b3
  simpa using this
set_option maxRecDepth 100000 in
set_option maxHeartbeats 4000000 in
theorem at_no {w : World} {F : Nat → Prop} {a : Nat} {S : St} (H : Hid (Ar w F a S)) {k : Int} (hh : Hid (S.has k = false)) :
    Calls Tryd.prog 16 #[.pointer (some ⟨a, 0, none⟩), .int .i64 k] w fun e w' => e = .returned (.tuple #[.agg #[.int .i64 0, .int .i64 0, .slice none 0 0, .string ⟨#[]⟩], .bool false]) ∧ Hid (Below w.heap.size w w') := by
  go_enter Tryd.func16, Tryd.ntmps16
  go_upto_region 1 with fail
  generalize hW : World.alloc _ _ = W1
  have HX : Hid (Bx w W1 41 #[.int .i64 0, .int .i64 0, .slice none 0 0, .string ⟨#[]⟩]) := Lib.hid (hW ▸ ⟨(Below.refl _ w).alloc (Nat.le_refl _) _, Bk.new w _ _⟩)
  clear hW
  have HA := Lib.hid (H.out.below HX.out.1)
  have d0 := HX.out.2.cell 0
  have d1 := HX.out.2.cell 1
  have d2 := HX.out.2.cell 2
  have d3 := HX.out.2.cell 3
  have df := HX.out.2.frozen
  have dl := HX.out.2.lt
  have HP : Hid (Bk ((((W1.setCell ⟨w.heap.size, 0, none⟩ (.int .i64 0)).setCell ⟨w.heap.size, 1, none⟩ (.int .i64 0)).setCell ⟨w.heap.size, 2, none⟩ (.slice none 0 0)).setCell ⟨w.heap.size, 3, none⟩ (.string ⟨#[]⟩)) w.heap.size 41 #[.int .i64 0, .int .i64 0, .slice none 0 0, .string ⟨#[]⟩]) := Lib.hid (bk_put4' HX.out.2 _ _ _ _)
  have HB : Hid (Below w.heap.size w ((((W1.setCell ⟨w.heap.size, 0, none⟩ (.int .i64 0)).setCell ⟨w.heap.size, 1, none⟩ (.int .i64 0)).setCell ⟨w.heap.size, 2, none⟩ (.slice none 0 0)).setCell ⟨w.heap.size, 3, none⟩ (.string ⟨#[]⟩))) := Lib.hid ((((HX.out.1.setCell (Nat.le_refl _) _).setCell (Nat.le_refl _) _).setCell (Nat.le_refl _) _).setCell (Nat.le_refl _) _)
  go_wp2_with (go_at_call 38; refine (has_any HA k).mono ?_; rw [hh.out]; rintro e w5 ⟨rfl, rfl⟩)
  clear d0 d1 d2 d3 df dl
  generalize World.setCell (World.setCell (World.setCell (World.setCell _ _ _) _ _) _ _) _ _ = W2 at *
  have d0 := HP.out.cell 0
  have d1 := HP.out.cell 1
  have d2 := HP.out.cell 2
  have d3 := HP.out.cell 3
  refine bodyPost_ret (v := .tuple #[.agg #[.int .i64 0, .int .i64 0, .slice none 0 0, .string ⟨#[]⟩], .bool false]) (by simp [results, Tryd.results16, go_sem, d0, d1, d2, d3]) rfl ⟨rfl, HB⟩
set_option maxRecDepth 100000 in
set_option maxHeartbeats 4000000 in
theorem at_yes {w : World} {F : Nat → Prop} {a : Nat} {S : St} (H : Hid (Ar w F a S)) {j : Nat} (hj : j < S.terms.length) (hl : (S.terms[j]'hj).t.kids.length ≤ 1000000) :
    Calls Tryd.prog 16 #[.pointer (some ⟨a, 0, none⟩), .int .i64 (j : Int)] w fun e w' => ∃ A c, e = .returned (.tuple #[.agg #[.int .i64 (S.terms[j]'hj).t.op, .int .i64 (S.terms[j]'hj).t.fn, .slice A (S.terms[j]'hj).t.kids.length c, .string (S.terms[j]'hj).t.num], .bool true]) ∧ Hid (w'.ownsRow w.heap.size 3 1 (.slice A (S.terms[j]'hj).t.kids.length c) (S.terms[j]'hj).t.kids.length ((S.terms[j]'hj).t.kids.map (Value.int .i64))) ∧ Hid (Below w.heap.size w w') := by
  obtain ⟨x, hx⟩ : ∃ x, (S.terms[j]'hj).t = x := ⟨_, rfl⟩
  have HXX := Lib.hid hx
  rw [hx] at hl ⊢
  clear hx
  have HH : Hid (S.has (j : Int) = true) := Lib.hid (has_iff.2 ⟨by omega, by omega⟩)
  go_enter Tryd.func16, Tryd.ntmps16
  go_upto_region 1 with fail
  generalize hW : World.alloc _ _ = W1
  have HX : Hid (Bx w W1 41 #[.int .i64 0, .int .i64 0, .slice none 0 0, .string ⟨#[]⟩]) := Lib.hid (hW ▸ ⟨(Below.refl _ w).alloc (Nat.le_refl _) _, Bk.new w _ _⟩)
  clear hW
  have HA := Lib.hid (H.out.below HX.out.1)
  have HLT : Hid (W1.heap.size > w.heap.size) := Lib.hid HX.out.2.lt
  obtain ⟨g, cc, A2, q, hF, hg, c4, t0, t1, t2, t3, _, _, hri⟩ := HA.out.term hj
  rw [HXX.out] at t0 t1 t2 t3 hri
  have HRI := Lib.hid hri
  have h1 : (j : Int) < (S.terms.length : Int) := by omega
  clear hri
  go_upto_region 4 with (go_at_call 38; refine (has_any HA (j : Int)).mono ?_; rw [HH.out]; rintro e w5 ⟨rfl, rfl⟩)
  generalize hW : World.alloc W1 _ = W2
  have HX2 : Hid (Bx w W2 41 #[.int .i64 0, .int .i64 0, .slice none 0 0, .string ⟨#[]⟩]) := Lib.hid (hW ▸ ⟨HX.out.1.alloc HX.out.1.size _, HX.out.2.alloc _⟩)
  obtain ⟨b, hb⟩ : ∃ b, W1.heap.size = b := ⟨_, rfl⟩
  have HT2 : Hid (Bk W2 b 41 #[.int .i64 x.op, .int .i64 x.fn, .slice A2 x.kids.length q, .string x.num]) := Lib.hid (by rw [← hb]; exact hW ▸ Bk.new W1 _ _)
  have HR2 : Hid (Ri W2 F x.kids A2 q) := Lib.hid (HRI.out.below (hW ▸ (Below.refl _ _).alloc (Nat.le_refl _) _))
  have HBG : Hid (w.heap.size < b) := Lib.hid (hb ▸ HLT.out)
  rw [hb]
  clear hW hb t0 t1 t2 t3 c4 HX HA HRI HLT
  have d2 := HT2.out.cell 2
  have dl := HT2.out.lt
  go_upto_region 5 with (go_at_call 36; refine (cloneInt (news := x.kids.map (Value.int .i64)) HR2.out.none (by simp) (Lib.hid HR2.out.news) (Lib.hid fun u hu => by rw [List.mem_map] at hu; obtain ⟨z, _, rfl⟩ := hu; rfl) (by omega)).mono ?_; rintro e W3 ⟨v', rfl, HO3, HB3⟩; obtain ⟨A3, c3, hv3, _, _⟩ := own_slice HO3.out; subst hv3; have HT3 := Lib.hid (HT2.out.below HB3.out HT2.out.lt); have e2 := HT3.out.cell 2; have ef := HT3.out.frozen 2; have el := HT3.out.lt)
  have HX3 := Lib.hid (Bx.over HB3.out HX2.out)
  clear d2 dl e2 ef el
  have HT4 : Hid (Bk (W3.setCell ⟨b, 2, none⟩ (.slice A3 x.kids.length c3)) b 41 #[.int .i64 x.op, .int .i64 x.fn, .slice A3 x.kids.length c3, .string x.num]) := Lib.hid (by
    have := HT3.out.set_ 2 (.slice A3 x.kids.length c3)
    simpa using this)
  have HX4 : Hid (Bx w (W3.setCell ⟨b, 2, none⟩ (.slice A3 x.kids.length c3)) 41 #[.int .i64 0, .int .i64 0, .slice none 0 0, .string ⟨#[]⟩]) := Lib.hid (HX3.out.far HBG.out _)
  have HO4 : Hid ((W3.setCell ⟨b, 2, none⟩ (.slice A3 x.kids.length c3)).ownsRow w.heap.size 3 1 (.slice A3 x.kids.length c3) x.kids.length (x.kids.map (Value.int .i64))) := Lib.hid (own_mono (own_stays HO3.out fun q hq => Below.heap_setCell _ _ _ _ ((own_ty HO3.out q hq).ne HT3.out.ty (by decide))) HX2.out.1.size)
  clear HO3 HB3 HT3 HX3 HT2 HX2 HR2
  generalize World.setCell W3 _ _ = W4 at *
  have d0 := HT4.out.cell 0
  have d1 := HT4.out.cell 1
  have d2 := HT4.out.cell 2
  have d3 := HT4.out.cell 3
  have dl := HT4.out.lt
  have f0 := HX4.out.2.cell 0
  have f1 := HX4.out.2.cell 1
  have f2 := HX4.out.2.cell 2
  have f3 := HX4.out.2.cell 3
  have ff := HX4.out.2.frozen
  have fl := HX4.out.2.lt
  have HP : Hid (Bk ((((W4.setCell ⟨w.heap.size, 0, none⟩ (.int .i64 x.op)).setCell ⟨w.heap.size, 1, none⟩ (.int .i64 x.fn)).setCell ⟨w.heap.size, 2, none⟩ (.slice A3 x.kids.length c3)).setCell ⟨w.heap.size, 3, none⟩ (.string x.num)) w.heap.size 41 #[.int .i64 x.op, .int .i64 x.fn, .slice A3 x.kids.length c3, .string x.num]) := Lib.hid (bk_put4' HX4.out.2 _ _ _ _)
  have HB : Hid (Below w.heap.size w ((((W4.setCell ⟨w.heap.size, 0, none⟩ (.int .i64 x.op)).setCell ⟨w.heap.size, 1, none⟩ (.int .i64 x.fn)).setCell ⟨w.heap.size, 2, none⟩ (.slice A3 x.kids.length c3)).setCell ⟨w.heap.size, 3, none⟩ (.string x.num))) := Lib.hid ((((HX4.out.1.setCell (Nat.le_refl _) _).setCell (Nat.le_refl _) _).setCell (Nat.le_refl _) _).setCell (Nat.le_refl _) _)
  have HO5 : Hid (((((W4.setCell ⟨w.heap.size, 0, none⟩ (.int .i64 x.op)).setCell ⟨w.heap.size, 1, none⟩ (.int .i64 x.fn)).setCell ⟨w.heap.size, 2, none⟩ (.slice A3 x.kids.length c3)).setCell ⟨w.heap.size, 3, none⟩ (.string x.num)).ownsRow w.heap.size 3 1 (.slice A3 x.kids.length c3) x.kids.length (x.kids.map (Value.int .i64))) := Lib.hid (own_stays HO4.out fun q hq => by
    have hne := (own_ty HO4.out q hq).ne HX4.out.2.ty (by decide)
    rw [Below.heap_setCell _ _ _ _ hne, Below.heap_setCell _ _ _ _ hne, Below.heap_setCell _ _ _ _ hne, Below.heap_setCell _ _ _ _ hne])
  go_wp2_with fail
  clear d0 d1 d2 d3 dl f0 f1 f2 f3 ff fl
  generalize World.setCell (World.setCell (World.setCell (World.setCell _ _ _) _ _) _ _) _ _ = W5 at *
  have d0 := HP.out.cell 0
  have d1 := HP.out.cell 1
  have d2 := HP.out.cell 2
  have d3 := HP.out.cell 3
  refine bodyPost_ret (v := .tuple #[.agg #[.int .i64 x.op, .int .i64 x.fn, .slice A3 x.kids.length c3, .string x.num], .bool true]) (by simp [results, Tryd.results16, go_sem, d0, d1, d2, d3]) rfl ⟨_, _, rfl, HO5, HB⟩
end Go.Proofs.YtdnhhfhjjimcgaaDoor.dg
