/- The statement FracTold: the walk of its function. -/
import Derived.Test.YtpikbhcjgcbdfaaDoorFt3
import Derived.Test.YtpikbhcjgcbdfaaDoorFa
import Derived.Deep.DeepCutAuto
namespace Go.Proofs.YtpikbhcjgcbdfaaDoor.wh
open Go.RowKit

structure Lo2 (V w' : World) : Prop where
  below : Below V.heap.size V w'
theorem Lo2.get {V w' : World} {P : Prop} (h : P ∧ Hid (Lo2 V w')) : Lo2 V w' := h.2.out
theorem Lo2.over {V w' w1 : World} (hb : Hid (Below w'.heap.size w' w1)) (h : Lo2 V w') : Lo2 V w1 := ⟨h.below.trans (hb.out.mono h.below.size)⟩
theorem Lo2.c {V w' : World} (h : Lo2 V w') {g j : Nat} {v : Option Value} (hg : g < V.heap.size) (hc : V.cell? ⟨g, j, none⟩ = v) : w'.cell? ⟨g, j, none⟩ = v := (h.below.cell (p := ⟨g, j, none⟩) hg).trans hc
theorem Lo2.rfl {V : World} : Lo2 V V := ⟨Below.refl _ _⟩
theorem Lo2.drew {V w' : World} (h : Lo2 V w') : Lo2 V w'.drew := ⟨h.below.drew⟩
theorem Lo2.alloc {V w' : World} (h : Lo2 V w') (o : Obj) : Lo2 V (w'.alloc o) := ⟨h.below.alloc h.below.size _⟩
theorem Lo2.fill4 {V w' : World} (h : Lo2 V w') {b : Nat} (h0 : V.heap.size ≤ b) (v0 v1 v2 v3 : Value) : Lo2 V ((((w'.setCell ⟨b, 0, none⟩ v0).setCell ⟨b, 1, none⟩ v1).setCell ⟨b, 2, none⟩ v2).setCell ⟨b, 3, none⟩ v3) :=
  ⟨(((h.below.setCell (p := ⟨b, 0, none⟩) h0 v0).setCell (p := ⟨b, 1, none⟩) h0 v1).setCell (p := ⟨b, 2, none⟩) h0 v2).setCell (p := ⟨b, 3, none⟩) h0 v3⟩
theorem lo_mem {w V w' : World} {L : List (Nat × TypeId × List Value)} (h : Mem w L V) (hl : Lo2 V w') : Mem w L w' := Mem.over (Lib.hid hl.below) h
theorem samefr2_any {v u : Value} {p : Nat} {x y : Rat} {w : World} (hp : p ≤ 100000) (hx : IsFr w p v x) (hy : IsFr w p u y) (h : x = y) :
    Calls Tryd.prog 42 #[v, u] w fun e w' => e = .returned (.bool true) ∧ Hid (Below w.heap.size w w') := by
  subst h
  obtain ⟨n1, A1, l1, c1, n2, A2, l2, c2, rfl, h1, h2⟩ := hx
  obtain ⟨m1, B1, k1, d1, m2, B2, k2, d2, rfl, g1, g2⟩ := hy
  exact same2_any hp h1 h2 g1 g2 (decide_eq_true ⟨rfl, rfl⟩)
theorem ba_eq {s t : ByteArray} (h : s.data.toList = t.data.toList) : s = t := by
  obtain ⟨a⟩ := s
  obtain ⟨b⟩ := t
  rw [show a = b from Array.toList_inj.1 h]
section
variable {W : World} {t : TypeId} {cs : Array Value} {g : Nat}
theorem blk_far4 {b : Nat} {u0 u1 u2 u3 : Value} (h : Blk W g t cs) (hne : g ≠ b) : Blk ((((W.setCell ⟨b, 0, none⟩ u0).setCell ⟨b, 1, none⟩ u1).setCell ⟨b, 2, none⟩ u2).setCell ⟨b, 3, none⟩ u3) g t cs := ((blk_far2 h hne).far (p := ⟨b, 2, none⟩) hne u2).far (p := ⟨b, 3, none⟩) hne u3
theorem blk_newC4 {p q r s : Addr} {u v x y : Value} : Blk (((((W.setCell p u).setCell q v).setCell r x).setCell s y).alloc (.cells cs t)) W.heap.size t cs := by
  have h := Blk.new ((((W.setCell p u).setCell q v).setCell r x).setCell s y) t cs
  simpa using h
end

set_option maxRecDepth 100000 in
set_option maxHeartbeats 16000000 in
theorem ftold_any (ex ey : Fe) (w : World) (hx : ex.Ok w) (hy : ey.Ok w) (htab : Tab w) :
    Calls Tryd.prog 7 #[ex.val, ey.val] w fun e w' => e = .returned (.bool true) ∧ Below w.heap.size w w' := by
  have EX := Lib.hid hx
  have EY := Lib.hid hy
  have HTAB := Lib.hid htab
  clear hx hy htab
  obtain ⟨⟨o1, A1, c1, xs1⟩, ⟨u1, B1, d1, ys1⟩⟩ := ex
  obtain ⟨⟨o2, A2, c2, xs2⟩, ⟨u2, B2, d2, ys2⟩⟩ := ey
  simp only [Fe.val] at *
  have HT : Hid (Mem w [(w.heap.size, 58, [.bool o1, .slice A1 xs1.length c1, .bool u1, .slice B1 ys1.length d1]), (w.heap.size + 1, 58, [.bool o2, .slice A2 xs2.length c2, .bool u2, .slice B2 ys2.length d2])] ((w.alloc (.cells #[.bool o1, .slice A1 xs1.length c1, .bool u1, .slice B1 ys1.length d1] 58)).alloc (.cells #[.bool o2, .slice A2 xs2.length c2, .bool u2, .slice B2 ys2.length d2] 58))) := (((Mem.new w).push (by simp) 58 [.bool o1, .slice A1 xs1.length c1, .bool u1, .slice B1 ys1.length d1] rfl).push (by simp) 58 [.bool o2, .slice A2 xs2.length c2, .bool u2, .slice B2 ys2.length d2] rfl)
  have A0 : Hid (∀ w' : World, Mem w [(w.heap.size, 58, [.bool o1, .slice A1 xs1.length c1, .bool u1, .slice B1 ys1.length d1]), (w.heap.size + 1, 58, [.bool o2, .slice A2 xs2.length c2, .bool u2, .slice B2 ys2.length d2])] w' → (w'.cell? ⟨w.heap.size, 0, none⟩ = some (.bool o1) ∧ w'.cell? ⟨w.heap.size, 1, none⟩ = some (.slice A1 xs1.length c1) ∧ w'.cell? ⟨w.heap.size, 2, none⟩ = some (.bool u1) ∧ w'.cell? ⟨w.heap.size, 3, none⟩ = some (.slice B1 ys1.length d1) ∧ w'.cell? ⟨w.heap.size + 1, 0, none⟩ = some (.bool o2) ∧ w'.cell? ⟨w.heap.size + 1, 1, none⟩ = some (.slice A2 xs2.length c2) ∧ w'.cell? ⟨w.heap.size + 1, 2, none⟩ = some (.bool u2) ∧ w'.cell? ⟨w.heap.size + 1, 3, none⟩ = some (.slice B2 ys2.length d2)) ∧ (w'.frozen? ⟨w.heap.size, 0, none⟩ = false ∧ w'.frozen? ⟨w.heap.size, 1, none⟩ = false ∧ w'.frozen? ⟨w.heap.size, 2, none⟩ = false ∧ w'.frozen? ⟨w.heap.size, 3, none⟩ = false ∧ w'.frozen? ⟨w.heap.size + 1, 0, none⟩ = false ∧ w'.frozen? ⟨w.heap.size + 1, 1, none⟩ = false ∧ w'.frozen? ⟨w.heap.size + 1, 2, none⟩ = false ∧ w'.frozen? ⟨w.heap.size + 1, 3, none⟩ = false) ∧ Hid (Mem w [(w.heap.size, 58, [.bool o1, .slice A1 xs1.length c1, .bool u1, .slice B1 ys1.length d1]), (w.heap.size + 1, 58, [.bool o2, .slice A2 xs2.length c2, .bool u2, .slice B2 ys2.length d2])] w')) := fun w' h => ⟨⟨h.c 0 rfl 0 rfl, h.c 0 rfl 1 rfl, h.c 0 rfl 2 rfl, h.c 0 rfl 3 rfl, h.c 1 rfl 0 rfl, h.c 1 rfl 1 rfl, h.c 1 rfl 2 rfl, h.c 1 rfl 3 rfl⟩, ⟨h.f 0 rfl 0, h.f 0 rfl 1, h.f 0 rfl 2, h.f 0 rfl 3, h.f 1 rfl 0, h.f 1 rfl 1, h.f 1 rfl 2, h.f 1 rfl 3⟩, h⟩
  go_enter Tryd.func7, Tryd.ntmps7
  go_wp2_with fail
  refine (speaks2_any _ (HTAB.out.below HT.out.below)).mono ?_
  rintro e w1 ⟨rfl, hb1⟩
  have T1 := Lib.hid (Mem.over hb1 HT.out)
  have C1 := (A0.out _ T1.out).1
  have hels : Hid (FesAt (w1.alloc (.cells #[.bool o1, .slice A1 xs1.length c1, .bool u1, .slice B1 ys1.length d1, .bool o2, .slice A2 xs2.length c2, .bool u2, .slice B2 ys2.length d2] 58)) w1.heap.size [(⟨⟨o1, A1, c1, xs1⟩, ⟨u1, B1, d1, ys1⟩⟩ : Fe), ⟨⟨o2, A2, c2, xs2⟩, ⟨u2, B2, d2, ys2⟩⟩]) := by
    have hblk := Blk.new w1 58 #[.bool o1, .slice A1 xs1.length c1, .bool u1, .slice B1 ys1.length d1, .bool o2, .slice A2 xs2.length c2, .bool u2, .slice B2 ys2.length d2]
    intro i hi
    match i, hi with
    | 0, _ => exact ⟨by rw [hblk.cell]; rfl, by rw [hblk.cell]; rfl, by rw [hblk.cell]; rfl, by rw [hblk.cell]; rfl⟩
    | 1, _ => exact ⟨by rw [hblk.cell]; rfl, by rw [hblk.cell]; rfl, by rw [hblk.cell]; rfl, by rw [hblk.cell]; rfl⟩
  have T2 : Hid (Mem w [(w.heap.size, 58, [.bool o1, .slice A1 xs1.length c1, .bool u1, .slice B1 ys1.length d1]), (w.heap.size + 1, 58, [.bool o2, .slice A2 xs2.length c2, .bool u2, .slice B2 ys2.length d2])] (w1.alloc (.cells #[.bool o1, .slice A1 xs1.length c1, .bool u1, .slice B1 ys1.length d1, .bool o2, .slice A2 xs2.length c2, .bool u2, .slice B2 ys2.length d2] 58))) := T1.out.alloc _
  have hoks : Hid (∀ e ∈ [(⟨⟨o1, A1, c1, xs1⟩, ⟨u1, B1, d1, ys1⟩⟩ : Fe), ⟨⟨o2, A2, c2, xs2⟩, ⟨u2, B2, d2, ys2⟩⟩], e.Ok (w1.alloc (.cells #[.bool o1, .slice A1 xs1.length c1, .bool u1, .slice B1 ys1.length d1, .bool o2, .slice A2 xs2.length c2, .bool u2, .slice B2 ys2.length d2] 58))) := by
    intro e he
    simp only [List.mem_cons, List.not_mem_nil, or_false] at he
    rcases he with rfl | rfl
    · exact EX.out.over T2.out.below
    · exact EY.out.over T2.out.below
  go_wp2_with fail
  refine (odd2_any w1.heap.size 2 _ _ rfl (by omega) (by simp) hels.out hoks.out).mono ?_
  rintro e w2 ⟨rfl, hb2⟩
  have T3 := Lib.hid (Mem.over hb2 T2.out)
  clear C1 hels hoks hb1 hb2 T1 T2 HT
  cases hodd : List.any [(⟨⟨o1, A1, c1, xs1⟩, ⟨u1, B1, d1, ys1⟩⟩ : Fe), ⟨⟨o2, A2, c2, xs2⟩, ⟨u2, B2, d2, ys2⟩⟩] Fe.odd with
  | true =>
    go_wp2
    go_ret
    exact ⟨rfl, T3.out.below⟩
  | false =>
    have hall : Fe.odd ⟨⟨o1, A1, c1, xs1⟩, ⟨u1, B1, d1, ys1⟩⟩ = false ∧ Fe.odd ⟨⟨o2, A2, c2, xs2⟩, ⟨u2, B2, d2, ys2⟩⟩ = false := by
      simpa [List.any_cons, Bool.or_eq_false_iff] using hodd
    obtain ⟨x, hx⟩ : ∃ x, x = Fe.q ⟨⟨o1, A1, c1, xs1⟩, ⟨u1, B1, d1, ys1⟩⟩ := ⟨_, rfl⟩
    obtain ⟨y, hy⟩ : ∃ x, x = Fe.q ⟨⟨o2, A2, c2, xs2⟩, ⟨u2, B2, d2, ys2⟩⟩ := ⟨_, rfl⟩
    have IX : Hid (IsFr w 10 (.agg #[.bool o1, .slice A1 xs1.length c1, .bool u1, .slice B1 ys1.length d1]) x) := by
      have h := Fe.fr EX.out hall.1
      rw [← hx] at h
      exact h
    have IY : Hid (IsFr w 10 (.agg #[.bool o2, .slice A2 xs2.length c2, .bool u2, .slice B2 ys2.length d2]) y) := by
      have h := Fe.fr EY.out hall.2
      rw [← hy] at h
      exact h
    have C3 := (A0.out _ T3.out).1
    have IX2 := Lib.hid (IX.out.over T3.out.below)
    have IY2 := Lib.hid (IY.out.over T3.out.below)
    have A0L : Hid (∀ w' : World, Lo2 w2 w' → (w'.cell? ⟨w.heap.size, 0, none⟩ = some (.bool o1) ∧ w'.cell? ⟨w.heap.size, 1, none⟩ = some (.slice A1 xs1.length c1) ∧ w'.cell? ⟨w.heap.size, 2, none⟩ = some (.bool u1) ∧ w'.cell? ⟨w.heap.size, 3, none⟩ = some (.slice B1 ys1.length d1) ∧ w'.cell? ⟨w.heap.size + 1, 0, none⟩ = some (.bool o2) ∧ w'.cell? ⟨w.heap.size + 1, 1, none⟩ = some (.slice A2 xs2.length c2) ∧ w'.cell? ⟨w.heap.size + 1, 2, none⟩ = some (.bool u2) ∧ w'.cell? ⟨w.heap.size + 1, 3, none⟩ = some (.slice B2 ys2.length d2)) ∧ Hid (Lo2 w2 w')) := fun w' h => ⟨⟨h.c (T3.out.lt 0 rfl) (T3.out.c 0 rfl 0 rfl), h.c (T3.out.lt 0 rfl) (T3.out.c 0 rfl 1 rfl), h.c (T3.out.lt 0 rfl) (T3.out.c 0 rfl 2 rfl), h.c (T3.out.lt 0 rfl) (T3.out.c 0 rfl 3 rfl), h.c (T3.out.lt 1 rfl) (T3.out.c 1 rfl 0 rfl), h.c (T3.out.lt 1 rfl) (T3.out.c 1 rfl 1 rfl), h.c (T3.out.lt 1 rfl) (T3.out.c 1 rfl 2 rfl), h.c (T3.out.lt 1 rfl) (T3.out.c 1 rfl 3 rfl)⟩, h⟩
    clear hodd hall hx hy EX EY
    go_wp2
    go_cut [5, 6] (fun sp sq wx => ∃ gp gq x5 P5 n5 c5 y5 Q5 m5 d5 x6 P6 n6 c6 y6 Q6 m6 d6, sp = .pointer (some ⟨gp, 0, none⟩) ∧ sq = .pointer (some ⟨gq, 0, none⟩) ∧ Hid (Mem w [(w.heap.size, 58, [.bool o1, .slice A1 xs1.length c1, .bool u1, .slice B1 ys1.length d1]), (w.heap.size + 1, 58, [.bool o2, .slice A2 xs2.length c2, .bool u2, .slice B2 ys2.length d2]), (gp, 61, [.bool x5, .slice P5 n5 c5, .bool y5, .slice Q5 m5 d5]), (gq, 61, [.bool x6, .slice P6 n6 c6, .bool y6, .slice Q6 m6 d6])] wx) ∧ Hid (IsFn wx 90 (.agg #[.bool x5, .slice P5 n5 c5, .bool y5, .slice Q5 m5 d5]) x) ∧ Hid (IsFn wx 90 (.agg #[.bool x6, .slice P6 n6 c6, .bool y6, .slice Q6 m6 d6]) y) ∧ Hid (w.heap.size + 1 < gp ∧ w.heap.size + 1 < gq ∧ gp ≠ gq))
    case first =>
      have hzl0 : w.heap.size < w2.heap.size := T3.out.lt 0 rfl
      have hzl1 : w.heap.size + 1 < w2.heap.size := T3.out.lt 1 rfl
      clear C3 A0 IX IY HTAB
      refine wp_region_held_drew (S := (fun w' => (w'.cell? ⟨w.heap.size, 0, none⟩ = some (.bool o1) ∧ w'.cell? ⟨w.heap.size, 1, none⟩ = some (.slice A1 xs1.length c1) ∧ w'.cell? ⟨w.heap.size, 2, none⟩ = some (.bool u1) ∧ w'.cell? ⟨w.heap.size, 3, none⟩ = some (.slice B1 ys1.length d1) ∧ w'.cell? ⟨w.heap.size + 1, 0, none⟩ = some (.bool o2) ∧ w'.cell? ⟨w.heap.size + 1, 1, none⟩ = some (.slice A2 xs2.length c2) ∧ w'.cell? ⟨w.heap.size + 1, 2, none⟩ = some (.bool u2) ∧ w'.cell? ⟨w.heap.size + 1, 3, none⟩ = some (.slice B2 ys2.length d2)) ∧ Hid (Lo2 w2 w'))) (by kernel_rfl) (A0L.out _ (Lo2.mk (Below.refl _ _).drew)) (fun hHeld => ?_)
      have LO : Hid (Lo2 w2 w2.drew) := Lib.hid (Lo2.mk (Below.refl _ _).drew)
      generalize w2.drew = W0 at *
      refine wpAnyH_take (i := 0) (v := ?_) pat0 (by kernel_rfl) (by kernel_rfl) (by kernel_rfl) (fun _ _ _ h => h) (Or.inl ⟨by rfl, ?_⟩) (by assumption) ?_
      rotate_left
      · (intro w hSw; (try dsimp only at hSw); go_simp; (try with_reducible rfl))
      (try simp only [Act.put, List.setIfInBounds_toArray, List.set_cons_zero, List.set_cons_succ])
      refine wpAnyH_take (i := 2) (v := ?_) pat2 (by kernel_rfl) (by kernel_rfl) (by kernel_rfl) (fun _ _ _ h => h) (Or.inl ⟨by rfl, ?_⟩) (by assumption) ?_
      rotate_left
      · (intro w hSw; (try dsimp only at hSw); go_simp; (try with_reducible rfl))
      (try simp only [Act.put, List.setIfInBounds_toArray, List.set_cons_zero, List.set_cons_succ])
      refine wpAnyH_ready (rs := [1, 4, 5]) (by kernel_rfl) (by simp) ?_
      refine AllReadyH.cons pat1 (fun K hK => ?_) ?_
      · go_simp
        (go_at_call_of 39 A1; refine (of2_fr (p := 10) (by omega) (by omega) (IX2.out.over LO.out.below)).mono ?_; rintro e W1 ⟨x5, P5, n5, c5, y5, Q5, m5, d5, rfl, C5, hb⟩)
        (try go_wp2_with fail)
        refine hK.out _ _ (A0L.out _ (Lo2.over hb LO.out)) (fun hHeld2 => ?_)
        clear hK K hHeld
        have hHeld := hHeld2
        clear hHeld2
        (try simp only [Act.put, List.setIfInBounds_toArray, List.set_cons_zero, List.set_cons_succ])
        have LO' := Lib.hid (Lo2.over hb LO.out)
        clear hb
        clear LO
        have LO := LO'
        clear LO'
        refine wpAnyH_ready (rs := [3, 4, 5]) (by kernel_rfl) (by simp) ?_
        refine AllReadyH.cons pat3 (fun K hK => ?_) ?_
        · go_simp
          (go_at_call_of 39 A2; refine (of2_fr (p := 10) (by omega) (by omega) (IY2.out.over LO.out.below)).mono ?_; rintro e W2 ⟨x6, P6, n6, c6, y6, Q6, m6, d6, rfl, C6, hb⟩)
          (try go_wp2_with fail)
          refine hK.out _ _ (A0L.out _ (Lo2.over hb LO.out)) (fun hHeld2 => ?_)
          clear hK K hHeld
          have hHeld := hHeld2
          clear hHeld2
          (try simp only [Act.put, List.setIfInBounds_toArray, List.set_cons_zero, List.set_cons_succ])
          have LO' := Lib.hid (Lo2.over hb LO.out)
          have C5' := Lib.hid (C5.out.kept (Kept.of_below hb.out))
          clear hb
          clear LO C5
          have LO := LO'
          have C5 := C5'
          clear LO' C5'
          refine wpAnyH_ready (rs := [4, 5]) (by kernel_rfl) (by simp) ?_
          refine AllReadyH.cons pat4 (fun K hK => ?_) ?_
          · go_simp
            refine hK.out _ _ (A0L.out _ (LO.out.alloc _)) (fun hHeld2 => ?_)
            clear hK K hHeld
            have hHeld := hHeld2
            clear hHeld2
            (try simp only [Act.put, List.setIfInBounds_toArray, List.set_cons_zero, List.set_cons_succ])
            have LO' := Lib.hid (LO.out.alloc (.cells #[.bool false, .slice none 0 0, .bool false, .slice none 0 0] 61))
            have C5' := Lib.hid (C5.out.kept ((Kept.refl W2).alloc (.cells #[.bool false, .slice none 0 0, .bool false, .slice none 0 0] 61)))
            have C6' := Lib.hid (C6.out.kept ((Kept.refl W2).alloc (.cells #[.bool false, .slice none 0 0, .bool false, .slice none 0 0] 61)))
            have GA : Hid (w2.heap.size ≤ W2.heap.size) := Lib.hid LO.out.below.size
            have BA : Hid (Blk (W2.alloc (.cells #[.bool false, .slice none 0 0, .bool false, .slice none 0 0] 61)) W2.heap.size 61 #[.bool false, .slice none 0 0, .bool false, .slice none 0 0]) := Lib.hid (Blk.new _ _ _)
            clear LO C5 C6
            have LO := LO'
            have C5 := C5'
            have C6 := C6'
            clear LO' C5' C6'
            generalize (W2.alloc (.cells #[.bool false, .slice none 0 0, .bool false, .slice none 0 0] 61)) = W3 at *
            generalize W2.heap.size = ga at *
            refine wpAnyH_ready (rs := [5]) (by kernel_rfl) (by simp) ?_
            refine AllReadyH.cons pat5 (fun K hK => ?_) AllReadyH.nil
            go_simp
            refine hK.out _ _ (A0L.out _ (LO.out.alloc _)) (fun hHeld2 => ?_)
            clear hK K hHeld
            have hHeld := hHeld2
            clear hHeld2
            (try simp only [Act.put, List.setIfInBounds_toArray, List.set_cons_zero, List.set_cons_succ])
            have LO' := Lib.hid (LO.out.alloc (.cells #[.bool false, .slice none 0 0, .bool false, .slice none 0 0] 61))
            have BA' := Lib.hid (BA.out.alloc (.cells #[.bool false, .slice none 0 0, .bool false, .slice none 0 0] 61))
            have C5' := Lib.hid (C5.out.kept ((Kept.refl W3).alloc (.cells #[.bool false, .slice none 0 0, .bool false, .slice none 0 0] 61)))
            have C6' := Lib.hid (C6.out.kept ((Kept.refl W3).alloc (.cells #[.bool false, .slice none 0 0, .bool false, .slice none 0 0] 61)))
            have GB : Hid (w2.heap.size ≤ W3.heap.size) := Lib.hid LO.out.below.size
            have NE : Hid (ga < W3.heap.size) := Lib.hid BA.out.lt
            have BB : Hid (Blk (W3.alloc (.cells #[.bool false, .slice none 0 0, .bool false, .slice none 0 0] 61)) W3.heap.size 61 #[.bool false, .slice none 0 0, .bool false, .slice none 0 0]) := Lib.hid (Blk.new _ _ _)
            clear LO BA C5 C6
            have LO := LO'
            have BA := BA'
            have C5 := C5'
            have C6 := C6'
            clear LO' BA' C5' C6'
            generalize (W3.alloc (.cells #[.bool false, .slice none 0 0, .bool false, .slice none 0 0] 61)) = W4 at *
            generalize W3.heap.size = gb at *
            refine wpAnyH_ready (rs := [6]) (by kernel_rfl) (by simp) ?_
            refine AllReadyH.cons pat6 (fun K hK => ?_) AllReadyH.nil
            have q0 := (blk_four BA.out).1.1
            have q1 := (blk_four BA.out).1.2.1
            have q2 := (blk_four BA.out).1.2.2.1
            have q3 := (blk_four BA.out).1.2.2.2
            have q4 := (blk_four BA.out).2.1
            have q5 := (blk_four BA.out).2.2.1
            have q6 := (blk_four BA.out).2.2.2.1
            have q7 := (blk_four BA.out).2.2.2.2
            go_simp
            refine hK.out _ _ (A0L.out _ (LO.out.fill4 GA.out _ _ _ _)) (fun hHeld2 => ?_)
            clear q0 q1 q2 q3 q4 q5 q6 q7
            clear hK K hHeld
            have hHeld := hHeld2
            clear hHeld2
            (try simp only [Act.put, List.setIfInBounds_toArray, List.set_cons_zero, List.set_cons_succ])
            have LO' := Lib.hid (LO.out.fill4 GA.out (.bool x5) (.slice P5 n5 c5) (.bool y5) (.slice Q5 m5 d5))
            have BA' : Hid (Blk ((((W4.setCell ⟨ga, 0, none⟩ (.bool x5)).setCell ⟨ga, 1, none⟩ (.slice P5 n5 c5)).setCell ⟨ga, 2, none⟩ (.bool y5)).setCell ⟨ga, 3, none⟩ (.slice Q5 m5 d5)) ga 61 #[.bool x5, .slice P5 n5 c5, .bool y5, .slice Q5 m5 d5]) := Lib.hid (blk_fillz4 BA.out)
            have BB' : Hid (Blk ((((W4.setCell ⟨ga, 0, none⟩ (.bool x5)).setCell ⟨ga, 1, none⟩ (.slice P5 n5 c5)).setCell ⟨ga, 2, none⟩ (.bool y5)).setCell ⟨ga, 3, none⟩ (.slice Q5 m5 d5)) gb 61 _) := Lib.hid (blk_far4 BB.out (by have := NE.out; omega))
            have C5' := Lib.hid (C5.out.kept (kept_fillz4 (x := x5) (y := y5) (a := P5) (b := Q5) (n := n5) (c := c5) (m := m5) (d := d5) (Kept.refl W4) BA.out))
            have C6' := Lib.hid (C6.out.kept (kept_fillz4 (x := x5) (y := y5) (a := P5) (b := Q5) (n := n5) (c := c5) (m := m5) (d := d5) (Kept.refl W4) BA.out))
            clear LO BA BB C5 C6
            have LO := LO'
            have BA := BA'
            have BB := BB'
            have C5 := C5'
            have C6 := C6'
            clear LO' BA' BB' C5' C6'
            generalize ((((W4.setCell ⟨ga, 0, none⟩ (.bool x5)).setCell ⟨ga, 1, none⟩ (.slice P5 n5 c5)).setCell ⟨ga, 2, none⟩ (.bool y5)).setCell ⟨ga, 3, none⟩ (.slice Q5 m5 d5)) = W5 at *
            refine wpAnyH_ready (rs := [7]) (by kernel_rfl) (by simp) ?_
            refine AllReadyH.cons pat7 (fun K hK => ?_) AllReadyH.nil
            have q0 := (blk_four BB.out).1.1
            have q1 := (blk_four BB.out).1.2.1
            have q2 := (blk_four BB.out).1.2.2.1
            have q3 := (blk_four BB.out).1.2.2.2
            have q4 := (blk_four BB.out).2.1
            have q5 := (blk_four BB.out).2.2.1
            have q6 := (blk_four BB.out).2.2.2.1
            have q7 := (blk_four BB.out).2.2.2.2
            go_simp
            refine hK.out _ _ (A0L.out _ (LO.out.fill4 GB.out _ _ _ _)) (fun hHeld2 => ?_)
            clear q0 q1 q2 q3 q4 q5 q6 q7
            clear hK K hHeld
            have hHeld := hHeld2
            clear hHeld2
            (try simp only [Act.put, List.setIfInBounds_toArray, List.set_cons_zero, List.set_cons_succ])
            have LO' := Lib.hid (LO.out.fill4 GB.out (.bool x6) (.slice P6 n6 c6) (.bool y6) (.slice Q6 m6 d6))
            have BB' : Hid (Blk ((((W5.setCell ⟨gb, 0, none⟩ (.bool x6)).setCell ⟨gb, 1, none⟩ (.slice P6 n6 c6)).setCell ⟨gb, 2, none⟩ (.bool y6)).setCell ⟨gb, 3, none⟩ (.slice Q6 m6 d6)) gb 61 #[.bool x6, .slice P6 n6 c6, .bool y6, .slice Q6 m6 d6]) := Lib.hid (blk_fillz4 BB.out)
            have BA' : Hid (Blk ((((W5.setCell ⟨gb, 0, none⟩ (.bool x6)).setCell ⟨gb, 1, none⟩ (.slice P6 n6 c6)).setCell ⟨gb, 2, none⟩ (.bool y6)).setCell ⟨gb, 3, none⟩ (.slice Q6 m6 d6)) ga 61 _) := Lib.hid (blk_far4 BA.out (by have := NE.out; omega))
            have C5' := Lib.hid (C5.out.kept (kept_fillz4 (x := x6) (y := y6) (a := P6) (b := Q6) (n := n6) (c := c6) (m := m6) (d := d6) (Kept.refl W5) BB.out))
            have C6' := Lib.hid (C6.out.kept (kept_fillz4 (x := x6) (y := y6) (a := P6) (b := Q6) (n := n6) (c := c6) (m := m6) (d := d6) (Kept.refl W5) BB.out))
            clear LO BA BB C5 C6
            have LO := LO'
            have BA := BA'
            have BB := BB'
            have C5 := C5'
            have C6 := C6'
            clear LO' BA' BB' C5' C6'
            generalize ((((W5.setCell ⟨gb, 0, none⟩ (.bool x6)).setCell ⟨gb, 1, none⟩ (.slice P6 n6 c6)).setCell ⟨gb, 2, none⟩ (.bool y6)).setCell ⟨gb, 3, none⟩ (.slice Q6 m6 d6)) = W6 at *
            refine wpAnyH_done (by kernel_rfl) ?_ _
            go_wp2_with fail
            go_meet
            have s1 := GA.out
            have s2 := GB.out
            have s3 := NE.out
            have hl1 : w.heap.size ≤ w2.heap.size := T3.out.below.size
            have M1 := lo_mem T3.out LO.out
            have M2 := Mem.plus2 (L := [(w.heap.size, 58, [.bool o1, .slice A1 xs1.length c1, .bool u1, .slice B1 ys1.length d1]), (w.heap.size + 1, 58, [.bool o2, .slice A2 xs2.length c2, .bool u2, .slice B2 ys2.length d2])]) (t1 := 61) (t2 := 61) (c1 := [.bool x5, .slice P5 n5 c5, .bool y5, .slice Q5 m5 d5]) (c2 := [.bool x6, .slice P6 n6 c6, .bool y6, .slice Q6 m6 d6]) M1 BA.out BB.out (by omega) (by omega) (by simp <;> omega) (by simp <;> omega) (by omega) rfl rfl
            exact ⟨ga, gb, x5, P5, n5, c5, y5, Q5, m5, d5, x6, P6, n6, c6, y6, Q6, m6, d6, rfl, rfl, Lib.hid M2, C5, C6, Lib.hid ⟨by omega, by omega, by omega⟩⟩
          refine AllReadyH.cons pat5 (fun K hK => ?_) ?_
          · go_simp
            refine hK.out _ _ (A0L.out _ (LO.out.alloc _)) (fun hHeld2 => ?_)
            clear hK K hHeld
            have hHeld := hHeld2
            clear hHeld2
            (try simp only [Act.put, List.setIfInBounds_toArray, List.set_cons_zero, List.set_cons_succ])
            have LO' := Lib.hid (LO.out.alloc (.cells #[.bool false, .slice none 0 0, .bool false, .slice none 0 0] 61))
            have C5' := Lib.hid (C5.out.kept ((Kept.refl W2).alloc (.cells #[.bool false, .slice none 0 0, .bool false, .slice none 0 0] 61)))
            have C6' := Lib.hid (C6.out.kept ((Kept.refl W2).alloc (.cells #[.bool false, .slice none 0 0, .bool false, .slice none 0 0] 61)))
            have GB : Hid (w2.heap.size ≤ W2.heap.size) := Lib.hid LO.out.below.size
            have BB : Hid (Blk (W2.alloc (.cells #[.bool false, .slice none 0 0, .bool false, .slice none 0 0] 61)) W2.heap.size 61 #[.bool false, .slice none 0 0, .bool false, .slice none 0 0]) := Lib.hid (Blk.new _ _ _)
            clear LO C5 C6
            have LO := LO'
            have C5 := C5'
            have C6 := C6'
            clear LO' C5' C6'
            generalize (W2.alloc (.cells #[.bool false, .slice none 0 0, .bool false, .slice none 0 0] 61)) = W3 at *
            generalize W2.heap.size = gb at *
            refine wpAnyH_ready (rs := [4]) (by kernel_rfl) (by simp) ?_
            refine AllReadyH.cons pat4 (fun K hK => ?_) AllReadyH.nil
            go_simp
            refine hK.out _ _ (A0L.out _ (LO.out.alloc _)) (fun hHeld2 => ?_)
            clear hK K hHeld
            have hHeld := hHeld2
            clear hHeld2
            (try simp only [Act.put, List.setIfInBounds_toArray, List.set_cons_zero, List.set_cons_succ])
            have LO' := Lib.hid (LO.out.alloc (.cells #[.bool false, .slice none 0 0, .bool false, .slice none 0 0] 61))
            have BB' := Lib.hid (BB.out.alloc (.cells #[.bool false, .slice none 0 0, .bool false, .slice none 0 0] 61))
            have C5' := Lib.hid (C5.out.kept ((Kept.refl W3).alloc (.cells #[.bool false, .slice none 0 0, .bool false, .slice none 0 0] 61)))
            have C6' := Lib.hid (C6.out.kept ((Kept.refl W3).alloc (.cells #[.bool false, .slice none 0 0, .bool false, .slice none 0 0] 61)))
            have GA : Hid (w2.heap.size ≤ W3.heap.size) := Lib.hid LO.out.below.size
            have NE : Hid (gb < W3.heap.size) := Lib.hid BB.out.lt
            have BA : Hid (Blk (W3.alloc (.cells #[.bool false, .slice none 0 0, .bool false, .slice none 0 0] 61)) W3.heap.size 61 #[.bool false, .slice none 0 0, .bool false, .slice none 0 0]) := Lib.hid (Blk.new _ _ _)
            clear LO BB C5 C6
            have LO := LO'
            have BB := BB'
            have C5 := C5'
            have C6 := C6'
            clear LO' BB' C5' C6'
            generalize (W3.alloc (.cells #[.bool false, .slice none 0 0, .bool false, .slice none 0 0] 61)) = W4 at *
            generalize W3.heap.size = ga at *
            refine wpAnyH_ready (rs := [6]) (by kernel_rfl) (by simp) ?_
            refine AllReadyH.cons pat6 (fun K hK => ?_) AllReadyH.nil
            have q0 := (blk_four BA.out).1.1
            have q1 := (blk_four BA.out).1.2.1
            have q2 := (blk_four BA.out).1.2.2.1
            have q3 := (blk_four BA.out).1.2.2.2
            have q4 := (blk_four BA.out).2.1
            have q5 := (blk_four BA.out).2.2.1
            have q6 := (blk_four BA.out).2.2.2.1
            have q7 := (blk_four BA.out).2.2.2.2
            go_simp
            refine hK.out _ _ (A0L.out _ (LO.out.fill4 GA.out _ _ _ _)) (fun hHeld2 => ?_)
            clear q0 q1 q2 q3 q4 q5 q6 q7
            clear hK K hHeld
            have hHeld := hHeld2
            clear hHeld2
            (try simp only [Act.put, List.setIfInBounds_toArray, List.set_cons_zero, List.set_cons_succ])
            have LO' := Lib.hid (LO.out.fill4 GA.out (.bool x5) (.slice P5 n5 c5) (.bool y5) (.slice Q5 m5 d5))
            have BA' : Hid (Blk ((((W4.setCell ⟨ga, 0, none⟩ (.bool x5)).setCell ⟨ga, 1, none⟩ (.slice P5 n5 c5)).setCell ⟨ga, 2, none⟩ (.bool y5)).setCell ⟨ga, 3, none⟩ (.slice Q5 m5 d5)) ga 61 #[.bool x5, .slice P5 n5 c5, .bool y5, .slice Q5 m5 d5]) := Lib.hid (blk_fillz4 BA.out)
            have BB' : Hid (Blk ((((W4.setCell ⟨ga, 0, none⟩ (.bool x5)).setCell ⟨ga, 1, none⟩ (.slice P5 n5 c5)).setCell ⟨ga, 2, none⟩ (.bool y5)).setCell ⟨ga, 3, none⟩ (.slice Q5 m5 d5)) gb 61 _) := Lib.hid (blk_far4 BB.out (by have := NE.out; omega))
            have C5' := Lib.hid (C5.out.kept (kept_fillz4 (x := x5) (y := y5) (a := P5) (b := Q5) (n := n5) (c := c5) (m := m5) (d := d5) (Kept.refl W4) BA.out))
            have C6' := Lib.hid (C6.out.kept (kept_fillz4 (x := x5) (y := y5) (a := P5) (b := Q5) (n := n5) (c := c5) (m := m5) (d := d5) (Kept.refl W4) BA.out))
            clear LO BA BB C5 C6
            have LO := LO'
            have BA := BA'
            have BB := BB'
            have C5 := C5'
            have C6 := C6'
            clear LO' BA' BB' C5' C6'
            generalize ((((W4.setCell ⟨ga, 0, none⟩ (.bool x5)).setCell ⟨ga, 1, none⟩ (.slice P5 n5 c5)).setCell ⟨ga, 2, none⟩ (.bool y5)).setCell ⟨ga, 3, none⟩ (.slice Q5 m5 d5)) = W5 at *
            refine wpAnyH_ready (rs := [7]) (by kernel_rfl) (by simp) ?_
            refine AllReadyH.cons pat7 (fun K hK => ?_) AllReadyH.nil
            have q0 := (blk_four BB.out).1.1
            have q1 := (blk_four BB.out).1.2.1
            have q2 := (blk_four BB.out).1.2.2.1
            have q3 := (blk_four BB.out).1.2.2.2
            have q4 := (blk_four BB.out).2.1
            have q5 := (blk_four BB.out).2.2.1
            have q6 := (blk_four BB.out).2.2.2.1
            have q7 := (blk_four BB.out).2.2.2.2
            go_simp
            refine hK.out _ _ (A0L.out _ (LO.out.fill4 GB.out _ _ _ _)) (fun hHeld2 => ?_)
            clear q0 q1 q2 q3 q4 q5 q6 q7
            clear hK K hHeld
            have hHeld := hHeld2
            clear hHeld2
            (try simp only [Act.put, List.setIfInBounds_toArray, List.set_cons_zero, List.set_cons_succ])
            have LO' := Lib.hid (LO.out.fill4 GB.out (.bool x6) (.slice P6 n6 c6) (.bool y6) (.slice Q6 m6 d6))
            have BB' : Hid (Blk ((((W5.setCell ⟨gb, 0, none⟩ (.bool x6)).setCell ⟨gb, 1, none⟩ (.slice P6 n6 c6)).setCell ⟨gb, 2, none⟩ (.bool y6)).setCell ⟨gb, 3, none⟩ (.slice Q6 m6 d6)) gb 61 #[.bool x6, .slice P6 n6 c6, .bool y6, .slice Q6 m6 d6]) := Lib.hid (blk_fillz4 BB.out)
            have BA' : Hid (Blk ((((W5.setCell ⟨gb, 0, none⟩ (.bool x6)).setCell ⟨gb, 1, none⟩ (.slice P6 n6 c6)).setCell ⟨gb, 2, none⟩ (.bool y6)).setCell ⟨gb, 3, none⟩ (.slice Q6 m6 d6)) ga 61 _) := Lib.hid (blk_far4 BA.out (by have := NE.out; omega))
            have C5' := Lib.hid (C5.out.kept (kept_fillz4 (x := x6) (y := y6) (a := P6) (b := Q6) (n := n6) (c := c6) (m := m6) (d := d6) (Kept.refl W5) BB.out))
            have C6' := Lib.hid (C6.out.kept (kept_fillz4 (x := x6) (y := y6) (a := P6) (b := Q6) (n := n6) (c := c6) (m := m6) (d := d6) (Kept.refl W5) BB.out))
            clear LO BA BB C5 C6
            have LO := LO'
            have BA := BA'
            have BB := BB'
            have C5 := C5'
            have C6 := C6'
            clear LO' BA' BB' C5' C6'
            generalize ((((W5.setCell ⟨gb, 0, none⟩ (.bool x6)).setCell ⟨gb, 1, none⟩ (.slice P6 n6 c6)).setCell ⟨gb, 2, none⟩ (.bool y6)).setCell ⟨gb, 3, none⟩ (.slice Q6 m6 d6)) = W6 at *
            refine wpAnyH_done (by kernel_rfl) ?_ _
            go_wp2_with fail
            go_meet
            have s1 := GA.out
            have s2 := GB.out
            have s3 := NE.out
            have hl1 : w.heap.size ≤ w2.heap.size := T3.out.below.size
            have M1 := lo_mem T3.out LO.out
            have M2 := Mem.plus2 (L := [(w.heap.size, 58, [.bool o1, .slice A1 xs1.length c1, .bool u1, .slice B1 ys1.length d1]), (w.heap.size + 1, 58, [.bool o2, .slice A2 xs2.length c2, .bool u2, .slice B2 ys2.length d2])]) (t1 := 61) (t2 := 61) (c1 := [.bool x5, .slice P5 n5 c5, .bool y5, .slice Q5 m5 d5]) (c2 := [.bool x6, .slice P6 n6 c6, .bool y6, .slice Q6 m6 d6]) M1 BA.out BB.out (by omega) (by omega) (by simp <;> omega) (by simp <;> omega) (by omega) rfl rfl
            exact ⟨ga, gb, x5, P5, n5, c5, y5, Q5, m5, d5, x6, P6, n6, c6, y6, Q6, m6, d6, rfl, rfl, Lib.hid M2, C5, C6, Lib.hid ⟨by omega, by omega, by omega⟩⟩
          exact AllReadyH.nil
        refine AllReadyH.cons pat4 (fun K hK => ?_) ?_
        · go_simp
          refine hK.out _ _ (A0L.out _ (LO.out.alloc _)) (fun hHeld2 => ?_)
          clear hK K hHeld
          have hHeld := hHeld2
          clear hHeld2
          (try simp only [Act.put, List.setIfInBounds_toArray, List.set_cons_zero, List.set_cons_succ])
          have LO' := Lib.hid (LO.out.alloc (.cells #[.bool false, .slice none 0 0, .bool false, .slice none 0 0] 61))
          have C5' := Lib.hid (C5.out.kept ((Kept.refl W1).alloc (.cells #[.bool false, .slice none 0 0, .bool false, .slice none 0 0] 61)))
          have GA : Hid (w2.heap.size ≤ W1.heap.size) := Lib.hid LO.out.below.size
          have BA : Hid (Blk (W1.alloc (.cells #[.bool false, .slice none 0 0, .bool false, .slice none 0 0] 61)) W1.heap.size 61 #[.bool false, .slice none 0 0, .bool false, .slice none 0 0]) := Lib.hid (Blk.new _ _ _)
          clear LO C5
          have LO := LO'
          have C5 := C5'
          clear LO' C5'
          generalize (W1.alloc (.cells #[.bool false, .slice none 0 0, .bool false, .slice none 0 0] 61)) = W2 at *
          generalize W1.heap.size = ga at *
          refine wpAnyH_ready (rs := [3, 5]) (by kernel_rfl) (by simp) ?_
          refine AllReadyH.cons pat3 (fun K hK => ?_) ?_
          · go_simp
            (go_at_call_of 39 A2; refine (of2_fr (p := 10) (by omega) (by omega) (IY2.out.over LO.out.below)).mono ?_; rintro e W3 ⟨x6, P6, n6, c6, y6, Q6, m6, d6, rfl, C6, hb⟩)
            (try go_wp2_with fail)
            refine hK.out _ _ (A0L.out _ (Lo2.over hb LO.out)) (fun hHeld2 => ?_)
            clear hK K hHeld
            have hHeld := hHeld2
            clear hHeld2
            (try simp only [Act.put, List.setIfInBounds_toArray, List.set_cons_zero, List.set_cons_succ])
            have LO' := Lib.hid (Lo2.over hb LO.out)
            have BA' := Lib.hid (BA.out.below hb.out BA.out.lt)
            have C5' := Lib.hid (C5.out.kept (Kept.of_below hb.out))
            clear hb
            clear LO BA C5
            have LO := LO'
            have BA := BA'
            have C5 := C5'
            clear LO' BA' C5'
            refine wpAnyH_ready (rs := [5]) (by kernel_rfl) (by simp) ?_
            refine AllReadyH.cons pat5 (fun K hK => ?_) AllReadyH.nil
            go_simp
            refine hK.out _ _ (A0L.out _ (LO.out.alloc _)) (fun hHeld2 => ?_)
            clear hK K hHeld
            have hHeld := hHeld2
            clear hHeld2
            (try simp only [Act.put, List.setIfInBounds_toArray, List.set_cons_zero, List.set_cons_succ])
            have LO' := Lib.hid (LO.out.alloc (.cells #[.bool false, .slice none 0 0, .bool false, .slice none 0 0] 61))
            have BA' := Lib.hid (BA.out.alloc (.cells #[.bool false, .slice none 0 0, .bool false, .slice none 0 0] 61))
            have C5' := Lib.hid (C5.out.kept ((Kept.refl W3).alloc (.cells #[.bool false, .slice none 0 0, .bool false, .slice none 0 0] 61)))
            have C6' := Lib.hid (C6.out.kept ((Kept.refl W3).alloc (.cells #[.bool false, .slice none 0 0, .bool false, .slice none 0 0] 61)))
            have GB : Hid (w2.heap.size ≤ W3.heap.size) := Lib.hid LO.out.below.size
            have NE : Hid (ga < W3.heap.size) := Lib.hid BA.out.lt
            have BB : Hid (Blk (W3.alloc (.cells #[.bool false, .slice none 0 0, .bool false, .slice none 0 0] 61)) W3.heap.size 61 #[.bool false, .slice none 0 0, .bool false, .slice none 0 0]) := Lib.hid (Blk.new _ _ _)
            clear LO BA C5 C6
            have LO := LO'
            have BA := BA'
            have C5 := C5'
            have C6 := C6'
            clear LO' BA' C5' C6'
            generalize (W3.alloc (.cells #[.bool false, .slice none 0 0, .bool false, .slice none 0 0] 61)) = W4 at *
            generalize W3.heap.size = gb at *
            refine wpAnyH_ready (rs := [6]) (by kernel_rfl) (by simp) ?_
            refine AllReadyH.cons pat6 (fun K hK => ?_) AllReadyH.nil
            have q0 := (blk_four BA.out).1.1
            have q1 := (blk_four BA.out).1.2.1
            have q2 := (blk_four BA.out).1.2.2.1
            have q3 := (blk_four BA.out).1.2.2.2
            have q4 := (blk_four BA.out).2.1
            have q5 := (blk_four BA.out).2.2.1
            have q6 := (blk_four BA.out).2.2.2.1
            have q7 := (blk_four BA.out).2.2.2.2
            go_simp
            refine hK.out _ _ (A0L.out _ (LO.out.fill4 GA.out _ _ _ _)) (fun hHeld2 => ?_)
            clear q0 q1 q2 q3 q4 q5 q6 q7
            clear hK K hHeld
            have hHeld := hHeld2
            clear hHeld2
            (try simp only [Act.put, List.setIfInBounds_toArray, List.set_cons_zero, List.set_cons_succ])
            have LO' := Lib.hid (LO.out.fill4 GA.out (.bool x5) (.slice P5 n5 c5) (.bool y5) (.slice Q5 m5 d5))
            have BA' : Hid (Blk ((((W4.setCell ⟨ga, 0, none⟩ (.bool x5)).setCell ⟨ga, 1, none⟩ (.slice P5 n5 c5)).setCell ⟨ga, 2, none⟩ (.bool y5)).setCell ⟨ga, 3, none⟩ (.slice Q5 m5 d5)) ga 61 #[.bool x5, .slice P5 n5 c5, .bool y5, .slice Q5 m5 d5]) := Lib.hid (blk_fillz4 BA.out)
            have BB' : Hid (Blk ((((W4.setCell ⟨ga, 0, none⟩ (.bool x5)).setCell ⟨ga, 1, none⟩ (.slice P5 n5 c5)).setCell ⟨ga, 2, none⟩ (.bool y5)).setCell ⟨ga, 3, none⟩ (.slice Q5 m5 d5)) gb 61 _) := Lib.hid (blk_far4 BB.out (by have := NE.out; omega))
            have C5' := Lib.hid (C5.out.kept (kept_fillz4 (x := x5) (y := y5) (a := P5) (b := Q5) (n := n5) (c := c5) (m := m5) (d := d5) (Kept.refl W4) BA.out))
            have C6' := Lib.hid (C6.out.kept (kept_fillz4 (x := x5) (y := y5) (a := P5) (b := Q5) (n := n5) (c := c5) (m := m5) (d := d5) (Kept.refl W4) BA.out))
            clear LO BA BB C5 C6
            have LO := LO'
            have BA := BA'
            have BB := BB'
            have C5 := C5'
            have C6 := C6'
            clear LO' BA' BB' C5' C6'
            generalize ((((W4.setCell ⟨ga, 0, none⟩ (.bool x5)).setCell ⟨ga, 1, none⟩ (.slice P5 n5 c5)).setCell ⟨ga, 2, none⟩ (.bool y5)).setCell ⟨ga, 3, none⟩ (.slice Q5 m5 d5)) = W5 at *
            refine wpAnyH_ready (rs := [7]) (by kernel_rfl) (by simp) ?_
            refine AllReadyH.cons pat7 (fun K hK => ?_) AllReadyH.nil
            have q0 := (blk_four BB.out).1.1
            have q1 := (blk_four BB.out).1.2.1
            have q2 := (blk_four BB.out).1.2.2.1
            have q3 := (blk_four BB.out).1.2.2.2
            have q4 := (blk_four BB.out).2.1
            have q5 := (blk_four BB.out).2.2.1
            have q6 := (blk_four BB.out).2.2.2.1
            have q7 := (blk_four BB.out).2.2.2.2
            go_simp
            refine hK.out _ _ (A0L.out _ (LO.out.fill4 GB.out _ _ _ _)) (fun hHeld2 => ?_)
            clear q0 q1 q2 q3 q4 q5 q6 q7
            clear hK K hHeld
            have hHeld := hHeld2
            clear hHeld2
            (try simp only [Act.put, List.setIfInBounds_toArray, List.set_cons_zero, List.set_cons_succ])
            have LO' := Lib.hid (LO.out.fill4 GB.out (.bool x6) (.slice P6 n6 c6) (.bool y6) (.slice Q6 m6 d6))
            have BB' : Hid (Blk ((((W5.setCell ⟨gb, 0, none⟩ (.bool x6)).setCell ⟨gb, 1, none⟩ (.slice P6 n6 c6)).setCell ⟨gb, 2, none⟩ (.bool y6)).setCell ⟨gb, 3, none⟩ (.slice Q6 m6 d6)) gb 61 #[.bool x6, .slice P6 n6 c6, .bool y6, .slice Q6 m6 d6]) := Lib.hid (blk_fillz4 BB.out)
            have BA' : Hid (Blk ((((W5.setCell ⟨gb, 0, none⟩ (.bool x6)).setCell ⟨gb, 1, none⟩ (.slice P6 n6 c6)).setCell ⟨gb, 2, none⟩ (.bool y6)).setCell ⟨gb, 3, none⟩ (.slice Q6 m6 d6)) ga 61 _) := Lib.hid (blk_far4 BA.out (by have := NE.out; omega))
            have C5' := Lib.hid (C5.out.kept (kept_fillz4 (x := x6) (y := y6) (a := P6) (b := Q6) (n := n6) (c := c6) (m := m6) (d := d6) (Kept.refl W5) BB.out))
            have C6' := Lib.hid (C6.out.kept (kept_fillz4 (x := x6) (y := y6) (a := P6) (b := Q6) (n := n6) (c := c6) (m := m6) (d := d6) (Kept.refl W5) BB.out))
            clear LO BA BB C5 C6
            have LO := LO'
            have BA := BA'
            have BB := BB'
            have C5 := C5'
            have C6 := C6'
            clear LO' BA' BB' C5' C6'
            generalize ((((W5.setCell ⟨gb, 0, none⟩ (.bool x6)).setCell ⟨gb, 1, none⟩ (.slice P6 n6 c6)).setCell ⟨gb, 2, none⟩ (.bool y6)).setCell ⟨gb, 3, none⟩ (.slice Q6 m6 d6)) = W6 at *
            refine wpAnyH_done (by kernel_rfl) ?_ _
            go_wp2_with fail
            go_meet
            have s1 := GA.out
            have s2 := GB.out
            have s3 := NE.out
            have hl1 : w.heap.size ≤ w2.heap.size := T3.out.below.size
            have M1 := lo_mem T3.out LO.out
            have M2 := Mem.plus2 (L := [(w.heap.size, 58, [.bool o1, .slice A1 xs1.length c1, .bool u1, .slice B1 ys1.length d1]), (w.heap.size + 1, 58, [.bool o2, .slice A2 xs2.length c2, .bool u2, .slice B2 ys2.length d2])]) (t1 := 61) (t2 := 61) (c1 := [.bool x5, .slice P5 n5 c5, .bool y5, .slice Q5 m5 d5]) (c2 := [.bool x6, .slice P6 n6 c6, .bool y6, .slice Q6 m6 d6]) M1 BA.out BB.out (by omega) (by omega) (by simp <;> omega) (by simp <;> omega) (by omega) rfl rfl
            exact ⟨ga, gb, x5, P5, n5, c5, y5, Q5, m5, d5, x6, P6, n6, c6, y6, Q6, m6, d6, rfl, rfl, Lib.hid M2, C5, C6, Lib.hid ⟨by omega, by omega, by omega⟩⟩
          refine AllReadyH.cons pat5 (fun K hK => ?_) ?_
          · go_simp
            refine hK.out _ _ (A0L.out _ (LO.out.alloc _)) (fun hHeld2 => ?_)
            clear hK K hHeld
            have hHeld := hHeld2
            clear hHeld2
            (try simp only [Act.put, List.setIfInBounds_toArray, List.set_cons_zero, List.set_cons_succ])
            have LO' := Lib.hid (LO.out.alloc (.cells #[.bool false, .slice none 0 0, .bool false, .slice none 0 0] 61))
            have BA' := Lib.hid (BA.out.alloc (.cells #[.bool false, .slice none 0 0, .bool false, .slice none 0 0] 61))
            have C5' := Lib.hid (C5.out.kept ((Kept.refl W2).alloc (.cells #[.bool false, .slice none 0 0, .bool false, .slice none 0 0] 61)))
            have GB : Hid (w2.heap.size ≤ W2.heap.size) := Lib.hid LO.out.below.size
            have NE : Hid (ga < W2.heap.size) := Lib.hid BA.out.lt
            have BB : Hid (Blk (W2.alloc (.cells #[.bool false, .slice none 0 0, .bool false, .slice none 0 0] 61)) W2.heap.size 61 #[.bool false, .slice none 0 0, .bool false, .slice none 0 0]) := Lib.hid (Blk.new _ _ _)
            clear LO BA C5
            have LO := LO'
            have BA := BA'
            have C5 := C5'
            clear LO' BA' C5'
            generalize (W2.alloc (.cells #[.bool false, .slice none 0 0, .bool false, .slice none 0 0] 61)) = W3 at *
            generalize W2.heap.size = gb at *
            refine wpAnyH_ready (rs := [3]) (by kernel_rfl) (by simp) ?_
            refine AllReadyH.cons pat3 (fun K hK => ?_) AllReadyH.nil
            go_simp
            (go_at_call_of 39 A2; refine (of2_fr (p := 10) (by omega) (by omega) (IY2.out.over LO.out.below)).mono ?_; rintro e W4 ⟨x6, P6, n6, c6, y6, Q6, m6, d6, rfl, C6, hb⟩)
            (try go_wp2_with fail)
            refine hK.out _ _ (A0L.out _ (Lo2.over hb LO.out)) (fun hHeld2 => ?_)
            clear hK K hHeld
            have hHeld := hHeld2
            clear hHeld2
            (try simp only [Act.put, List.setIfInBounds_toArray, List.set_cons_zero, List.set_cons_succ])
            have LO' := Lib.hid (Lo2.over hb LO.out)
            have BA' := Lib.hid (BA.out.below hb.out BA.out.lt)
            have BB' := Lib.hid (BB.out.below hb.out BB.out.lt)
            have C5' := Lib.hid (C5.out.kept (Kept.of_below hb.out))
            clear hb
            clear LO BA BB C5
            have LO := LO'
            have BA := BA'
            have BB := BB'
            have C5 := C5'
            clear LO' BA' BB' C5'
            refine wpAnyH_ready (rs := [6]) (by kernel_rfl) (by simp) ?_
            refine AllReadyH.cons pat6 (fun K hK => ?_) AllReadyH.nil
            have q0 := (blk_four BA.out).1.1
            have q1 := (blk_four BA.out).1.2.1
            have q2 := (blk_four BA.out).1.2.2.1
            have q3 := (blk_four BA.out).1.2.2.2
            have q4 := (blk_four BA.out).2.1
            have q5 := (blk_four BA.out).2.2.1
            have q6 := (blk_four BA.out).2.2.2.1
            have q7 := (blk_four BA.out).2.2.2.2
            go_simp
            refine hK.out _ _ (A0L.out _ (LO.out.fill4 GA.out _ _ _ _)) (fun hHeld2 => ?_)
            clear q0 q1 q2 q3 q4 q5 q6 q7
            clear hK K hHeld
            have hHeld := hHeld2
            clear hHeld2
            (try simp only [Act.put, List.setIfInBounds_toArray, List.set_cons_zero, List.set_cons_succ])
            have LO' := Lib.hid (LO.out.fill4 GA.out (.bool x5) (.slice P5 n5 c5) (.bool y5) (.slice Q5 m5 d5))
            have BA' : Hid (Blk ((((W4.setCell ⟨ga, 0, none⟩ (.bool x5)).setCell ⟨ga, 1, none⟩ (.slice P5 n5 c5)).setCell ⟨ga, 2, none⟩ (.bool y5)).setCell ⟨ga, 3, none⟩ (.slice Q5 m5 d5)) ga 61 #[.bool x5, .slice P5 n5 c5, .bool y5, .slice Q5 m5 d5]) := Lib.hid (blk_fillz4 BA.out)
            have BB' : Hid (Blk ((((W4.setCell ⟨ga, 0, none⟩ (.bool x5)).setCell ⟨ga, 1, none⟩ (.slice P5 n5 c5)).setCell ⟨ga, 2, none⟩ (.bool y5)).setCell ⟨ga, 3, none⟩ (.slice Q5 m5 d5)) gb 61 _) := Lib.hid (blk_far4 BB.out (by have := NE.out; omega))
            have C5' := Lib.hid (C5.out.kept (kept_fillz4 (x := x5) (y := y5) (a := P5) (b := Q5) (n := n5) (c := c5) (m := m5) (d := d5) (Kept.refl W4) BA.out))
            have C6' := Lib.hid (C6.out.kept (kept_fillz4 (x := x5) (y := y5) (a := P5) (b := Q5) (n := n5) (c := c5) (m := m5) (d := d5) (Kept.refl W4) BA.out))
            clear LO BA BB C5 C6
            have LO := LO'
            have BA := BA'
            have BB := BB'
            have C5 := C5'
            have C6 := C6'
            clear LO' BA' BB' C5' C6'
            generalize ((((W4.setCell ⟨ga, 0, none⟩ (.bool x5)).setCell ⟨ga, 1, none⟩ (.slice P5 n5 c5)).setCell ⟨ga, 2, none⟩ (.bool y5)).setCell ⟨ga, 3, none⟩ (.slice Q5 m5 d5)) = W5 at *
            refine wpAnyH_ready (rs := [7]) (by kernel_rfl) (by simp) ?_
            refine AllReadyH.cons pat7 (fun K hK => ?_) AllReadyH.nil
            have q0 := (blk_four BB.out).1.1
            have q1 := (blk_four BB.out).1.2.1
            have q2 := (blk_four BB.out).1.2.2.1
            have q3 := (blk_four BB.out).1.2.2.2
            have q4 := (blk_four BB.out).2.1
            have q5 := (blk_four BB.out).2.2.1
            have q6 := (blk_four BB.out).2.2.2.1
            have q7 := (blk_four BB.out).2.2.2.2
            go_simp
            refine hK.out _ _ (A0L.out _ (LO.out.fill4 GB.out _ _ _ _)) (fun hHeld2 => ?_)
            clear q0 q1 q2 q3 q4 q5 q6 q7
            clear hK K hHeld
            have hHeld := hHeld2
            clear hHeld2
            (try simp only [Act.put, List.setIfInBounds_toArray, List.set_cons_zero, List.set_cons_succ])
            have LO' := Lib.hid (LO.out.fill4 GB.out (.bool x6) (.slice P6 n6 c6) (.bool y6) (.slice Q6 m6 d6))
            have BB' : Hid (Blk ((((W5.setCell ⟨gb, 0, none⟩ (.bool x6)).setCell ⟨gb, 1, none⟩ (.slice P6 n6 c6)).setCell ⟨gb, 2, none⟩ (.bool y6)).setCell ⟨gb, 3, none⟩ (.slice Q6 m6 d6)) gb 61 #[.bool x6, .slice P6 n6 c6, .bool y6, .slice Q6 m6 d6]) := Lib.hid (blk_fillz4 BB.out)
            have BA' : Hid (Blk ((((W5.setCell ⟨gb, 0, none⟩ (.bool x6)).setCell ⟨gb, 1, none⟩ (.slice P6 n6 c6)).setCell ⟨gb, 2, none⟩ (.bool y6)).setCell ⟨gb, 3, none⟩ (.slice Q6 m6 d6)) ga 61 _) := Lib.hid (blk_far4 BA.out (by have := NE.out; omega))
            have C5' := Lib.hid (C5.out.kept (kept_fillz4 (x := x6) (y := y6) (a := P6) (b := Q6) (n := n6) (c := c6) (m := m6) (d := d6) (Kept.refl W5) BB.out))
            have C6' := Lib.hid (C6.out.kept (kept_fillz4 (x := x6) (y := y6) (a := P6) (b := Q6) (n := n6) (c := c6) (m := m6) (d := d6) (Kept.refl W5) BB.out))
            clear LO BA BB C5 C6
            have LO := LO'
            have BA := BA'
            have BB := BB'
            have C5 := C5'
            have C6 := C6'
            clear LO' BA' BB' C5' C6'
            generalize ((((W5.setCell ⟨gb, 0, none⟩ (.bool x6)).setCell ⟨gb, 1, none⟩ (.slice P6 n6 c6)).setCell ⟨gb, 2, none⟩ (.bool y6)).setCell ⟨gb, 3, none⟩ (.slice Q6 m6 d6)) = W6 at *
            refine wpAnyH_done (by kernel_rfl) ?_ _
            go_wp2_with fail
            go_meet
            have s1 := GA.out
            have s2 := GB.out
            have s3 := NE.out
            have hl1 : w.heap.size ≤ w2.heap.size := T3.out.below.size
            have M1 := lo_mem T3.out LO.out
            have M2 := Mem.plus2 (L := [(w.heap.size, 58, [.bool o1, .slice A1 xs1.length c1, .bool u1, .slice B1 ys1.length d1]), (w.heap.size + 1, 58, [.bool o2, .slice A2 xs2.length c2, .bool u2, .slice B2 ys2.length d2])]) (t1 := 61) (t2 := 61) (c1 := [.bool x5, .slice P5 n5 c5, .bool y5, .slice Q5 m5 d5]) (c2 := [.bool x6, .slice P6 n6 c6, .bool y6, .slice Q6 m6 d6]) M1 BA.out BB.out (by omega) (by omega) (by simp <;> omega) (by simp <;> omega) (by omega) rfl rfl
            exact ⟨ga, gb, x5, P5, n5, c5, y5, Q5, m5, d5, x6, P6, n6, c6, y6, Q6, m6, d6, rfl, rfl, Lib.hid M2, C5, C6, Lib.hid ⟨by omega, by omega, by omega⟩⟩
          exact AllReadyH.nil
        refine AllReadyH.cons pat5 (fun K hK => ?_) ?_
        · go_simp
          refine hK.out _ _ (A0L.out _ (LO.out.alloc _)) (fun hHeld2 => ?_)
          clear hK K hHeld
          have hHeld := hHeld2
          clear hHeld2
          (try simp only [Act.put, List.setIfInBounds_toArray, List.set_cons_zero, List.set_cons_succ])
          have LO' := Lib.hid (LO.out.alloc (.cells #[.bool false, .slice none 0 0, .bool false, .slice none 0 0] 61))
          have C5' := Lib.hid (C5.out.kept ((Kept.refl W1).alloc (.cells #[.bool false, .slice none 0 0, .bool false, .slice none 0 0] 61)))
          have GB : Hid (w2.heap.size ≤ W1.heap.size) := Lib.hid LO.out.below.size
          have BB : Hid (Blk (W1.alloc (.cells #[.bool false, .slice none 0 0, .bool false, .slice none 0 0] 61)) W1.heap.size 61 #[.bool false, .slice none 0 0, .bool false, .slice none 0 0]) := Lib.hid (Blk.new _ _ _)
          clear LO C5
          have LO := LO'
          have C5 := C5'
          clear LO' C5'
          generalize (W1.alloc (.cells #[.bool false, .slice none 0 0, .bool false, .slice none 0 0] 61)) = W2 at *
          generalize W1.heap.size = gb at *
          refine wpAnyH_ready (rs := [3, 4]) (by kernel_rfl) (by simp) ?_
          refine AllReadyH.cons pat3 (fun K hK => ?_) ?_
          · go_simp
            (go_at_call_of 39 A2; refine (of2_fr (p := 10) (by omega) (by omega) (IY2.out.over LO.out.below)).mono ?_; rintro e W3 ⟨x6, P6, n6, c6, y6, Q6, m6, d6, rfl, C6, hb⟩)
            (try go_wp2_with fail)
            refine hK.out _ _ (A0L.out _ (Lo2.over hb LO.out)) (fun hHeld2 => ?_)
            clear hK K hHeld
            have hHeld := hHeld2
            clear hHeld2
            (try simp only [Act.put, List.setIfInBounds_toArray, List.set_cons_zero, List.set_cons_succ])
            have LO' := Lib.hid (Lo2.over hb LO.out)
            have BB' := Lib.hid (BB.out.below hb.out BB.out.lt)
            have C5' := Lib.hid (C5.out.kept (Kept.of_below hb.out))
            clear hb
            clear LO BB C5
            have LO := LO'
            have BB := BB'
            have C5 := C5'
            clear LO' BB' C5'
            refine wpAnyH_ready (rs := [4]) (by kernel_rfl) (by simp) ?_
            refine AllReadyH.cons pat4 (fun K hK => ?_) AllReadyH.nil
            go_simp
            refine hK.out _ _ (A0L.out _ (LO.out.alloc _)) (fun hHeld2 => ?_)
            clear hK K hHeld
            have hHeld := hHeld2
            clear hHeld2
            (try simp only [Act.put, List.setIfInBounds_toArray, List.set_cons_zero, List.set_cons_succ])
            have LO' := Lib.hid (LO.out.alloc (.cells #[.bool false, .slice none 0 0, .bool false, .slice none 0 0] 61))
            have BB' := Lib.hid (BB.out.alloc (.cells #[.bool false, .slice none 0 0, .bool false, .slice none 0 0] 61))
            have C5' := Lib.hid (C5.out.kept ((Kept.refl W3).alloc (.cells #[.bool false, .slice none 0 0, .bool false, .slice none 0 0] 61)))
            have C6' := Lib.hid (C6.out.kept ((Kept.refl W3).alloc (.cells #[.bool false, .slice none 0 0, .bool false, .slice none 0 0] 61)))
            have GA : Hid (w2.heap.size ≤ W3.heap.size) := Lib.hid LO.out.below.size
            have NE : Hid (gb < W3.heap.size) := Lib.hid BB.out.lt
            have BA : Hid (Blk (W3.alloc (.cells #[.bool false, .slice none 0 0, .bool false, .slice none 0 0] 61)) W3.heap.size 61 #[.bool false, .slice none 0 0, .bool false, .slice none 0 0]) := Lib.hid (Blk.new _ _ _)
            clear LO BB C5 C6
            have LO := LO'
            have BB := BB'
            have C5 := C5'
            have C6 := C6'
            clear LO' BB' C5' C6'
            generalize (W3.alloc (.cells #[.bool false, .slice none 0 0, .bool false, .slice none 0 0] 61)) = W4 at *
            generalize W3.heap.size = ga at *
            refine wpAnyH_ready (rs := [6]) (by kernel_rfl) (by simp) ?_
            refine AllReadyH.cons pat6 (fun K hK => ?_) AllReadyH.nil
            have q0 := (blk_four BA.out).1.1
            have q1 := (blk_four BA.out).1.2.1
            have q2 := (blk_four BA.out).1.2.2.1
            have q3 := (blk_four BA.out).1.2.2.2
            have q4 := (blk_four BA.out).2.1
            have q5 := (blk_four BA.out).2.2.1
            have q6 := (blk_four BA.out).2.2.2.1
            have q7 := (blk_four BA.out).2.2.2.2
            go_simp
            refine hK.out _ _ (A0L.out _ (LO.out.fill4 GA.out _ _ _ _)) (fun hHeld2 => ?_)
            clear q0 q1 q2 q3 q4 q5 q6 q7
            clear hK K hHeld
            have hHeld := hHeld2
            clear hHeld2
            (try simp only [Act.put, List.setIfInBounds_toArray, List.set_cons_zero, List.set_cons_succ])
            have LO' := Lib.hid (LO.out.fill4 GA.out (.bool x5) (.slice P5 n5 c5) (.bool y5) (.slice Q5 m5 d5))
            have BA' : Hid (Blk ((((W4.setCell ⟨ga, 0, none⟩ (.bool x5)).setCell ⟨ga, 1, none⟩ (.slice P5 n5 c5)).setCell ⟨ga, 2, none⟩ (.bool y5)).setCell ⟨ga, 3, none⟩ (.slice Q5 m5 d5)) ga 61 #[.bool x5, .slice P5 n5 c5, .bool y5, .slice Q5 m5 d5]) := Lib.hid (blk_fillz4 BA.out)
            have BB' : Hid (Blk ((((W4.setCell ⟨ga, 0, none⟩ (.bool x5)).setCell ⟨ga, 1, none⟩ (.slice P5 n5 c5)).setCell ⟨ga, 2, none⟩ (.bool y5)).setCell ⟨ga, 3, none⟩ (.slice Q5 m5 d5)) gb 61 _) := Lib.hid (blk_far4 BB.out (by have := NE.out; omega))
            have C5' := Lib.hid (C5.out.kept (kept_fillz4 (x := x5) (y := y5) (a := P5) (b := Q5) (n := n5) (c := c5) (m := m5) (d := d5) (Kept.refl W4) BA.out))
            have C6' := Lib.hid (C6.out.kept (kept_fillz4 (x := x5) (y := y5) (a := P5) (b := Q5) (n := n5) (c := c5) (m := m5) (d := d5) (Kept.refl W4) BA.out))
            clear LO BA BB C5 C6
            have LO := LO'
            have BA := BA'
            have BB := BB'
            have C5 := C5'
            have C6 := C6'
            clear LO' BA' BB' C5' C6'
            generalize ((((W4.setCell ⟨ga, 0, none⟩ (.bool x5)).setCell ⟨ga, 1, none⟩ (.slice P5 n5 c5)).setCell ⟨ga, 2, none⟩ (.bool y5)).setCell ⟨ga, 3, none⟩ (.slice Q5 m5 d5)) = W5 at *
            refine wpAnyH_ready (rs := [7]) (by kernel_rfl) (by simp) ?_
            refine AllReadyH.cons pat7 (fun K hK => ?_) AllReadyH.nil
            have q0 := (blk_four BB.out).1.1
            have q1 := (blk_four BB.out).1.2.1
            have q2 := (blk_four BB.out).1.2.2.1
            have q3 := (blk_four BB.out).1.2.2.2
            have q4 := (blk_four BB.out).2.1
            have q5 := (blk_four BB.out).2.2.1
            have q6 := (blk_four BB.out).2.2.2.1
            have q7 := (blk_four BB.out).2.2.2.2
            go_simp
            refine hK.out _ _ (A0L.out _ (LO.out.fill4 GB.out _ _ _ _)) (fun hHeld2 => ?_)
            clear q0 q1 q2 q3 q4 q5 q6 q7
            clear hK K hHeld
            have hHeld := hHeld2
            clear hHeld2
            (try simp only [Act.put, List.setIfInBounds_toArray, List.set_cons_zero, List.set_cons_succ])
            have LO' := Lib.hid (LO.out.fill4 GB.out (.bool x6) (.slice P6 n6 c6) (.bool y6) (.slice Q6 m6 d6))
            have BB' : Hid (Blk ((((W5.setCell ⟨gb, 0, none⟩ (.bool x6)).setCell ⟨gb, 1, none⟩ (.slice P6 n6 c6)).setCell ⟨gb, 2, none⟩ (.bool y6)).setCell ⟨gb, 3, none⟩ (.slice Q6 m6 d6)) gb 61 #[.bool x6, .slice P6 n6 c6, .bool y6, .slice Q6 m6 d6]) := Lib.hid (blk_fillz4 BB.out)
            have BA' : Hid (Blk ((((W5.setCell ⟨gb, 0, none⟩ (.bool x6)).setCell ⟨gb, 1, none⟩ (.slice P6 n6 c6)).setCell ⟨gb, 2, none⟩ (.bool y6)).setCell ⟨gb, 3, none⟩ (.slice Q6 m6 d6)) ga 61 _) := Lib.hid (blk_far4 BA.out (by have := NE.out; omega))
            have C5' := Lib.hid (C5.out.kept (kept_fillz4 (x := x6) (y := y6) (a := P6) (b := Q6) (n := n6) (c := c6) (m := m6) (d := d6) (Kept.refl W5) BB.out))
            have C6' := Lib.hid (C6.out.kept (kept_fillz4 (x := x6) (y := y6) (a := P6) (b := Q6) (n := n6) (c := c6) (m := m6) (d := d6) (Kept.refl W5) BB.out))
            clear LO BA BB C5 C6
            have LO := LO'
            have BA := BA'
            have BB := BB'
            have C5 := C5'
            have C6 := C6'
            clear LO' BA' BB' C5' C6'
            generalize ((((W5.setCell ⟨gb, 0, none⟩ (.bool x6)).setCell ⟨gb, 1, none⟩ (.slice P6 n6 c6)).setCell ⟨gb, 2, none⟩ (.bool y6)).setCell ⟨gb, 3, none⟩ (.slice Q6 m6 d6)) = W6 at *
            refine wpAnyH_done (by kernel_rfl) ?_ _
            go_wp2_with fail
            go_meet
            have s1 := GA.out
            have s2 := GB.out
            have s3 := NE.out
            have hl1 : w.heap.size ≤ w2.heap.size := T3.out.below.size
            have M1 := lo_mem T3.out LO.out
            have M2 := Mem.plus2 (L := [(w.heap.size, 58, [.bool o1, .slice A1 xs1.length c1, .bool u1, .slice B1 ys1.length d1]), (w.heap.size + 1, 58, [.bool o2, .slice A2 xs2.length c2, .bool u2, .slice B2 ys2.length d2])]) (t1 := 61) (t2 := 61) (c1 := [.bool x5, .slice P5 n5 c5, .bool y5, .slice Q5 m5 d5]) (c2 := [.bool x6, .slice P6 n6 c6, .bool y6, .slice Q6 m6 d6]) M1 BA.out BB.out (by omega) (by omega) (by simp <;> omega) (by simp <;> omega) (by omega) rfl rfl
            exact ⟨ga, gb, x5, P5, n5, c5, y5, Q5, m5, d5, x6, P6, n6, c6, y6, Q6, m6, d6, rfl, rfl, Lib.hid M2, C5, C6, Lib.hid ⟨by omega, by omega, by omega⟩⟩
          refine AllReadyH.cons pat4 (fun K hK => ?_) ?_
          · go_simp
            refine hK.out _ _ (A0L.out _ (LO.out.alloc _)) (fun hHeld2 => ?_)
            clear hK K hHeld
            have hHeld := hHeld2
            clear hHeld2
            (try simp only [Act.put, List.setIfInBounds_toArray, List.set_cons_zero, List.set_cons_succ])
            have LO' := Lib.hid (LO.out.alloc (.cells #[.bool false, .slice none 0 0, .bool false, .slice none 0 0] 61))
            have BB' := Lib.hid (BB.out.alloc (.cells #[.bool false, .slice none 0 0, .bool false, .slice none 0 0] 61))
            have C5' := Lib.hid (C5.out.kept ((Kept.refl W2).alloc (.cells #[.bool false, .slice none 0 0, .bool false, .slice none 0 0] 61)))
            have GA : Hid (w2.heap.size ≤ W2.heap.size) := Lib.hid LO.out.below.size
            have NE : Hid (gb < W2.heap.size) := Lib.hid BB.out.lt
            have BA : Hid (Blk (W2.alloc (.cells #[.bool false, .slice none 0 0, .bool false, .slice none 0 0] 61)) W2.heap.size 61 #[.bool false, .slice none 0 0, .bool false, .slice none 0 0]) := Lib.hid (Blk.new _ _ _)
            clear LO BB C5
            have LO := LO'
            have BB := BB'
            have C5 := C5'
            clear LO' BB' C5'
            generalize (W2.alloc (.cells #[.bool false, .slice none 0 0, .bool false, .slice none 0 0] 61)) = W3 at *
            generalize W2.heap.size = ga at *
            refine wpAnyH_ready (rs := [3]) (by kernel_rfl) (by simp) ?_
            refine AllReadyH.cons pat3 (fun K hK => ?_) AllReadyH.nil
            go_simp
            (go_at_call_of 39 A2; refine (of2_fr (p := 10) (by omega) (by omega) (IY2.out.over LO.out.below)).mono ?_; rintro e W4 ⟨x6, P6, n6, c6, y6, Q6, m6, d6, rfl, C6, hb⟩)
            (try go_wp2_with fail)
            refine hK.out _ _ (A0L.out _ (Lo2.over hb LO.out)) (fun hHeld2 => ?_)
            clear hK K hHeld
            have hHeld := hHeld2
            clear hHeld2
            (try simp only [Act.put, List.setIfInBounds_toArray, List.set_cons_zero, List.set_cons_succ])
            have LO' := Lib.hid (Lo2.over hb LO.out)
            have BA' := Lib.hid (BA.out.below hb.out BA.out.lt)
            have BB' := Lib.hid (BB.out.below hb.out BB.out.lt)
            have C5' := Lib.hid (C5.out.kept (Kept.of_below hb.out))
            clear hb
            clear LO BA BB C5
            have LO := LO'
            have BA := BA'
            have BB := BB'
            have C5 := C5'
            clear LO' BA' BB' C5'
            refine wpAnyH_ready (rs := [6]) (by kernel_rfl) (by simp) ?_
            refine AllReadyH.cons pat6 (fun K hK => ?_) AllReadyH.nil
            have q0 := (blk_four BA.out).1.1
            have q1 := (blk_four BA.out).1.2.1
            have q2 := (blk_four BA.out).1.2.2.1
            have q3 := (blk_four BA.out).1.2.2.2
            have q4 := (blk_four BA.out).2.1
            have q5 := (blk_four BA.out).2.2.1
            have q6 := (blk_four BA.out).2.2.2.1
            have q7 := (blk_four BA.out).2.2.2.2
            go_simp
            refine hK.out _ _ (A0L.out _ (LO.out.fill4 GA.out _ _ _ _)) (fun hHeld2 => ?_)
            clear q0 q1 q2 q3 q4 q5 q6 q7
            clear hK K hHeld
            have hHeld := hHeld2
            clear hHeld2
            (try simp only [Act.put, List.setIfInBounds_toArray, List.set_cons_zero, List.set_cons_succ])
            have LO' := Lib.hid (LO.out.fill4 GA.out (.bool x5) (.slice P5 n5 c5) (.bool y5) (.slice Q5 m5 d5))
            have BA' : Hid (Blk ((((W4.setCell ⟨ga, 0, none⟩ (.bool x5)).setCell ⟨ga, 1, none⟩ (.slice P5 n5 c5)).setCell ⟨ga, 2, none⟩ (.bool y5)).setCell ⟨ga, 3, none⟩ (.slice Q5 m5 d5)) ga 61 #[.bool x5, .slice P5 n5 c5, .bool y5, .slice Q5 m5 d5]) := Lib.hid (blk_fillz4 BA.out)
            have BB' : Hid (Blk ((((W4.setCell ⟨ga, 0, none⟩ (.bool x5)).setCell ⟨ga, 1, none⟩ (.slice P5 n5 c5)).setCell ⟨ga, 2, none⟩ (.bool y5)).setCell ⟨ga, 3, none⟩ (.slice Q5 m5 d5)) gb 61 _) := Lib.hid (blk_far4 BB.out (by have := NE.out; omega))
            have C5' := Lib.hid (C5.out.kept (kept_fillz4 (x := x5) (y := y5) (a := P5) (b := Q5) (n := n5) (c := c5) (m := m5) (d := d5) (Kept.refl W4) BA.out))
            have C6' := Lib.hid (C6.out.kept (kept_fillz4 (x := x5) (y := y5) (a := P5) (b := Q5) (n := n5) (c := c5) (m := m5) (d := d5) (Kept.refl W4) BA.out))
            clear LO BA BB C5 C6
            have LO := LO'
            have BA := BA'
            have BB := BB'
            have C5 := C5'
            have C6 := C6'
            clear LO' BA' BB' C5' C6'
            generalize ((((W4.setCell ⟨ga, 0, none⟩ (.bool x5)).setCell ⟨ga, 1, none⟩ (.slice P5 n5 c5)).setCell ⟨ga, 2, none⟩ (.bool y5)).setCell ⟨ga, 3, none⟩ (.slice Q5 m5 d5)) = W5 at *
            refine wpAnyH_ready (rs := [7]) (by kernel_rfl) (by simp) ?_
            refine AllReadyH.cons pat7 (fun K hK => ?_) AllReadyH.nil
            have q0 := (blk_four BB.out).1.1
            have q1 := (blk_four BB.out).1.2.1
            have q2 := (blk_four BB.out).1.2.2.1
            have q3 := (blk_four BB.out).1.2.2.2
            have q4 := (blk_four BB.out).2.1
            have q5 := (blk_four BB.out).2.2.1
            have q6 := (blk_four BB.out).2.2.2.1
            have q7 := (blk_four BB.out).2.2.2.2
            go_simp
            refine hK.out _ _ (A0L.out _ (LO.out.fill4 GB.out _ _ _ _)) (fun hHeld2 => ?_)
            clear q0 q1 q2 q3 q4 q5 q6 q7
            clear hK K hHeld
            have hHeld := hHeld2
            clear hHeld2
            (try simp only [Act.put, List.setIfInBounds_toArray, List.set_cons_zero, List.set_cons_succ])
            have LO' := Lib.hid (LO.out.fill4 GB.out (.bool x6) (.slice P6 n6 c6) (.bool y6) (.slice Q6 m6 d6))
            have BB' : Hid (Blk ((((W5.setCell ⟨gb, 0, none⟩ (.bool x6)).setCell ⟨gb, 1, none⟩ (.slice P6 n6 c6)).setCell ⟨gb, 2, none⟩ (.bool y6)).setCell ⟨gb, 3, none⟩ (.slice Q6 m6 d6)) gb 61 #[.bool x6, .slice P6 n6 c6, .bool y6, .slice Q6 m6 d6]) := Lib.hid (blk_fillz4 BB.out)
            have BA' : Hid (Blk ((((W5.setCell ⟨gb, 0, none⟩ (.bool x6)).setCell ⟨gb, 1, none⟩ (.slice P6 n6 c6)).setCell ⟨gb, 2, none⟩ (.bool y6)).setCell ⟨gb, 3, none⟩ (.slice Q6 m6 d6)) ga 61 _) := Lib.hid (blk_far4 BA.out (by have := NE.out; omega))
            have C5' := Lib.hid (C5.out.kept (kept_fillz4 (x := x6) (y := y6) (a := P6) (b := Q6) (n := n6) (c := c6) (m := m6) (d := d6) (Kept.refl W5) BB.out))
            have C6' := Lib.hid (C6.out.kept (kept_fillz4 (x := x6) (y := y6) (a := P6) (b := Q6) (n := n6) (c := c6) (m := m6) (d := d6) (Kept.refl W5) BB.out))
            clear LO BA BB C5 C6
            have LO := LO'
            have BA := BA'
            have BB := BB'
            have C5 := C5'
            have C6 := C6'
            clear LO' BA' BB' C5' C6'
            generalize ((((W5.setCell ⟨gb, 0, none⟩ (.bool x6)).setCell ⟨gb, 1, none⟩ (.slice P6 n6 c6)).setCell ⟨gb, 2, none⟩ (.bool y6)).setCell ⟨gb, 3, none⟩ (.slice Q6 m6 d6)) = W6 at *
            refine wpAnyH_done (by kernel_rfl) ?_ _
            go_wp2_with fail
            go_meet
            have s1 := GA.out
            have s2 := GB.out
            have s3 := NE.out
            have hl1 : w.heap.size ≤ w2.heap.size := T3.out.below.size
            have M1 := lo_mem T3.out LO.out
            have M2 := Mem.plus2 (L := [(w.heap.size, 58, [.bool o1, .slice A1 xs1.length c1, .bool u1, .slice B1 ys1.length d1]), (w.heap.size + 1, 58, [.bool o2, .slice A2 xs2.length c2, .bool u2, .slice B2 ys2.length d2])]) (t1 := 61) (t2 := 61) (c1 := [.bool x5, .slice P5 n5 c5, .bool y5, .slice Q5 m5 d5]) (c2 := [.bool x6, .slice P6 n6 c6, .bool y6, .slice Q6 m6 d6]) M1 BA.out BB.out (by omega) (by omega) (by simp <;> omega) (by simp <;> omega) (by omega) rfl rfl
            exact ⟨ga, gb, x5, P5, n5, c5, y5, Q5, m5, d5, x6, P6, n6, c6, y6, Q6, m6, d6, rfl, rfl, Lib.hid M2, C5, C6, Lib.hid ⟨by omega, by omega, by omega⟩⟩
          exact AllReadyH.nil
        exact AllReadyH.nil
      refine AllReadyH.cons pat4 (fun K hK => ?_) ?_
      · go_simp
        refine hK.out _ _ (A0L.out _ (LO.out.alloc _)) (fun hHeld2 => ?_)
        clear hK K hHeld
        have hHeld := hHeld2
        clear hHeld2
        (try simp only [Act.put, List.setIfInBounds_toArray, List.set_cons_zero, List.set_cons_succ])
        have LO' := Lib.hid (LO.out.alloc (.cells #[.bool false, .slice none 0 0, .bool false, .slice none 0 0] 61))
        have GA : Hid (w2.heap.size ≤ W0.heap.size) := Lib.hid LO.out.below.size
        have BA : Hid (Blk (W0.alloc (.cells #[.bool false, .slice none 0 0, .bool false, .slice none 0 0] 61)) W0.heap.size 61 #[.bool false, .slice none 0 0, .bool false, .slice none 0 0]) := Lib.hid (Blk.new _ _ _)
        clear LO
        have LO := LO'
        clear LO'
        generalize (W0.alloc (.cells #[.bool false, .slice none 0 0, .bool false, .slice none 0 0] 61)) = W1 at *
        generalize W0.heap.size = ga at *
        refine wpAnyH_ready (rs := [1, 5]) (by kernel_rfl) (by simp) ?_
        refine AllReadyH.cons pat1 (fun K hK => ?_) ?_
        · go_simp
          (go_at_call_of 39 A1; refine (of2_fr (p := 10) (by omega) (by omega) (IX2.out.over LO.out.below)).mono ?_; rintro e W2 ⟨x5, P5, n5, c5, y5, Q5, m5, d5, rfl, C5, hb⟩)
          (try go_wp2_with fail)
          refine hK.out _ _ (A0L.out _ (Lo2.over hb LO.out)) (fun hHeld2 => ?_)
          clear hK K hHeld
          have hHeld := hHeld2
          clear hHeld2
          (try simp only [Act.put, List.setIfInBounds_toArray, List.set_cons_zero, List.set_cons_succ])
          have LO' := Lib.hid (Lo2.over hb LO.out)
          have BA' := Lib.hid (BA.out.below hb.out BA.out.lt)
          clear hb
          clear LO BA
          have LO := LO'
          have BA := BA'
          clear LO' BA'
          refine wpAnyH_ready (rs := [3, 5]) (by kernel_rfl) (by simp) ?_
          refine AllReadyH.cons pat3 (fun K hK => ?_) ?_
          · go_simp
            (go_at_call_of 39 A2; refine (of2_fr (p := 10) (by omega) (by omega) (IY2.out.over LO.out.below)).mono ?_; rintro e W3 ⟨x6, P6, n6, c6, y6, Q6, m6, d6, rfl, C6, hb⟩)
            (try go_wp2_with fail)
            refine hK.out _ _ (A0L.out _ (Lo2.over hb LO.out)) (fun hHeld2 => ?_)
            clear hK K hHeld
            have hHeld := hHeld2
            clear hHeld2
            (try simp only [Act.put, List.setIfInBounds_toArray, List.set_cons_zero, List.set_cons_succ])
            have LO' := Lib.hid (Lo2.over hb LO.out)
            have BA' := Lib.hid (BA.out.below hb.out BA.out.lt)
            have C5' := Lib.hid (C5.out.kept (Kept.of_below hb.out))
            clear hb
            clear LO BA C5
            have LO := LO'
            have BA := BA'
            have C5 := C5'
            clear LO' BA' C5'
            refine wpAnyH_ready (rs := [5]) (by kernel_rfl) (by simp) ?_
            refine AllReadyH.cons pat5 (fun K hK => ?_) AllReadyH.nil
            go_simp
            refine hK.out _ _ (A0L.out _ (LO.out.alloc _)) (fun hHeld2 => ?_)
            clear hK K hHeld
            have hHeld := hHeld2
            clear hHeld2
            (try simp only [Act.put, List.setIfInBounds_toArray, List.set_cons_zero, List.set_cons_succ])
            have LO' := Lib.hid (LO.out.alloc (.cells #[.bool false, .slice none 0 0, .bool false, .slice none 0 0] 61))
            have BA' := Lib.hid (BA.out.alloc (.cells #[.bool false, .slice none 0 0, .bool false, .slice none 0 0] 61))
            have C5' := Lib.hid (C5.out.kept ((Kept.refl W3).alloc (.cells #[.bool false, .slice none 0 0, .bool false, .slice none 0 0] 61)))
            have C6' := Lib.hid (C6.out.kept ((Kept.refl W3).alloc (.cells #[.bool false, .slice none 0 0, .bool false, .slice none 0 0] 61)))
            have GB : Hid (w2.heap.size ≤ W3.heap.size) := Lib.hid LO.out.below.size
            have NE : Hid (ga < W3.heap.size) := Lib.hid BA.out.lt
            have BB : Hid (Blk (W3.alloc (.cells #[.bool false, .slice none 0 0, .bool false, .slice none 0 0] 61)) W3.heap.size 61 #[.bool false, .slice none 0 0, .bool false, .slice none 0 0]) := Lib.hid (Blk.new _ _ _)
            clear LO BA C5 C6
            have LO := LO'
            have BA := BA'
            have C5 := C5'
            have C6 := C6'
            clear LO' BA' C5' C6'
            generalize (W3.alloc (.cells #[.bool false, .slice none 0 0, .bool false, .slice none 0 0] 61)) = W4 at *
            generalize W3.heap.size = gb at *
            refine wpAnyH_ready (rs := [6]) (by kernel_rfl) (by simp) ?_
            refine AllReadyH.cons pat6 (fun K hK => ?_) AllReadyH.nil
            have q0 := (blk_four BA.out).1.1
            have q1 := (blk_four BA.out).1.2.1
            have q2 := (blk_four BA.out).1.2.2.1
            have q3 := (blk_four BA.out).1.2.2.2
            have q4 := (blk_four BA.out).2.1
            have q5 := (blk_four BA.out).2.2.1
            have q6 := (blk_four BA.out).2.2.2.1
            have q7 := (blk_four BA.out).2.2.2.2
            go_simp
            refine hK.out _ _ (A0L.out _ (LO.out.fill4 GA.out _ _ _ _)) (fun hHeld2 => ?_)
            clear q0 q1 q2 q3 q4 q5 q6 q7
            clear hK K hHeld
            have hHeld := hHeld2
            clear hHeld2
            (try simp only [Act.put, List.setIfInBounds_toArray, List.set_cons_zero, List.set_cons_succ])
            have LO' := Lib.hid (LO.out.fill4 GA.out (.bool x5) (.slice P5 n5 c5) (.bool y5) (.slice Q5 m5 d5))
            have BA' : Hid (Blk ((((W4.setCell ⟨ga, 0, none⟩ (.bool x5)).setCell ⟨ga, 1, none⟩ (.slice P5 n5 c5)).setCell ⟨ga, 2, none⟩ (.bool y5)).setCell ⟨ga, 3, none⟩ (.slice Q5 m5 d5)) ga 61 #[.bool x5, .slice P5 n5 c5, .bool y5, .slice Q5 m5 d5]) := Lib.hid (blk_fillz4 BA.out)
            have BB' : Hid (Blk ((((W4.setCell ⟨ga, 0, none⟩ (.bool x5)).setCell ⟨ga, 1, none⟩ (.slice P5 n5 c5)).setCell ⟨ga, 2, none⟩ (.bool y5)).setCell ⟨ga, 3, none⟩ (.slice Q5 m5 d5)) gb 61 _) := Lib.hid (blk_far4 BB.out (by have := NE.out; omega))
            have C5' := Lib.hid (C5.out.kept (kept_fillz4 (x := x5) (y := y5) (a := P5) (b := Q5) (n := n5) (c := c5) (m := m5) (d := d5) (Kept.refl W4) BA.out))
            have C6' := Lib.hid (C6.out.kept (kept_fillz4 (x := x5) (y := y5) (a := P5) (b := Q5) (n := n5) (c := c5) (m := m5) (d := d5) (Kept.refl W4) BA.out))
            clear LO BA BB C5 C6
            have LO := LO'
            have BA := BA'
            have BB := BB'
            have C5 := C5'
            have C6 := C6'
            clear LO' BA' BB' C5' C6'
            generalize ((((W4.setCell ⟨ga, 0, none⟩ (.bool x5)).setCell ⟨ga, 1, none⟩ (.slice P5 n5 c5)).setCell ⟨ga, 2, none⟩ (.bool y5)).setCell ⟨ga, 3, none⟩ (.slice Q5 m5 d5)) = W5 at *
            refine wpAnyH_ready (rs := [7]) (by kernel_rfl) (by simp) ?_
            refine AllReadyH.cons pat7 (fun K hK => ?_) AllReadyH.nil
            have q0 := (blk_four BB.out).1.1
            have q1 := (blk_four BB.out).1.2.1
            have q2 := (blk_four BB.out).1.2.2.1
            have q3 := (blk_four BB.out).1.2.2.2
            have q4 := (blk_four BB.out).2.1
            have q5 := (blk_four BB.out).2.2.1
            have q6 := (blk_four BB.out).2.2.2.1
            have q7 := (blk_four BB.out).2.2.2.2
            go_simp
            refine hK.out _ _ (A0L.out _ (LO.out.fill4 GB.out _ _ _ _)) (fun hHeld2 => ?_)
            clear q0 q1 q2 q3 q4 q5 q6 q7
            clear hK K hHeld
            have hHeld := hHeld2
            clear hHeld2
            (try simp only [Act.put, List.setIfInBounds_toArray, List.set_cons_zero, List.set_cons_succ])
            have LO' := Lib.hid (LO.out.fill4 GB.out (.bool x6) (.slice P6 n6 c6) (.bool y6) (.slice Q6 m6 d6))
            have BB' : Hid (Blk ((((W5.setCell ⟨gb, 0, none⟩ (.bool x6)).setCell ⟨gb, 1, none⟩ (.slice P6 n6 c6)).setCell ⟨gb, 2, none⟩ (.bool y6)).setCell ⟨gb, 3, none⟩ (.slice Q6 m6 d6)) gb 61 #[.bool x6, .slice P6 n6 c6, .bool y6, .slice Q6 m6 d6]) := Lib.hid (blk_fillz4 BB.out)
            have BA' : Hid (Blk ((((W5.setCell ⟨gb, 0, none⟩ (.bool x6)).setCell ⟨gb, 1, none⟩ (.slice P6 n6 c6)).setCell ⟨gb, 2, none⟩ (.bool y6)).setCell ⟨gb, 3, none⟩ (.slice Q6 m6 d6)) ga 61 _) := Lib.hid (blk_far4 BA.out (by have := NE.out; omega))
            have C5' := Lib.hid (C5.out.kept (kept_fillz4 (x := x6) (y := y6) (a := P6) (b := Q6) (n := n6) (c := c6) (m := m6) (d := d6) (Kept.refl W5) BB.out))
            have C6' := Lib.hid (C6.out.kept (kept_fillz4 (x := x6) (y := y6) (a := P6) (b := Q6) (n := n6) (c := c6) (m := m6) (d := d6) (Kept.refl W5) BB.out))
            clear LO BA BB C5 C6
            have LO := LO'
            have BA := BA'
            have BB := BB'
            have C5 := C5'
            have C6 := C6'
            clear LO' BA' BB' C5' C6'
            generalize ((((W5.setCell ⟨gb, 0, none⟩ (.bool x6)).setCell ⟨gb, 1, none⟩ (.slice P6 n6 c6)).setCell ⟨gb, 2, none⟩ (.bool y6)).setCell ⟨gb, 3, none⟩ (.slice Q6 m6 d6)) = W6 at *
            refine wpAnyH_done (by kernel_rfl) ?_ _
            go_wp2_with fail
            go_meet
            have s1 := GA.out
            have s2 := GB.out
            have s3 := NE.out
            have hl1 : w.heap.size ≤ w2.heap.size := T3.out.below.size
            have M1 := lo_mem T3.out LO.out
            have M2 := Mem.plus2 (L := [(w.heap.size, 58, [.bool o1, .slice A1 xs1.length c1, .bool u1, .slice B1 ys1.length d1]), (w.heap.size + 1, 58, [.bool o2, .slice A2 xs2.length c2, .bool u2, .slice B2 ys2.length d2])]) (t1 := 61) (t2 := 61) (c1 := [.bool x5, .slice P5 n5 c5, .bool y5, .slice Q5 m5 d5]) (c2 := [.bool x6, .slice P6 n6 c6, .bool y6, .slice Q6 m6 d6]) M1 BA.out BB.out (by omega) (by omega) (by simp <;> omega) (by simp <;> omega) (by omega) rfl rfl
            exact ⟨ga, gb, x5, P5, n5, c5, y5, Q5, m5, d5, x6, P6, n6, c6, y6, Q6, m6, d6, rfl, rfl, Lib.hid M2, C5, C6, Lib.hid ⟨by omega, by omega, by omega⟩⟩
          refine AllReadyH.cons pat5 (fun K hK => ?_) ?_
          · go_simp
            refine hK.out _ _ (A0L.out _ (LO.out.alloc _)) (fun hHeld2 => ?_)
            clear hK K hHeld
            have hHeld := hHeld2
            clear hHeld2
            (try simp only [Act.put, List.setIfInBounds_toArray, List.set_cons_zero, List.set_cons_succ])
            have LO' := Lib.hid (LO.out.alloc (.cells #[.bool false, .slice none 0 0, .bool false, .slice none 0 0] 61))
            have BA' := Lib.hid (BA.out.alloc (.cells #[.bool false, .slice none 0 0, .bool false, .slice none 0 0] 61))
            have C5' := Lib.hid (C5.out.kept ((Kept.refl W2).alloc (.cells #[.bool false, .slice none 0 0, .bool false, .slice none 0 0] 61)))
            have GB : Hid (w2.heap.size ≤ W2.heap.size) := Lib.hid LO.out.below.size
            have NE : Hid (ga < W2.heap.size) := Lib.hid BA.out.lt
            have BB : Hid (Blk (W2.alloc (.cells #[.bool false, .slice none 0 0, .bool false, .slice none 0 0] 61)) W2.heap.size 61 #[.bool false, .slice none 0 0, .bool false, .slice none 0 0]) := Lib.hid (Blk.new _ _ _)
            clear LO BA C5
            have LO := LO'
            have BA := BA'
            have C5 := C5'
            clear LO' BA' C5'
            generalize (W2.alloc (.cells #[.bool false, .slice none 0 0, .bool false, .slice none 0 0] 61)) = W3 at *
            generalize W2.heap.size = gb at *
            refine wpAnyH_ready (rs := [3]) (by kernel_rfl) (by simp) ?_
            refine AllReadyH.cons pat3 (fun K hK => ?_) AllReadyH.nil
            go_simp
            (go_at_call_of 39 A2; refine (of2_fr (p := 10) (by omega) (by omega) (IY2.out.over LO.out.below)).mono ?_; rintro e W4 ⟨x6, P6, n6, c6, y6, Q6, m6, d6, rfl, C6, hb⟩)
            (try go_wp2_with fail)
            refine hK.out _ _ (A0L.out _ (Lo2.over hb LO.out)) (fun hHeld2 => ?_)
            clear hK K hHeld
            have hHeld := hHeld2
            clear hHeld2
            (try simp only [Act.put, List.setIfInBounds_toArray, List.set_cons_zero, List.set_cons_succ])
            have LO' := Lib.hid (Lo2.over hb LO.out)
            have BA' := Lib.hid (BA.out.below hb.out BA.out.lt)
            have BB' := Lib.hid (BB.out.below hb.out BB.out.lt)
            have C5' := Lib.hid (C5.out.kept (Kept.of_below hb.out))
            clear hb
            clear LO BA BB C5
            have LO := LO'
            have BA := BA'
            have BB := BB'
            have C5 := C5'
            clear LO' BA' BB' C5'
            refine wpAnyH_ready (rs := [6]) (by kernel_rfl) (by simp) ?_
            refine AllReadyH.cons pat6 (fun K hK => ?_) AllReadyH.nil
            have q0 := (blk_four BA.out).1.1
            have q1 := (blk_four BA.out).1.2.1
            have q2 := (blk_four BA.out).1.2.2.1
            have q3 := (blk_four BA.out).1.2.2.2
            have q4 := (blk_four BA.out).2.1
            have q5 := (blk_four BA.out).2.2.1
            have q6 := (blk_four BA.out).2.2.2.1
            have q7 := (blk_four BA.out).2.2.2.2
            go_simp
            refine hK.out _ _ (A0L.out _ (LO.out.fill4 GA.out _ _ _ _)) (fun hHeld2 => ?_)
            clear q0 q1 q2 q3 q4 q5 q6 q7
            clear hK K hHeld
            have hHeld := hHeld2
            clear hHeld2
            (try simp only [Act.put, List.setIfInBounds_toArray, List.set_cons_zero, List.set_cons_succ])
            have LO' := Lib.hid (LO.out.fill4 GA.out (.bool x5) (.slice P5 n5 c5) (.bool y5) (.slice Q5 m5 d5))
            have BA' : Hid (Blk ((((W4.setCell ⟨ga, 0, none⟩ (.bool x5)).setCell ⟨ga, 1, none⟩ (.slice P5 n5 c5)).setCell ⟨ga, 2, none⟩ (.bool y5)).setCell ⟨ga, 3, none⟩ (.slice Q5 m5 d5)) ga 61 #[.bool x5, .slice P5 n5 c5, .bool y5, .slice Q5 m5 d5]) := Lib.hid (blk_fillz4 BA.out)
            have BB' : Hid (Blk ((((W4.setCell ⟨ga, 0, none⟩ (.bool x5)).setCell ⟨ga, 1, none⟩ (.slice P5 n5 c5)).setCell ⟨ga, 2, none⟩ (.bool y5)).setCell ⟨ga, 3, none⟩ (.slice Q5 m5 d5)) gb 61 _) := Lib.hid (blk_far4 BB.out (by have := NE.out; omega))
            have C5' := Lib.hid (C5.out.kept (kept_fillz4 (x := x5) (y := y5) (a := P5) (b := Q5) (n := n5) (c := c5) (m := m5) (d := d5) (Kept.refl W4) BA.out))
            have C6' := Lib.hid (C6.out.kept (kept_fillz4 (x := x5) (y := y5) (a := P5) (b := Q5) (n := n5) (c := c5) (m := m5) (d := d5) (Kept.refl W4) BA.out))
            clear LO BA BB C5 C6
            have LO := LO'
            have BA := BA'
            have BB := BB'
            have C5 := C5'
            have C6 := C6'
            clear LO' BA' BB' C5' C6'
            generalize ((((W4.setCell ⟨ga, 0, none⟩ (.bool x5)).setCell ⟨ga, 1, none⟩ (.slice P5 n5 c5)).setCell ⟨ga, 2, none⟩ (.bool y5)).setCell ⟨ga, 3, none⟩ (.slice Q5 m5 d5)) = W5 at *
            refine wpAnyH_ready (rs := [7]) (by kernel_rfl) (by simp) ?_
            refine AllReadyH.cons pat7 (fun K hK => ?_) AllReadyH.nil
            have q0 := (blk_four BB.out).1.1
            have q1 := (blk_four BB.out).1.2.1
            have q2 := (blk_four BB.out).1.2.2.1
            have q3 := (blk_four BB.out).1.2.2.2
            have q4 := (blk_four BB.out).2.1
            have q5 := (blk_four BB.out).2.2.1
            have q6 := (blk_four BB.out).2.2.2.1
            have q7 := (blk_four BB.out).2.2.2.2
            go_simp
            refine hK.out _ _ (A0L.out _ (LO.out.fill4 GB.out _ _ _ _)) (fun hHeld2 => ?_)
            clear q0 q1 q2 q3 q4 q5 q6 q7
            clear hK K hHeld
            have hHeld := hHeld2
            clear hHeld2
            (try simp only [Act.put, List.setIfInBounds_toArray, List.set_cons_zero, List.set_cons_succ])
            have LO' := Lib.hid (LO.out.fill4 GB.out (.bool x6) (.slice P6 n6 c6) (.bool y6) (.slice Q6 m6 d6))
            have BB' : Hid (Blk ((((W5.setCell ⟨gb, 0, none⟩ (.bool x6)).setCell ⟨gb, 1, none⟩ (.slice P6 n6 c6)).setCell ⟨gb, 2, none⟩ (.bool y6)).setCell ⟨gb, 3, none⟩ (.slice Q6 m6 d6)) gb 61 #[.bool x6, .slice P6 n6 c6, .bool y6, .slice Q6 m6 d6]) := Lib.hid (blk_fillz4 BB.out)
            have BA' : Hid (Blk ((((W5.setCell ⟨gb, 0, none⟩ (.bool x6)).setCell ⟨gb, 1, none⟩ (.slice P6 n6 c6)).setCell ⟨gb, 2, none⟩ (.bool y6)).setCell ⟨gb, 3, none⟩ (.slice Q6 m6 d6)) ga 61 _) := Lib.hid (blk_far4 BA.out (by have := NE.out; omega))
            have C5' := Lib.hid (C5.out.kept (kept_fillz4 (x := x6) (y := y6) (a := P6) (b := Q6) (n := n6) (c := c6) (m := m6) (d := d6) (Kept.refl W5) BB.out))
            have C6' := Lib.hid (C6.out.kept (kept_fillz4 (x := x6) (y := y6) (a := P6) (b := Q6) (n := n6) (c := c6) (m := m6) (d := d6) (Kept.refl W5) BB.out))
            clear LO BA BB C5 C6
            have LO := LO'
            have BA := BA'
            have BB := BB'
            have C5 := C5'
            have C6 := C6'
            clear LO' BA' BB' C5' C6'
            generalize ((((W5.setCell ⟨gb, 0, none⟩ (.bool x6)).setCell ⟨gb, 1, none⟩ (.slice P6 n6 c6)).setCell ⟨gb, 2, none⟩ (.bool y6)).setCell ⟨gb, 3, none⟩ (.slice Q6 m6 d6)) = W6 at *
            refine wpAnyH_done (by kernel_rfl) ?_ _
            go_wp2_with fail
            go_meet
            have s1 := GA.out
            have s2 := GB.out
            have s3 := NE.out
            have hl1 : w.heap.size ≤ w2.heap.size := T3.out.below.size
            have M1 := lo_mem T3.out LO.out
            have M2 := Mem.plus2 (L := [(w.heap.size, 58, [.bool o1, .slice A1 xs1.length c1, .bool u1, .slice B1 ys1.length d1]), (w.heap.size + 1, 58, [.bool o2, .slice A2 xs2.length c2, .bool u2, .slice B2 ys2.length d2])]) (t1 := 61) (t2 := 61) (c1 := [.bool x5, .slice P5 n5 c5, .bool y5, .slice Q5 m5 d5]) (c2 := [.bool x6, .slice P6 n6 c6, .bool y6, .slice Q6 m6 d6]) M1 BA.out BB.out (by omega) (by omega) (by simp <;> omega) (by simp <;> omega) (by omega) rfl rfl
            exact ⟨ga, gb, x5, P5, n5, c5, y5, Q5, m5, d5, x6, P6, n6, c6, y6, Q6, m6, d6, rfl, rfl, Lib.hid M2, C5, C6, Lib.hid ⟨by omega, by omega, by omega⟩⟩
          exact AllReadyH.nil
        refine AllReadyH.cons pat5 (fun K hK => ?_) ?_
        · go_simp
          refine hK.out _ _ (A0L.out _ (LO.out.alloc _)) (fun hHeld2 => ?_)
          clear hK K hHeld
          have hHeld := hHeld2
          clear hHeld2
          (try simp only [Act.put, List.setIfInBounds_toArray, List.set_cons_zero, List.set_cons_succ])
          have LO' := Lib.hid (LO.out.alloc (.cells #[.bool false, .slice none 0 0, .bool false, .slice none 0 0] 61))
          have BA' := Lib.hid (BA.out.alloc (.cells #[.bool false, .slice none 0 0, .bool false, .slice none 0 0] 61))
          have GB : Hid (w2.heap.size ≤ W1.heap.size) := Lib.hid LO.out.below.size
          have NE : Hid (ga < W1.heap.size) := Lib.hid BA.out.lt
          have BB : Hid (Blk (W1.alloc (.cells #[.bool false, .slice none 0 0, .bool false, .slice none 0 0] 61)) W1.heap.size 61 #[.bool false, .slice none 0 0, .bool false, .slice none 0 0]) := Lib.hid (Blk.new _ _ _)
          clear LO BA
          have LO := LO'
          have BA := BA'
          clear LO' BA'
          generalize (W1.alloc (.cells #[.bool false, .slice none 0 0, .bool false, .slice none 0 0] 61)) = W2 at *
          generalize W1.heap.size = gb at *
          refine wpAnyH_ready (rs := [1]) (by kernel_rfl) (by simp) ?_
          refine AllReadyH.cons pat1 (fun K hK => ?_) AllReadyH.nil
          go_simp
          (go_at_call_of 39 A1; refine (of2_fr (p := 10) (by omega) (by omega) (IX2.out.over LO.out.below)).mono ?_; rintro e W3 ⟨x5, P5, n5, c5, y5, Q5, m5, d5, rfl, C5, hb⟩)
          (try go_wp2_with fail)
          refine hK.out _ _ (A0L.out _ (Lo2.over hb LO.out)) (fun hHeld2 => ?_)
          clear hK K hHeld
          have hHeld := hHeld2
          clear hHeld2
          (try simp only [Act.put, List.setIfInBounds_toArray, List.set_cons_zero, List.set_cons_succ])
          have LO' := Lib.hid (Lo2.over hb LO.out)
          have BA' := Lib.hid (BA.out.below hb.out BA.out.lt)
          have BB' := Lib.hid (BB.out.below hb.out BB.out.lt)
          clear hb
          clear LO BA BB
          have LO := LO'
          have BA := BA'
          have BB := BB'
          clear LO' BA' BB'
          refine wpAnyH_ready (rs := [3]) (by kernel_rfl) (by simp) ?_
          refine AllReadyH.cons pat3 (fun K hK => ?_) AllReadyH.nil
          go_simp
          (go_at_call_of 39 A2; refine (of2_fr (p := 10) (by omega) (by omega) (IY2.out.over LO.out.below)).mono ?_; rintro e W4 ⟨x6, P6, n6, c6, y6, Q6, m6, d6, rfl, C6, hb⟩)
          (try go_wp2_with fail)
          refine hK.out _ _ (A0L.out _ (Lo2.over hb LO.out)) (fun hHeld2 => ?_)
          clear hK K hHeld
          have hHeld := hHeld2
          clear hHeld2
          (try simp only [Act.put, List.setIfInBounds_toArray, List.set_cons_zero, List.set_cons_succ])
          have LO' := Lib.hid (Lo2.over hb LO.out)
          have BA' := Lib.hid (BA.out.below hb.out BA.out.lt)
          have BB' := Lib.hid (BB.out.below hb.out BB.out.lt)
          have C5' := Lib.hid (C5.out.kept (Kept.of_below hb.out))
          clear hb
          clear LO BA BB C5
          have LO := LO'
          have BA := BA'
          have BB := BB'
          have C5 := C5'
          clear LO' BA' BB' C5'
          refine wpAnyH_ready (rs := [6]) (by kernel_rfl) (by simp) ?_
          refine AllReadyH.cons pat6 (fun K hK => ?_) AllReadyH.nil
          have q0 := (blk_four BA.out).1.1
          have q1 := (blk_four BA.out).1.2.1
          have q2 := (blk_four BA.out).1.2.2.1
          have q3 := (blk_four BA.out).1.2.2.2
          have q4 := (blk_four BA.out).2.1
          have q5 := (blk_four BA.out).2.2.1
          have q6 := (blk_four BA.out).2.2.2.1
          have q7 := (blk_four BA.out).2.2.2.2
          go_simp
          refine hK.out _ _ (A0L.out _ (LO.out.fill4 GA.out _ _ _ _)) (fun hHeld2 => ?_)
          clear q0 q1 q2 q3 q4 q5 q6 q7
          clear hK K hHeld
          have hHeld := hHeld2
          clear hHeld2
          (try simp only [Act.put, List.setIfInBounds_toArray, List.set_cons_zero, List.set_cons_succ])
          have LO' := Lib.hid (LO.out.fill4 GA.out (.bool x5) (.slice P5 n5 c5) (.bool y5) (.slice Q5 m5 d5))
          have BA' : Hid (Blk ((((W4.setCell ⟨ga, 0, none⟩ (.bool x5)).setCell ⟨ga, 1, none⟩ (.slice P5 n5 c5)).setCell ⟨ga, 2, none⟩ (.bool y5)).setCell ⟨ga, 3, none⟩ (.slice Q5 m5 d5)) ga 61 #[.bool x5, .slice P5 n5 c5, .bool y5, .slice Q5 m5 d5]) := Lib.hid (blk_fillz4 BA.out)
          have BB' : Hid (Blk ((((W4.setCell ⟨ga, 0, none⟩ (.bool x5)).setCell ⟨ga, 1, none⟩ (.slice P5 n5 c5)).setCell ⟨ga, 2, none⟩ (.bool y5)).setCell ⟨ga, 3, none⟩ (.slice Q5 m5 d5)) gb 61 _) := Lib.hid (blk_far4 BB.out (by have := NE.out; omega))
          have C5' := Lib.hid (C5.out.kept (kept_fillz4 (x := x5) (y := y5) (a := P5) (b := Q5) (n := n5) (c := c5) (m := m5) (d := d5) (Kept.refl W4) BA.out))
          have C6' := Lib.hid (C6.out.kept (kept_fillz4 (x := x5) (y := y5) (a := P5) (b := Q5) (n := n5) (c := c5) (m := m5) (d := d5) (Kept.refl W4) BA.out))
          clear LO BA BB C5 C6
          have LO := LO'
          have BA := BA'
          have BB := BB'
          have C5 := C5'
          have C6 := C6'
          clear LO' BA' BB' C5' C6'
          generalize ((((W4.setCell ⟨ga, 0, none⟩ (.bool x5)).setCell ⟨ga, 1, none⟩ (.slice P5 n5 c5)).setCell ⟨ga, 2, none⟩ (.bool y5)).setCell ⟨ga, 3, none⟩ (.slice Q5 m5 d5)) = W5 at *
          refine wpAnyH_ready (rs := [7]) (by kernel_rfl) (by simp) ?_
          refine AllReadyH.cons pat7 (fun K hK => ?_) AllReadyH.nil
          have q0 := (blk_four BB.out).1.1
          have q1 := (blk_four BB.out).1.2.1
          have q2 := (blk_four BB.out).1.2.2.1
          have q3 := (blk_four BB.out).1.2.2.2
          have q4 := (blk_four BB.out).2.1
          have q5 := (blk_four BB.out).2.2.1
          have q6 := (blk_four BB.out).2.2.2.1
          have q7 := (blk_four BB.out).2.2.2.2
          go_simp
          refine hK.out _ _ (A0L.out _ (LO.out.fill4 GB.out _ _ _ _)) (fun hHeld2 => ?_)
          clear q0 q1 q2 q3 q4 q5 q6 q7
          clear hK K hHeld
          have hHeld := hHeld2
          clear hHeld2
          (try simp only [Act.put, List.setIfInBounds_toArray, List.set_cons_zero, List.set_cons_succ])
          have LO' := Lib.hid (LO.out.fill4 GB.out (.bool x6) (.slice P6 n6 c6) (.bool y6) (.slice Q6 m6 d6))
          have BB' : Hid (Blk ((((W5.setCell ⟨gb, 0, none⟩ (.bool x6)).setCell ⟨gb, 1, none⟩ (.slice P6 n6 c6)).setCell ⟨gb, 2, none⟩ (.bool y6)).setCell ⟨gb, 3, none⟩ (.slice Q6 m6 d6)) gb 61 #[.bool x6, .slice P6 n6 c6, .bool y6, .slice Q6 m6 d6]) := Lib.hid (blk_fillz4 BB.out)
          have BA' : Hid (Blk ((((W5.setCell ⟨gb, 0, none⟩ (.bool x6)).setCell ⟨gb, 1, none⟩ (.slice P6 n6 c6)).setCell ⟨gb, 2, none⟩ (.bool y6)).setCell ⟨gb, 3, none⟩ (.slice Q6 m6 d6)) ga 61 _) := Lib.hid (blk_far4 BA.out (by have := NE.out; omega))
          have C5' := Lib.hid (C5.out.kept (kept_fillz4 (x := x6) (y := y6) (a := P6) (b := Q6) (n := n6) (c := c6) (m := m6) (d := d6) (Kept.refl W5) BB.out))
          have C6' := Lib.hid (C6.out.kept (kept_fillz4 (x := x6) (y := y6) (a := P6) (b := Q6) (n := n6) (c := c6) (m := m6) (d := d6) (Kept.refl W5) BB.out))
          clear LO BA BB C5 C6
          have LO := LO'
          have BA := BA'
          have BB := BB'
          have C5 := C5'
          have C6 := C6'
          clear LO' BA' BB' C5' C6'
          generalize ((((W5.setCell ⟨gb, 0, none⟩ (.bool x6)).setCell ⟨gb, 1, none⟩ (.slice P6 n6 c6)).setCell ⟨gb, 2, none⟩ (.bool y6)).setCell ⟨gb, 3, none⟩ (.slice Q6 m6 d6)) = W6 at *
          refine wpAnyH_done (by kernel_rfl) ?_ _
          go_wp2_with fail
          go_meet
          have s1 := GA.out
          have s2 := GB.out
          have s3 := NE.out
          have hl1 : w.heap.size ≤ w2.heap.size := T3.out.below.size
          have M1 := lo_mem T3.out LO.out
          have M2 := Mem.plus2 (L := [(w.heap.size, 58, [.bool o1, .slice A1 xs1.length c1, .bool u1, .slice B1 ys1.length d1]), (w.heap.size + 1, 58, [.bool o2, .slice A2 xs2.length c2, .bool u2, .slice B2 ys2.length d2])]) (t1 := 61) (t2 := 61) (c1 := [.bool x5, .slice P5 n5 c5, .bool y5, .slice Q5 m5 d5]) (c2 := [.bool x6, .slice P6 n6 c6, .bool y6, .slice Q6 m6 d6]) M1 BA.out BB.out (by omega) (by omega) (by simp <;> omega) (by simp <;> omega) (by omega) rfl rfl
          exact ⟨ga, gb, x5, P5, n5, c5, y5, Q5, m5, d5, x6, P6, n6, c6, y6, Q6, m6, d6, rfl, rfl, Lib.hid M2, C5, C6, Lib.hid ⟨by omega, by omega, by omega⟩⟩
        exact AllReadyH.nil
      refine AllReadyH.cons pat5 (fun K hK => ?_) ?_
      · go_simp
        refine hK.out _ _ (A0L.out _ (LO.out.alloc _)) (fun hHeld2 => ?_)
        clear hK K hHeld
        have hHeld := hHeld2
        clear hHeld2
        (try simp only [Act.put, List.setIfInBounds_toArray, List.set_cons_zero, List.set_cons_succ])
        have LO' := Lib.hid (LO.out.alloc (.cells #[.bool false, .slice none 0 0, .bool false, .slice none 0 0] 61))
        have GB : Hid (w2.heap.size ≤ W0.heap.size) := Lib.hid LO.out.below.size
        have BB : Hid (Blk (W0.alloc (.cells #[.bool false, .slice none 0 0, .bool false, .slice none 0 0] 61)) W0.heap.size 61 #[.bool false, .slice none 0 0, .bool false, .slice none 0 0]) := Lib.hid (Blk.new _ _ _)
        clear LO
        have LO := LO'
        clear LO'
        generalize (W0.alloc (.cells #[.bool false, .slice none 0 0, .bool false, .slice none 0 0] 61)) = W1 at *
        generalize W0.heap.size = gb at *
        refine wpAnyH_ready (rs := [1, 4]) (by kernel_rfl) (by simp) ?_
        refine AllReadyH.cons pat1 (fun K hK => ?_) ?_
        · go_simp
          (go_at_call_of 39 A1; refine (of2_fr (p := 10) (by omega) (by omega) (IX2.out.over LO.out.below)).mono ?_; rintro e W2 ⟨x5, P5, n5, c5, y5, Q5, m5, d5, rfl, C5, hb⟩)
          (try go_wp2_with fail)
          refine hK.out _ _ (A0L.out _ (Lo2.over hb LO.out)) (fun hHeld2 => ?_)
          clear hK K hHeld
          have hHeld := hHeld2
          clear hHeld2
          (try simp only [Act.put, List.setIfInBounds_toArray, List.set_cons_zero, List.set_cons_succ])
          have LO' := Lib.hid (Lo2.over hb LO.out)
          have BB' := Lib.hid (BB.out.below hb.out BB.out.lt)
          clear hb
          clear LO BB
          have LO := LO'
          have BB := BB'
          clear LO' BB'
          refine wpAnyH_ready (rs := [3, 4]) (by kernel_rfl) (by simp) ?_
          refine AllReadyH.cons pat3 (fun K hK => ?_) ?_
          · go_simp
            (go_at_call_of 39 A2; refine (of2_fr (p := 10) (by omega) (by omega) (IY2.out.over LO.out.below)).mono ?_; rintro e W3 ⟨x6, P6, n6, c6, y6, Q6, m6, d6, rfl, C6, hb⟩)
            (try go_wp2_with fail)
            refine hK.out _ _ (A0L.out _ (Lo2.over hb LO.out)) (fun hHeld2 => ?_)
            clear hK K hHeld
            have hHeld := hHeld2
            clear hHeld2
            (try simp only [Act.put, List.setIfInBounds_toArray, List.set_cons_zero, List.set_cons_succ])
            have LO' := Lib.hid (Lo2.over hb LO.out)
            have BB' := Lib.hid (BB.out.below hb.out BB.out.lt)
            have C5' := Lib.hid (C5.out.kept (Kept.of_below hb.out))
            clear hb
            clear LO BB C5
            have LO := LO'
            have BB := BB'
            have C5 := C5'
            clear LO' BB' C5'
            refine wpAnyH_ready (rs := [4]) (by kernel_rfl) (by simp) ?_
            refine AllReadyH.cons pat4 (fun K hK => ?_) AllReadyH.nil
            go_simp
            refine hK.out _ _ (A0L.out _ (LO.out.alloc _)) (fun hHeld2 => ?_)
            clear hK K hHeld
            have hHeld := hHeld2
            clear hHeld2
            (try simp only [Act.put, List.setIfInBounds_toArray, List.set_cons_zero, List.set_cons_succ])
            have LO' := Lib.hid (LO.out.alloc (.cells #[.bool false, .slice none 0 0, .bool false, .slice none 0 0] 61))
            have BB' := Lib.hid (BB.out.alloc (.cells #[.bool false, .slice none 0 0, .bool false, .slice none 0 0] 61))
            have C5' := Lib.hid (C5.out.kept ((Kept.refl W3).alloc (.cells #[.bool false, .slice none 0 0, .bool false, .slice none 0 0] 61)))
            have C6' := Lib.hid (C6.out.kept ((Kept.refl W3).alloc (.cells #[.bool false, .slice none 0 0, .bool false, .slice none 0 0] 61)))
            have GA : Hid (w2.heap.size ≤ W3.heap.size) := Lib.hid LO.out.below.size
            have NE : Hid (gb < W3.heap.size) := Lib.hid BB.out.lt
            have BA : Hid (Blk (W3.alloc (.cells #[.bool false, .slice none 0 0, .bool false, .slice none 0 0] 61)) W3.heap.size 61 #[.bool false, .slice none 0 0, .bool false, .slice none 0 0]) := Lib.hid (Blk.new _ _ _)
            clear LO BB C5 C6
            have LO := LO'
            have BB := BB'
            have C5 := C5'
            have C6 := C6'
            clear LO' BB' C5' C6'
            generalize (W3.alloc (.cells #[.bool false, .slice none 0 0, .bool false, .slice none 0 0] 61)) = W4 at *
            generalize W3.heap.size = ga at *
            refine wpAnyH_ready (rs := [6]) (by kernel_rfl) (by simp) ?_
            refine AllReadyH.cons pat6 (fun K hK => ?_) AllReadyH.nil
            have q0 := (blk_four BA.out).1.1
            have q1 := (blk_four BA.out).1.2.1
            have q2 := (blk_four BA.out).1.2.2.1
            have q3 := (blk_four BA.out).1.2.2.2
            have q4 := (blk_four BA.out).2.1
            have q5 := (blk_four BA.out).2.2.1
            have q6 := (blk_four BA.out).2.2.2.1
            have q7 := (blk_four BA.out).2.2.2.2
            go_simp
            refine hK.out _ _ (A0L.out _ (LO.out.fill4 GA.out _ _ _ _)) (fun hHeld2 => ?_)
            clear q0 q1 q2 q3 q4 q5 q6 q7
            clear hK K hHeld
            have hHeld := hHeld2
            clear hHeld2
            (try simp only [Act.put, List.setIfInBounds_toArray, List.set_cons_zero, List.set_cons_succ])
            have LO' := Lib.hid (LO.out.fill4 GA.out (.bool x5) (.slice P5 n5 c5) (.bool y5) (.slice Q5 m5 d5))
            have BA' : Hid (Blk ((((W4.setCell ⟨ga, 0, none⟩ (.bool x5)).setCell ⟨ga, 1, none⟩ (.slice P5 n5 c5)).setCell ⟨ga, 2, none⟩ (.bool y5)).setCell ⟨ga, 3, none⟩ (.slice Q5 m5 d5)) ga 61 #[.bool x5, .slice P5 n5 c5, .bool y5, .slice Q5 m5 d5]) := Lib.hid (blk_fillz4 BA.out)
            have BB' : Hid (Blk ((((W4.setCell ⟨ga, 0, none⟩ (.bool x5)).setCell ⟨ga, 1, none⟩ (.slice P5 n5 c5)).setCell ⟨ga, 2, none⟩ (.bool y5)).setCell ⟨ga, 3, none⟩ (.slice Q5 m5 d5)) gb 61 _) := Lib.hid (blk_far4 BB.out (by have := NE.out; omega))
            have C5' := Lib.hid (C5.out.kept (kept_fillz4 (x := x5) (y := y5) (a := P5) (b := Q5) (n := n5) (c := c5) (m := m5) (d := d5) (Kept.refl W4) BA.out))
            have C6' := Lib.hid (C6.out.kept (kept_fillz4 (x := x5) (y := y5) (a := P5) (b := Q5) (n := n5) (c := c5) (m := m5) (d := d5) (Kept.refl W4) BA.out))
            clear LO BA BB C5 C6
            have LO := LO'
            have BA := BA'
            have BB := BB'
            have C5 := C5'
            have C6 := C6'
            clear LO' BA' BB' C5' C6'
            generalize ((((W4.setCell ⟨ga, 0, none⟩ (.bool x5)).setCell ⟨ga, 1, none⟩ (.slice P5 n5 c5)).setCell ⟨ga, 2, none⟩ (.bool y5)).setCell ⟨ga, 3, none⟩ (.slice Q5 m5 d5)) = W5 at *
            refine wpAnyH_ready (rs := [7]) (by kernel_rfl) (by simp) ?_
            refine AllReadyH.cons pat7 (fun K hK => ?_) AllReadyH.nil
            have q0 := (blk_four BB.out).1.1
            have q1 := (blk_four BB.out).1.2.1
            have q2 := (blk_four BB.out).1.2.2.1
            have q3 := (blk_four BB.out).1.2.2.2
            have q4 := (blk_four BB.out).2.1
            have q5 := (blk_four BB.out).2.2.1
            have q6 := (blk_four BB.out).2.2.2.1
            have q7 := (blk_four BB.out).2.2.2.2
            go_simp
            refine hK.out _ _ (A0L.out _ (LO.out.fill4 GB.out _ _ _ _)) (fun hHeld2 => ?_)
            clear q0 q1 q2 q3 q4 q5 q6 q7
            clear hK K hHeld
            have hHeld := hHeld2
            clear hHeld2
            (try simp only [Act.put, List.setIfInBounds_toArray, List.set_cons_zero, List.set_cons_succ])
            have LO' := Lib.hid (LO.out.fill4 GB.out (.bool x6) (.slice P6 n6 c6) (.bool y6) (.slice Q6 m6 d6))
            have BB' : Hid (Blk ((((W5.setCell ⟨gb, 0, none⟩ (.bool x6)).setCell ⟨gb, 1, none⟩ (.slice P6 n6 c6)).setCell ⟨gb, 2, none⟩ (.bool y6)).setCell ⟨gb, 3, none⟩ (.slice Q6 m6 d6)) gb 61 #[.bool x6, .slice P6 n6 c6, .bool y6, .slice Q6 m6 d6]) := Lib.hid (blk_fillz4 BB.out)
            have BA' : Hid (Blk ((((W5.setCell ⟨gb, 0, none⟩ (.bool x6)).setCell ⟨gb, 1, none⟩ (.slice P6 n6 c6)).setCell ⟨gb, 2, none⟩ (.bool y6)).setCell ⟨gb, 3, none⟩ (.slice Q6 m6 d6)) ga 61 _) := Lib.hid (blk_far4 BA.out (by have := NE.out; omega))
            have C5' := Lib.hid (C5.out.kept (kept_fillz4 (x := x6) (y := y6) (a := P6) (b := Q6) (n := n6) (c := c6) (m := m6) (d := d6) (Kept.refl W5) BB.out))
            have C6' := Lib.hid (C6.out.kept (kept_fillz4 (x := x6) (y := y6) (a := P6) (b := Q6) (n := n6) (c := c6) (m := m6) (d := d6) (Kept.refl W5) BB.out))
            clear LO BA BB C5 C6
            have LO := LO'
            have BA := BA'
            have BB := BB'
            have C5 := C5'
            have C6 := C6'
            clear LO' BA' BB' C5' C6'
            generalize ((((W5.setCell ⟨gb, 0, none⟩ (.bool x6)).setCell ⟨gb, 1, none⟩ (.slice P6 n6 c6)).setCell ⟨gb, 2, none⟩ (.bool y6)).setCell ⟨gb, 3, none⟩ (.slice Q6 m6 d6)) = W6 at *
            refine wpAnyH_done (by kernel_rfl) ?_ _
            go_wp2_with fail
            go_meet
            have s1 := GA.out
            have s2 := GB.out
            have s3 := NE.out
            have hl1 : w.heap.size ≤ w2.heap.size := T3.out.below.size
            have M1 := lo_mem T3.out LO.out
            have M2 := Mem.plus2 (L := [(w.heap.size, 58, [.bool o1, .slice A1 xs1.length c1, .bool u1, .slice B1 ys1.length d1]), (w.heap.size + 1, 58, [.bool o2, .slice A2 xs2.length c2, .bool u2, .slice B2 ys2.length d2])]) (t1 := 61) (t2 := 61) (c1 := [.bool x5, .slice P5 n5 c5, .bool y5, .slice Q5 m5 d5]) (c2 := [.bool x6, .slice P6 n6 c6, .bool y6, .slice Q6 m6 d6]) M1 BA.out BB.out (by omega) (by omega) (by simp <;> omega) (by simp <;> omega) (by omega) rfl rfl
            exact ⟨ga, gb, x5, P5, n5, c5, y5, Q5, m5, d5, x6, P6, n6, c6, y6, Q6, m6, d6, rfl, rfl, Lib.hid M2, C5, C6, Lib.hid ⟨by omega, by omega, by omega⟩⟩
          refine AllReadyH.cons pat4 (fun K hK => ?_) ?_
          · go_simp
            refine hK.out _ _ (A0L.out _ (LO.out.alloc _)) (fun hHeld2 => ?_)
            clear hK K hHeld
            have hHeld := hHeld2
            clear hHeld2
            (try simp only [Act.put, List.setIfInBounds_toArray, List.set_cons_zero, List.set_cons_succ])
            have LO' := Lib.hid (LO.out.alloc (.cells #[.bool false, .slice none 0 0, .bool false, .slice none 0 0] 61))
            have BB' := Lib.hid (BB.out.alloc (.cells #[.bool false, .slice none 0 0, .bool false, .slice none 0 0] 61))
            have C5' := Lib.hid (C5.out.kept ((Kept.refl W2).alloc (.cells #[.bool false, .slice none 0 0, .bool false, .slice none 0 0] 61)))
            have GA : Hid (w2.heap.size ≤ W2.heap.size) := Lib.hid LO.out.below.size
            have NE : Hid (gb < W2.heap.size) := Lib.hid BB.out.lt
            have BA : Hid (Blk (W2.alloc (.cells #[.bool false, .slice none 0 0, .bool false, .slice none 0 0] 61)) W2.heap.size 61 #[.bool false, .slice none 0 0, .bool false, .slice none 0 0]) := Lib.hid (Blk.new _ _ _)
            clear LO BB C5
            have LO := LO'
            have BB := BB'
            have C5 := C5'
            clear LO' BB' C5'
            generalize (W2.alloc (.cells #[.bool false, .slice none 0 0, .bool false, .slice none 0 0] 61)) = W3 at *
            generalize W2.heap.size = ga at *
            refine wpAnyH_ready (rs := [3]) (by kernel_rfl) (by simp) ?_
            refine AllReadyH.cons pat3 (fun K hK => ?_) AllReadyH.nil
            go_simp
            (go_at_call_of 39 A2; refine (of2_fr (p := 10) (by omega) (by omega) (IY2.out.over LO.out.below)).mono ?_; rintro e W4 ⟨x6, P6, n6, c6, y6, Q6, m6, d6, rfl, C6, hb⟩)
            (try go_wp2_with fail)
            refine hK.out _ _ (A0L.out _ (Lo2.over hb LO.out)) (fun hHeld2 => ?_)
            clear hK K hHeld
            have hHeld := hHeld2
            clear hHeld2
            (try simp only [Act.put, List.setIfInBounds_toArray, List.set_cons_zero, List.set_cons_succ])
            have LO' := Lib.hid (Lo2.over hb LO.out)
            have BA' := Lib.hid (BA.out.below hb.out BA.out.lt)
            have BB' := Lib.hid (BB.out.below hb.out BB.out.lt)
            have C5' := Lib.hid (C5.out.kept (Kept.of_below hb.out))
            clear hb
            clear LO BA BB C5
            have LO := LO'
            have BA := BA'
            have BB := BB'
            have C5 := C5'
            clear LO' BA' BB' C5'
            refine wpAnyH_ready (rs := [6]) (by kernel_rfl) (by simp) ?_
            refine AllReadyH.cons pat6 (fun K hK => ?_) AllReadyH.nil
            have q0 := (blk_four BA.out).1.1
            have q1 := (blk_four BA.out).1.2.1
            have q2 := (blk_four BA.out).1.2.2.1
            have q3 := (blk_four BA.out).1.2.2.2
            have q4 := (blk_four BA.out).2.1
            have q5 := (blk_four BA.out).2.2.1
            have q6 := (blk_four BA.out).2.2.2.1
            have q7 := (blk_four BA.out).2.2.2.2
            go_simp
            refine hK.out _ _ (A0L.out _ (LO.out.fill4 GA.out _ _ _ _)) (fun hHeld2 => ?_)
            clear q0 q1 q2 q3 q4 q5 q6 q7
            clear hK K hHeld
            have hHeld := hHeld2
            clear hHeld2
            (try simp only [Act.put, List.setIfInBounds_toArray, List.set_cons_zero, List.set_cons_succ])
            have LO' := Lib.hid (LO.out.fill4 GA.out (.bool x5) (.slice P5 n5 c5) (.bool y5) (.slice Q5 m5 d5))
            have BA' : Hid (Blk ((((W4.setCell ⟨ga, 0, none⟩ (.bool x5)).setCell ⟨ga, 1, none⟩ (.slice P5 n5 c5)).setCell ⟨ga, 2, none⟩ (.bool y5)).setCell ⟨ga, 3, none⟩ (.slice Q5 m5 d5)) ga 61 #[.bool x5, .slice P5 n5 c5, .bool y5, .slice Q5 m5 d5]) := Lib.hid (blk_fillz4 BA.out)
            have BB' : Hid (Blk ((((W4.setCell ⟨ga, 0, none⟩ (.bool x5)).setCell ⟨ga, 1, none⟩ (.slice P5 n5 c5)).setCell ⟨ga, 2, none⟩ (.bool y5)).setCell ⟨ga, 3, none⟩ (.slice Q5 m5 d5)) gb 61 _) := Lib.hid (blk_far4 BB.out (by have := NE.out; omega))
            have C5' := Lib.hid (C5.out.kept (kept_fillz4 (x := x5) (y := y5) (a := P5) (b := Q5) (n := n5) (c := c5) (m := m5) (d := d5) (Kept.refl W4) BA.out))
            have C6' := Lib.hid (C6.out.kept (kept_fillz4 (x := x5) (y := y5) (a := P5) (b := Q5) (n := n5) (c := c5) (m := m5) (d := d5) (Kept.refl W4) BA.out))
            clear LO BA BB C5 C6
            have LO := LO'
            have BA := BA'
            have BB := BB'
            have C5 := C5'
            have C6 := C6'
            clear LO' BA' BB' C5' C6'
            generalize ((((W4.setCell ⟨ga, 0, none⟩ (.bool x5)).setCell ⟨ga, 1, none⟩ (.slice P5 n5 c5)).setCell ⟨ga, 2, none⟩ (.bool y5)).setCell ⟨ga, 3, none⟩ (.slice Q5 m5 d5)) = W5 at *
            refine wpAnyH_ready (rs := [7]) (by kernel_rfl) (by simp) ?_
            refine AllReadyH.cons pat7 (fun K hK => ?_) AllReadyH.nil
            have q0 := (blk_four BB.out).1.1
            have q1 := (blk_four BB.out).1.2.1
            have q2 := (blk_four BB.out).1.2.2.1
            have q3 := (blk_four BB.out).1.2.2.2
            have q4 := (blk_four BB.out).2.1
            have q5 := (blk_four BB.out).2.2.1
            have q6 := (blk_four BB.out).2.2.2.1
            have q7 := (blk_four BB.out).2.2.2.2
            go_simp
            refine hK.out _ _ (A0L.out _ (LO.out.fill4 GB.out _ _ _ _)) (fun hHeld2 => ?_)
            clear q0 q1 q2 q3 q4 q5 q6 q7
            clear hK K hHeld
            have hHeld := hHeld2
            clear hHeld2
            (try simp only [Act.put, List.setIfInBounds_toArray, List.set_cons_zero, List.set_cons_succ])
            have LO' := Lib.hid (LO.out.fill4 GB.out (.bool x6) (.slice P6 n6 c6) (.bool y6) (.slice Q6 m6 d6))
            have BB' : Hid (Blk ((((W5.setCell ⟨gb, 0, none⟩ (.bool x6)).setCell ⟨gb, 1, none⟩ (.slice P6 n6 c6)).setCell ⟨gb, 2, none⟩ (.bool y6)).setCell ⟨gb, 3, none⟩ (.slice Q6 m6 d6)) gb 61 #[.bool x6, .slice P6 n6 c6, .bool y6, .slice Q6 m6 d6]) := Lib.hid (blk_fillz4 BB.out)
            have BA' : Hid (Blk ((((W5.setCell ⟨gb, 0, none⟩ (.bool x6)).setCell ⟨gb, 1, none⟩ (.slice P6 n6 c6)).setCell ⟨gb, 2, none⟩ (.bool y6)).setCell ⟨gb, 3, none⟩ (.slice Q6 m6 d6)) ga 61 _) := Lib.hid (blk_far4 BA.out (by have := NE.out; omega))
            have C5' := Lib.hid (C5.out.kept (kept_fillz4 (x := x6) (y := y6) (a := P6) (b := Q6) (n := n6) (c := c6) (m := m6) (d := d6) (Kept.refl W5) BB.out))
            have C6' := Lib.hid (C6.out.kept (kept_fillz4 (x := x6) (y := y6) (a := P6) (b := Q6) (n := n6) (c := c6) (m := m6) (d := d6) (Kept.refl W5) BB.out))
            clear LO BA BB C5 C6
            have LO := LO'
            have BA := BA'
            have BB := BB'
            have C5 := C5'
            have C6 := C6'
            clear LO' BA' BB' C5' C6'
            generalize ((((W5.setCell ⟨gb, 0, none⟩ (.bool x6)).setCell ⟨gb, 1, none⟩ (.slice P6 n6 c6)).setCell ⟨gb, 2, none⟩ (.bool y6)).setCell ⟨gb, 3, none⟩ (.slice Q6 m6 d6)) = W6 at *
            refine wpAnyH_done (by kernel_rfl) ?_ _
            go_wp2_with fail
            go_meet
            have s1 := GA.out
            have s2 := GB.out
            have s3 := NE.out
            have hl1 : w.heap.size ≤ w2.heap.size := T3.out.below.size
            have M1 := lo_mem T3.out LO.out
            have M2 := Mem.plus2 (L := [(w.heap.size, 58, [.bool o1, .slice A1 xs1.length c1, .bool u1, .slice B1 ys1.length d1]), (w.heap.size + 1, 58, [.bool o2, .slice A2 xs2.length c2, .bool u2, .slice B2 ys2.length d2])]) (t1 := 61) (t2 := 61) (c1 := [.bool x5, .slice P5 n5 c5, .bool y5, .slice Q5 m5 d5]) (c2 := [.bool x6, .slice P6 n6 c6, .bool y6, .slice Q6 m6 d6]) M1 BA.out BB.out (by omega) (by omega) (by simp <;> omega) (by simp <;> omega) (by omega) rfl rfl
            exact ⟨ga, gb, x5, P5, n5, c5, y5, Q5, m5, d5, x6, P6, n6, c6, y6, Q6, m6, d6, rfl, rfl, Lib.hid M2, C5, C6, Lib.hid ⟨by omega, by omega, by omega⟩⟩
          exact AllReadyH.nil
        refine AllReadyH.cons pat4 (fun K hK => ?_) ?_
        · go_simp
          refine hK.out _ _ (A0L.out _ (LO.out.alloc _)) (fun hHeld2 => ?_)
          clear hK K hHeld
          have hHeld := hHeld2
          clear hHeld2
          (try simp only [Act.put, List.setIfInBounds_toArray, List.set_cons_zero, List.set_cons_succ])
          have LO' := Lib.hid (LO.out.alloc (.cells #[.bool false, .slice none 0 0, .bool false, .slice none 0 0] 61))
          have BB' := Lib.hid (BB.out.alloc (.cells #[.bool false, .slice none 0 0, .bool false, .slice none 0 0] 61))
          have GA : Hid (w2.heap.size ≤ W1.heap.size) := Lib.hid LO.out.below.size
          have NE : Hid (gb < W1.heap.size) := Lib.hid BB.out.lt
          have BA : Hid (Blk (W1.alloc (.cells #[.bool false, .slice none 0 0, .bool false, .slice none 0 0] 61)) W1.heap.size 61 #[.bool false, .slice none 0 0, .bool false, .slice none 0 0]) := Lib.hid (Blk.new _ _ _)
          clear LO BB
          have LO := LO'
          have BB := BB'
          clear LO' BB'
          generalize (W1.alloc (.cells #[.bool false, .slice none 0 0, .bool false, .slice none 0 0] 61)) = W2 at *
          generalize W1.heap.size = ga at *
          refine wpAnyH_ready (rs := [1]) (by kernel_rfl) (by simp) ?_
          refine AllReadyH.cons pat1 (fun K hK => ?_) AllReadyH.nil
          go_simp
          (go_at_call_of 39 A1; refine (of2_fr (p := 10) (by omega) (by omega) (IX2.out.over LO.out.below)).mono ?_; rintro e W3 ⟨x5, P5, n5, c5, y5, Q5, m5, d5, rfl, C5, hb⟩)
          (try go_wp2_with fail)
          refine hK.out _ _ (A0L.out _ (Lo2.over hb LO.out)) (fun hHeld2 => ?_)
          clear hK K hHeld
          have hHeld := hHeld2
          clear hHeld2
          (try simp only [Act.put, List.setIfInBounds_toArray, List.set_cons_zero, List.set_cons_succ])
          have LO' := Lib.hid (Lo2.over hb LO.out)
          have BA' := Lib.hid (BA.out.below hb.out BA.out.lt)
          have BB' := Lib.hid (BB.out.below hb.out BB.out.lt)
          clear hb
          clear LO BA BB
          have LO := LO'
          have BA := BA'
          have BB := BB'
          clear LO' BA' BB'
          refine wpAnyH_ready (rs := [3]) (by kernel_rfl) (by simp) ?_
          refine AllReadyH.cons pat3 (fun K hK => ?_) AllReadyH.nil
          go_simp
          (go_at_call_of 39 A2; refine (of2_fr (p := 10) (by omega) (by omega) (IY2.out.over LO.out.below)).mono ?_; rintro e W4 ⟨x6, P6, n6, c6, y6, Q6, m6, d6, rfl, C6, hb⟩)
          (try go_wp2_with fail)
          refine hK.out _ _ (A0L.out _ (Lo2.over hb LO.out)) (fun hHeld2 => ?_)
          clear hK K hHeld
          have hHeld := hHeld2
          clear hHeld2
          (try simp only [Act.put, List.setIfInBounds_toArray, List.set_cons_zero, List.set_cons_succ])
          have LO' := Lib.hid (Lo2.over hb LO.out)
          have BA' := Lib.hid (BA.out.below hb.out BA.out.lt)
          have BB' := Lib.hid (BB.out.below hb.out BB.out.lt)
          have C5' := Lib.hid (C5.out.kept (Kept.of_below hb.out))
          clear hb
          clear LO BA BB C5
          have LO := LO'
          have BA := BA'
          have BB := BB'
          have C5 := C5'
          clear LO' BA' BB' C5'
          refine wpAnyH_ready (rs := [6]) (by kernel_rfl) (by simp) ?_
          refine AllReadyH.cons pat6 (fun K hK => ?_) AllReadyH.nil
          have q0 := (blk_four BA.out).1.1
          have q1 := (blk_four BA.out).1.2.1
          have q2 := (blk_four BA.out).1.2.2.1
          have q3 := (blk_four BA.out).1.2.2.2
          have q4 := (blk_four BA.out).2.1
          have q5 := (blk_four BA.out).2.2.1
          have q6 := (blk_four BA.out).2.2.2.1
          have q7 := (blk_four BA.out).2.2.2.2
          go_simp
          refine hK.out _ _ (A0L.out _ (LO.out.fill4 GA.out _ _ _ _)) (fun hHeld2 => ?_)
          clear q0 q1 q2 q3 q4 q5 q6 q7
          clear hK K hHeld
          have hHeld := hHeld2
          clear hHeld2
          (try simp only [Act.put, List.setIfInBounds_toArray, List.set_cons_zero, List.set_cons_succ])
          have LO' := Lib.hid (LO.out.fill4 GA.out (.bool x5) (.slice P5 n5 c5) (.bool y5) (.slice Q5 m5 d5))
          have BA' : Hid (Blk ((((W4.setCell ⟨ga, 0, none⟩ (.bool x5)).setCell ⟨ga, 1, none⟩ (.slice P5 n5 c5)).setCell ⟨ga, 2, none⟩ (.bool y5)).setCell ⟨ga, 3, none⟩ (.slice Q5 m5 d5)) ga 61 #[.bool x5, .slice P5 n5 c5, .bool y5, .slice Q5 m5 d5]) := Lib.hid (blk_fillz4 BA.out)
          have BB' : Hid (Blk ((((W4.setCell ⟨ga, 0, none⟩ (.bool x5)).setCell ⟨ga, 1, none⟩ (.slice P5 n5 c5)).setCell ⟨ga, 2, none⟩ (.bool y5)).setCell ⟨ga, 3, none⟩ (.slice Q5 m5 d5)) gb 61 _) := Lib.hid (blk_far4 BB.out (by have := NE.out; omega))
          have C5' := Lib.hid (C5.out.kept (kept_fillz4 (x := x5) (y := y5) (a := P5) (b := Q5) (n := n5) (c := c5) (m := m5) (d := d5) (Kept.refl W4) BA.out))
          have C6' := Lib.hid (C6.out.kept (kept_fillz4 (x := x5) (y := y5) (a := P5) (b := Q5) (n := n5) (c := c5) (m := m5) (d := d5) (Kept.refl W4) BA.out))
          clear LO BA BB C5 C6
          have LO := LO'
          have BA := BA'
          have BB := BB'
          have C5 := C5'
          have C6 := C6'
          clear LO' BA' BB' C5' C6'
          generalize ((((W4.setCell ⟨ga, 0, none⟩ (.bool x5)).setCell ⟨ga, 1, none⟩ (.slice P5 n5 c5)).setCell ⟨ga, 2, none⟩ (.bool y5)).setCell ⟨ga, 3, none⟩ (.slice Q5 m5 d5)) = W5 at *
          refine wpAnyH_ready (rs := [7]) (by kernel_rfl) (by simp) ?_
          refine AllReadyH.cons pat7 (fun K hK => ?_) AllReadyH.nil
          have q0 := (blk_four BB.out).1.1
          have q1 := (blk_four BB.out).1.2.1
          have q2 := (blk_four BB.out).1.2.2.1
          have q3 := (blk_four BB.out).1.2.2.2
          have q4 := (blk_four BB.out).2.1
          have q5 := (blk_four BB.out).2.2.1
          have q6 := (blk_four BB.out).2.2.2.1
          have q7 := (blk_four BB.out).2.2.2.2
          go_simp
          refine hK.out _ _ (A0L.out _ (LO.out.fill4 GB.out _ _ _ _)) (fun hHeld2 => ?_)
          clear q0 q1 q2 q3 q4 q5 q6 q7
          clear hK K hHeld
          have hHeld := hHeld2
          clear hHeld2
          (try simp only [Act.put, List.setIfInBounds_toArray, List.set_cons_zero, List.set_cons_succ])
          have LO' := Lib.hid (LO.out.fill4 GB.out (.bool x6) (.slice P6 n6 c6) (.bool y6) (.slice Q6 m6 d6))
          have BB' : Hid (Blk ((((W5.setCell ⟨gb, 0, none⟩ (.bool x6)).setCell ⟨gb, 1, none⟩ (.slice P6 n6 c6)).setCell ⟨gb, 2, none⟩ (.bool y6)).setCell ⟨gb, 3, none⟩ (.slice Q6 m6 d6)) gb 61 #[.bool x6, .slice P6 n6 c6, .bool y6, .slice Q6 m6 d6]) := Lib.hid (blk_fillz4 BB.out)
          have BA' : Hid (Blk ((((W5.setCell ⟨gb, 0, none⟩ (.bool x6)).setCell ⟨gb, 1, none⟩ (.slice P6 n6 c6)).setCell ⟨gb, 2, none⟩ (.bool y6)).setCell ⟨gb, 3, none⟩ (.slice Q6 m6 d6)) ga 61 _) := Lib.hid (blk_far4 BA.out (by have := NE.out; omega))
          have C5' := Lib.hid (C5.out.kept (kept_fillz4 (x := x6) (y := y6) (a := P6) (b := Q6) (n := n6) (c := c6) (m := m6) (d := d6) (Kept.refl W5) BB.out))
          have C6' := Lib.hid (C6.out.kept (kept_fillz4 (x := x6) (y := y6) (a := P6) (b := Q6) (n := n6) (c := c6) (m := m6) (d := d6) (Kept.refl W5) BB.out))
          clear LO BA BB C5 C6
          have LO := LO'
          have BA := BA'
          have BB := BB'
          have C5 := C5'
          have C6 := C6'
          clear LO' BA' BB' C5' C6'
          generalize ((((W5.setCell ⟨gb, 0, none⟩ (.bool x6)).setCell ⟨gb, 1, none⟩ (.slice P6 n6 c6)).setCell ⟨gb, 2, none⟩ (.bool y6)).setCell ⟨gb, 3, none⟩ (.slice Q6 m6 d6)) = W6 at *
          refine wpAnyH_done (by kernel_rfl) ?_ _
          go_wp2_with fail
          go_meet
          have s1 := GA.out
          have s2 := GB.out
          have s3 := NE.out
          have hl1 : w.heap.size ≤ w2.heap.size := T3.out.below.size
          have M1 := lo_mem T3.out LO.out
          have M2 := Mem.plus2 (L := [(w.heap.size, 58, [.bool o1, .slice A1 xs1.length c1, .bool u1, .slice B1 ys1.length d1]), (w.heap.size + 1, 58, [.bool o2, .slice A2 xs2.length c2, .bool u2, .slice B2 ys2.length d2])]) (t1 := 61) (t2 := 61) (c1 := [.bool x5, .slice P5 n5 c5, .bool y5, .slice Q5 m5 d5]) (c2 := [.bool x6, .slice P6 n6 c6, .bool y6, .slice Q6 m6 d6]) M1 BA.out BB.out (by omega) (by omega) (by simp <;> omega) (by simp <;> omega) (by omega) rfl rfl
          exact ⟨ga, gb, x5, P5, n5, c5, y5, Q5, m5, d5, x6, P6, n6, c6, y6, Q6, m6, d6, rfl, rfl, Lib.hid M2, C5, C6, Lib.hid ⟨by omega, by omega, by omega⟩⟩
        exact AllReadyH.nil
      exact AllReadyH.nil
    obtain ⟨gp, gq, x5, P5, n5, c5, y5, Q5, m5, d5, x6, P6, n6, c6, y6, Q6, m6, d6, rfl, rfl, T6, HA6, HB6, HG6⟩ := hcut
    generalize hwc : wc = W6 at *
    clear hwc C3
    have A6H : Hid (∀ w' : World, Mem w [(w.heap.size, 58, [.bool o1, .slice A1 xs1.length c1, .bool u1, .slice B1 ys1.length d1]), (w.heap.size + 1, 58, [.bool o2, .slice A2 xs2.length c2, .bool u2, .slice B2 ys2.length d2]), (gp, 61, [.bool x5, .slice P5 n5 c5, .bool y5, .slice Q5 m5 d5]), (gq, 61, [.bool x6, .slice P6 n6 c6, .bool y6, .slice Q6 m6 d6])] w' → (w'.cell? ⟨w.heap.size, 0, none⟩ = some (.bool o1) ∧ w'.cell? ⟨w.heap.size, 1, none⟩ = some (.slice A1 xs1.length c1) ∧ w'.cell? ⟨w.heap.size, 2, none⟩ = some (.bool u1) ∧ w'.cell? ⟨w.heap.size, 3, none⟩ = some (.slice B1 ys1.length d1) ∧ w'.cell? ⟨w.heap.size + 1, 0, none⟩ = some (.bool o2) ∧ w'.cell? ⟨w.heap.size + 1, 1, none⟩ = some (.slice A2 xs2.length c2) ∧ w'.cell? ⟨w.heap.size + 1, 2, none⟩ = some (.bool u2) ∧ w'.cell? ⟨w.heap.size + 1, 3, none⟩ = some (.slice B2 ys2.length d2) ∧ w'.cell? ⟨gp, 0, none⟩ = some (.bool x5) ∧ w'.cell? ⟨gp, 1, none⟩ = some (.slice P5 n5 c5) ∧ w'.cell? ⟨gp, 2, none⟩ = some (.bool y5) ∧ w'.cell? ⟨gp, 3, none⟩ = some (.slice Q5 m5 d5) ∧ w'.cell? ⟨gq, 0, none⟩ = some (.bool x6) ∧ w'.cell? ⟨gq, 1, none⟩ = some (.slice P6 n6 c6) ∧ w'.cell? ⟨gq, 2, none⟩ = some (.bool y6) ∧ w'.cell? ⟨gq, 3, none⟩ = some (.slice Q6 m6 d6)) ∧ (w'.frozen? ⟨w.heap.size, 0, none⟩ = false ∧ w'.frozen? ⟨w.heap.size, 1, none⟩ = false ∧ w'.frozen? ⟨w.heap.size, 2, none⟩ = false ∧ w'.frozen? ⟨w.heap.size, 3, none⟩ = false ∧ w'.frozen? ⟨w.heap.size + 1, 0, none⟩ = false ∧ w'.frozen? ⟨w.heap.size + 1, 1, none⟩ = false ∧ w'.frozen? ⟨w.heap.size + 1, 2, none⟩ = false ∧ w'.frozen? ⟨w.heap.size + 1, 3, none⟩ = false ∧ w'.frozen? ⟨gp, 0, none⟩ = false ∧ w'.frozen? ⟨gp, 1, none⟩ = false ∧ w'.frozen? ⟨gp, 2, none⟩ = false ∧ w'.frozen? ⟨gp, 3, none⟩ = false ∧ w'.frozen? ⟨gq, 0, none⟩ = false ∧ w'.frozen? ⟨gq, 1, none⟩ = false ∧ w'.frozen? ⟨gq, 2, none⟩ = false ∧ w'.frozen? ⟨gq, 3, none⟩ = false) ∧ Hid (Mem w [(w.heap.size, 58, [.bool o1, .slice A1 xs1.length c1, .bool u1, .slice B1 ys1.length d1]), (w.heap.size + 1, 58, [.bool o2, .slice A2 xs2.length c2, .bool u2, .slice B2 ys2.length d2]), (gp, 61, [.bool x5, .slice P5 n5 c5, .bool y5, .slice Q5 m5 d5]), (gq, 61, [.bool x6, .slice P6 n6 c6, .bool y6, .slice Q6 m6 d6])] w')) := fun w' h => ⟨⟨h.c 0 rfl 0 rfl, h.c 0 rfl 1 rfl, h.c 0 rfl 2 rfl, h.c 0 rfl 3 rfl, h.c 1 rfl 0 rfl, h.c 1 rfl 1 rfl, h.c 1 rfl 2 rfl, h.c 1 rfl 3 rfl, h.c 2 rfl 0 rfl, h.c 2 rfl 1 rfl, h.c 2 rfl 2 rfl, h.c 2 rfl 3 rfl, h.c 3 rfl 0 rfl, h.c 3 rfl 1 rfl, h.c 3 rfl 2 rfl, h.c 3 rfl 3 rfl⟩, ⟨h.f 0 rfl 0, h.f 0 rfl 1, h.f 0 rfl 2, h.f 0 rfl 3, h.f 1 rfl 0, h.f 1 rfl 1, h.f 1 rfl 2, h.f 1 rfl 3, h.f 2 rfl 0, h.f 2 rfl 1, h.f 2 rfl 2, h.f 2 rfl 3, h.f 3 rfl 0, h.f 3 rfl 1, h.f 3 rfl 2, h.f 3 rfl 3⟩, h⟩
    have C6 := (A6H.out _ T6.out).1
    obtain ⟨r, hr⟩ : ∃ r, decide (x.den = 1) = r := ⟨_, rfl⟩
    obtain ⟨c0, hc0⟩ : ∃ c, cmpR x y = c := ⟨_, rfl⟩
    have HFD := Lib.hid hr
    have HCC := Lib.hid hc0
    clear hr hc0
    go_wp2_with fail
    refine (floor_any (p := 10) (by omega) (IX.out.over T6.out.below) HFD.out).mono ?_
    rintro e w7 ⟨x7, P7, n7, c7, rfl, hi7, hb7⟩
    have T7 : Hid (Mem w [(w.heap.size, 58, [.bool o1, .slice A1 xs1.length c1, .bool u1, .slice B1 ys1.length d1]), (w.heap.size + 1, 58, [.bool o2, .slice A2 xs2.length c2, .bool u2, .slice B2 ys2.length d2]), (gp, 61, [.bool x5, .slice P5 n5 c5, .bool y5, .slice Q5 m5 d5]), (gq, 61, [.bool x6, .slice P6 n6 c6, .bool y6, .slice Q6 m6 d6]), (w7.heap.size, 24, [.bool x7, .slice P7 n7 c7])] (w7.alloc (.cells #[.bool x7, .slice P7 n7 c7] 24))) := (Mem.over hb7 T6.out).push rfl 24 [.bool x7, .slice P7 n7 c7] rfl
    have I7 : Hid (IsInt (w7.alloc (.cells #[.bool x7, .slice P7 n7 c7] 24)) (w7.alloc (.cells #[.bool x7, .slice P7 n7 c7] 24)).heap.size 12 (.agg #[.bool x7, .slice P7 n7 c7]) x.floor) := hi7.out.kept ((Kept.refl _).alloc _)
    have K7 : Hid (Kept W6 (w7.alloc (.cells #[.bool x7, .slice P7 n7 c7] 24))) := (Kept.of_below hb7.out).alloc _
    have A7H : Hid (∀ w' : World, Mem w [(w.heap.size, 58, [.bool o1, .slice A1 xs1.length c1, .bool u1, .slice B1 ys1.length d1]), (w.heap.size + 1, 58, [.bool o2, .slice A2 xs2.length c2, .bool u2, .slice B2 ys2.length d2]), (gp, 61, [.bool x5, .slice P5 n5 c5, .bool y5, .slice Q5 m5 d5]), (gq, 61, [.bool x6, .slice P6 n6 c6, .bool y6, .slice Q6 m6 d6]), (w7.heap.size, 24, [.bool x7, .slice P7 n7 c7])] w' → (w'.cell? ⟨w.heap.size, 0, none⟩ = some (.bool o1) ∧ w'.cell? ⟨w.heap.size, 1, none⟩ = some (.slice A1 xs1.length c1) ∧ w'.cell? ⟨w.heap.size, 2, none⟩ = some (.bool u1) ∧ w'.cell? ⟨w.heap.size, 3, none⟩ = some (.slice B1 ys1.length d1) ∧ w'.cell? ⟨w.heap.size + 1, 0, none⟩ = some (.bool o2) ∧ w'.cell? ⟨w.heap.size + 1, 1, none⟩ = some (.slice A2 xs2.length c2) ∧ w'.cell? ⟨w.heap.size + 1, 2, none⟩ = some (.bool u2) ∧ w'.cell? ⟨w.heap.size + 1, 3, none⟩ = some (.slice B2 ys2.length d2) ∧ w'.cell? ⟨gp, 0, none⟩ = some (.bool x5) ∧ w'.cell? ⟨gp, 1, none⟩ = some (.slice P5 n5 c5) ∧ w'.cell? ⟨gp, 2, none⟩ = some (.bool y5) ∧ w'.cell? ⟨gp, 3, none⟩ = some (.slice Q5 m5 d5) ∧ w'.cell? ⟨gq, 0, none⟩ = some (.bool x6) ∧ w'.cell? ⟨gq, 1, none⟩ = some (.slice P6 n6 c6) ∧ w'.cell? ⟨gq, 2, none⟩ = some (.bool y6) ∧ w'.cell? ⟨gq, 3, none⟩ = some (.slice Q6 m6 d6) ∧ w'.cell? ⟨w7.heap.size, 0, none⟩ = some (.bool x7) ∧ w'.cell? ⟨w7.heap.size, 1, none⟩ = some (.slice P7 n7 c7)) ∧ (w'.frozen? ⟨w.heap.size, 0, none⟩ = false ∧ w'.frozen? ⟨w.heap.size, 1, none⟩ = false ∧ w'.frozen? ⟨w.heap.size, 2, none⟩ = false ∧ w'.frozen? ⟨w.heap.size, 3, none⟩ = false ∧ w'.frozen? ⟨w.heap.size + 1, 0, none⟩ = false ∧ w'.frozen? ⟨w.heap.size + 1, 1, none⟩ = false ∧ w'.frozen? ⟨w.heap.size + 1, 2, none⟩ = false ∧ w'.frozen? ⟨w.heap.size + 1, 3, none⟩ = false ∧ w'.frozen? ⟨gp, 0, none⟩ = false ∧ w'.frozen? ⟨gp, 1, none⟩ = false ∧ w'.frozen? ⟨gp, 2, none⟩ = false ∧ w'.frozen? ⟨gp, 3, none⟩ = false ∧ w'.frozen? ⟨gq, 0, none⟩ = false ∧ w'.frozen? ⟨gq, 1, none⟩ = false ∧ w'.frozen? ⟨gq, 2, none⟩ = false ∧ w'.frozen? ⟨gq, 3, none⟩ = false ∧ w'.frozen? ⟨w7.heap.size, 0, none⟩ = false ∧ w'.frozen? ⟨w7.heap.size, 1, none⟩ = false) ∧ Hid (Mem w [(w.heap.size, 58, [.bool o1, .slice A1 xs1.length c1, .bool u1, .slice B1 ys1.length d1]), (w.heap.size + 1, 58, [.bool o2, .slice A2 xs2.length c2, .bool u2, .slice B2 ys2.length d2]), (gp, 61, [.bool x5, .slice P5 n5 c5, .bool y5, .slice Q5 m5 d5]), (gq, 61, [.bool x6, .slice P6 n6 c6, .bool y6, .slice Q6 m6 d6]), (w7.heap.size, 24, [.bool x7, .slice P7 n7 c7])] w')) := fun w' h => ⟨⟨h.c 0 rfl 0 rfl, h.c 0 rfl 1 rfl, h.c 0 rfl 2 rfl, h.c 0 rfl 3 rfl, h.c 1 rfl 0 rfl, h.c 1 rfl 1 rfl, h.c 1 rfl 2 rfl, h.c 1 rfl 3 rfl, h.c 2 rfl 0 rfl, h.c 2 rfl 1 rfl, h.c 2 rfl 2 rfl, h.c 2 rfl 3 rfl, h.c 3 rfl 0 rfl, h.c 3 rfl 1 rfl, h.c 3 rfl 2 rfl, h.c 3 rfl 3 rfl, h.c 4 rfl 0 rfl, h.c 4 rfl 1 rfl⟩, ⟨h.f 0 rfl 0, h.f 0 rfl 1, h.f 0 rfl 2, h.f 0 rfl 3, h.f 1 rfl 0, h.f 1 rfl 1, h.f 1 rfl 2, h.f 1 rfl 3, h.f 2 rfl 0, h.f 2 rfl 1, h.f 2 rfl 2, h.f 2 rfl 3, h.f 3 rfl 0, h.f 3 rfl 1, h.f 3 rfl 2, h.f 3 rfl 3, h.f 4 rfl 0, h.f 4 rfl 1⟩, h⟩
    have C7 := (A7H.out _ T7.out).1
    clear C6 hi7
    go_wp2_with fail
    refine (floor2_any (p := 90) (by omega) (HA6.out.kept K7.out) HFD.out).mono ?_
    rintro e w8 ⟨x8, P8, n8, c8, rfl, hi8, hb8⟩
    have T8 : Hid (Mem w [(w.heap.size, 58, [.bool o1, .slice A1 xs1.length c1, .bool u1, .slice B1 ys1.length d1]), (w.heap.size + 1, 58, [.bool o2, .slice A2 xs2.length c2, .bool u2, .slice B2 ys2.length d2]), (gp, 61, [.bool x5, .slice P5 n5 c5, .bool y5, .slice Q5 m5 d5]), (gq, 61, [.bool x6, .slice P6 n6 c6, .bool y6, .slice Q6 m6 d6]), (w7.heap.size, 24, [.bool x7, .slice P7 n7 c7]), (w8.heap.size, 29, [.bool x8, .slice P8 n8 c8])] (w8.alloc (.cells #[.bool x8, .slice P8 n8 c8] 29))) := (Mem.over hb8 T7.out).push rfl 29 [.bool x8, .slice P8 n8 c8] rfl
    have KM : Hid (IsNum (w8.alloc (.cells #[.bool x8, .slice P8 n8 c8] 29)) (w8.alloc (.cells #[.bool x8, .slice P8 n8 c8] 29)).heap.size 92 (.agg #[.bool x8, .slice P8 n8 c8]) x.floor) := hi8.out.kept ((Kept.refl _).alloc _)
    have K8 : Hid (Kept (w7.alloc (.cells #[.bool x7, .slice P7 n7 c7] 24)) (w8.alloc (.cells #[.bool x8, .slice P8 n8 c8] 29))) := (Kept.of_below hb8.out).alloc _
    have KN := Lib.hid (I7.out.kept K8.out)
    have KA := Lib.hid ((HA6.out.kept K7.out).kept K8.out)
    have KB := Lib.hid ((HB6.out.kept K7.out).kept K8.out)
    have KX := Lib.hid (IX.out.over T8.out.below)
    have KY := Lib.hid (IY.out.over T8.out.below)
    have KT := Lib.hid (HTAB.out.below T8.out.below)
    clear C7 hi8 K7 K8 I7 T7
    go_wp2
    generalize hW : (w8.alloc (.cells #[.bool x8, .slice P8 n8 c8] 29)) = W8 at *
    clear hW
    have AV : Hid (∀ w' : World, Lo2 W8 w' → (w'.cell? ⟨w.heap.size, 0, none⟩ = some (.bool o1) ∧ w'.cell? ⟨w.heap.size, 1, none⟩ = some (.slice A1 xs1.length c1) ∧ w'.cell? ⟨w.heap.size, 2, none⟩ = some (.bool u1) ∧ w'.cell? ⟨w.heap.size, 3, none⟩ = some (.slice B1 ys1.length d1) ∧ w'.cell? ⟨w.heap.size + 1, 0, none⟩ = some (.bool o2) ∧ w'.cell? ⟨w.heap.size + 1, 1, none⟩ = some (.slice A2 xs2.length c2) ∧ w'.cell? ⟨w.heap.size + 1, 2, none⟩ = some (.bool u2) ∧ w'.cell? ⟨w.heap.size + 1, 3, none⟩ = some (.slice B2 ys2.length d2) ∧ w'.cell? ⟨gp, 0, none⟩ = some (.bool x5) ∧ w'.cell? ⟨gp, 1, none⟩ = some (.slice P5 n5 c5) ∧ w'.cell? ⟨gp, 2, none⟩ = some (.bool y5) ∧ w'.cell? ⟨gp, 3, none⟩ = some (.slice Q5 m5 d5) ∧ w'.cell? ⟨gq, 0, none⟩ = some (.bool x6) ∧ w'.cell? ⟨gq, 1, none⟩ = some (.slice P6 n6 c6) ∧ w'.cell? ⟨gq, 2, none⟩ = some (.bool y6) ∧ w'.cell? ⟨gq, 3, none⟩ = some (.slice Q6 m6 d6) ∧ w'.cell? ⟨w7.heap.size, 0, none⟩ = some (.bool x7) ∧ w'.cell? ⟨w7.heap.size, 1, none⟩ = some (.slice P7 n7 c7) ∧ w'.cell? ⟨w8.heap.size, 0, none⟩ = some (.bool x8) ∧ w'.cell? ⟨w8.heap.size, 1, none⟩ = some (.slice P8 n8 c8)) ∧ Hid (Lo2 W8 w')) := fun w' h => ⟨⟨h.c (T8.out.lt 0 rfl) (T8.out.c 0 rfl 0 rfl), h.c (T8.out.lt 0 rfl) (T8.out.c 0 rfl 1 rfl), h.c (T8.out.lt 0 rfl) (T8.out.c 0 rfl 2 rfl), h.c (T8.out.lt 0 rfl) (T8.out.c 0 rfl 3 rfl), h.c (T8.out.lt 1 rfl) (T8.out.c 1 rfl 0 rfl), h.c (T8.out.lt 1 rfl) (T8.out.c 1 rfl 1 rfl), h.c (T8.out.lt 1 rfl) (T8.out.c 1 rfl 2 rfl), h.c (T8.out.lt 1 rfl) (T8.out.c 1 rfl 3 rfl), h.c (T8.out.lt 2 rfl) (T8.out.c 2 rfl 0 rfl), h.c (T8.out.lt 2 rfl) (T8.out.c 2 rfl 1 rfl), h.c (T8.out.lt 2 rfl) (T8.out.c 2 rfl 2 rfl), h.c (T8.out.lt 2 rfl) (T8.out.c 2 rfl 3 rfl), h.c (T8.out.lt 3 rfl) (T8.out.c 3 rfl 0 rfl), h.c (T8.out.lt 3 rfl) (T8.out.c 3 rfl 1 rfl), h.c (T8.out.lt 3 rfl) (T8.out.c 3 rfl 2 rfl), h.c (T8.out.lt 3 rfl) (T8.out.c 3 rfl 3 rfl), h.c (T8.out.lt 4 rfl) (T8.out.c 4 rfl 0 rfl), h.c (T8.out.lt 4 rfl) (T8.out.c 4 rfl 1 rfl), h.c (T8.out.lt 5 rfl) (T8.out.c 5 rfl 0 rfl), h.c (T8.out.lt 5 rfl) (T8.out.c 5 rfl 1 rfl)⟩, h⟩
    go_region_held3 (fun w' => (w'.cell? ⟨w.heap.size, 0, none⟩ = some (.bool o1) ∧ w'.cell? ⟨w.heap.size, 1, none⟩ = some (.slice A1 xs1.length c1) ∧ w'.cell? ⟨w.heap.size, 2, none⟩ = some (.bool u1) ∧ w'.cell? ⟨w.heap.size, 3, none⟩ = some (.slice B1 ys1.length d1) ∧ w'.cell? ⟨w.heap.size + 1, 0, none⟩ = some (.bool o2) ∧ w'.cell? ⟨w.heap.size + 1, 1, none⟩ = some (.slice A2 xs2.length c2) ∧ w'.cell? ⟨w.heap.size + 1, 2, none⟩ = some (.bool u2) ∧ w'.cell? ⟨w.heap.size + 1, 3, none⟩ = some (.slice B2 ys2.length d2) ∧ w'.cell? ⟨gp, 0, none⟩ = some (.bool x5) ∧ w'.cell? ⟨gp, 1, none⟩ = some (.slice P5 n5 c5) ∧ w'.cell? ⟨gp, 2, none⟩ = some (.bool y5) ∧ w'.cell? ⟨gp, 3, none⟩ = some (.slice Q5 m5 d5) ∧ w'.cell? ⟨gq, 0, none⟩ = some (.bool x6) ∧ w'.cell? ⟨gq, 1, none⟩ = some (.slice P6 n6 c6) ∧ w'.cell? ⟨gq, 2, none⟩ = some (.bool y6) ∧ w'.cell? ⟨gq, 3, none⟩ = some (.slice Q6 m6 d6) ∧ w'.cell? ⟨w7.heap.size, 0, none⟩ = some (.bool x7) ∧ w'.cell? ⟨w7.heap.size, 1, none⟩ = some (.slice P7 n7 c7) ∧ w'.cell? ⟨w8.heap.size, 0, none⟩ = some (.bool x8) ∧ w'.cell? ⟨w8.heap.size, 1, none⟩ = some (.slice P8 n8 c8)) ∧ Hid (Lo2 W8 w')) (first | (with_reducible exact AV.out _ (Lo2.mk (Below.refl _ _).drew)) | (with_reducible exact AV.out _ (Lo2.over hb (Lo2.get (by assumption))))) (first | (go_at_call 43; refine (fadd_any (p := 10) (by omega) (by omega) (KX.out.over (Lo2.get (by assumption)).below) (KY.out.over (Lo2.get (by assumption)).below)).mono ?_; rintro e wa1 ⟨xa1, Pa1, na1, ca1, ya1, Qa1, ma1, da1, rfl, hia1, hb⟩; have hba1 := hb) | (go_at_call 45; refine (add2_any (p := 90) (by omega) (by omega) (KA.out.kept (Kept.of_below (Lo2.get (by assumption)).below)) (KB.out.kept (Kept.of_below (Lo2.get (by assumption)).below))).mono ?_; rintro e wa2 ⟨xa2, Pa2, na2, ca2, ya2, Qa2, ma2, da2, rfl, hia2, hb⟩; have hba2 := hb) | (go_at_call_of 44 Pa2; refine (form2_any (p := 182) (by omega) (hia2.out.kept (by repeat' (first | (with_reducible exact Kept.refl _) | (with_reducible apply Kept.drew) | (with_reducible apply Kept.alloc))))).mono ?_; rintro e wa3 ⟨xa3, Pa3, na3, ca3, ya3, Qa3, ma3, da3, rfl, hia3, hb⟩; have hba3 := hb) | (go_at_call_of 42 Pa1; refine (samefr2_any (p := 182) (by omega) ((hia1.out.kept (by repeat' (first | (with_reducible exact Kept.refl _) | (with_reducible apply Kept.drew) | (with_reducible apply Kept.alloc) | (with_reducible refine kept_over hba3 ?_) | (with_reducible refine kept_over hba2 ?_)))).more (by omega)) (hia3.out.kept (by repeat' (first | (with_reducible exact Kept.refl _) | (with_reducible apply Kept.drew) | (with_reducible apply Kept.alloc)))) rfl).mono ?_; rintro e ws ⟨rfl, hb⟩; have hbs := hb) | (go_at_call 46; refine (fmul_any (p := 10) (by omega) (by omega) (KX.out.over (Lo2.get (by assumption)).below) (KY.out.over (Lo2.get (by assumption)).below)).mono ?_; rintro e wp1 ⟨xp1, Pp1, np1, cp1, yp1, Qp1, mp1, dp1, rfl, hip1, hb⟩; have hbp1 := hb) | (go_at_call 47; refine (mul2_any (p := 90) (by omega) (by omega) (KA.out.kept (Kept.of_below (Lo2.get (by assumption)).below)) (KB.out.kept (Kept.of_below (Lo2.get (by assumption)).below))).mono ?_; rintro e wp2 ⟨xp2, Pp2, np2, cp2, yp2, Qp2, mp2, dp2, rfl, hip2, hb⟩; have hbp2 := hb) | (go_at_call_of 44 Pp2; refine (form2_any (p := 181) (by omega) (hip2.out.kept (by repeat' (first | (with_reducible exact Kept.refl _) | (with_reducible apply Kept.drew) | (with_reducible apply Kept.alloc))))).mono ?_; rintro e wp3 ⟨xp3, Pp3, np3, cp3, yp3, Qp3, mp3, dp3, rfl, hip3, hb⟩; have hbp3 := hb) | (go_at_call_of 42 Pp1; refine (samefr2_any (p := 181) (by omega) ((hip1.out.kept (by repeat' (first | (with_reducible exact Kept.refl _) | (with_reducible apply Kept.drew) | (with_reducible apply Kept.alloc) | (with_reducible refine kept_over hbp3 ?_) | (with_reducible refine kept_over hbp2 ?_)))).more (by omega)) (hip3.out.kept (by repeat' (first | (with_reducible exact Kept.refl _) | (with_reducible apply Kept.drew) | (with_reducible apply Kept.alloc)))) rfl).mono ?_; rintro e ws ⟨rfl, hb⟩; have hbs := hb) | (go_at_call 48; refine (fdiv_any (p := 10) (by omega) (by omega) (KX.out.over (Lo2.get (by assumption)).below) (KY.out.over (Lo2.get (by assumption)).below)).mono ?_; rintro e wq1 ⟨xq1, Pq1, nq1, cq1, yq1, Qq1, mq1, dq1, rfl, hiq1, hb⟩; have hbq1 := hb) | (go_at_call 49; refine (div2_any (p := 90) (by omega) (by omega) (KA.out.kept (Kept.of_below (Lo2.get (by assumption)).below)) (KB.out.kept (Kept.of_below (Lo2.get (by assumption)).below))).mono ?_; rintro e wq2 ⟨xq2, Pq2, nq2, cq2, yq2, Qq2, mq2, dq2, rfl, hiq2, hb⟩; have hbq2 := hb) | (go_at_call_of 44 Pq2; refine (form2_any (p := 181) (by omega) (hiq2.out.kept (by repeat' (first | (with_reducible exact Kept.refl _) | (with_reducible apply Kept.drew) | (with_reducible apply Kept.alloc))))).mono ?_; rintro e wq3 ⟨xq3, Pq3, nq3, cq3, yq3, Qq3, mq3, dq3, rfl, hiq3, hb⟩; have hbq3 := hb) | (go_at_call_of 42 Pq1; refine (samefr2_any (p := 181) (by omega) ((hiq1.out.kept (by repeat' (first | (with_reducible exact Kept.refl _) | (with_reducible apply Kept.drew) | (with_reducible apply Kept.alloc) | (with_reducible refine kept_over hbq3 ?_) | (with_reducible refine kept_over hbq2 ?_)))).more (by omega)) (hiq3.out.kept (by repeat' (first | (with_reducible exact Kept.refl _) | (with_reducible apply Kept.drew) | (with_reducible apply Kept.alloc)))) rfl).mono ?_; rintro e ws ⟨rfl, hb⟩; have hbs := hb) | (go_at_call 50; refine (fracNeg_any (p := 10) (by omega) (KX.out.over (Lo2.get (by assumption)).below)).mono ?_; rintro e wn1 ⟨xn1, Pn1, nn1, cn1, yn1, Qn1, mn1, dn1, rfl, hin1, hb⟩; have hbn1 := hb) | (go_at_call 51; refine (neg2_any (p := 90) (by omega) (KA.out.kept (Kept.of_below (Lo2.get (by assumption)).below))).mono ?_; rintro e wn2 ⟨xn2, Pn2, nn2, cn2, yn2, Qn2, mn2, dn2, rfl, hin2, hb⟩; have hbn2 := hb) | (go_at_call_of 44 Pn2; refine (form2_any (p := 90) (by omega) (hin2.out.kept (by repeat' (first | (with_reducible exact Kept.refl _) | (with_reducible apply Kept.drew) | (with_reducible apply Kept.alloc))))).mono ?_; rintro e wn3 ⟨xn3, Pn3, nn3, cn3, yn3, Qn3, mn3, dn3, rfl, hin3, hb⟩; have hbn3 := hb) | (go_at_call_of 42 Pn1; refine (samefr2_any (p := 90) (by omega) ((hin1.out.kept (by repeat' (first | (with_reducible exact Kept.refl _) | (with_reducible apply Kept.drew) | (with_reducible apply Kept.alloc) | (with_reducible refine kept_over hbn3 ?_) | (with_reducible refine kept_over hbn2 ?_)))).more (by omega)) (hin3.out.kept (by repeat' (first | (with_reducible exact Kept.refl _) | (with_reducible apply Kept.drew) | (with_reducible apply Kept.alloc)))) rfl).mono ?_; rintro e ws ⟨rfl, hb⟩; have hbs := hb) | (go_at_call 52; refine (fcmpr_any (p := 10) (by omega) (KX.out.over (Lo2.get (by assumption)).below) (KY.out.over (Lo2.get (by assumption)).below) HCC.out).mono ?_; rintro e ws ⟨rfl, hb⟩; have hbs := hb) | (go_at_call 53; refine (cmp2_any (p := 90) (by omega) (by omega) (KA.out.kept (Kept.of_below (Lo2.get (by assumption)).below)) (KB.out.kept (Kept.of_below (Lo2.get (by assumption)).below)) HCC.out).mono ?_; rintro e ws ⟨rfl, hb⟩; have hbs := hb) | (go_at_call 54; refine (ftext_any (p := 10) (by omega) (KX.out.over (Lo2.get (by assumption)).below) (KT.out.below (Lo2.get (by assumption)).below)).mono ?_; rintro e ws ⟨s1, rfl, hl1, hb⟩; have hbs := hb) | (go_at_call 55; refine (text2_any (p := 90) (by omega) (KA.out.kept (Kept.of_below (Lo2.get (by assumption)).below)) hl1.out).mono ?_; rintro e ws ⟨s2, rfl, hl2, hb⟩; have hbs := hb; obtain rfl := ba_eq hl2.out) | (go_at_call 18; refine (form_any (by omega) (KM.out.kept (Kept.of_below (Lo2.get (by assumption)).below))).mono ?_; rintro e wz ⟨xz, Pz, nz, cz, rfl, hiz, hb⟩; have hbz := hb) | (go_at_call 16; refine (same_yes (p := 12) (q := 92) (by omega) (KN.out.over (Lo2.get (by assumption)).below) (hiz.out.kept (by repeat' (first | (with_reducible exact Kept.refl _) | (with_reducible apply Kept.drew) | (with_reducible apply Kept.alloc)))) rfl).mono ?_; rintro e ws ⟨rfl, hb⟩; have hbs := hb))
    have TE := Lib.hid (Lo2.get (by assumption)).below
    go_wp2
    (try simp only [Exit.inBlock, Exit.then])
    go_ret
    exact ⟨by first | rfl | simp, T8.out.below.trans (TE.out.mono T8.out.below.size)⟩
end Go.Proofs.YtpikbhcjgcbdfaaDoor.wh
