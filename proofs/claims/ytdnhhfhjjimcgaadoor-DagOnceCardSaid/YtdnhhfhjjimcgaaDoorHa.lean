/- Package dag: a new term. -/
import Derived.Deep.DeepCutAuto
import Derived.Test.YtdnhhfhjjimcgaaDoorGz
namespace Go.Proofs.YtdnhhfhjjimcgaaDoor.dg
open Go Go.RowKit

theorem bk_put6 {W : World} {g : Nat} {T : TypeId} {a0 a1 a2 a3 a4 a5 : Value} (h : Bk W g T #[a0, a1, a2, a3, a4, a5]) (b0 b1 b2 b3 b4 b5 : Value) : Bk ((((((W.setCell ⟨g, 0, none⟩ b0).setCell ⟨g, 1, none⟩ b1).setCell ⟨g, 2, none⟩ b2).setCell ⟨g, 3, none⟩ b3).setCell ⟨g, 4, none⟩ b4).setCell ⟨g, 5, none⟩ b5) g T #[b0, b1, b2, b3, b4, b5] := by
  have := (((((h.set_ 0 b0).set_ 1 b1).set_ 2 b2).set_ 3 b3).set_ 4 b4).set_ 5 b5
  simpa using this
theorem bk_put4 {W : World} {g : Nat} {T : TypeId} {a0 a1 a2 a3 a4 a5 : Value} (h : Bk W g T #[a0, a1, a2, a3, a4, a5]) (b0 b1 b2 b3 : Value) : Bk ((((W.setCell ⟨g, 0, none⟩ b0).setCell ⟨g, 1, none⟩ b1).setCell ⟨g, 2, none⟩ b2).setCell ⟨g, 3, none⟩ b3) g T #[b0, b1, b2, b3, a4, a5] := by
  have := (((h.set_ 0 b0).set_ 1 b1).set_ 2 b2).set_ 3 b3
  simpa using this
theorem Bx.put6 {w W : World} {t : TypeId} {cs : Array Value} (h : Bx w W t cs) {g : Nat} (hg : w.heap.size < g) (b0 b1 b2 b3 b4 b5 : Value) : Bx w ((((((W.setCell ⟨g, 0, none⟩ b0).setCell ⟨g, 1, none⟩ b1).setCell ⟨g, 2, none⟩ b2).setCell ⟨g, 3, none⟩ b3).setCell ⟨g, 4, none⟩ b4).setCell ⟨g, 5, none⟩ b5) t cs :=
  (((((h.far (p := ⟨g, 0, none⟩) hg _).far (p := ⟨g, 1, none⟩) hg _).far (p := ⟨g, 2, none⟩) hg _).far (p := ⟨g, 3, none⟩) hg _).far (p := ⟨g, 4, none⟩) hg _).far (p := ⟨g, 5, none⟩) hg _
theorem new6 (w : World) (t : TypeId) (a b c d e f : Value) : ∀ j u, [a, b, c, d, e, f][j]? = some u → (w.alloc (.cells #[a, b, c, d, e, f] t)).cell? ((⟨w.heap.size, 0, none⟩ : Addr).add j) = some u := by
  intro j u hu
  rw [Go.WideShapes.add_plain, World.cell?_alloc_new]
  match j, hu with
  | 0, hu => simpa using hu
  | 1, hu => simpa using hu
  | 2, hu => simpa using hu
  | 3, hu => simpa using hu
  | 4, hu => simpa using hu
  | 5, hu => simpa using hu
theorem hashes_range (S : St) (t : Tm) : ∀ k (hk : k < (hashes S ++ [hash t]).length), 0 ≤ (hashes S ++ [hash t])[k] ∧ (hashes S ++ [hash t])[k] < 18446744073709551616 := by
  intro k hk
  have hm := List.getElem_mem hk
  generalize (hashes S ++ [hash t])[k] = x at hm ⊢
  rcases List.mem_append.1 hm with hm | hm
  · unfold hashes at hm
    rw [List.mem_map] at hm
    obtain ⟨e, _, he⟩ := hm
    rw [← he]
    exact hash_range _
  · rw [List.mem_singleton] at hm
    rw [hm]
    exact hash_range t
theorem tb_push {W W' : World} {F I J F4 : Nat → Prop} {a : Nat} {S : St} {sv fv tv : Value} {mb ib n : Nat} (h : Ax W F I J a S sv fv tv mb ib n) (hF4 : ∀ g, F g → F4 g) (k2 : ∀ g e, Ty W g e → e ≠ 82 → e ≠ 77 → W'.heap[g]? = W.heap[g]?) :
    Tb W' (Ft W' F4) (fun g => J g ∧ Ty W g 3) ib (hashes S) n S.terms.length := by
  have h1 := h.tab.own.jty
  refine h1.stays (fun g e ht he hF => ?_) fun g ht hJ => ⟨hJ, k2 g _ ht (by decide) (by decide)⟩
  have hk := k2 g e ht (by rcases he with rfl | rfl | rfl <;> decide) (by rcases he with rfl | rfl | rfl <;> decide)
  refine ⟨⟨hF4 g hF.1, ?_⟩, hk⟩
  rcases he with rfl | rfl | rfl
  · exact .inl (ht.stays hk)
  · exact .inr (.inl (ht.stays hk))
  · exact .inr (.inr (ht.stays hk))
theorem arEnd_new {w W W' W2 : World} {F I J K : Nat → Prop} {a : Nat} {S : St} {t : Tm} {sv fv tv tv' : Value} {mb ib n n' g' : Nat} (hb : Below w.heap.size w W) (h : Ax W F I J a S sv fv tv mb ib n) (hK : ∀ g, K g → w.heap.size ≤ g)
    (az : Az W' (fun g => F g ∨ K g ∨ g = g') (fun g => I g ∨ K g) J a (S.addT t) sv fv tv' mb ib) (hs : Sft F W W') (hg : F g' ∨ W.heap.size ≤ g') (hjt : ∀ g, Ty W g 3 → Ty W' g 3) (hnb : Nb n' (S.terms.length + 1))
    (te : TbEnd W' W2 (Ft W' (fun g => F g ∨ K g ∨ g = g')) (fun g => J g ∧ Ty W g 3) ib (hashes S ++ [hash t]) n' (S.terms.length + 1)) : ArEnd w W2 F a (S.addT t) := by
  obtain ⟨F', J', b1, b2, b3, b4, b5⟩ := te
  have az2 := (az.jless (J' := fun g => J g ∧ Ty W g 3) fun g hg => hg.1).tbl b2 (fun g hg => hjt g hg.2) b3 b4 b5
  have hh : hashes (S.addT t) = hashes S ++ [hash t] := by simp [hashes, St.addT]
  have hl : (S.addT t).terms.length = S.terms.length + 1 := by simp [St.addT]
  have hsz := hb.size
  have hin : ∀ g, (F g ∨ K g ∨ g = g') → F g ∨ w.heap.size ≤ g := fun g hg' => by
    rcases hg' with h1 | h1 | rfl
    · exact .inl h1
    · exact .inr (hK g h1)
    · exact hg.imp id (fun h2 => Nat.le_trans hsz h2)
  refine ⟨_, ⟨_, _, _, _, _, _, _, _, az2.ax (n := n') ?_ ?_⟩, ?_, ?_⟩
  · rw [hh, hl]
    exact b1.mono (fun g hg => .inr (.inl hg)) fun g hg => hg
  · rw [hl]; exact hnb
  · have s1 : Sft F w W' := ⟨hs.os.trans hb.os, hs.tape.trans hb.tape, hs.output.trans hb.output, Nat.le_trans hsz hs.size, fun g hg hn => (hs.block g (Nat.lt_of_lt_of_le hg hsz) hn).trans (hb.block g hg)⟩
    refine s1.trans b2 fun g hg => ?_
    rcases hg with hg | hg
    · exact hin g hg.1
    · exact .inl (h.jj g hg.1).1
  · intro g hg2
    rcases hg2 with h1 | h1 | h1
    · exact hin g h1
    · rcases b3 g h1 with h2 | h2
      · exact hin g h2.1
      · exact .inr (Nat.le_trans (Nat.le_trans hsz hs.size) h2)
    · rcases b4 g h1 with h2 | h2
      · exact .inl (h.jj g h2.1).1
      · exact .inr (Nat.le_trans (Nat.le_trans hsz hs.size) h2)
/-- the entry that is made, at block g -/
def En6 (w W : World) (g : Nat) (t : TypeId) (cs : Array Value) (es : Array Value) : Prop := Bx w W t cs ∧ Bk W g 82 es ∧ w.heap.size < g
set_option maxRecDepth 100000 in
set_option maxHeartbeats 8000000 in
theorem term_new {w : World} {F G : Nat → Prop} {a : Nat} {S : St} (H : Hid (Ar w F a S)) {t : Tm} {A : Option Addr} {c : Nat} (hr : Hid (Ri w G t.kids A c)) (hl : t.kids.length ≤ 1000000) (hs : t.num.size ≤ 1000000) (HS : Hid (Sz S)) (hk : Hid (∀ e ∈ S.terms, e.t.kids.length ≤ 1000000)) (HW : Hid (S.wrong t = 0)) (HO : Hid (S.placeT t = none)) (hm : ¬ S.most ≤ (S.terms.length : Int)) (hf : Hid (t.op = 3 → S.hasFun t.fn = true)) (h10 : Hid (t.op = 10 → 1 < t.kids.length)) :
    Calls Tryd.prog 29 #[.pointer (some ⟨a, 0, none⟩), .agg #[.int .i64 t.op, .int .i64 t.fn, .slice A t.kids.length c, .string t.num]] w fun e w' => e = .returned (.tuple #[.int .i64 (S.terms.length : Int), .int .i64 0]) ∧ Hid (ArEnd w w' F a (S.addT t)) := by
  have AX : Hid (∀ W, Bx w W 41 #[.int .i64 t.op, .int .i64 t.fn, .slice A t.kids.length c, .string t.num] → Hid (Ar W F a S) ∧ Hid (Ri W G t.kids A c)) := Lib.hid fun W h => ⟨Lib.hid (H.out.below h.1), Lib.hid (hr.out.below h.1)⟩
  have hmd : decide (S.most ≤ (S.terms.length : Int)) = false := decide_eq_false hm
  obtain ⟨gv, hgv⟩ : ∃ gv, S.gives t = gv := ⟨_, rfl⟩
  obtain ⟨cv, hcv⟩ : ∃ cv, S.isCst t = cv := ⟨_, rfl⟩
  have HGV := Lib.hid hgv
  have HCV := Lib.hid hcv
  obtain ⟨N, hN⟩ : ∃ N, S.terms.length = N := ⟨_, rfl⟩
  have HN := Lib.hid hN
  rw [hN]
  clear hgv hcv hN
  go_enter Tryd.func29, Tryd.ntmps29
  go_upto_region 1 with fail
  generalize hW : World.alloc _ _ = W1
  have HX1 : Hid (Bx w W1 41 #[.int .i64 t.op, .int .i64 t.fn, .slice A t.kids.length c, .string t.num]) := Lib.hid (hW ▸ ⟨(Below.refl _ w).alloc (Nat.le_refl _) _, Bk.new w _ _⟩)
  clear hW
  have x0 := HX1.out.2.cell 0
  have x1 := HX1.out.2.cell 1
  have x2 := HX1.out.2.cell 2
  have x3 := HX1.out.2.cell 3
  go_upto_region 4 with (go_at_call 45; refine (wrong_any (AX.out _ HX1.out).1 (AX.out _ HX1.out).2 hl).mono ?_; rw [HW.out]; rintro e W2 ⟨rfl, HB2⟩; have HX2 := Lib.hid (Bx.over HB2.out HX1.out); (have y0 := HX2.out.2.cell 0); (have y1 := HX2.out.2.cell 1); (have y2 := HX2.out.2.cell 2); (have y3 := HX2.out.2.cell 3))
  clear x0 x1 x2 x3
  go_upto_region 5 with (go_at_call 23; refine (hash_any (AX.out _ HX2.out).2 hl hs).mono ?_; rintro e W3 ⟨rfl, HB3⟩; have HX3 := Lib.hid (Bx.over HB3.out HX2.out); (have z0 := HX3.out.2.cell 0); (have z1 := HX3.out.2.cell 1); (have z2 := HX3.out.2.cell 2); (have z3 := HX3.out.2.cell 3))
  clear y0 y1 y2 y3
  go_upto_region 8 with (go_at_call 46; refine (find_any (AX.out _ HX3.out).1 (AX.out _ HX3.out).2 hk HS.out.t).mono ?_; rw [HO.out, found_none]; rintro e W4 ⟨rfl, HB4⟩; have HX4 := Lib.hid (Bx.over HB4.out HX3.out); (have v0 := HX4.out.2.cell 0); (have v1 := HX4.out.2.cell 1); (have v2 := HX4.out.2.cell 2); (have v3 := HX4.out.2.cell 3))
  clear z0 z1 z2 z3 v0 v1 v2 v3
  obtain ⟨As, cs, Af, cf, At, ct, mb, ib, c0, c1, c2, c3, c4, c5, hlt⟩ := (AX.out _ HX4.out).1.out.cells
  go_quiet (fail)
  have HX5 : Hid (Bx w (W4.drewN nq) 41 #[.int .i64 t.op, .int .i64 t.fn, .slice A t.kids.length c, .string t.num]) := Lib.hid (HX4.out.drewN nq)
  clear c0 c1 c2 c3 c4 c5 hlt HX4
  generalize W4.drewN nq = W5 at *
  go_upto_region 10 with fail
  go_cut [10] (fun ev W => ∃ ge, ev = .pointer (some ⟨ge, 0, none⟩) ∧ Hid (En6 w W ge 41 #[.int .i64 t.op, .int .i64 t.fn, .slice A t.kids.length c, .string t.num] #[.int .i64 0, .int .i64 0, .slice none 0 0, .string ⟨#[]⟩, .int .i64 gv, .bool cv]))
  case first =>
    obtain ⟨S', hSd⟩ : ∃ S' : Bool → World → Prop, S' = fun q W => q = true → Bx w W 41 #[.int .i64 t.op, .int .i64 t.fn, .slice A t.kids.length c, .string t.num] := ⟨_, rfl⟩
    have HMO : ∀ w, S' true w → S' false w := by rw [hSd]; intro w _ h; cases h
    have HSP : ∀ W : World, S' true W → Bx w W 41 #[.int .i64 t.op, .int .i64 t.fn, .slice A t.kids.length c, .string t.num] := fun W h => by rw [hSd] at h; exact h rfl
    have HSM : ∀ W : World, Bx w W 41 #[.int .i64 t.op, .int .i64 t.fn, .slice A t.kids.length c, .string t.num] → S' true W := fun W h => by rw [hSd]; exact fun _ => h
    have HSF : ∀ W : World, S' false W := fun W => by rw [hSd]; intro h; cases h
    clear hSd
    refine wp_region_T S' 8 (by kernel_rfl) (HSM _ HX5.out.drew) (fun hH => ?_)
    have HX6 : Hid (Bx w W5.drew 41 #[.int .i64 t.op, .int .i64 t.fn, .slice A t.kids.length c, .string t.num]) := Lib.hid HX5.out.drew
    generalize W5.drew = W6 at *
    refine wpAnyT_take (i := 0) (v := ?_) spat0 (by kernel_rfl) (by kernel_rfl) (by kernel_rfl) (by decide) (fun _ _ _ h => h) (Or.inl ⟨by rfl, ?_⟩) HMO hH ?_
    rotate_left
    · (intro w hSw; clear hSw; go_simp; (try with_reducible rfl))
    (try simp only [Act.put, List.setIfInBounds_toArray, List.set_cons_zero, List.set_cons_succ])
    refine wpAnyT_read (i := 1) (v := ?_) [2, 5, 6, 8] spat1 (by kernel_rfl) (by kernel_rfl) (by kernel_rfl) (by decide) (by kernel_rfl) (fun _ _ _ h => h) (Or.inl ⟨by rfl, ?_⟩) hH ?_
    rotate_left
    · (intro w hSw; have hb := (HSP _ hSw).2; have b0 := hb.cell 0; have b1 := hb.cell 1; have b2 := hb.cell 2; have b3 := hb.cell 3; clear hb; clear hSw; go_simp; (try with_reducible rfl))
    (try simp only [Act.put, List.setIfInBounds_toArray, List.set_cons_zero, List.set_cons_succ])
    refine wpAnyT_take (i := 3) (v := ?_) spat3 (by kernel_rfl) (by kernel_rfl) (by kernel_rfl) (by decide) (fun _ _ _ h => h) (Or.inl ⟨by rfl, ?_⟩) HMO hH ?_
    rotate_left
    · (intro w hSw; clear hSw; go_simp; (try with_reducible rfl))
    (try simp only [Act.put, List.setIfInBounds_toArray, List.set_cons_zero, List.set_cons_succ])
    refine wpAnyT_read (i := 4) (v := ?_) [5, 6, 8] spat4 (by kernel_rfl) (by kernel_rfl) (by kernel_rfl) (by decide) (by kernel_rfl) (fun _ _ _ h => h) (Or.inl ⟨by rfl, ?_⟩) hH ?_
    rotate_left
    · (intro w hSw; have hb := (HSP _ hSw).2; have b0 := hb.cell 0; have b1 := hb.cell 1; have b2 := hb.cell 2; have b3 := hb.cell 3; clear hb; clear hSw; go_simp; (try with_reducible rfl))
    (try simp only [Act.put, List.setIfInBounds_toArray, List.set_cons_zero, List.set_cons_succ])
    refine wpAnyT_ready (rs := [2, 7]) (by kernel_rfl) (by simp) ?_
    refine AllReadyT.cons spat2 true (by kernel_rfl) (fun K hK => ?_) ?_
    · go_simp
      refine (gives_any (AX.out _ HX6.out).1 (AX.out _ HX6.out).2 hl hf h10).mono ?_
      rw [HGV.out]
      rintro e W7 ⟨rfl, HBg⟩
      have HX7 := Lib.hid (Bx.over HBg.out HX6.out)
      refine hK.out _ _ (HSM _ HX7.out) (fun hH => ?_)
      clear hK K HBg
      (try simp only [Act.put, List.setIfInBounds_toArray, List.set_cons_zero, List.set_cons_succ])
      refine wpAnyT_ready (rs := [5, 7]) (by kernel_rfl) (by simp) ?_
      refine AllReadyT.cons spat5 true (by kernel_rfl) (fun K hK => ?_) ?_
      · go_simp
        refine (isCst_any (AX.out _ HX7.out).1 (AX.out _ HX7.out).2 hl).mono ?_
        rw [HCV.out]
        rintro e W8 ⟨rfl, HBc⟩
        have HX8 := Lib.hid (Bx.over HBc.out HX7.out)
        refine hK.out _ _ (HSM _ HX8.out) (fun hH => ?_)
        clear hK K HBc
        (try simp only [Act.put, List.setIfInBounds_toArray, List.set_cons_zero, List.set_cons_succ])
        refine wpAnyT_take (i := 6) (v := ?_) spat6 (by kernel_rfl) (by kernel_rfl) (by kernel_rfl) (by decide) (fun _ _ _ h => h) (Or.inl ⟨by rfl, ?_⟩) HMO hH ?_
        rotate_left
        · (intro w hSw; clear hSw; go_simp; (try with_reducible rfl))
        (try simp only [Act.put, List.setIfInBounds_toArray, List.set_cons_zero, List.set_cons_succ])
        refine wpAnyT_ready (rs := [7]) (by kernel_rfl) (by simp) ?_
        refine AllReadyT.cons spat7 true (by kernel_rfl) (fun K hK => ?_) AllReadyT.nil
        have HE9 : Hid (Bk (W8.alloc (.cells #[.int .i64 0, .int .i64 0, .slice none 0 0, .string ⟨#[]⟩, .int .i64 0, .bool false] 82)) W8.heap.size 82 #[.int .i64 0, .int .i64 0, .slice none 0 0, .string ⟨#[]⟩, .int .i64 0, .bool false]) := Lib.hid (Bk.new _ _ _)
        have HX9 := Lib.hid (HX8.out.alloc (.cells #[.int .i64 0, .int .i64 0, .slice none 0 0, .string ⟨#[]⟩, .int .i64 0, .bool false] 82))
        have HGE : Hid (w.heap.size < W8.heap.size) := Lib.hid HX8.out.2.lt
        go_simp
        refine hK.out _ _ (HSM _ HX9.out) (fun hH => ?_)
        clear hK K
        generalize World.alloc W8 _ = W9 at *
        (try simp only [Act.put, List.setIfInBounds_toArray, List.set_cons_zero, List.set_cons_succ])
        refine wpAnyT_ready (rs := [8]) (by kernel_rfl) (by simp) ?_
        refine AllReadyT.cons spat8 false (by kernel_rfl) (fun K hK => ?_) AllReadyT.nil
        have e0 := HE9.out.cell 0
        have e1 := HE9.out.cell 1
        have e2 := HE9.out.cell 2
        have e3 := HE9.out.cell 3
        have e4 := HE9.out.cell 4
        have e5 := HE9.out.cell 5
        have ef := HE9.out.frozen
        have HP : Hid (En6 w ((((((W9.setCell ⟨W8.heap.size, 0, none⟩ (.int .i64 0)).setCell ⟨W8.heap.size, 1, none⟩ (.int .i64 0)).setCell ⟨W8.heap.size, 2, none⟩ (.slice none 0 0)).setCell ⟨W8.heap.size, 3, none⟩ (.string ⟨#[]⟩)).setCell ⟨W8.heap.size, 4, none⟩ (.int .i64 gv)).setCell ⟨W8.heap.size, 5, none⟩ (.bool cv)) W8.heap.size 41 #[.int .i64 t.op, .int .i64 t.fn, .slice A t.kids.length c, .string t.num] #[.int .i64 0, .int .i64 0, .slice none 0 0, .string ⟨#[]⟩, .int .i64 gv, .bool cv]) := Lib.hid ⟨HX9.out.put6 HGE.out _ _ _ _ _ _, bk_put6 HE9.out _ _ _ _ _ _, HGE.out⟩
        go_simp
        refine hK.out _ _ (HSF _) (fun hH => ?_)
        clear hK K e0 e1 e2 e3 e4 e5 ef
        (try simp only [Act.put, List.setIfInBounds_toArray, List.set_cons_zero, List.set_cons_succ])
        refine wpAnyT_done (by kernel_rfl) ?_ _
        (try go_wp2)
        go_meet
        exact ⟨W8.heap.size, rfl, HP⟩
      refine AllReadyT.cons spat7 true (by kernel_rfl) (fun K hK => ?_) AllReadyT.nil
      have HE8 : Hid (Bk (W7.alloc (.cells #[.int .i64 0, .int .i64 0, .slice none 0 0, .string ⟨#[]⟩, .int .i64 0, .bool false] 82)) W7.heap.size 82 #[.int .i64 0, .int .i64 0, .slice none 0 0, .string ⟨#[]⟩, .int .i64 0, .bool false]) := Lib.hid (Bk.new _ _ _)
      have HX8 := Lib.hid (HX7.out.alloc (.cells #[.int .i64 0, .int .i64 0, .slice none 0 0, .string ⟨#[]⟩, .int .i64 0, .bool false] 82))
      have HGE : Hid (w.heap.size < W7.heap.size) := Lib.hid HX7.out.2.lt
      go_simp
      refine hK.out _ _ (HSM _ HX8.out) (fun hH => ?_)
      clear hK K
      generalize World.alloc W7 _ = W8 at *
      (try simp only [Act.put, List.setIfInBounds_toArray, List.set_cons_zero, List.set_cons_succ])
      refine wpAnyT_ready (rs := [5]) (by kernel_rfl) (by simp) ?_
      refine AllReadyT.cons spat5 true (by kernel_rfl) (fun K hK => ?_) AllReadyT.nil
      go_simp
      refine (isCst_any (AX.out _ HX8.out).1 (AX.out _ HX8.out).2 hl).mono ?_
      rw [HCV.out]
      rintro e W9 ⟨rfl, HBc⟩
      have HX9 := Lib.hid (Bx.over HBc.out HX8.out)
      have HE9 := Lib.hid (HE8.out.below HBc.out HE8.out.lt)
      refine hK.out _ _ (HSM _ HX9.out) (fun hH => ?_)
      clear hK K HBc
      (try simp only [Act.put, List.setIfInBounds_toArray, List.set_cons_zero, List.set_cons_succ])
      refine wpAnyT_take (i := 6) (v := ?_) spat6 (by kernel_rfl) (by kernel_rfl) (by kernel_rfl) (by decide) (fun _ _ _ h => h) (Or.inl ⟨by rfl, ?_⟩) HMO hH ?_
      rotate_left
      · (intro w hSw; clear hSw; go_simp; (try with_reducible rfl))
      (try simp only [Act.put, List.setIfInBounds_toArray, List.set_cons_zero, List.set_cons_succ])
      refine wpAnyT_ready (rs := [8]) (by kernel_rfl) (by simp) ?_
      refine AllReadyT.cons spat8 false (by kernel_rfl) (fun K hK => ?_) AllReadyT.nil
      have e0 := HE9.out.cell 0
      have e1 := HE9.out.cell 1
      have e2 := HE9.out.cell 2
      have e3 := HE9.out.cell 3
      have e4 := HE9.out.cell 4
      have e5 := HE9.out.cell 5
      have ef := HE9.out.frozen
      have HP : Hid (En6 w ((((((W9.setCell ⟨W7.heap.size, 0, none⟩ (.int .i64 0)).setCell ⟨W7.heap.size, 1, none⟩ (.int .i64 0)).setCell ⟨W7.heap.size, 2, none⟩ (.slice none 0 0)).setCell ⟨W7.heap.size, 3, none⟩ (.string ⟨#[]⟩)).setCell ⟨W7.heap.size, 4, none⟩ (.int .i64 gv)).setCell ⟨W7.heap.size, 5, none⟩ (.bool cv)) W7.heap.size 41 #[.int .i64 t.op, .int .i64 t.fn, .slice A t.kids.length c, .string t.num] #[.int .i64 0, .int .i64 0, .slice none 0 0, .string ⟨#[]⟩, .int .i64 gv, .bool cv]) := Lib.hid ⟨HX9.out.put6 HGE.out _ _ _ _ _ _, bk_put6 HE9.out _ _ _ _ _ _, HGE.out⟩
      go_simp
      refine hK.out _ _ (HSF _) (fun hH => ?_)
      clear hK K e0 e1 e2 e3 e4 e5 ef
      (try simp only [Act.put, List.setIfInBounds_toArray, List.set_cons_zero, List.set_cons_succ])
      refine wpAnyT_done (by kernel_rfl) ?_ _
      (try go_wp2)
      go_meet
      exact ⟨W7.heap.size, rfl, HP⟩
    refine AllReadyT.cons spat7 true (by kernel_rfl) (fun K hK => ?_) AllReadyT.nil
    have HE7 : Hid (Bk (W6.alloc (.cells #[.int .i64 0, .int .i64 0, .slice none 0 0, .string ⟨#[]⟩, .int .i64 0, .bool false] 82)) W6.heap.size 82 #[.int .i64 0, .int .i64 0, .slice none 0 0, .string ⟨#[]⟩, .int .i64 0, .bool false]) := Lib.hid (Bk.new _ _ _)
    have HX7 := Lib.hid (HX6.out.alloc (.cells #[.int .i64 0, .int .i64 0, .slice none 0 0, .string ⟨#[]⟩, .int .i64 0, .bool false] 82))
    have HGE : Hid (w.heap.size < W6.heap.size) := Lib.hid HX6.out.2.lt
    go_simp
    refine hK.out _ _ (HSM _ HX7.out) (fun hH => ?_)
    clear hK K
    generalize World.alloc W6 _ = W7 at *
    (try simp only [Act.put, List.setIfInBounds_toArray, List.set_cons_zero, List.set_cons_succ])
    refine wpAnyT_ready (rs := [2]) (by kernel_rfl) (by simp) ?_
    refine AllReadyT.cons spat2 true (by kernel_rfl) (fun K hK => ?_) AllReadyT.nil
    go_simp
    refine (gives_any (AX.out _ HX7.out).1 (AX.out _ HX7.out).2 hl hf h10).mono ?_
    rw [HGV.out]
    rintro e W8 ⟨rfl, HBg⟩
    have HX8 := Lib.hid (Bx.over HBg.out HX7.out)
    have HE8 := Lib.hid (HE7.out.below HBg.out HE7.out.lt)
    refine hK.out _ _ (HSM _ HX8.out) (fun hH => ?_)
    clear hK K HBg
    (try simp only [Act.put, List.setIfInBounds_toArray, List.set_cons_zero, List.set_cons_succ])
    refine wpAnyT_ready (rs := [5]) (by kernel_rfl) (by simp) ?_
    refine AllReadyT.cons spat5 true (by kernel_rfl) (fun K hK => ?_) AllReadyT.nil
    go_simp
    refine (isCst_any (AX.out _ HX8.out).1 (AX.out _ HX8.out).2 hl).mono ?_
    rw [HCV.out]
    rintro e W9 ⟨rfl, HBc⟩
    have HX9 := Lib.hid (Bx.over HBc.out HX8.out)
    have HE9 := Lib.hid (HE8.out.below HBc.out HE8.out.lt)
    refine hK.out _ _ (HSM _ HX9.out) (fun hH => ?_)
    clear hK K HBc
    (try simp only [Act.put, List.setIfInBounds_toArray, List.set_cons_zero, List.set_cons_succ])
    refine wpAnyT_take (i := 6) (v := ?_) spat6 (by kernel_rfl) (by kernel_rfl) (by kernel_rfl) (by decide) (fun _ _ _ h => h) (Or.inl ⟨by rfl, ?_⟩) HMO hH ?_
    rotate_left
    · (intro w hSw; clear hSw; go_simp; (try with_reducible rfl))
    (try simp only [Act.put, List.setIfInBounds_toArray, List.set_cons_zero, List.set_cons_succ])
    refine wpAnyT_ready (rs := [8]) (by kernel_rfl) (by simp) ?_
    refine AllReadyT.cons spat8 false (by kernel_rfl) (fun K hK => ?_) AllReadyT.nil
    have e0 := HE9.out.cell 0
    have e1 := HE9.out.cell 1
    have e2 := HE9.out.cell 2
    have e3 := HE9.out.cell 3
    have e4 := HE9.out.cell 4
    have e5 := HE9.out.cell 5
    have ef := HE9.out.frozen
    have HP : Hid (En6 w ((((((W9.setCell ⟨W6.heap.size, 0, none⟩ (.int .i64 0)).setCell ⟨W6.heap.size, 1, none⟩ (.int .i64 0)).setCell ⟨W6.heap.size, 2, none⟩ (.slice none 0 0)).setCell ⟨W6.heap.size, 3, none⟩ (.string ⟨#[]⟩)).setCell ⟨W6.heap.size, 4, none⟩ (.int .i64 gv)).setCell ⟨W6.heap.size, 5, none⟩ (.bool cv)) W6.heap.size 41 #[.int .i64 t.op, .int .i64 t.fn, .slice A t.kids.length c, .string t.num] #[.int .i64 0, .int .i64 0, .slice none 0 0, .string ⟨#[]⟩, .int .i64 gv, .bool cv]) := Lib.hid ⟨HX9.out.put6 HGE.out _ _ _ _ _ _, bk_put6 HE9.out _ _ _ _ _ _, HGE.out⟩
    go_simp
    refine hK.out _ _ (HSF _) (fun hH => ?_)
    clear hK K e0 e1 e2 e3 e4 e5 ef
    (try simp only [Act.put, List.setIfInBounds_toArray, List.set_cons_zero, List.set_cons_succ])
    refine wpAnyT_done (by kernel_rfl) ?_ _
    (try go_wp2)
    go_meet
    exact ⟨W6.heap.size, rfl, HP⟩
  obtain ⟨ge, rfl, HEN⟩ := hcut
  generalize hwc : wc = W9 at *
  clear hwc
  have HX5 : Hid (Bx w W9 41 #[.int .i64 t.op, .int .i64 t.fn, .slice A t.kids.length c, .string t.num]) := Lib.hid HEN.out.1
  have HE5 : Hid (Bk W9.drew ge 82 #[.int .i64 0, .int .i64 0, .slice none 0 0, .string ⟨#[]⟩, .int .i64 gv, .bool cv]) := HEN.out.2.1
  have HGE : Hid (w.heap.size < ge) := Lib.hid HEN.out.2.2
  clear HEN
  go_upto_region 11 with fail
  obtain ⟨S', hSd⟩ : ∃ S' : Bool → World → Prop, S' = fun q W => q = true → Bx w W 41 #[.int .i64 t.op, .int .i64 t.fn, .slice A t.kids.length c, .string t.num] := ⟨_, rfl⟩
  have HMO : ∀ w, S' true w → S' false w := by rw [hSd]; intro w _ h; cases h
  have HSP : ∀ W : World, S' true W → Bx w W 41 #[.int .i64 t.op, .int .i64 t.fn, .slice A t.kids.length c, .string t.num] := fun W h => by rw [hSd] at h; exact h rfl
  have HSM : ∀ W : World, Bx w W 41 #[.int .i64 t.op, .int .i64 t.fn, .slice A t.kids.length c, .string t.num] → S' true W := fun W h => by rw [hSd]; exact fun _ => h
  have HSF : ∀ W : World, S' false W := fun W => by rw [hSd]; intro h; cases h
  clear hSd
  refine wp_region_T S' 12 (by kernel_rfl) (HSM _ HX5.out.drew) (fun hH => ?_)
  have HX6 : Hid (Bx w W9.drew 41 #[.int .i64 t.op, .int .i64 t.fn, .slice A t.kids.length c, .string t.num]) := Lib.hid HX5.out.drew
  generalize W9.drew = W6 at *
  refine wpAnyT_take (i := 0) (v := ?_) spat0 (by kernel_rfl) (by kernel_rfl) (by kernel_rfl) (by decide) (fun _ _ _ h => h) (Or.inl ⟨by rfl, ?_⟩) HMO hH ?_
  rotate_left
  · (intro w hSw; clear hSw; go_simp; (try with_reducible rfl))
  (try simp only [Act.put, List.setIfInBounds_toArray, List.set_cons_zero, List.set_cons_succ])
  refine wpAnyT_read (i := 1) (v := ?_) [10, 12] spat1 (by kernel_rfl) (by kernel_rfl) (by kernel_rfl) (by decide) (by kernel_rfl) (fun _ _ _ h => h) (Or.inl ⟨by rfl, ?_⟩) hH ?_
  rotate_left
  · (intro w hSw; have hb := (HSP _ hSw).2; have b0 := hb.cell 0; have b1 := hb.cell 1; have b2 := hb.cell 2; have b3 := hb.cell 3; clear hb; clear hSw; go_simp; (try with_reducible rfl))
  (try simp only [Act.put, List.setIfInBounds_toArray, List.set_cons_zero, List.set_cons_succ])
  refine wpAnyT_take (i := 2) (v := ?_) spat2 (by kernel_rfl) (by kernel_rfl) (by kernel_rfl) (by decide) (fun _ _ _ h => h) (Or.inl ⟨by rfl, ?_⟩) HMO hH ?_
  rotate_left
  · (intro w hSw; clear hSw; go_simp; (try with_reducible rfl))
  (try simp only [Act.put, List.setIfInBounds_toArray, List.set_cons_zero, List.set_cons_succ])
  refine wpAnyT_read (i := 3) (v := ?_) [10, 12] spat3 (by kernel_rfl) (by kernel_rfl) (by kernel_rfl) (by decide) (by kernel_rfl) (fun _ _ _ h => h) (Or.inl ⟨by rfl, ?_⟩) hH ?_
  rotate_left
  · (intro w hSw; have hb := (HSP _ hSw).2; have b0 := hb.cell 0; have b1 := hb.cell 1; have b2 := hb.cell 2; have b3 := hb.cell 3; clear hb; clear hSw; go_simp; (try with_reducible rfl))
  (try simp only [Act.put, List.setIfInBounds_toArray, List.set_cons_zero, List.set_cons_succ])
  refine wpAnyT_take (i := 4) (v := ?_) spat4 (by kernel_rfl) (by kernel_rfl) (by kernel_rfl) (by decide) (fun _ _ _ h => h) (Or.inl ⟨by rfl, ?_⟩) HMO hH ?_
  rotate_left
  · (intro w hSw; clear hSw; go_simp; (try with_reducible rfl))
  (try simp only [Act.put, List.setIfInBounds_toArray, List.set_cons_zero, List.set_cons_succ])
  refine wpAnyT_read (i := 5) (v := ?_) [6, 10, 12] spat5 (by kernel_rfl) (by kernel_rfl) (by kernel_rfl) (by decide) (by kernel_rfl) (fun _ _ _ h => h) (Or.inl ⟨by rfl, ?_⟩) hH ?_
  rotate_left
  · (intro w hSw; have hb := (HSP _ hSw).2; have b0 := hb.cell 0; have b1 := hb.cell 1; have b2 := hb.cell 2; have b3 := hb.cell 3; clear hb; clear hSw; go_simp; (try with_reducible rfl))
  (try simp only [Act.put, List.setIfInBounds_toArray, List.set_cons_zero, List.set_cons_succ])
  refine wpAnyT_take (i := 7) (v := ?_) spat7 (by kernel_rfl) (by kernel_rfl) (by kernel_rfl) (by decide) (fun _ _ _ h => h) (Or.inl ⟨by rfl, ?_⟩) HMO hH ?_
  rotate_left
  · (intro w hSw; clear hSw; go_simp; (try with_reducible rfl))
  (try simp only [Act.put, List.setIfInBounds_toArray, List.set_cons_zero, List.set_cons_succ])
  refine wpAnyT_read (i := 8) (v := ?_) [9, 10, 12] spat8 (by kernel_rfl) (by kernel_rfl) (by kernel_rfl) (by decide) (by kernel_rfl) (fun _ _ _ h => h) (Or.inl ⟨by rfl, ?_⟩) hH ?_
  rotate_left
  · (intro w hSw; have hb := (HSP _ hSw).2; have b0 := hb.cell 0; have b1 := hb.cell 1; have b2 := hb.cell 2; have b3 := hb.cell 3; clear hb; clear hSw; go_simp; (try with_reducible rfl))
  (try simp only [Act.put, List.setIfInBounds_toArray, List.set_cons_zero, List.set_cons_succ])
  refine wpAnyT_ready (rs := [6]) (by kernel_rfl) (by simp) ?_
  refine AllReadyT.cons spat6 true (by kernel_rfl) (fun K' hK' => ?_) AllReadyT.nil
  go_simp
  refine (clone_any (AX.out _ HX6.out).2 hl).mono ?_
  rintro e W7 ⟨A', c', rfl, HRK, HBk⟩
  have HX7 := Lib.hid (Bx.over HBk.out HX6.out)
  have HE7 := Lib.hid (HE5.out.below HBk.out HE5.out.lt)
  have HK7 : Hid (∀ g, Nw W6 W7 g → ¬ F g ∧ w.heap.size ≤ g ∧ Ty W7 g 3) := Lib.hid fun g hg => ⟨fun hF => by have := H.out.lt g hF; have := HX6.out.1.size; have := hg.1; omega, Nat.le_trans HX6.out.1.size hg.1, hg.2.2⟩
  generalize Nw W6 W7 = K at *
  refine hK'.out _ _ (HSM _ HX7.out) (fun hH => ?_)
  clear hK' K' HBk
  (try simp only [Act.put, List.setIfInBounds_toArray, List.set_cons_zero, List.set_cons_succ])
  refine wpAnyT_ready (rs := [9]) (by kernel_rfl) (by simp) ?_
  refine AllReadyT.cons spat9 true (by kernel_rfl) (fun K' hK' => ?_) AllReadyT.nil
  go_simp
  refine (sclone_any _ _ hs).mono ?_
  rintro e W8 ⟨rfl, HBs⟩
  have HX8 := Lib.hid (Bx.over HBs.out HX7.out)
  have HE8 := Lib.hid (HE7.out.below HBs.out HE7.out.lt)
  have HK8 : Hid (∀ g, K g → ¬ F g ∧ w.heap.size ≤ g ∧ Ty W8 g 3) := Lib.hid fun g hg => ⟨(HK7.out g hg).1, (HK7.out g hg).2.1, (HK7.out g hg).2.2.stays (HBs.out.block g (HK7.out g hg).2.2.lt)⟩
  have HR8 := Lib.hid (HRK.out.below HBs.out)
  refine hK'.out _ _ (HSM _ HX8.out) (fun hH => ?_)
  clear hK' K' HBs HX7 HE7 HK7 HRK HX6 HE5
  (try simp only [Act.put, List.setIfInBounds_toArray, List.set_cons_zero, List.set_cons_succ])
  refine wpAnyT_take (i := 10) (v := ?_) spat10 (by kernel_rfl) (by kernel_rfl) (by kernel_rfl) (by decide) (fun _ _ _ h => h) (Or.inl ⟨by rfl, ?_⟩) HMO hH ?_
  rotate_left
  · (intro w hSw; clear hSw; go_simp; (try with_reducible rfl))
  (try simp only [Act.put, List.setIfInBounds_toArray, List.set_cons_zero, List.set_cons_succ])
  refine wpAnyT_take (i := 11) (v := ?_) spat11 (by kernel_rfl) (by kernel_rfl) (by kernel_rfl) (by decide) (fun _ _ _ h => h) (Or.inl ⟨by rfl, ?_⟩) HMO hH ?_
  rotate_left
  · (intro w hSw; clear hSw; go_simp; (try with_reducible rfl))
  (try simp only [Act.put, List.setIfInBounds_toArray, List.set_cons_zero, List.set_cons_succ])
  refine wpAnyT_ready (rs := [12]) (by kernel_rfl) (by simp) ?_
  refine AllReadyT.cons spat12 false (by kernel_rfl) (fun K' hK' => ?_) AllReadyT.nil
  have e0 := HE8.out.cell 0
  have e1 := HE8.out.cell 1
  have e2 := HE8.out.cell 2
  have e3 := HE8.out.cell 3
  have ef := HE8.out.frozen
  obtain ⟨WE, hWE⟩ : ∃ WE, (((W8.setCell ⟨ge, 0, none⟩ (.int .i64 t.op)).setCell ⟨ge, 1, none⟩ (.int .i64 t.fn)).setCell ⟨ge, 2, none⟩ (.slice A' t.kids.length c')).setCell ⟨ge, 3, none⟩ (.string t.num) = WE := ⟨_, rfl⟩
  have HXE : Hid (Bx w WE 41 #[.int .i64 t.op, .int .i64 t.fn, .slice A t.kids.length c, .string t.num]) := Lib.hid (hWE ▸ (((HX8.out.far (p := ⟨ge, 0, none⟩) HGE.out _).far (p := ⟨ge, 1, none⟩) HGE.out _).far (p := ⟨ge, 2, none⟩) HGE.out _).far (p := ⟨ge, 3, none⟩) HGE.out _)
  have HEE : Hid (Bk WE ge 82 #[.int .i64 t.op, .int .i64 t.fn, .slice A' t.kids.length c', .string t.num, .int .i64 gv, .bool cv]) := Lib.hid (hWE ▸ bk_put4 HE8.out _ _ _ _)
  have HWS : Hid (WE.heap.size = W8.heap.size ∧ ∀ g, g ≠ ge → WE.heap[g]? = W8.heap[g]?) := Lib.hid (by
    subst hWE
    refine ⟨by simp [World.setCell], fun g hg => ?_⟩
    rw [Below.heap_setCell _ _ _ _ hg, Below.heap_setCell _ _ _ _ hg, Below.heap_setCell _ _ _ _ hg, Below.heap_setCell _ _ _ _ hg])
  have HKE : Hid (∀ g, K g → ¬ F g ∧ w.heap.size ≤ g ∧ Ty WE g 3) := Lib.hid fun g hg => ⟨(HK8.out g hg).1, (HK8.out g hg).2.1, (HK8.out g hg).2.2.stays (HWS.out.2 g ((HK8.out g hg).2.2.ne HE8.out.ty (by decide)))⟩
  have HRE : Hid (Ri WE K t.kids A' c') := Lib.hid (HR8.out.stays (by rw [HWS.out.1]; exact Nat.le_refl _) fun g hg _ => ⟨hg, HWS.out.2 g ((HK8.out g hg).2.2.ne HE8.out.ty (by decide))⟩)
  go_simp
  refine hK'.out _ _ (HSF _) (fun hH => ?_)
  clear hK' K' e0 e1 e2 e3 ef hWE HX8 HE8 HK8 HR8 HWS
  (try simp only [Act.put, List.setIfInBounds_toArray, List.set_cons_zero, List.set_cons_succ])
  refine wpAnyT_done (by kernel_rfl) ?_ _
  clear HMO HSP HSM HSF hH HX1 HX2 HX3 HB2 HB3 HB4 HX5
  go_upto_region 12 with fail
  obtain ⟨I, J, sv, fv, tv, mb, ib, n, hax⟩ := (AX.out _ HXE.out.drew).1.out
  have HX1 : Hid (Bx w WE.drew 41 #[.int .i64 t.op, .int .i64 t.fn, .slice A t.kids.length c, .string t.num]) := Lib.hid HXE.out.drew
  have HE1 : Hid (Bk WE.drew ge 82 #[.int .i64 t.op, .int .i64 t.fn, .slice A' t.kids.length c', .string t.num, .int .i64 gv, .bool cv]) := HEE
  have HK1 : Hid (∀ g, K g → ¬ F g ∧ w.heap.size ≤ g ∧ Ty WE.drew g 3) := HKE
  have HR1 : Hid (Ri WE.drew K t.kids A' c') := HRE
  obtain ⟨xs, hto, hch, htF⟩ := hax.trm
  have hN := HN.out
  have HN2 : Hid (N ≤ 1000000) := Lib.hid (hN ▸ HS.out.t)
  have hn2 := HN2.out
  obtain ⟨At, ct, rfl, _, _⟩ := own_slice hto
  have HAX := Lib.hid hax
  have HTO := Lib.hid hto
  have HCH := Lib.hid hch
  rw [hN] at hto
  have HTN := Lib.hid hto
  have c4 := hax.box.cell 4
  have hla := hax.box.lt
  rw [hN] at c4
  have HC4 : Hid (WE.drew.cell? ⟨a, 4, none⟩ = some (.slice At N ct)) := Lib.hid c4
  have hlg := HE1.out.lt
  obtain ⟨i0, hi, hz0, hz1, hz2⟩ := info_parts infoEntry
  clear hax hto hch htF hN c4 HXE HEE HKE HRE hH
  obtain ⟨S2, hSd⟩ : ∃ S' : Bool → World → Prop, S' = fun q W => q = true → W.cell? ⟨a, 4, none⟩ = some (.slice At N ct) ∧ Bk W ge 82 #[.int .i64 t.op, .int .i64 t.fn, .slice A' t.kids.length c', .string t.num, .int .i64 gv, .bool cv] := ⟨_, rfl⟩
  have HMO : ∀ w, S2 true w → S2 false w := by rw [hSd]; intro w _ h; cases h
  have HSP : ∀ W : World, S2 true W → W.cell? ⟨a, 4, none⟩ = some (.slice At N ct) ∧ Bk W ge 82 #[.int .i64 t.op, .int .i64 t.fn, .slice A' t.kids.length c', .string t.num, .int .i64 gv, .bool cv] := fun W h => by rw [hSd] at h; exact h rfl
  have HSM : ∀ W : World, W.cell? ⟨a, 4, none⟩ = some (.slice At N ct) ∧ Bk W ge 82 #[.int .i64 t.op, .int .i64 t.fn, .slice A' t.kids.length c', .string t.num, .int .i64 gv, .bool cv] → S2 true W := fun W h => by rw [hSd]; exact fun _ => h
  have HSF : ∀ W : World, S2 false W := fun W => by rw [hSd]; intro h; cases h
  clear hSd
  refine wp_region_T S2 7 (by kernel_rfl) (HSM _ ⟨HC4.out, HE1.out⟩) (fun hH => ?_)
  generalize WE.drew = W1 at *
  refine wpAnyT_take (i := 0) (v := ?_) spat0 (by kernel_rfl) (by kernel_rfl) (by kernel_rfl) (by decide) (fun _ _ _ h => h) (Or.inl ⟨by rfl, ?_⟩) HMO hH ?_
  rotate_left
  · (intro w hSw; clear hSw; go_simp; (try with_reducible rfl))
  (try simp only [Act.put, List.setIfInBounds_toArray, List.set_cons_zero, List.set_cons_succ])
  refine wpAnyT_take (i := 1) (v := ?_) spat1 (by kernel_rfl) (by kernel_rfl) (by kernel_rfl) (by decide) (fun _ _ _ h => h) (Or.inl ⟨by rfl, ?_⟩) HMO hH ?_
  rotate_left
  · (intro w hSw; clear hSw; go_simp; (try with_reducible rfl))
  (try simp only [Act.put, List.setIfInBounds_toArray, List.set_cons_zero, List.set_cons_succ])
  refine wpAnyT_take (i := 2) (v := ?_) spat2 (by kernel_rfl) (by kernel_rfl) (by kernel_rfl) (by decide) (fun _ _ _ h => h) (Or.inl ⟨by rfl, ?_⟩) HMO hH ?_
  rotate_left
  · (intro w hSw; clear hSw; go_simp; (try with_reducible rfl))
  (try simp only [Act.put, List.setIfInBounds_toArray, List.set_cons_zero, List.set_cons_succ])
  refine wpAnyT_take (i := 3) (v := ?_) spat3 (by kernel_rfl) (by kernel_rfl) (by kernel_rfl) (by decide) (fun _ _ _ h => h) (Or.inl ⟨by rfl, ?_⟩) HMO hH ?_
  rotate_left
  · (intro w hSw; clear hSw; go_simp; (try with_reducible rfl))
  (try simp only [Act.put, List.setIfInBounds_toArray, List.set_cons_zero, List.set_cons_succ])
  refine wpAnyT_read (i := 4) (v := ?_) [7] spat4 (by kernel_rfl) (by kernel_rfl) (by kernel_rfl) (by decide) (by kernel_rfl) (fun _ _ _ h => h) (Or.inl ⟨by rfl, ?_⟩) hH ?_
  rotate_left
  · (intro w hSw; obtain ⟨hf, hb⟩ := HSP _ hSw; have b0 := hb.cell 0; have b1 := hb.cell 1; have b2 := hb.cell 2; have b3 := hb.cell 3; have b4 := hb.cell 4; have b5 := hb.cell 5; clear hb; clear hSw; go_simp; (try with_reducible rfl))
  (try simp only [Act.put, List.setIfInBounds_toArray, List.set_cons_zero, List.set_cons_succ])
  refine wpAnyT_read (i := 5) (v := ?_) [6, 7] spat5 (by kernel_rfl) (by kernel_rfl) (by kernel_rfl) (by decide) (by kernel_rfl) (fun _ _ _ h => h) (Or.inl ⟨by rfl, ?_⟩) hH ?_
  rotate_left
  · (intro w hSw; obtain ⟨hf, hb⟩ := HSP _ hSw; have b0 := hb.cell 0; have b1 := hb.cell 1; have b2 := hb.cell 2; have b3 := hb.cell 3; have b4 := hb.cell 4; have b5 := hb.cell 5; clear hb; clear hSw; go_simp; (try with_reducible rfl))
  (try simp only [Act.put, List.setIfInBounds_toArray, List.set_cons_zero, List.set_cons_succ])
  refine wpAnyT_ready (rs := [6]) (by kernel_rfl) (by simp) ?_
  refine AllReadyT.cons spat6 true (by kernel_rfl) (fun K' hK' => ?_) AllReadyT.nil
  go_simp
  refine hK'.out _ _ (HSM _ ⟨(World.cell?_alloc_lt _ _ _ hla).trans HC4.out, HE1.out.alloc _⟩) (fun hH => ?_)
  clear hK' K'
  (try simp only [Act.put, List.setIfInBounds_toArray, List.set_cons_zero, List.set_cons_succ])
  refine wpAnyT_ready (rs := [7]) (by kernel_rfl) (by simp) ?_
  refine AllReadyT.cons spat7 false (by kernel_rfl) (fun K' hK' => ?_) AllReadyT.nil
  refine step_append_lies _ rfl _ _ 74 rfl 0 82 i0 _ 6 72 Tryd.underlying74 hi hz0 hz1 hz2 rfl (by decide) (.slice At N ct) N xs rfl (HTN.out.alloc _) ⟨W1.heap.size, 0, none⟩ 1 1 [.int .i64 t.op, .int .i64 t.fn, .slice A' t.kids.length c', .string t.num, .int .i64 gv, .bool cv] rfl rfl ?c1 ?c2 (by decide) ?c3 ?c4 ?c5 (W1.heap.size + 1) (by simp) ?_
  case c1 => exact new6 _ _ _ _ _ _ _ _
  case c2 => exact fun u hu => by simp only [List.mem_cons, List.not_mem_nil, or_false] at hu; rcases hu with rfl | rfl | rfl | rfl | rfl | rfl <;> rfl
  case c3 => unfold maxLen; omega
  case c4 => omega
  case c5 => omega
  intro g' c2 W3 hown hgrow hat hlt3
  rw [← HN.out] at hown hat hgrow
  have HP := Lib.hid (HAX.out.az.push (K := K) (e := ⟨t, gv, cv⟩) (fun g hg => ⟨(HK1.out g hg).1, (HK1.out g hg).2.2⟩) HR1.out HCH.out HTO.out hown hgrow (hat.imp id .inl) hlt3)
  rw [HN.out] at HP
  have HB3 := Lib.hid HP.out.2.2.2.1
  refine hK'.out _ _ (HSF _) (fun hH => ?_)
  clear hK' K' hown hgrow hat
  (try simp only [Act.put, List.setIfInBounds_toArray, List.set_cons_zero, List.set_cons_succ])
  refine wpAnyT_take (i := 8) (v := ?_) spat8 (by kernel_rfl) (by kernel_rfl) (by kernel_rfl) (by decide) (fun _ _ _ h => h) (Or.inl ⟨by rfl, ?_⟩) HMO hH ?_
  rotate_left
  · (intro w hSw; clear hSw; go_simp; (try with_reducible rfl))
  (try simp only [Act.put, List.setIfInBounds_toArray, List.set_cons_zero, List.set_cons_succ])
  refine wpAnyT_take (i := 9) (v := ?_) spat9 (by kernel_rfl) (by kernel_rfl) (by kernel_rfl) (by decide) (fun _ _ _ h => h) (Or.inl ⟨by rfl, ?_⟩) HMO hH ?_
  rotate_left
  · (intro w hSw; clear hSw; go_simp; (try with_reducible rfl))
  (try simp only [Act.put, List.setIfInBounds_toArray, List.set_cons_zero, List.set_cons_succ])
  refine wpAnyT_ready (rs := [10]) (by kernel_rfl) (by simp) ?_
  refine AllReadyT.cons spat10 false (by kernel_rfl) (fun K' hK' => ?_) AllReadyT.nil
  have d4 := HB3.out.cell 4
  have f4 := HB3.out.frozen 4
  have l4 := HB3.out.lt
  go_simp
  refine hK'.out _ _ (HSF _) (fun hH => ?_)
  clear hK' K' d4 f4 l4
  (try simp only [Act.put, List.setIfInBounds_toArray, List.set_cons_zero, List.set_cons_succ])
  refine wpAnyT_done (by kernel_rfl) ?_ _
  clear HMO HSP HSM HSF hH
  have HAZ := Lib.hid HP.out.1
  have HS4 := Lib.hid HP.out.2.1
  have HG4 := Lib.hid HP.out.2.2.1
  have HB4 := Lib.hid HP.out.2.2.2.2.1
  have HK4 := Lib.hid HP.out.2.2.2.2.2
  clear HP HB3
  generalize World.setCell W3 _ _ = W4 at *
  have d5 := HB4.out.cell 5
  have TP := tb_push HAX.out (F4 := fun g => F g ∨ K g ∨ g = g') (fun _ h => .inl h) HK4.out
  have NB := HAX.out.nb
  have HL4 : Hid (∀ g, Ft W4 (fun g => F g ∨ K g ∨ g = g') g ∨ (J g ∧ Ty W1 g 3) → g < W4.heap.size) := Lib.hid fun g hg => hg.elim (fun h => HAZ.out.lt g h.1) fun h => HAZ.out.lt g (.inl (HAX.out.jj g h.1).1)
  rw [HN.out] at TP NB
  have AD := add_any (Lib.hid TP) (by rw [hashes_len, HN.out]) (Lib.hid NB) HN2.out (h := hash t) (Lib.hid (hashes_range S t)) HL4
  have HAD := Lib.hid AD
  have HFIN : Hid (∀ W2, (∃ n', Nb n' (N + 1) ∧ TbEnd W4 W2 (Ft W4 (fun g => F g ∨ K g ∨ g = g')) (fun g => J g ∧ Ty W1 g 3) ib (hashes S ++ [hash t]) n' (N + 1)) → ArEnd w W2 F a (S.addT t)) := Lib.hid fun W2 hW => by
    obtain ⟨n', h1, h2⟩ := hW
    have haz := HAZ.out
    rw [← HN.out] at h1 h2 haz
    have hadd : S.addT t = { S with terms := S.terms ++ [⟨t, gv, cv⟩] } := by unfold St.addT; rw [HGV.out, HCV.out]
    refine arEnd_new HX1.out.1 HAX.out (fun g hg => (HK1.out g hg).2.1) (by rw [hadd]; exact haz) HS4.out HG4.out (fun g hg => hg.stays (HK4.out g _ hg (by decide) (by decide))) h1 h2
  clear AD TP NB HL4
  go_wp2_with (go_at_call 49; refine HAD.out.mono ?_; rintro e W5 ⟨rfl, HB5⟩)
  go_ret2
  exact ⟨rfl, Lib.hid (HFIN.out _ HB5.out)⟩
end Go.Proofs.YtdnhhfhjjimcgaaDoor.dg
