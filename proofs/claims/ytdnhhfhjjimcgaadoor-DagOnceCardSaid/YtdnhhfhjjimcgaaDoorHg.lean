/- Package dag: a function is added. -/
import Derived.Test.YtdnhhfhjjimcgaaDoorHf
namespace Go.Proofs.YtdnhhfhjjimcgaaDoor.dg
open Go Go.RowKit


set_option maxRecDepth 100000 in
set_option maxHeartbeats 8000000 in
theorem fun_bad1 {w : World} {F G : Nat → Prop} {a : Nat} {S : St} (H : Hid (Ar w F a S)) {f : Fnn} (hn : f.name.size ≤ 1000000) {A : Option Addr} {c : Nat} (hr : Hid (Ri w G f.args A c)) (hl : f.args.length ≤ 1000000) (HS : Hid (Sz S)) (HA : Hid (f.args.all S.isSort = false)) :
    Calls Tryd.prog 28 #[.pointer (some ⟨a, 0, none⟩), .agg #[.string f.name, .slice A f.args.length c, .int .i64 f.res]] w fun e w' => e = .returned (.tuple #[.int .i64 0, .int .i64 2]) ∧ Hid (ArEnd w w' F a S) := by
  go_enter Tryd.func28, Tryd.ntmps28
  go_upto_region 1 with fail
  generalize hW : World.alloc _ _ = W1
  have HX1 : Hid (Bx w W1 63 #[.string f.name, .slice A f.args.length c, .int .i64 f.res]) := Lib.hid (hW ▸ ⟨(Below.refl _ w).alloc (Nat.le_refl _) _, Bk.new w _ _⟩)
  clear hW
  have x0 := HX1.out.2.cell 0
  have x1 := HX1.out.2.cell 1
  have x2 := HX1.out.2.cell 2
  have HAR := Lib.hid (H.out.below HX1.out.1)
  have HRI := Lib.hid (hr.out.below HX1.out.1)
  go_wp2_with (go_at_call 42; refine (areSorts_any HAR HRI hl).mono ?_; rw [HA.out]; rintro e w5 ⟨rfl, rfl⟩)
  go_ret2
  exact ⟨rfl, Lib.hid (ArEnd.same H.out HX1.out.1)⟩

set_option maxRecDepth 100000 in
set_option maxHeartbeats 8000000 in
theorem fun_bad2 {w : World} {F G : Nat → Prop} {a : Nat} {S : St} (H : Hid (Ar w F a S)) {f : Fnn} (hn : f.name.size ≤ 1000000) {A : Option Addr} {c : Nat} (hr : Hid (Ri w G f.args A c)) (hl : f.args.length ≤ 1000000) (HS : Hid (Sz S)) (HA : Hid (f.args.all S.isSort = true)) (HA2 : Hid (S.isSort f.res = false)) :
    Calls Tryd.prog 28 #[.pointer (some ⟨a, 0, none⟩), .agg #[.string f.name, .slice A f.args.length c, .int .i64 f.res]] w fun e w' => e = .returned (.tuple #[.int .i64 0, .int .i64 2]) ∧ Hid (ArEnd w w' F a S) := by
  go_enter Tryd.func28, Tryd.ntmps28
  go_upto_region 1 with fail
  generalize hW : World.alloc _ _ = W1
  have HX1 : Hid (Bx w W1 63 #[.string f.name, .slice A f.args.length c, .int .i64 f.res]) := Lib.hid (hW ▸ ⟨(Below.refl _ w).alloc (Nat.le_refl _) _, Bk.new w _ _⟩)
  clear hW
  have x0 := HX1.out.2.cell 0
  have x1 := HX1.out.2.cell 1
  have x2 := HX1.out.2.cell 2
  have HAR := Lib.hid (H.out.below HX1.out.1)
  have HRI := Lib.hid (hr.out.below HX1.out.1)
  have HAR2 : Hid (Ar (W1.alloc (.cells #[.int .i64 f.res] 3)) F a S) := Lib.hid (HAR.out.below ((Below.refl _ _).alloc (Nat.le_refl _) _))
  have HRI2 : Hid (Ri (W1.alloc (.cells #[.int .i64 f.res] 3)) (fun _ => True) [f.res] (some ⟨W1.heap.size, 0, none⟩) 1) := Lib.hid (Ri.one _ _ (Bk.new W1 _ _) trivial (fun j hj => by
    match j, hj with
    | 0, _ => rfl))
  have HA3 : Hid ([f.res].all S.isSort = false) := Lib.hid (by simp [HA2.out])
  go_upto_region 2 with (first | (go_at_call_of 42 A; (have hpre := HA; clear hpre); refine (areSorts_any HAR HRI hl).mono ?_; rw [HA.out]; rintro e w5 ⟨rfl, rfl⟩) | (go_at_call 42; refine (areSorts_any (ks := [f.res]) HAR2 HRI2 (by simp)).mono ?_; rw [HA3.out]; rintro e w5 ⟨rfl, rfl⟩))
  go_wp2_with fail
  go_ret2
  exact ⟨rfl, Lib.hid (ArEnd.same H.out (HX1.out.1.alloc HX1.out.1.size _))⟩

set_option maxRecDepth 100000 in
set_option maxHeartbeats 8000000 in
theorem fun_new {w : World} {F G : Nat → Prop} {a : Nat} {S : St} (H : Hid (Ar w F a S)) {f : Fnn} (hn : f.name.size ≤ 1000000) {A : Option Addr} {c : Nat} (hr : Hid (Ri w G f.args A c)) (hl : f.args.length ≤ 1000000) (HS : Hid (Sz S)) (HA : Hid (f.args.all S.isSort = true)) (HA2 : Hid (S.isSort f.res = true)) :
    Calls Tryd.prog 28 #[.pointer (some ⟨a, 0, none⟩), .agg #[.string f.name, .slice A f.args.length c, .int .i64 f.res]] w fun e w' => e = .returned (.tuple #[.int .i64 (S.funs.length : Int), .int .i64 0]) ∧ Hid (ArEnd w w' F a { S with funs := S.funs ++ [f] }) := by
  go_enter Tryd.func28, Tryd.ntmps28
  go_upto_region 1 with fail
  generalize hW : World.alloc _ _ = W1
  have HX1 : Hid (Bx w W1 63 #[.string f.name, .slice A f.args.length c, .int .i64 f.res]) := Lib.hid (hW ▸ ⟨(Below.refl _ w).alloc (Nat.le_refl _) _, Bk.new w _ _⟩)
  clear hW
  have x0 := HX1.out.2.cell 0
  have x1 := HX1.out.2.cell 1
  have x2 := HX1.out.2.cell 2
  have HAR := Lib.hid (H.out.below HX1.out.1)
  have HRI := Lib.hid (hr.out.below HX1.out.1)
  have HAR2 : Hid (Ar (W1.alloc (.cells #[.int .i64 f.res] 3)) F a S) := Lib.hid (HAR.out.below ((Below.refl _ _).alloc (Nat.le_refl _) _))
  have HRI2 : Hid (Ri (W1.alloc (.cells #[.int .i64 f.res] 3)) (fun _ => True) [f.res] (some ⟨W1.heap.size, 0, none⟩) 1) := Lib.hid (Ri.one _ _ (Bk.new W1 _ _) trivial (fun j hj => by
    match j, hj with
    | 0, _ => rfl))
  have HA3 : Hid ([f.res].all S.isSort = true) := Lib.hid (by simp [HA2.out])
  go_upto_region 3 with (first | (go_at_call_of 42 A; (have hpre := HA; clear hpre); refine (areSorts_any HAR HRI hl).mono ?_; rw [HA.out]; rintro e w5 ⟨rfl, rfl⟩) | (go_at_call 42; refine (areSorts_any (ks := [f.res]) HAR2 HRI2 (by simp)).mono ?_; rw [HA3.out]; rintro e w5 ⟨rfl, rfl⟩))
  have HX2 := Lib.hid (HX1.out.alloc (.cells #[.int .i64 f.res] 3))
  clear x0 x1 x2 HAR HRI HRI2 HX1
  generalize World.alloc W1 _ = W2 at *
  obtain ⟨I, J, sv, fv, tv, mb, ib, nb, hax⟩ := HAR2.out
  have HAX2 := Lib.hid hax
  obtain ⟨As, cs, hsv, _⟩ := hax.fns.slice
  subst hsv
  obtain ⟨N, hN⟩ : ∃ N, S.funs.length = N := ⟨_, rfl⟩
  have HN := Lib.hid hN
  have HN3 : Hid (N ≤ 1000000) := Lib.hid (hN ▸ HS.out.f)
  clear hN hax HAR2
  have HC3 : Hid (W2.drew.cell? ⟨a, 3, none⟩ = some (.slice As N cs)) := Lib.hid (by have := HAX2.out.box.cell 3; rw [HN.out] at this; exact this)
  obtain ⟨S', hSd⟩ : ∃ S' : Bool → World → Prop, S' = fun q W => q = true → W.cell? ⟨a, 3, none⟩ = some (.slice As N cs) ∧ Bx w W 63 #[.string f.name, .slice A f.args.length c, .int .i64 f.res] := ⟨_, rfl⟩
  have HMO : ∀ w, S' true w → S' false w := by rw [hSd]; intro w _ h; cases h
  have HSP : ∀ W : World, S' true W → W.cell? ⟨a, 3, none⟩ = some (.slice As N cs) ∧ Bx w W 63 #[.string f.name, .slice A f.args.length c, .int .i64 f.res] := fun W h => by rw [hSd] at h; exact h rfl
  have HSM : ∀ W : World, W.cell? ⟨a, 3, none⟩ = some (.slice As N cs) ∧ Bx w W 63 #[.string f.name, .slice A f.args.length c, .int .i64 f.res] → S' true W := fun W h => by rw [hSd]; exact fun _ => h
  have HSF : ∀ W : World, S' false W := fun W => by rw [hSd]; intro h; cases h
  clear hSd
  refine wp_region_T S' 15 (by kernel_rfl) (HSM _ ⟨HC3.out, HX2.out.drew⟩) (fun hH => ?_)
  have HX6 : Hid (Bx w W2.drew 63 #[.string f.name, .slice A f.args.length c, .int .i64 f.res]) := Lib.hid HX2.out.drew
  have HAX6 : Hid (Ax W2.drew F I J a S sv (.slice As S.funs.length cs) tv mb ib nb) := Lib.hid (HAX2.out.stays (Nat.le_refl _) (fun _ _ => rfl) (fun _ h => h) HAX2.out.lt)
  clear HX2 HAX2
  generalize W2.drew = W6 at *
  refine wpAnyT_take (i := 0) (v := ?_) spat0 (by kernel_rfl) (by kernel_rfl) (by kernel_rfl) (by decide) (fun _ _ _ h => h) (Or.inl ⟨by rfl, ?_⟩) HMO hH ?_
  rotate_left
  · (intro w hSw; clear hSw; go_simp; (try with_reducible rfl))
  (try simp only [Act.put, List.setIfInBounds_toArray, List.set_cons_zero, List.set_cons_succ])
  refine wpAnyT_take (i := 1) (v := ?_) spat1 (by kernel_rfl) (by kernel_rfl) (by kernel_rfl) (by decide) (fun _ _ _ h => h) (Or.inl ⟨by rfl, ?_⟩) HMO hH ?_
  rotate_left
  · (intro w hSw; clear hSw; go_simp; (try with_reducible rfl))
  (try simp only [Act.put, List.setIfInBounds_toArray, List.set_cons_zero, List.set_cons_succ])
  refine wpAnyT_take (i := 2) (v := ?_) spat2 (by kernel_rfl) (by kernel_rfl) (by kernel_rfl) (by decide) (fun _ _ _ h => h) (Or.inl ⟨by rfl, ?_⟩) HMO hH ?_
  rotate_left
  · (intro w hSw; clear hSw; go_simp; (try with_reducible rfl))
  (try simp only [Act.put, List.setIfInBounds_toArray, List.set_cons_zero, List.set_cons_succ])
  refine wpAnyT_take (i := 3) (v := ?_) spat3 (by kernel_rfl) (by kernel_rfl) (by kernel_rfl) (by decide) (fun _ _ _ h => h) (Or.inl ⟨by rfl, ?_⟩) HMO hH ?_
  rotate_left
  · (intro w hSw; clear hSw; go_simp; (try with_reducible rfl))
  (try simp only [Act.put, List.setIfInBounds_toArray, List.set_cons_zero, List.set_cons_succ])
  refine wpAnyT_read (i := 4) (v := ?_) [15] spat4 (by kernel_rfl) (by kernel_rfl) (by kernel_rfl) (by decide) (by kernel_rfl) (fun _ _ _ h => h) (Or.inl ⟨by rfl, ?_⟩) hH ?_
  rotate_left
  · (intro w hSw; obtain ⟨hf, hb⟩ := HSP _ hSw; have b0 := hb.2.cell 0; have b1 := hb.2.cell 1; have b2 := hb.2.cell 2; clear hb; clear hSw; go_simp; (try with_reducible rfl))
  (try simp only [Act.put, List.setIfInBounds_toArray, List.set_cons_zero, List.set_cons_succ])
  refine wpAnyT_take (i := 5) (v := ?_) spat5 (by kernel_rfl) (by kernel_rfl) (by kernel_rfl) (by decide) (fun _ _ _ h => h) (Or.inl ⟨by rfl, ?_⟩) HMO hH ?_
  rotate_left
  · (intro w hSw; clear hSw; go_simp; (try with_reducible rfl))
  (try simp only [Act.put, List.setIfInBounds_toArray, List.set_cons_zero, List.set_cons_succ])
  refine wpAnyT_read (i := 6) (v := ?_) [7, 10, 15] spat6 (by kernel_rfl) (by kernel_rfl) (by kernel_rfl) (by decide) (by kernel_rfl) (fun _ _ _ h => h) (Or.inl ⟨by rfl, ?_⟩) hH ?_
  rotate_left
  · (intro w hSw; obtain ⟨hf, hb⟩ := HSP _ hSw; have b0 := hb.2.cell 0; have b1 := hb.2.cell 1; have b2 := hb.2.cell 2; clear hb; clear hSw; go_simp; (try with_reducible rfl))
  (try simp only [Act.put, List.setIfInBounds_toArray, List.set_cons_zero, List.set_cons_succ])
  refine wpAnyT_take (i := 8) (v := ?_) spat8 (by kernel_rfl) (by kernel_rfl) (by kernel_rfl) (by decide) (fun _ _ _ h => h) (Or.inl ⟨by rfl, ?_⟩) HMO hH ?_
  rotate_left
  · (intro w hSw; clear hSw; go_simp; (try with_reducible rfl))
  (try simp only [Act.put, List.setIfInBounds_toArray, List.set_cons_zero, List.set_cons_succ])
  refine wpAnyT_read (i := 9) (v := ?_) [10, 15] spat9 (by kernel_rfl) (by kernel_rfl) (by kernel_rfl) (by decide) (by kernel_rfl) (fun _ _ _ h => h) (Or.inl ⟨by rfl, ?_⟩) hH ?_
  rotate_left
  · (intro w hSw; obtain ⟨hf, hb⟩ := HSP _ hSw; have b0 := hb.2.cell 0; have b1 := hb.2.cell 1; have b2 := hb.2.cell 2; clear hb; clear hSw; go_simp; (try with_reducible rfl))
  (try simp only [Act.put, List.setIfInBounds_toArray, List.set_cons_zero, List.set_cons_succ])
  refine wpAnyT_take (i := 11) (v := ?_) spat11 (by kernel_rfl) (by kernel_rfl) (by kernel_rfl) (by decide) (fun _ _ _ h => h) (Or.inl ⟨by rfl, ?_⟩) HMO hH ?_
  rotate_left
  · (intro w hSw; clear hSw; go_simp; (try with_reducible rfl))
  (try simp only [Act.put, List.setIfInBounds_toArray, List.set_cons_zero, List.set_cons_succ])
  refine wpAnyT_read (i := 12) (v := ?_) [13, 14, 15] spat12 (by kernel_rfl) (by kernel_rfl) (by kernel_rfl) (by decide) (by kernel_rfl) (fun _ _ _ h => h) (Or.inl ⟨by rfl, ?_⟩) hH ?_
  rotate_left
  · (intro w hSw; obtain ⟨hf, hb⟩ := HSP _ hSw; have b0 := hb.2.cell 0; have b1 := hb.2.cell 1; have b2 := hb.2.cell 2; clear hb; clear hSw; go_simp; (try with_reducible rfl))
  (try simp only [Act.put, List.setIfInBounds_toArray, List.set_cons_zero, List.set_cons_succ])
  refine wpAnyT_ready (rs := [7]) (by kernel_rfl) (by simp) ?_
  refine AllReadyT.cons spat7 true (by kernel_rfl) (fun K' hK' => ?_) AllReadyT.nil
  go_simp
  refine (sclone_any _ W6 hn).mono ?_
  rintro e W5 ⟨rfl, HBs⟩
  have HX5 := Lib.hid (Bx.over HBs.out HX6.out)
  have HAX5 : Hid (Ax W5 F I J a S sv (.slice As S.funs.length cs) tv mb ib nb) := Lib.hid (HAX6.out.stays HBs.out.size (fun g hg => HBs.out.block g (HAX6.out.lt g hg)) (fun _ h => h) fun g hg => Nat.lt_of_lt_of_le (HAX6.out.lt g hg) HBs.out.size)
  have HC5 : Hid (W5.cell? ⟨a, 3, none⟩ = some (.slice As N cs)) := Lib.hid (by have := HAX5.out.box.cell 3; rw [HN.out] at this; exact this)
  refine hK'.out _ _ (HSM _ ⟨HC5.out, HX5.out⟩) (fun hH => ?_)
  clear hK' K' HBs HX6 HAX6
  (try simp only [Act.put, List.setIfInBounds_toArray, List.set_cons_zero, List.set_cons_succ])
  refine wpAnyT_ready (rs := [10]) (by kernel_rfl) (by simp) ?_
  refine AllReadyT.cons spat10 true (by kernel_rfl) (fun K' hK' => ?_) AllReadyT.nil
  go_simp
  refine (clone_any (Lib.hid (hr.out.below HX5.out.1)) hl).mono ?_
  rintro e W7 ⟨A', c', rfl, HRK, HBk⟩
  have HX7 := Lib.hid (Bx.over HBk.out HX5.out)
  have HAX7 : Hid (Ax W7 F I J a S sv (.slice As S.funs.length cs) tv mb ib nb) := Lib.hid (HAX5.out.stays HBk.out.size (fun g hg => HBk.out.block g (HAX5.out.lt g hg)) (fun _ h => h) fun g hg => Nat.lt_of_lt_of_le (HAX5.out.lt g hg) HBk.out.size)
  have HNW7 : Hid (∀ g, Nw W5 W7 g → (¬ F g ∧ Ty W7 g 3) ∧ w.heap.size ≤ g) := Lib.hid fun g hg => ⟨⟨fun hF => by have := HAX5.out.lt g hF; have := hg.1; omega, hg.2.2⟩, Nat.le_trans HX5.out.1.size hg.1⟩
  have HC7 : Hid (W7.cell? ⟨a, 3, none⟩ = some (.slice As N cs)) := Lib.hid (by have := HAX7.out.box.cell 3; rw [HN.out] at this; exact this)
  generalize Nw W5 W7 = K at *
  refine hK'.out _ _ (HSM _ ⟨HC7.out, HX7.out⟩) (fun hH => ?_)
  clear hK' K' HBk HX5 HAX5
  (try simp only [Act.put, List.setIfInBounds_toArray, List.set_cons_zero, List.set_cons_succ])
  refine wpAnyT_take (i := 13) (v := ?_) spat13 (by kernel_rfl) (by kernel_rfl) (by kernel_rfl) (by decide) (fun _ _ _ h => h) (Or.inl ⟨by rfl, ?_⟩) HMO hH ?_
  rotate_left
  · (intro w hSw; clear hSw; go_simp; (try with_reducible rfl))
  (try simp only [Act.put, List.setIfInBounds_toArray, List.set_cons_zero, List.set_cons_succ])
  refine wpAnyT_ready (rs := [14]) (by kernel_rfl) (by simp) ?_
  refine AllReadyT.cons spat14 true (by kernel_rfl) (fun K' hK' => ?_) AllReadyT.nil
  have hla := HAX7.out.box.lt
  go_simp
  refine hK'.out _ _ (HSM _ ⟨(World.cell?_alloc_lt _ _ _ hla).trans HC7.out, HX7.out.alloc _⟩) (fun hH => ?_)
  clear hK' K' hla
  (try simp only [Act.put, List.setIfInBounds_toArray, List.set_cons_zero, List.set_cons_succ])
  refine wpAnyT_ready (rs := [15]) (by kernel_rfl) (by simp) ?_
  refine AllReadyT.cons spat15 false (by kernel_rfl) (fun K' hK' => ?_) AllReadyT.nil
  obtain ⟨xs, hto, hch, htF⟩ := HAX7.out.fns
  have HTO := Lib.hid hto
  have HCH := Lib.hid hch
  rw [HN.out] at hto
  have HN2 : Hid (N ≤ 1000000) := Lib.hid (HN.out ▸ HS.out.f)
  have hn2 := HN2.out
  obtain ⟨i0, hi, hz0, hz1, hz2⟩ := info_parts infoFun
  refine step_append_lies _ rfl _ _ 31 rfl 0 63 i0 _ 3 48 Tryd.underlying31 hi hz0 hz1 hz2 rfl (by decide) (.slice As N cs) N xs rfl (hto.alloc _) ⟨W7.heap.size, 0, none⟩ 1 1 [.string f.name, .slice A' f.args.length c', .int .i64 f.res] rfl rfl ?c1 ?c2 (by decide) ?c3 ?c4 ?c5 (W7.heap.size + 1) (by simp) ?_
  case c1 => exact new3 _ _ _ _ _
  case c2 => exact fun u hu => by simp only [List.mem_cons, List.not_mem_nil, or_false] at hu; rcases hu with rfl | rfl | rfl <;> rfl
  case c3 => unfold maxLen; omega
  case c4 => omega
  case c5 => omega
  intro g' c2 W8 hown hgrow hat hlt3
  rw [← HN.out] at hown hat hgrow
  have HP1 := Lib.hid (HAX7.out.pushF1 HTO.out hown hgrow)
  have HP2 : Hid (∀ W5, Sft (fun g => g = mb) (W8.setCell ⟨a, 3, none⟩ (.slice (some ⟨g', 0, none⟩) (S.funs.length + 1) c2)) W5 → Mp W5 mb S.sorts → Ar W5 (fun g => F g ∨ K g ∨ g = g') a { S with funs := S.funs ++ [f] } ∧ Sft F W7 W5 ∧ ∀ g, (F g ∨ K g ∨ g = g') → F g ∨ K g ∨ W7.heap.size ≤ g) := Lib.hid fun W5 h5 hm => HAX7.out.pushF2 (K := K) (s := f) (fun g hg => (HNW7.out g hg).1) HRK.out HCH.out HTO.out hown hgrow hat hlt3 h5 hm
  rw [HN.out] at HP1 HP2
  have HB8 := Lib.hid HP1.out.1
  refine hK'.out _ _ (HSF _) (fun hH => ?_)
  clear hK' K' hown hgrow hat hto hch htF
  (try simp only [Act.put, List.setIfInBounds_toArray, List.set_cons_zero, List.set_cons_succ])
  refine wpAnyT_take (i := 16) (v := ?_) spat16 (by kernel_rfl) (by kernel_rfl) (by kernel_rfl) (by decide) (fun _ _ _ h => h) (Or.inl ⟨by rfl, ?_⟩) HMO hH ?_
  rotate_left
  · (intro w hSw; clear hSw; go_simp; (try with_reducible rfl))
  (try simp only [Act.put, List.setIfInBounds_toArray, List.set_cons_zero, List.set_cons_succ])
  refine wpAnyT_take (i := 17) (v := ?_) spat17 (by kernel_rfl) (by kernel_rfl) (by kernel_rfl) (by decide) (fun _ _ _ h => h) (Or.inl ⟨by rfl, ?_⟩) HMO hH ?_
  rotate_left
  · (intro w hSw; clear hSw; go_simp; (try with_reducible rfl))
  (try simp only [Act.put, List.setIfInBounds_toArray, List.set_cons_zero, List.set_cons_succ])
  refine wpAnyT_ready (rs := [18]) (by kernel_rfl) (by simp) ?_
  refine AllReadyT.cons spat18 false (by kernel_rfl) (fun K' hK' => ?_) AllReadyT.nil
  have d1 := HB8.out.cell 3
  have df := HB8.out.frozen 3
  have dl := HB8.out.lt
  go_simp
  refine hK'.out _ _ (HSF _) (fun hH => ?_)
  clear hK' K' d1 df dl
  (try simp only [Act.put, List.setIfInBounds_toArray, List.set_cons_zero, List.set_cons_succ])
  refine wpAnyT_done (by kernel_rfl) ?_ _
  clear HMO HSP HSM HSF hH
  have HB9 := Lib.hid HP1.out.2.1
  have HM9 := Lib.hid HP1.out.2.2.1
  clear HP1 HB8
  generalize World.setCell W8 _ _ = W9 at *
  have HEND : Hid (ArEnd w W9 F a { S with funs := S.funs ++ [f] }) := Lib.hid (by
    obtain ⟨e1, e2, e3⟩ := HP2.out W9 (Sft.refl _ _) HM9.out
    refine ⟨_, e1, (Sft.of_below HX7.out.1).trans e2 (fun _ h => .inl h), fun g hg => ?_⟩
    rcases e3 g hg with h | h | h
    · exact .inl h
    · exact .inr (HNW7.out g h).2
    · exact .inr (Nat.le_trans HX7.out.1.size h))
  have c3 := HB9.out.cell 3
  have hla := HB9.out.lt
  have hn3 := HN3.out
  have hw1 : ((N : Int) + 1) - 1 = (N : Int) := by omega
  clear HP2 HM9
  go_wp2_with fail
  go_ret2
  exact ⟨by rw [HN.out]; rfl, HEND⟩

theorem fun_any {w : World} {F G : Nat → Prop} {a : Nat} {S S' : St} (H : Hid (Ar w F a S)) {f : Fnn} (hn : f.name.size ≤ 1000000) {A : Option Addr} {c : Nat} (hr : Hid (Ri w G f.args A c)) (hl : f.args.length ≤ 1000000) (HS : Hid (Sz S)) {z er : Int} (hz : S.fun_ f = (z, er, S')) :
    Calls Tryd.prog 28 #[.pointer (some ⟨a, 0, none⟩), .agg #[.string f.name, .slice A f.args.length c, .int .i64 f.res]] w fun e w' => e = .returned (.tuple #[.int .i64 z, .int .i64 er]) ∧ Hid (ArEnd w w' F a S') := by
  unfold St.fun_ at hz
  cases ha : f.args.all S.isSort with
  | false =>
    rw [if_pos (.inl ha)] at hz
    obtain ⟨rfl, rfl, rfl⟩ : 0 = z ∧ 2 = er ∧ S = S' := by simpa using hz
    exact fun_bad1 H hn hr hl HS (Lib.hid ha)
  | true =>
    cases hb : S.isSort f.res with
    | false =>
      rw [if_pos (.inr hb)] at hz
      obtain ⟨rfl, rfl, rfl⟩ : 0 = z ∧ 2 = er ∧ S = S' := by simpa using hz
      exact fun_bad2 H hn hr hl HS (Lib.hid ha) (Lib.hid hb)
    | true =>
      rw [if_neg (by rw [ha, hb]; simp)] at hz
      obtain ⟨rfl, rfl, rfl⟩ : (S.funs.length : Int) = z ∧ 0 = er ∧ { S with funs := S.funs ++ [f] } = S' := by
        simp only [Prod.mk.injEq] at hz
        exact hz
      exact fun_new H hn hr hl HS (Lib.hid ha) (Lib.hid hb)
end Go.Proofs.YtdnhhfhjjimcgaaDoor.dg
