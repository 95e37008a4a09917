/- Package dag: a sort is asked for. -/
import Derived.StillTailTactics
import Derived.Test.YtdnhhfhjjimcgaaDoorGz
import Derived.Test.YtdnhhfhjjimcgaaDoorHd
import Derived.Test.YtdnhhfhjjimcgaaDoorHe
namespace Go.Proofs.YtdnhhfhjjimcgaaDoor.dg
open Go Go.RowKit

theorem new2 (w : World) (t : TypeId) (a b : Value) : ∀ j u, [a, b][j]? = some u → (w.alloc (.cells #[a, b] t)).cell? ((⟨w.heap.size, 0, none⟩ : Addr).add j) = some u := by
  intro j u hu
  rw [Go.WideShapes.add_plain, World.cell?_alloc_new]
  match j, hu with
  | 0, hu => simpa using hu
  | 1, hu => simpa using hu
theorem new3 (w : World) (t : TypeId) (a b c : Value) : ∀ j u, [a, b, c][j]? = some u → (w.alloc (.cells #[a, b, c] t)).cell? ((⟨w.heap.size, 0, none⟩ : Addr).add j) = some u := by
  intro j u hu
  rw [Go.WideShapes.add_plain, World.cell?_alloc_new]
  match j, hu with
  | 0, hu => simpa using hu
  | 1, hu => simpa using hu
  | 2, hu => simpa using hu
theorem sorts_small {S : St} (HS : Sz S) {l : List Int} (h : l.all S.isSort = true) : ∀ x ∈ l, 0 ≤ x ∧ x < 10000000 := by
  intro x hx
  have := List.all_eq_true.1 h x hx
  simp [St.isSort] at this
  have := HS.s
  omega
theorem argT_size {l : List Int} (hl : l.length ≤ 1000000) (h : ∀ x ∈ l, 0 ≤ x ∧ x < 10000000) : (argT l).size ≤ 1000000000 := by
  have h1 := argB_len h
  have h2 : (argT l).size = (argB l).length := by show (argB l).toArray.size = _; simp
  omega
theorem Sft.drew0 (X : Nat → Prop) (w : World) : Sft X w w.drew := ⟨rfl, rfl, rfl, Nat.le_refl _, fun _ _ _ => rfl⟩

set_option maxRecDepth 100000 in
set_option maxHeartbeats 8000000 in
theorem sort_bad {w : World} {F G : Nat → Prop} {a : Nat} {S : St} (H : Hid (Ar w F a S)) (HTAB : Hid (Tab w)) {n : ByteArray} (hn : n.size ≤ 1000000) {l : List Int} {A : Option Addr} {c : Nat} (hr : Hid (Ri w G l A c)) (hl : l.length ≤ 1000000) (HS : Hid (Sz S)) (HA : Hid (l.all S.isSort = false)) :
    Calls Tryd.prog 27 #[.pointer (some ⟨a, 0, none⟩), .string n, .slice A l.length c] w fun e w' => e = .returned (.tuple #[.int .i64 0, .int .i64 2]) ∧ Hid (ArEnd w w' F a S) := by
  go_enter Tryd.func27, Tryd.ntmps27
  go_wp2_with (go_at_call 42; refine (areSorts_any H hr hl).mono ?_; rw [HA.out]; rintro e w5 ⟨rfl, rfl⟩)
  go_ret2
  exact ⟨rfl, Lib.hid (ArEnd.same H.out (Below.refl _ _))⟩

set_option maxRecDepth 100000 in
set_option maxHeartbeats 8000000 in
theorem sort_there {w : World} {F G : Nat → Prop} {a : Nat} {S : St} (H : Hid (Ar w F a S)) (HTAB : Hid (Tab w)) {n : ByteArray} (hn : n.size ≤ 1000000) {l : List Int} {A : Option Addr} {c : Nat} (hr : Hid (Ri w G l A c)) (hl : l.length ≤ 1000000) (HS : Hid (Sz S)) (HA : Hid (l.all S.isSort = true)) {p : Nat} (HO : Hid (lookS S.sorts n l = some p)) :
    Calls Tryd.prog 27 #[.pointer (some ⟨a, 0, none⟩), .string n, .slice A l.length c] w fun e w' => e = .returned (.tuple #[.int .i64 (p : Int), .int .i64 0]) ∧ Hid (ArEnd w w' F a S) := by
  have HV := Lib.hid (sorts_small HS.out HA.out)
  have HTS := Lib.hid (argT_size hl HV.out)
  go_enter Tryd.func27, Tryd.ntmps27
  go_upto_region 3 with (go_at_call 42; refine (areSorts_any H hr hl).mono ?_; rw [HA.out]; rintro e w5 ⟨rfl, rfl⟩)
  go_upto_region 4 with (go_at_call 43; refine (keyOf_any HTAB hn hr hl HV).mono ?_; rintro e W2 ⟨rfl, HB2⟩)
  generalize hW : World.alloc _ _ = W3
  have HB3 : Hid (Below w.heap.size w W3) := Lib.hid (hW ▸ HB2.out.alloc HB2.out.size _)
  obtain ⟨kb, hkb⟩ : ∃ kb, W2.heap.size = kb := ⟨_, rfl⟩
  have HK3 : Hid (Bk W3 kb 91 #[.string n, .string (argT l)]) := Lib.hid (by rw [← hkb]; exact hW ▸ Bk.new W2 _ _)
  have HKB : Hid (w.heap.size ≤ kb) := Lib.hid (by rw [← hkb]; exact HB2.out.size)
  rw [hkb]
  clear hW hkb HB2
  obtain ⟨I, J, sv, fv, tv, mb, ib, nb, hax⟩ := (H.out.below HB3.out)
  have HAX := Lib.hid hax
  have HMP := Lib.hid hax.map
  have c2 := hax.box.cell 2
  have k0 := HK3.out.cell 0
  have k1 := HK3.out.cell 1
  have hlook : ∀ q, (Instr.lookup 73 (.map (some mb)) (.agg #[.string n, .string (argT l)]) true).run Tryd.prog (W3.drewN q) = .ok (.tuple #[.int .i64 (p : Int), .bool true]) (W3.drewN q) := fun q => by
    have := (hax.map.stays (w' := W3.drewN q) rfl).look (n := n) (a := l) hn HTS.out
    rw [HO.out] at this
    exact this
  clear hax
  go_quiet (fail)
  have HB4 : Hid (Below w.heap.size w (W3.drewN nq)) := Lib.hid (below_drewN HB3.out nq)
  have HK4 : Hid (Bk (W3.drewN nq) kb 91 #[.string n, .string (argT l)]) := HK3
  have HAX4 : Hid (Ax (W3.drewN nq) F I J a S sv fv tv mb ib nb) := Lib.hid (HAX.out.stays (Nat.le_refl _) (fun _ _ => rfl) (fun _ h => h) HAX.out.lt)
  clear c2 k0 k1 hlook HAX HMP HB3 HK3
  generalize W3.drewN nq = W4 at *
  go_wp2_with fail
  go_ret2
  exact ⟨rfl, Lib.hid (ArEnd.same H.out HB4.out)⟩

set_option maxRecDepth 100000 in
set_option maxHeartbeats 8000000 in
theorem sort_new {w : World} {F G : Nat → Prop} {a : Nat} {S : St} (H : Hid (Ar w F a S)) (HTAB : Hid (Tab w)) {n : ByteArray} (hn : n.size ≤ 1000000) {l : List Int} {A : Option Addr} {c : Nat} (hr : Hid (Ri w G l A c)) (hl : l.length ≤ 1000000) (HS : Hid (Sz S)) (HA : Hid (l.all S.isSort = true)) (HO : Hid (lookS S.sorts n l = none)) :
    Calls Tryd.prog 27 #[.pointer (some ⟨a, 0, none⟩), .string n, .slice A l.length c] w fun e w' => e = .returned (.tuple #[.int .i64 (S.sorts.length : Int), .int .i64 0]) ∧ Hid (ArEnd w w' F a { S with sorts := S.sorts ++ [⟨n, l⟩] }) := by
  have HV := Lib.hid (sorts_small HS.out HA.out)
  have HTS := Lib.hid (argT_size hl HV.out)
  go_enter Tryd.func27, Tryd.ntmps27
  go_upto_region 3 with (go_at_call 42; refine (areSorts_any H hr hl).mono ?_; rw [HA.out]; rintro e w5 ⟨rfl, rfl⟩)
  go_upto_region 4 with (go_at_call 43; refine (keyOf_any HTAB hn hr hl HV).mono ?_; rintro e W2 ⟨rfl, HB2⟩)
  generalize hW : World.alloc _ _ = W3
  have HB3 : Hid (Below w.heap.size w W3) := Lib.hid (hW ▸ HB2.out.alloc HB2.out.size _)
  obtain ⟨kb, hkb⟩ : ∃ kb, W2.heap.size = kb := ⟨_, rfl⟩
  have HK3 : Hid (Bk W3 kb 91 #[.string n, .string (argT l)]) := Lib.hid (by rw [← hkb]; exact hW ▸ Bk.new W2 _ _)
  have HKB : Hid (w.heap.size ≤ kb) := Lib.hid (by rw [← hkb]; exact HB2.out.size)
  rw [hkb]
  clear hW hkb HB2
  obtain ⟨I, J, sv, fv, tv, mb, ib, nb, hax⟩ := (H.out.below HB3.out)
  have HAX := Lib.hid hax
  have HMP := Lib.hid hax.map
  have c2 := hax.box.cell 2
  have k0 := HK3.out.cell 0
  have k1 := HK3.out.cell 1
  have hlook : ∀ q, (Instr.lookup 73 (.map (some mb)) (.agg #[.string n, .string (argT l)]) true).run Tryd.prog (W3.drewN q) = .ok (.tuple #[.int .i64 0, .bool false]) (W3.drewN q) := fun q => by
    have := (hax.map.stays (w' := W3.drewN q) rfl).look (n := n) (a := l) hn HTS.out
    rw [HO.out] at this
    exact this
  clear hax
  go_quiet (fail)
  have HB4 : Hid (Below w.heap.size w (W3.drewN nq)) := Lib.hid (below_drewN HB3.out nq)
  have HK4 : Hid (Bk (W3.drewN nq) kb 91 #[.string n, .string (argT l)]) := HK3
  have HAX4 : Hid (Ax (W3.drewN nq) F I J a S sv fv tv mb ib nb) := Lib.hid (HAX.out.stays (Nat.le_refl _) (fun _ _ => rfl) (fun _ h => h) HAX.out.lt)
  clear c2 k0 k1 hlook HAX HMP HB3 HK3
  generalize W3.drewN nq = W4 at *
  obtain ⟨As, cs, hsv, _⟩ := HAX4.out.srt.slice
  subst hsv
  obtain ⟨N, hN⟩ : ∃ N, S.sorts.length = N := ⟨_, rfl⟩
  have HN := Lib.hid hN
  have c1 := HAX4.out.box.cell 1
  rw [hN] at c1
  clear hN
  go_upto_region 7 with fail
  clear c1
  have HC1 : Hid (W4.drew.cell? ⟨a, 1, none⟩ = some (.slice As N cs)) := Lib.hid (by have := HAX4.out.box.cell 1; rw [HN.out] at this; exact this)
  obtain ⟨S', hSd⟩ : ∃ S' : Bool → World → Prop, S' = fun q W => q = true → W.cell? ⟨a, 1, none⟩ = some (.slice As N cs) ∧ Bk W kb 91 #[.string n, .string (argT l)] := ⟨_, rfl⟩
  have HMO : ∀ w, S' true w → S' false w := by rw [hSd]; intro w _ h; cases h
  have HSP : ∀ W : World, S' true W → W.cell? ⟨a, 1, none⟩ = some (.slice As N cs) ∧ Bk W kb 91 #[.string n, .string (argT l)] := fun W h => by rw [hSd] at h; exact h rfl
  have HSM : ∀ W : World, W.cell? ⟨a, 1, none⟩ = some (.slice As N cs) ∧ Bk W kb 91 #[.string n, .string (argT l)] → S' true W := fun W h => by rw [hSd]; exact fun _ => h
  have HSF : ∀ W : World, S' false W := fun W => by rw [hSd]; intro h; cases h
  clear hSd
  refine wp_region_T S' 11 (by kernel_rfl) (HSM _ ⟨HC1.out, HK4.out⟩) (fun hH => ?_)
  have HB6 : Hid (Below w.heap.size w W4.drew) := Lib.hid HB4.out.drew
  have HK6 : Hid (Bk W4.drew kb 91 #[.string n, .string (argT l)]) := HK4
  have HAX6 : Hid (Ax W4.drew F I J a S (.slice As S.sorts.length cs) fv tv mb ib nb) := Lib.hid (HAX4.out.stays (Nat.le_refl _) (fun _ _ => rfl) (fun _ h => h) HAX4.out.lt)
  clear HB4 HK4 HAX4
  generalize W4.drew = W6 at *
  refine wpAnyT_take (i := 0) (v := ?_) spat0 (by kernel_rfl) (by kernel_rfl) (by kernel_rfl) (by decide) (fun _ _ _ h => h) (Or.inl ⟨by rfl, ?_⟩) HMO hH ?_
  rotate_left
  · (intro w hSw; clear hSw; go_simp; (try with_reducible rfl))
  (try simp only [Act.put, List.setIfInBounds_toArray, List.set_cons_zero, List.set_cons_succ])
  refine wpAnyT_take (i := 1) (v := ?_) spat1 (by kernel_rfl) (by kernel_rfl) (by kernel_rfl) (by decide) (fun _ _ _ h => h) (Or.inl ⟨by rfl, ?_⟩) HMO hH ?_
  rotate_left
  · (intro w hSw; clear hSw; go_simp; (try with_reducible rfl))
  (try simp only [Act.put, List.setIfInBounds_toArray, List.set_cons_zero, List.set_cons_succ])
  refine wpAnyT_take (i := 2) (v := ?_) spat2 (by kernel_rfl) (by kernel_rfl) (by kernel_rfl) (by decide) (fun _ _ _ h => h) (Or.inl ⟨by rfl, ?_⟩) HMO hH ?_
  rotate_left
  · (intro w hSw; clear hSw; go_simp; (try with_reducible rfl))
  (try simp only [Act.put, List.setIfInBounds_toArray, List.set_cons_zero, List.set_cons_succ])
  refine wpAnyT_take (i := 3) (v := ?_) spat3 (by kernel_rfl) (by kernel_rfl) (by kernel_rfl) (by decide) (fun _ _ _ h => h) (Or.inl ⟨by rfl, ?_⟩) HMO hH ?_
  rotate_left
  · (intro w hSw; clear hSw; go_simp; (try with_reducible rfl))
  (try simp only [Act.put, List.setIfInBounds_toArray, List.set_cons_zero, List.set_cons_succ])
  refine wpAnyT_read (i := 4) (v := ?_) [11] spat4 (by kernel_rfl) (by kernel_rfl) (by kernel_rfl) (by decide) (by kernel_rfl) (fun _ _ _ h => h) (Or.inl ⟨by rfl, ?_⟩) hH ?_
  rotate_left
  · (intro w hSw; obtain ⟨hf, hb⟩ := HSP _ hSw; have b0 := hb.cell 0; have b1 := hb.cell 1; clear hb; clear hSw; go_simp; (try with_reducible rfl))
  (try simp only [Act.put, List.setIfInBounds_toArray, List.set_cons_zero, List.set_cons_succ])
  refine wpAnyT_take (i := 5) (v := ?_) spat5 (by kernel_rfl) (by kernel_rfl) (by kernel_rfl) (by decide) (fun _ _ _ h => h) (Or.inl ⟨by rfl, ?_⟩) HMO hH ?_
  rotate_left
  · (intro w hSw; clear hSw; go_simp; (try with_reducible rfl))
  (try simp only [Act.put, List.setIfInBounds_toArray, List.set_cons_zero, List.set_cons_succ])
  refine wpAnyT_read (i := 6) (v := ?_) [9, 10, 11] spat6 (by kernel_rfl) (by kernel_rfl) (by kernel_rfl) (by decide) (by kernel_rfl) (fun _ _ _ h => h) (Or.inl ⟨by rfl, ?_⟩) hH ?_
  rotate_left
  · (intro w hSw; obtain ⟨hf, hb⟩ := HSP _ hSw; have b0 := hb.cell 0; have b1 := hb.cell 1; clear hb; clear hSw; go_simp; (try with_reducible rfl))
  (try simp only [Act.put, List.setIfInBounds_toArray, List.set_cons_zero, List.set_cons_succ])
  refine wpAnyT_take (i := 7) (v := ?_) spat7 (by kernel_rfl) (by kernel_rfl) (by kernel_rfl) (by decide) (fun _ _ _ h => h) (Or.inl ⟨by rfl, ?_⟩) HMO hH ?_
  rotate_left
  · (intro w hSw; clear hSw; go_simp; (try with_reducible rfl))
  (try simp only [Act.put, List.setIfInBounds_toArray, List.set_cons_zero, List.set_cons_succ])
  refine wpAnyT_ready (rs := [8]) (by kernel_rfl) (by simp) ?_
  refine AllReadyT.cons spat8 true (by kernel_rfl) (fun K' hK' => ?_) AllReadyT.nil
  go_simp
  refine (clone_any (Lib.hid (hr.out.below HB6.out)) hl).mono ?_
  rintro e W7 ⟨A', c', rfl, HRK, HBk⟩
  have HB7 := Lib.hid (HB6.out.trans (HBk.out.mono HB6.out.size))
  have HK7 := Lib.hid (HK6.out.below HBk.out HK6.out.lt)
  have HAX7 : Hid (Ax W7 F I J a S (.slice As S.sorts.length cs) fv tv mb ib nb) := Lib.hid (HAX6.out.stays HBk.out.size (fun g hg => HBk.out.block g (HAX6.out.lt g hg)) (fun _ h => h) fun g hg => Nat.lt_of_lt_of_le (HAX6.out.lt g hg) HBk.out.size)
  have HNW7 : Hid (∀ g, Nw W6 W7 g → (¬ F g ∧ Ty W7 g 3) ∧ w.heap.size ≤ g) := Lib.hid fun g hg => ⟨⟨fun hF => by have := HAX6.out.lt g hF; have := hg.1; omega, hg.2.2⟩, Nat.le_trans HB6.out.size hg.1⟩
  have HC7 : Hid (W7.cell? ⟨a, 1, none⟩ = some (.slice As N cs)) := Lib.hid (by have := HAX7.out.box.cell 1; rw [HN.out] at this; exact this)
  generalize Nw W6 W7 = K at *
  refine hK'.out _ _ (HSM _ ⟨HC7.out, HK7.out⟩) (fun hH => ?_)
  clear hK' K' HBk HB6 HK6 HAX6
  (try simp only [Act.put, List.setIfInBounds_toArray, List.set_cons_zero, List.set_cons_succ])
  refine wpAnyT_take (i := 9) (v := ?_) spat9 (by kernel_rfl) (by kernel_rfl) (by kernel_rfl) (by decide) (fun _ _ _ h => h) (Or.inl ⟨by rfl, ?_⟩) HMO hH ?_
  rotate_left
  · (intro w hSw; clear hSw; go_simp; (try with_reducible rfl))
  (try simp only [Act.put, List.setIfInBounds_toArray, List.set_cons_zero, List.set_cons_succ])
  refine wpAnyT_ready (rs := [10]) (by kernel_rfl) (by simp) ?_
  refine AllReadyT.cons spat10 true (by kernel_rfl) (fun K' hK' => ?_) AllReadyT.nil
  have hla := HAX7.out.box.lt
  go_simp
  refine hK'.out _ _ (HSM _ ⟨(World.cell?_alloc_lt _ _ _ hla).trans HC7.out, HK7.out.alloc _⟩) (fun hH => ?_)
  clear hK' K' hla
  (try simp only [Act.put, List.setIfInBounds_toArray, List.set_cons_zero, List.set_cons_succ])
  refine wpAnyT_ready (rs := [11]) (by kernel_rfl) (by simp) ?_
  refine AllReadyT.cons spat11 false (by kernel_rfl) (fun K' hK' => ?_) AllReadyT.nil
  obtain ⟨xs, hto, hch, htF⟩ := HAX7.out.srt
  have HTO := Lib.hid hto
  have HCH := Lib.hid hch
  rw [HN.out] at hto
  have HN2 : Hid (N ≤ 1000000) := Lib.hid (HN.out ▸ HS.out.s)
  have hn2 := HN2.out
  obtain ⟨i0, hi, hz0, hz1, hz2⟩ := info_parts infoSort
  refine step_append_lies _ rfl _ _ 30 rfl 0 67 i0 _ 2 40 Tryd.underlying30 hi hz0 hz1 hz2 rfl (by decide) (.slice As N cs) N xs rfl (hto.alloc _) ⟨W7.heap.size, 0, none⟩ 1 1 [.string n, .slice A' l.length c'] rfl rfl ?c1 ?c2 (by decide) ?c3 ?c4 ?c5 (W7.heap.size + 1) (by simp) ?_
  case c1 => exact new2 _ _ _ _
  case c2 => exact fun u hu => by simp only [List.mem_cons, List.not_mem_nil, or_false] at hu; rcases hu with rfl | rfl <;> rfl
  case c3 => unfold maxLen; omega
  case c4 => omega
  case c5 => omega
  intro g' c2 W8 hown hgrow hat hlt3
  rw [← HN.out] at hown hat hgrow
  have HP1 := Lib.hid (HAX7.out.pushS1 HTO.out hown hgrow)
  have HP2 : Hid (∀ W5, Sft (fun g => g = mb) (W8.setCell ⟨a, 1, none⟩ (.slice (some ⟨g', 0, none⟩) (S.sorts.length + 1) c2)) W5 → Mp W5 mb (S.sorts ++ [⟨n, l⟩]) → Ar W5 (fun g => F g ∨ K g ∨ g = g') a { S with sorts := S.sorts ++ [⟨n, l⟩] } ∧ Sft F W7 W5 ∧ ∀ g, (F g ∨ K g ∨ g = g') → F g ∨ K g ∨ W7.heap.size ≤ g) := Lib.hid fun W5 h5 hm => HAX7.out.pushS2 (K := K) (s := ⟨n, l⟩) (fun g hg => (HNW7.out g hg).1) HRK.out HCH.out HTO.out hown hgrow hat hlt3 h5 hm
  rw [HN.out] at HP1 HP2
  have HB8 := Lib.hid HP1.out.1
  refine hK'.out _ _ (HSF _) (fun hH => ?_)
  clear hK' K' hown hgrow hat hto hch htF
  (try simp only [Act.put, List.setIfInBounds_toArray, List.set_cons_zero, List.set_cons_succ])
  refine wpAnyT_take (i := 12) (v := ?_) spat12 (by kernel_rfl) (by kernel_rfl) (by kernel_rfl) (by decide) (fun _ _ _ h => h) (Or.inl ⟨by rfl, ?_⟩) HMO hH ?_
  rotate_left
  · (intro w hSw; clear hSw; go_simp; (try with_reducible rfl))
  (try simp only [Act.put, List.setIfInBounds_toArray, List.set_cons_zero, List.set_cons_succ])
  refine wpAnyT_take (i := 13) (v := ?_) spat13 (by kernel_rfl) (by kernel_rfl) (by kernel_rfl) (by decide) (fun _ _ _ h => h) (Or.inl ⟨by rfl, ?_⟩) HMO hH ?_
  rotate_left
  · (intro w hSw; clear hSw; go_simp; (try with_reducible rfl))
  (try simp only [Act.put, List.setIfInBounds_toArray, List.set_cons_zero, List.set_cons_succ])
  refine wpAnyT_ready (rs := [14]) (by kernel_rfl) (by simp) ?_
  refine AllReadyT.cons spat14 false (by kernel_rfl) (fun K' hK' => ?_) AllReadyT.nil
  have d1 := HB8.out.cell 1
  have df := HB8.out.frozen 1
  have dl := HB8.out.lt
  have HK9 : Hid (Bk (W8.setCell ⟨a, 1, none⟩ (.slice (some ⟨g', 0, none⟩) (N + 1) c2)) kb 91 #[.string n, .string (argT l)]) := Lib.hid ((HP1.out.2.2.2.2.1 kb _ HK7.out.ty (by decide) (by decide)).trans HK7.out)
  go_simp
  refine hK'.out _ _ (HSF _) (fun hH => ?_)
  clear hK' K' d1 df dl
  (try simp only [Act.put, List.setIfInBounds_toArray, List.set_cons_zero, List.set_cons_succ])
  refine wpAnyT_done (by kernel_rfl) ?_ _
  clear HMO HSP HSM HSF hH
  have HB9 := Lib.hid HP1.out.2.1
  have HM9 := Lib.hid HP1.out.2.2.1
  clear HP1 HB8
  generalize World.setCell W8 _ _ = W9 at *
  go_upto_region 8 with fail
  refine wp_region_still_tail 6 (by kernel_rfl) (by kernel_rfl) ?_
  simp only [List.take_succ_cons, List.take_zero, List.drop_succ_cons, List.drop_zero]
  show wpStill _ _ W9.drew (fun a' => wpList _ _ _ _ a' W9.drew) _ _
  obtain ⟨WM, hrun, hmp, htu⟩ := (HM9.out.stays (w' := W9.drew) rfl).add (n := n) (a := l) hn HTS.out HS.out.s HO.out
  rw [HN.out] at hrun
  have HEND : Hid (ArEnd w WM F a { S with sorts := S.sorts ++ [⟨n, l⟩] }) := Lib.hid (by
    obtain ⟨e1, e2, e3⟩ := HP2.out WM ((Sft.drew0 _ W9).trans (Sft.of_grown htu.grown (fun r hr => by injection hr with hr; exact hr.symm)) (fun _ h => .inl h)) hmp
    refine ⟨_, e1, (Sft.of_below HB7.out).trans e2 (fun _ h => .inl h), fun g hg => ?_⟩
    rcases e3 g hg with h | h | h
    · exact .inl h
    · exact .inr (HNW7.out g h).2
    · exact .inr (Nat.le_trans HB7.out.size h))
  have hrun2 : (Instr.mapUpdate 73 (.map (some mb)) (.agg #[.string n, .string (argT l)]) (.int .i64 (N : Int))).run Tryd.prog W9.drew = .ok () WM := hrun
  have c2 : W9.drew.cell? ⟨a, 2, none⟩ = some (.map (some mb)) := HB9.out.cell 2
  have k0 : W9.drew.cell? ⟨kb, 0, none⟩ = some (.string n) := HK9.out.cell 0
  have k1 : W9.drew.cell? ⟨kb, 1, none⟩ = some (.string (argT l)) := HK9.out.cell 1
  have hla : a < W9.drew.heap.size := HB9.out.lt
  have hlk : kb < W9.drew.heap.size := HK9.out.lt
  clear hrun hmp htu HP2 HB9 HM9 HK9
  generalize W9.drew = W10 at *
  repeat still_step
  refine wpStill_nil ?_
  go_wp2_with fail
  go_ret2
  exact ⟨by rw [HN.out]; rfl, HEND⟩

theorem sort_any {w : World} {F G : Nat → Prop} {a : Nat} {S S' : St} (H : Hid (Ar w F a S)) (HTAB : Hid (Tab w)) {n : ByteArray} (hn : n.size ≤ 1000000) {l : List Int} {A : Option Addr} {c : Nat} (hr : Hid (Ri w G l A c)) (hl : l.length ≤ 1000000) (HS : Hid (Sz S)) {z er : Int} (hz : S.sort n l = (z, er, S')) :
    Calls Tryd.prog 27 #[.pointer (some ⟨a, 0, none⟩), .string n, .slice A l.length c] w fun e w' => e = .returned (.tuple #[.int .i64 z, .int .i64 er]) ∧ Hid (ArEnd w w' F a S') := by
  unfold St.sort at hz
  cases ha : l.all S.isSort with
  | false =>
    rw [if_pos ha] at hz
    obtain ⟨rfl, rfl, rfl⟩ : 0 = z ∧ 2 = er ∧ S = S' := by simpa using hz
    exact sort_bad H HTAB hn hr hl HS (Lib.hid ha)
  | true =>
    rw [if_neg (by rw [ha]; simp)] at hz
    cases hp : S.placeS n l with
    | some p =>
      rw [hp] at hz
      obtain ⟨rfl, rfl, rfl⟩ : (p : Int) = z ∧ 0 = er ∧ S = S' := by simpa using hz
      exact sort_there H HTAB hn hr hl HS (Lib.hid ha) (Lib.hid hp)
    | none =>
      rw [hp] at hz
      obtain ⟨rfl, rfl, rfl⟩ : (S.sorts.length : Int) = z ∧ 0 = er ∧ { S with sorts := S.sorts ++ [⟨n, l⟩] } = S' := by
        simp only [Prod.mk.injEq] at hz
        exact hz
      exact sort_new H HTAB hn hr hl HS (Lib.hid ha) (Lib.hid hp)
end Go.Proofs.YtdnhhfhjjimcgaaDoor.dg
