/- Package dag: rows and texts are copied. -/
import Derived.Test.YtdnhhfhjjimcgaaDoorGw
import Derived.Test.YtdnhhfhjjimcgaaDoorShelf
namespace Go.Proofs.YtdnhhfhjjimcgaaDoor.dg
open Go Go.RowKit

theorem infoSort : (Tryd.prog.info? 67).map (fun i => (i.zero, i.size, i.bytes)) = some (some (.agg #[.string ⟨#[]⟩, .slice none 0 0]), 2, 40) := by kernel_rfl
theorem infoFun : (Tryd.prog.info? 63).map (fun i => (i.zero, i.size, i.bytes)) = some (some (.agg #[.string ⟨#[]⟩, .slice none 0 0, .int .i64 0]), 3, 48) := by kernel_rfl
theorem infoEntry : (Tryd.prog.info? 82).map (fun i => (i.zero, i.size, i.bytes)) = some (some (.agg #[.int .i64 0, .int .i64 0, .slice none 0 0, .string ⟨#[]⟩, .int .i64 0, .bool false]), 6, 72) := by kernel_rfl
theorem infoTerm : (Tryd.prog.info? 41).map (fun i => (i.zero, i.size, i.bytes)) = some (some (.agg #[.int .i64 0, .int .i64 0, .slice none 0 0, .string ⟨#[]⟩]), 4, 56) := by kernel_rfl

set_option maxRecDepth 100000 in
set_option maxHeartbeats 2000000 in
theorem cloneInt {w : World} {A : Option Addr} {n c : Nat} {news : List Value} (hA : A = none → n = 0) (hl : news.length = n * 1) (hnews : Hid (∀ ad, A = some ad → ∀ j u, news[j]? = some u → w.cell? (ad.add j) = some u)) (h1 : Hid (∀ u ∈ news, u.oneCell' = true)) (hn : n ≤ 4000000) :
    Calls Tryd.prog 36 #[.slice A n c] w fun e w' => ∃ v', e = .returned v' ∧ Hid (w'.ownsRow w.heap.size 3 1 v' n news) ∧ Hid (Below w.heap.size w w') := by
  obtain ⟨i0, hi, hz0, hz1, hz2⟩ := info_parts infoInt
  have qnil : ∀ (w : World) (a : Option Addr) (n c n' c' : Nat), (binOp .eql 33 (.slice a n c) (.slice none n' c')).run Tryd.prog w = .ok (.bool a.isNone) w := fun w a n c n' c' => Lib.run_eql_slice_nil w _ _ a n c n' c' Tryd.underlying33
  cases A with
  | none =>
    obtain rfl := hA rfl
    obtain rfl : news = [] := List.eq_nil_of_length_eq_zero (by omega)
    go_enter Tryd.func36, Tryd.ntmps36
    go_wp2_with fail
    go_ret
    exact ⟨_, rfl, Lib.hid (World.ownsRow_nil _ _ _ _), Lib.hid (Below.refl _ _)⟩
  | some ad =>
    have HOWN : Hid ((w.alloc (.cells #[] 3)).ownsRow w.heap.size 3 1 (.slice (some ⟨w.heap.size, 0, none⟩) 0 0) 0 []) := Lib.hid (World.ownsRow_made w #[] 0 (by omega) (by unfold maxLen; omega) rfl)
    have HN : Hid (∀ j u, news[j]? = some u → (w.alloc (.cells #[] 3)).cell? (ad.add j) = some u) := Lib.hid fun j u hu => by
      have := hnews.out ad rfl j u hu
      exact (World.cell?_alloc_lt _ _ _ (World.block_lt_of_cell? w _ this)).trans this
    have HL : Hid (news.length = n * 1) := Lib.hid hl
    clear hl hA
    go_enter Tryd.func36, Tryd.ntmps36
    go_wp2_with (at_builtin; refine wpList_append_own _ rfl _ _ 33 rfl w.heap.size 3 i0 _ 1 8 Tryd.underlying33 hi hz0 hz1 hz2 rfl (by decide) _ _ _ rfl HOWN.out ad n c news rfl HL.out HN.out h1.out (by unfold maxLen; omega) (by omega) (by simp) ?_; intro v' W3 hown hgrow _; have HO3 := Lib.hid hown; have HG3 := Lib.hid hgrow; clear hown hgrow)
    go_ret
    refine ⟨_, rfl, Lib.hid (by have := HO3.out; rw [Nat.zero_add, List.nil_append] at this; exact this), ?_⟩
    refine Lib.hid (((Below.refl _ _).alloc (Nat.le_refl _) _).grown HG3.out (by simp) ?_)
    intro k hk
    have hk : some w.heap.size = some k := hk
    injection hk with hk
    omega

set_option maxRecDepth 100000 in
set_option maxHeartbeats 2000000 in
theorem cloneSort {w : World} {A : Option Addr} {n c : Nat} {news : List Value} (hA : A = none → n = 0) (hl : news.length = n * 2) (hnews : Hid (∀ ad, A = some ad → ∀ j u, news[j]? = some u → w.cell? (ad.add j) = some u)) (h1 : Hid (∀ u ∈ news, u.oneCell' = true)) (hn : n ≤ 4000000) :
    Calls Tryd.prog 35 #[.slice A n c] w fun e w' => ∃ v', e = .returned v' ∧ Hid (w'.ownsRow w.heap.size 67 2 v' n news) ∧ Hid (Below w.heap.size w w') := by
  obtain ⟨i0, hi, hz0, hz1, hz2⟩ := info_parts infoSort
  have qnil : ∀ (w : World) (a : Option Addr) (n c n' c' : Nat), (binOp .eql 30 (.slice a n c) (.slice none n' c')).run Tryd.prog w = .ok (.bool a.isNone) w := fun w a n c n' c' => Lib.run_eql_slice_nil w _ _ a n c n' c' Tryd.underlying30
  cases A with
  | none =>
    obtain rfl := hA rfl
    obtain rfl : news = [] := List.eq_nil_of_length_eq_zero (by omega)
    go_enter Tryd.func35, Tryd.ntmps35
    go_wp2_with fail
    go_ret
    exact ⟨_, rfl, Lib.hid (World.ownsRow_nil _ _ _ _), Lib.hid (Below.refl _ _)⟩
  | some ad =>
    have HOWN : Hid ((w.alloc (.cells #[] 67)).ownsRow w.heap.size 67 2 (.slice (some ⟨w.heap.size, 0, none⟩) 0 0) 0 []) := Lib.hid (World.ownsRow_made w #[] 0 (by omega) (by unfold maxLen; omega) rfl)
    have HN : Hid (∀ j u, news[j]? = some u → (w.alloc (.cells #[] 67)).cell? (ad.add j) = some u) := Lib.hid fun j u hu => by
      have := hnews.out ad rfl j u hu
      exact (World.cell?_alloc_lt _ _ _ (World.block_lt_of_cell? w _ this)).trans this
    have HL : Hid (news.length = n * 2) := Lib.hid hl
    clear hl hA
    go_enter Tryd.func35, Tryd.ntmps35
    go_wp2_with (at_builtin; refine wpList_append_own _ rfl _ _ 30 rfl w.heap.size 67 i0 _ 2 40 Tryd.underlying30 hi hz0 hz1 hz2 rfl (by decide) _ _ _ rfl HOWN.out ad n c news rfl HL.out HN.out h1.out (by unfold maxLen; omega) (by omega) (by simp) ?_; intro v' W3 hown hgrow _; have HO3 := Lib.hid hown; have HG3 := Lib.hid hgrow; clear hown hgrow)
    go_ret
    refine ⟨_, rfl, Lib.hid (by have := HO3.out; rw [Nat.zero_add, List.nil_append] at this; exact this), ?_⟩
    refine Lib.hid (((Below.refl _ _).alloc (Nat.le_refl _) _).grown HG3.out (by simp) ?_)
    intro k hk
    have hk : some w.heap.size = some k := hk
    injection hk with hk
    omega

set_option maxRecDepth 100000 in
set_option maxHeartbeats 2000000 in
theorem cloneFun {w : World} {A : Option Addr} {n c : Nat} {news : List Value} (hA : A = none → n = 0) (hl : news.length = n * 3) (hnews : Hid (∀ ad, A = some ad → ∀ j u, news[j]? = some u → w.cell? (ad.add j) = some u)) (h1 : Hid (∀ u ∈ news, u.oneCell' = true)) (hn : n ≤ 4000000) :
    Calls Tryd.prog 37 #[.slice A n c] w fun e w' => ∃ v', e = .returned v' ∧ Hid (w'.ownsRow w.heap.size 63 3 v' n news) ∧ Hid (Below w.heap.size w w') := by
  obtain ⟨i0, hi, hz0, hz1, hz2⟩ := info_parts infoFun
  have qnil : ∀ (w : World) (a : Option Addr) (n c n' c' : Nat), (binOp .eql 31 (.slice a n c) (.slice none n' c')).run Tryd.prog w = .ok (.bool a.isNone) w := fun w a n c n' c' => Lib.run_eql_slice_nil w _ _ a n c n' c' Tryd.underlying31
  cases A with
  | none =>
    obtain rfl := hA rfl
    obtain rfl : news = [] := List.eq_nil_of_length_eq_zero (by omega)
    go_enter Tryd.func37, Tryd.ntmps37
    go_wp2_with fail
    go_ret
    exact ⟨_, rfl, Lib.hid (World.ownsRow_nil _ _ _ _), Lib.hid (Below.refl _ _)⟩
  | some ad =>
    have HOWN : Hid ((w.alloc (.cells #[] 63)).ownsRow w.heap.size 63 3 (.slice (some ⟨w.heap.size, 0, none⟩) 0 0) 0 []) := Lib.hid (World.ownsRow_made w #[] 0 (by omega) (by unfold maxLen; omega) rfl)
    have HN : Hid (∀ j u, news[j]? = some u → (w.alloc (.cells #[] 63)).cell? (ad.add j) = some u) := Lib.hid fun j u hu => by
      have := hnews.out ad rfl j u hu
      exact (World.cell?_alloc_lt _ _ _ (World.block_lt_of_cell? w _ this)).trans this
    have HL : Hid (news.length = n * 3) := Lib.hid hl
    clear hl hA
    go_enter Tryd.func37, Tryd.ntmps37
    go_wp2_with (at_builtin; refine wpList_append_own _ rfl _ _ 31 rfl w.heap.size 63 i0 _ 3 48 Tryd.underlying31 hi hz0 hz1 hz2 rfl (by decide) _ _ _ rfl HOWN.out ad n c news rfl HL.out HN.out h1.out (by unfold maxLen; omega) (by omega) (by simp) ?_; intro v' W3 hown hgrow _; have HO3 := Lib.hid hown; have HG3 := Lib.hid hgrow; clear hown hgrow)
    go_ret
    refine ⟨_, rfl, Lib.hid (by have := HO3.out; rw [Nat.zero_add, List.nil_append] at this; exact this), ?_⟩
    refine Lib.hid (((Below.refl _ _).alloc (Nat.le_refl _) _).grown HG3.out (by simp) ?_)
    intro k hk
    have hk : some w.heap.size = some k := hk
    injection hk with hk
    omega

set_option maxRecDepth 100000 in
set_option maxHeartbeats 2000000 in
theorem cloneInts {w : World} {A : Option Addr} {n c : Nat} {news : List Value} (hA : A = none → n = 0) (hl : news.length = n * 1) (hnews : Hid (∀ ad, A = some ad → ∀ j u, news[j]? = some u → w.cell? (ad.add j) = some u)) (h1 : Hid (∀ u ∈ news, u.oneCell' = true)) (hn : n ≤ 4000000) :
    Calls Tryd.prog 39 #[.slice A n c] w fun e w' => ∃ v', e = .returned v' ∧ Hid (w'.ownsRow w.heap.size 33 1 v' n news) ∧ Hid (Below w.heap.size w w') := by
  obtain ⟨i0, hi, hz0, hz1, hz2⟩ := info_parts infoInts
  have qnil : ∀ (w : World) (a : Option Addr) (n c n' c' : Nat), (binOp .eql 50 (.slice a n c) (.slice none n' c')).run Tryd.prog w = .ok (.bool a.isNone) w := fun w a n c n' c' => Lib.run_eql_slice_nil w _ _ a n c n' c' Tryd.underlying50
  cases A with
  | none =>
    obtain rfl := hA rfl
    obtain rfl : news = [] := List.eq_nil_of_length_eq_zero (by omega)
    go_enter Tryd.func39, Tryd.ntmps39
    go_wp2_with fail
    go_ret
    exact ⟨_, rfl, Lib.hid (World.ownsRow_nil _ _ _ _), Lib.hid (Below.refl _ _)⟩
  | some ad =>
    have HOWN : Hid ((w.alloc (.cells #[] 33)).ownsRow w.heap.size 33 1 (.slice (some ⟨w.heap.size, 0, none⟩) 0 0) 0 []) := Lib.hid (World.ownsRow_made w #[] 0 (by omega) (by unfold maxLen; omega) rfl)
    have HN : Hid (∀ j u, news[j]? = some u → (w.alloc (.cells #[] 33)).cell? (ad.add j) = some u) := Lib.hid fun j u hu => by
      have := hnews.out ad rfl j u hu
      exact (World.cell?_alloc_lt _ _ _ (World.block_lt_of_cell? w _ this)).trans this
    have HL : Hid (news.length = n * 1) := Lib.hid hl
    clear hl hA
    go_enter Tryd.func39, Tryd.ntmps39
    go_wp2_with (at_builtin; refine wpList_append_own _ rfl _ _ 50 rfl w.heap.size 33 i0 _ 1 24 Tryd.underlying50 hi hz0 hz1 hz2 rfl (by decide) _ _ _ rfl HOWN.out ad n c news rfl HL.out HN.out h1.out (by unfold maxLen; omega) (by omega) (by simp) ?_; intro v' W3 hown hgrow _; have HO3 := Lib.hid hown; have HG3 := Lib.hid hgrow; clear hown hgrow)
    go_ret
    refine ⟨_, rfl, Lib.hid (by have := HO3.out; rw [Nat.zero_add, List.nil_append] at this; exact this), ?_⟩
    refine Lib.hid (((Below.refl _ _).alloc (Nat.le_refl _) _).grown HG3.out (by simp) ?_)
    intro k hk
    have hk : some w.heap.size = some k := hk
    injection hk with hk
    omega

theorem Ri.news {w : World} {F : Nat → Prop} {xs : List Int} {A : Option Addr} {c : Nat} (h : Ri w F xs A c) : ∀ ad, A = some ad → ∀ j u, (xs.map (Value.int .i64))[j]? = some u → w.cell? (ad.add j) = some u := by
  intro ad hA j u hu
  have hj : j < xs.length := by simpa using (List.getElem?_eq_some_iff.1 hu).1
  obtain ⟨g, off, e, _, _, hc⟩ := h.get hj
  rw [hA] at e
  injection e with e
  subst e
  rw [Go.WideShapes.add_plain, hc, ← hu]
  simp [hj]
theorem Ri.none {w : World} {F : Nat → Prop} {xs : List Int} {A : Option Addr} {c : Nat} (h : Ri w F xs A c) : A = none → xs.length = 0 := fun e => by
  rcases Nat.eq_zero_or_pos xs.length with h0 | h0
  · exact h0
  · obtain ⟨g, off, e2, _⟩ := h.2 h0
    rw [e] at e2
    cases e2
/-- blocks of numbers that are new -/
def Nw (w w' : World) (g : Nat) : Prop := w.heap.size ≤ g ∧ g < w'.heap.size ∧ Ty w' g 3
theorem clone_any {w : World} {F : Nat → Prop} {xs : List Int} {A : Option Addr} {c : Nat} (h : Hid (Ri w F xs A c)) (hl : xs.length ≤ 1000000) :
    Calls Tryd.prog 36 #[.slice A xs.length c] w fun e w' => ∃ A' c', e = .returned (.slice A' xs.length c') ∧ Hid (Ri w' (Nw w w') xs A' c') ∧ Hid (Below w.heap.size w w') := by
  refine (cloneInt (news := xs.map (Value.int .i64)) h.out.none (by simp) (Lib.hid h.out.news) (Lib.hid fun u hu => by
    rw [List.mem_map] at hu
    obtain ⟨z, _, rfl⟩ := hu
    rfl) (by omega)).mono ?_
  rintro e w' ⟨v', rfl, h1, h2⟩
  obtain ⟨A', c', rfl, _, _⟩ := own_slice h1.out
  refine ⟨A', c', rfl, Lib.hid (Ri.of_own h1.out fun g hg => ?_).2, h2⟩
  obtain ⟨k1, k2⟩ := h1.out.lt g hg
  exact ⟨k1, k2, own_ty h1.out g hg⟩
set_option maxRecDepth 100000 in
set_option maxHeartbeats 2000000 in
theorem sclone_any (s : ByteArray) (w : World) (hs : s.size ≤ 1000000) :
    Calls Tryd.prog 44 #[.string s] w fun e w' => e = .returned (.string s) ∧ Hid (Below w.heap.size w w') := by
  go_enter Tryd.func44, Tryd.ntmps44
  go_wp2_with (go_at_call 52; refine (Tryd.stringslite_Clone s w (by omega)).mono ?_; rintro e w5 ⟨rfl, hb5⟩; have HB5 := Lib.hid hb5; clear hb5)
  go_ret
  exact ⟨rfl, HB5⟩
end Go.Proofs.YtdnhhfhjjimcgaaDoor.dg
