/- Package dag: a hash is added to the table. -/
import Derived.Test.YtdnhhfhjjimcgaaDoorGv
namespace Go.Proofs.YtdnhhfhjjimcgaaDoor.dg
open Go Go.RowKit

theorem bucket_app {hs : List Int} {h : Int} {n b k : Nat} (hk : k ≤ hs.length) : bucket (hs ++ [h]) n b k = bucket hs n b k := by
  unfold bucket
  congr 1
  refine List.filter_congr fun i hi => ?_
  have hi : i < k := by simpa using hi
  have : (hs ++ [h]).getD i 0 = hs.getD i 0 := by
    simp only [List.getD]
    rw [List.getElem?_append_left (by omega)]
  rw [this]
theorem Tb.app {w W3 : World} {F J : Nat → Prop} {ib : Nat} {hs : List Int} {h : Int} {n N : Nat} (H : Tb w F J ib hs n N) (hN : hs.length = N) (hlt : ∀ g, F g ∨ J g → g < w.heap.size) {hv bv : Value} (hb : Bk w ib 86 #[hv, bv]) (o : Obj) {g' c' : Nat}
    (hown : W3.ownsRow 0 52 1 (.slice (some ⟨g', 0, none⟩) (N + 1) c') (N + 1) (hs.map (Value.int .u64) ++ [.int .u64 h])) (hg : (w.alloc o).grownBy W3 hv.ownBlock) (hat : hv.ownBlock = some g' ∨ g' = w.heap.size + 1) (hl3 : g' < W3.heap.size) :
    TbEnd w (W3.setCell ⟨ib, 0, none⟩ (.slice (some ⟨g', 0, none⟩) (N + 1) c')) F J ib (hs ++ [h]) n N ∧ Bk W3 ib 86 #[hv, bv] ∧ Bk (W3.setCell ⟨ib, 0, none⟩ (.slice (some ⟨g', 0, none⟩) (N + 1) c')) ib 86 #[.slice (some ⟨g', 0, none⟩) (N + 1) c', bv] := by
  obtain ⟨hv', bv', bs, h1, h2, h3, h4, h5, h6, h7, h8⟩ := H
  obtain ⟨rfl, rfl⟩ : hv' = hv ∧ bv' = bv := by
    have := h1.symm.trans hb
    simp only [Option.some.injEq, Obj.cells.injEq, Array.mk.injEq, List.cons.injEq, and_true] at this
    exact this
  have hs3 : Sft (fun g => hv'.ownBlock = some g) w W3 := (Sft.alloc _ w o).trans (Sft.of_grown hg (fun r e => e)) (fun _ h => .inl h)
  have kk : ∀ g e, Ty w g e → e ≠ 52 → W3.heap[g]? = w.heap[g]? := fun g e ht hne => hs3.block g ht.lt (fun hv => ht.ne (own_ty h3 g hv) hne rfl)
  have kset : ∀ g, g ≠ ib → (W3.setCell ⟨ib, 0, none⟩ (.slice (some ⟨g', 0, none⟩) (N + 1) c')).heap[g]? = W3.heap[g]? := fun g hg => Below.heap_setCell _ _ _ _ hg
  have hsz : (W3.setCell ⟨ib, 0, none⟩ (.slice (some ⟨g', 0, none⟩) (N + 1) c')).heap.size = W3.heap.size := by simp [World.setCell]
  have k2 : ∀ g e, Ty w g e → e ≠ 52 → e ≠ 86 → (W3.setCell ⟨ib, 0, none⟩ (.slice (some ⟨g', 0, none⟩) (N + 1) c')).heap[g]? = w.heap[g]? := fun g e ht hne hn2 => (kset g (ht.ne h1.ty hn2)).trans (kk g e ht hne)
  have hb3 : Bk W3 ib 86 #[hv', bv'] := (kk ib _ h1.ty (by decide)).trans h1
  have hb4 : Bk (W3.setCell ⟨ib, 0, none⟩ (.slice (some ⟨g', 0, none⟩) (N + 1) c')) ib 86 #[.slice (some ⟨g', 0, none⟩) (N + 1) c', bv'] := by
    have := hb3.set_ 0 (.slice (some ⟨g', 0, none⟩) (N + 1) c')
    simpa using this
  have hgi : g' ≠ ib := by
    have := own_ty hown g' rfl
    exact this.ne hb3.ty (by decide)
  refine ⟨⟨fun g => F g ∨ g = g', J, ⟨_, bv', bs, hb4, .inl h2, ?_, ?_, own_stays h5 fun g hg => k2 g _ (own_ty h5 g hg) (by decide) (by decide), fun g hg => .inl (h6 g hg), fun b hb => ?_, h8⟩, ?_, ?_, fun g hg => .inl hg, ?_⟩, hb3, hb4⟩
  · rw [List.length_append, List.map_append, hN]
    refine own_stays hown fun g hg => kset g ?_
    simp only [Value.ownBlock, Option.some.injEq] at hg
    rw [← hg]
    exact hgi
  · intro g hg
    simp only [Value.ownBlock, Option.some.injEq] at hg
    exact .inr hg.symm
  · obtain ⟨v, e1, e2, e3⟩ := h7 b hb
    refine ⟨v, e1, ?_, e3⟩
    rw [bucket_app (by omega)]
    exact own_stays e2 fun g hg => k2 g _ (own_ty e2 g hg) (by decide) (by decide)
  · refine ⟨hs3.os, hs3.tape, hs3.output, by rw [hsz]; exact hs3.size, fun g hg1 hx => (kset g (fun e => hx (.inl (e ▸ h2)))).trans (hs3.block g hg1 (fun hv => hx (.inl (h4 g hv))))⟩
  · rintro g (h | rfl)
    · exact .inl h
    · rcases hat with h | h
      · exact .inl (h4 _ h)
      · exact .inr (by omega)
  · rintro g ((h | rfl) | h)
    · rw [hsz]; exact Nat.lt_of_lt_of_le (hlt g (.inl h)) hs3.size
    · rw [hsz]; exact hl3
    · rw [hsz]; exact Nat.lt_of_lt_of_le (hlt g (.inr h)) hs3.size
theorem one_cell (w : World) (v : Value) (t : TypeId) : ∀ j u, [v][j]? = some u → (w.alloc (.cells #[v] t)).cell? ((⟨w.heap.size, 0, none⟩ : Addr).add j) = some u := by
  intro j u hu
  match j, hu with
  | 0, hu => simp only [List.getElem?_cons_zero, Option.some.injEq] at hu; subst hu; exact World.cell?_alloc_new _ _ _ _
theorem one_one {v : Value} (h : v.oneCell' = true) : ∀ u ∈ [v], u.oneCell' = true := fun u hu => by simp at hu; subst hu; exact h
set_option maxRecDepth 100000 in
set_option maxHeartbeats 4000000 in
theorem add_any {w : World} {F J : Nat → Prop} {ib : Nat} {hs : List Int} {n N : Nat} (H : Hid (Tb w F J ib hs n N)) (hN : hs.length = N) (hnb : Hid (Nb n N)) (hN2 : N ≤ 1000000) {h : Int} (hr : Hid (∀ k (hk : k < (hs ++ [h]).length), 0 ≤ (hs ++ [h])[k] ∧ (hs ++ [h])[k] < 18446744073709551616)) (hlt : Hid (∀ g, F g ∨ J g → g < w.heap.size)) :
    Calls Tryd.prog 49 #[.pointer (some ⟨ib, 0, none⟩), .int .u64 h] w fun e w' => e = .returned (.int .i64 (N : Int)) ∧ Hid (∃ n', Nb n' (N + 1) ∧ TbEnd w w' F J ib (hs ++ [h]) n' (N + 1)) := by
  obtain ⟨i0, hi, hz0, hz1, hz2⟩ := info_parts infoU64
  have hn := hnb.out.pos
  have hn2 := hnb.out.le hN2
  obtain ⟨hv, bv, bs, h1, h2, h3, h4, h5, h6, h7, h8⟩ := H.out
  have HB1 := Lib.hid h1
  obtain ⟨gb, cb, rfl, _⟩ := own_pos h5 (by omega)
  obtain ⟨Ah, ch, rfl, _, _⟩ := own_slice h3
  rw [hN] at h3
  rw [hN] at h1 HB1
  have HOWN := Lib.hid h3
  have c0 := h1.cell 0
  have hib := h1.lt
  have HHN := Lib.hid hN
  have HLEN : Hid ((hs ++ [h]).length = N + 1) := Lib.hid (by simp [hN])
  clear h1 h2 h3 h4 h5 h6 h7 h8 hN
  go_enter Tryd.func49, Tryd.ntmps49
  go_upto_region 3 with (at_builtin; refine wpList_append_lies _ rfl _ _ 84 rfl 0 52 i0 _ 1 8 Tryd.underlying84 hi hz0 hz1 hz2 rfl (by decide) (.slice Ah N ch) N (hs.map (Value.int .u64)) rfl (HOWN.out.alloc _) ⟨w.heap.size, 0, none⟩ 1 1 [.int .u64 h] rfl rfl (one_cell _ _ _) (one_one rfl) (by decide) (by unfold maxLen; omega) (by omega) (by omega) (w.heap.size + 1) (by simp) ?_; intro g' c' W3 hown hgrow hat hlt3; have HAP := Lib.hid (H.out.app HHN.out hlt.out HB1.out _ hown hgrow hat hlt3); (have b3 := HAP.out.2.1); (have d0 := b3.cell 0); (have d1 := b3.cell 1); (have f0 := b3.frozen 0); (have l3 := b3.lt); clear b3)
  have HE := Lib.hid HAP.out.1
  have HB4 := Lib.hid HAP.out.2.2
  clear hown hgrow hat hlt3 d0 d1 f0 c0 l3 HAP
  generalize World.setCell W3 _ _ = W4 at *
  have e0 := HB4.out.cell 0
  have e1 := HB4.out.cell 1
  obtain ⟨F1, J1, a1, a2, a3, a4, a5⟩ := HE.out
  have HT : Hid (Tb W4 F1 J1 ib (hs ++ [h]) n N) := Lib.hid a1
  have HST : Hid (∀ W2 n', TbEnd W4 W2 F1 J1 ib (hs ++ [h]) n' (N + 1) → TbEnd w W2 F J ib (hs ++ [h]) n' (N + 1)) := Lib.hid fun W2 n' hW => TbEnd.step a2 a3 a4 hW
  have HL : Hid (∀ g, F1 g ∨ J1 g → g < W4.heap.size) := Lib.hid a5
  clear a1 a2 a3 a4 a5 HE H HOWN HB1
  have HHR : Hid ((hs ++ [h]).length ≤ 1000001) := Lib.hid (by rw [HLEN.out]; omega)
  have HNL : Hid (N < (hs ++ [h]).length) := Lib.hid (by rw [HLEN.out]; omega)
  by_cases hgt : (n : Int) < (N : Int) + 1
  · have hgd : decide ((n : Int) < (N : Int) + 1) = true := decide_eq_true hgt
    obtain ⟨m, hm⟩ : ∃ m, 2 * n = m := ⟨_, rfl⟩
    have hm2 : m ≤ 4000000 := by omega
    have HNB : Hid (Nb m (N + 1)) := Lib.hid (hm ▸ hnb.out.twice (by omega))
    have HM := Lib.hid hm
    clear hm
    go_quiet (fail)
    have HT2 : Hid (Tb (W4.drewN nq) F1 J1 ib (hs ++ [h]) n N) := Lib.hid (HT.out.drewN nq)
    have HST2 : Hid (∀ W2, TbEnd (W4.drewN nq) W2 F1 J1 ib (hs ++ [h]) m (N + 1) → TbEnd w W2 F J ib (hs ++ [h]) m (N + 1)) := Lib.hid fun W2 hW => HST.out W2 m (by
      obtain ⟨F2, J2, b1, b2, b3, b4, b5⟩ := hW
      exact ⟨F2, J2, b1, ⟨b2.os, b2.tape, b2.output, b2.size, b2.block⟩, b3, b4, b5⟩)
    have HL2 : Hid (∀ g, F1 g ∨ J1 g → g < (W4.drewN nq).heap.size) := HL
    clear e0 e1 HB4 HT HST HL
    generalize W4.drewN nq = W5 at *
    have DO := double_any HT2 (by omega) HM.out hm2 HHR.out hr HL2
    rw [HLEN.out] at DO
    have HDO := Lib.hid DO
    clear DO
    go_wp2_with (go_at_call 61; refine HDO.out.mono ?_; rintro e w5 ⟨rfl, HB5⟩)
    go_ret
    exact ⟨rfl, Lib.hid ⟨m, HNB.out, HST2.out _ HB5.out⟩⟩
  · have hgd : decide ((n : Int) < (N : Int) + 1) = false := decide_eq_false hgt
    have HNB : Hid (Nb n (N + 1)) := Lib.hid (hnb.out.same (by omega))
    go_quiet (fail)
    have HT2 : Hid (Tb (W4.drewN nq) F1 J1 ib (hs ++ [h]) n N) := Lib.hid (HT.out.drewN nq)
    have HST2 : Hid (∀ W2, TbEnd (W4.drewN nq) W2 F1 J1 ib (hs ++ [h]) n (N + 1) → TbEnd w W2 F J ib (hs ++ [h]) n (N + 1)) := Lib.hid fun W2 hW => HST.out W2 n (by
      obtain ⟨F2, J2, b1, b2, b3, b4, b5⟩ := hW
      exact ⟨F2, J2, b1, ⟨b2.os, b2.tape, b2.output, b2.size, b2.block⟩, b3, b4, b5⟩)
    have HL2 : Hid (∀ g, F1 g ∨ J1 g → g < (W4.drewN nq).heap.size) := HL
    clear e0 e1 HB4 HT HST HL
    generalize W4.drewN nq = W5 at *
    have PU := put_any HT2 (by omega) hn2 HNL.out HHR.out (Lib.hid (hr.out N HNL.out)) HL2
    have HPU := Lib.hid PU
    clear PU
    go_wp2_with (go_at_call 62; refine HPU.out.mono ?_; rintro e w5 ⟨rfl, HB5⟩)
    go_ret
    exact ⟨rfl, Lib.hid ⟨n, HNB.out, HST2.out _ HB5.out⟩⟩
end Go.Proofs.YtdnhhfhjjimcgaaDoor.dg
