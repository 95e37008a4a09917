/- Package dag: a place is put into its bucket. -/
import Derived.Test.YtdnhhfhjjimcgaaDoorGq
import Derived.Test.YtdnhhfhjjimcgaaDoorGt
namespace Go.Proofs.YtdnhhfhjjimcgaaDoor.dg
open Go Go.RowKit

theorem bucket_succ {hs : List Int} {n b k : Nat} : bucket hs n b (k + 1) = if slot (hs.getD k 0) n = b then bucket hs n b k ++ [(k : Int)] else bucket hs n b k := by
  unfold bucket
  rw [List.range_succ, List.filter_append, List.map_append]
  by_cases h : slot (hs.getD k 0) n = b
  · have e : (slot (hs.getD k 0) n == b) = true := by simpa using h
    rw [if_pos h]
    simp only [List.filter_cons, List.filter_nil, e, if_true, List.map_cons, List.map_nil]
  · have e : (slot (hs.getD k 0) n == b) = false := by simpa using h
    rw [if_neg h]
    simp only [List.filter_cons, List.filter_nil, e, List.map_nil, List.append_nil]
    simp
/-- which bucket's row lies where -/
def Bks (w : World) (J : Nat → Prop) (hs : List Int) (n k : Nat) (bs : List Value) : Prop :=
  (∀ b, b < n → ∃ v, bs[b]? = some v ∧ w.ownsRow 0 3 1 v (bucket hs n b k).length ((bucket hs n b k).map (Value.int .i64)) ∧ ∀ g, v.ownBlock = some g → J g) ∧
    (∀ (b b' : Nat) (v v' : Value) (g : Nat), bs[b]? = some v → bs[b']? = some v' → v.ownBlock = some g → v'.ownBlock = some g → b = b')
theorem Bks.put {w w' : World} {J : Nat → Prop} {hs : List Int} {n k : Nat} {bs : List Value} (h : Bks w J hs n k bs) (hbl : bs.length = n) {b : Nat} (hb : slot (hs.getD k 0) n = b) (hbn : b < n) {v v' : Value} (hv : bs[b]? = some v) {g' : Nat} (hv' : v'.ownBlock = some g')
    (how : w'.ownsRow 0 3 1 v' ((bucket hs n b k).length + 1) ((bucket hs n b k).map (Value.int .i64) ++ [.int .i64 (k : Int)]))
    (hg' : v.ownBlock = some g' ∨ w.heap.size ≤ g') (hk : ∀ g, Ty w g 3 → v.ownBlock ≠ some g → w'.heap[g]? = w.heap[g]?) : Bks w' (fun g => J g ∨ g = g') hs n (k + 1) (bs.set b v') := by
  obtain ⟨h7, h8⟩ := h
  have hbs : (bs.set b v')[b]? = some v' := by rw [List.getElem?_set_self (by omega)]
  refine ⟨fun b' hb' => ?_, fun b1 b2 v1 v2 g e1 e2 o1 o2 => ?_⟩
  · by_cases e : b' = b
    · subst e
      refine ⟨v', hbs, ?_, fun g hg => .inr (by rw [hv'] at hg; injection hg with hg; exact hg.symm)⟩
      rw [bucket_succ, if_pos hb, List.length_append, List.map_append]
      exact how
    · obtain ⟨u, k1, k2, k3⟩ := h7 b' hb'
      refine ⟨u, by rw [List.getElem?_set_ne (Ne.symm e)]; exact k1, ?_, fun g hg => .inl (k3 g hg)⟩
      rw [bucket_succ, if_neg (fun x => e (x.symm.trans hb))]
      refine own_stays k2 fun g hg => hk g (own_ty k2 g hg) fun hvg => e ?_
      exact h8 b' b u v g k1 hv hg hvg
  · have old : ∀ b0 v0 g, b0 ≠ b → (bs.set b v')[b0]? = some v0 → v0.ownBlock = some g → v'.ownBlock = some g → False := fun b0 v0 g hne e o o' => by
      rw [List.getElem?_set_ne (Ne.symm hne)] at e
      have hb0 : b0 < n := by rw [← hbl]; exact (List.getElem?_eq_some_iff.1 e).1
      obtain ⟨u, k1, k2, k3⟩ := h7 b0 hb0
      rw [k1] at e
      injection e with e
      subst e
      rw [hv'] at o'
      injection o' with o'
      subst o'
      rcases hg' with hg' | hg'
      · exact hne (h8 b0 b u v _ k1 hv o hg')
      · have := (own_ty k2 _ o).lt
        omega
    by_cases c1 : b1 = b
    · by_cases c2 : b2 = b
      · omega
      · subst c1
        rw [hbs] at e1
        injection e1 with e1
        subst e1
        exact (old b2 v2 g c2 e2 o2 o1).elim
    · by_cases c2 : b2 = b
      · subst c2
        rw [hbs] at e2
        injection e2 with e2
        subst e2
        exact (old b1 v1 g c1 e1 o1 o2).elim
      · rw [List.getElem?_set_ne (Ne.symm c1)] at e1
        rw [List.getElem?_set_ne (Ne.symm c2)] at e2
        exact h8 b1 b2 v1 v2 g e1 e2 o1 o2
/-- what comes of a call on the table -/
def TbEnd (w w' : World) (F J : Nat → Prop) (ib : Nat) (hs : List Int) (n k : Nat) : Prop :=
  ∃ F' J', Tb w' F' J' ib hs n k ∧ Sft (fun g => F g ∨ J g) w w' ∧ (∀ g, F' g → F g ∨ w.heap.size ≤ g) ∧ (∀ g, J' g → J g ∨ w.heap.size ≤ g) ∧ ∀ g, F' g ∨ J' g → g < w'.heap.size
set_option maxRecDepth 100000 in
set_option maxHeartbeats 4000000 in
theorem put_any {w : World} {F J : Nat → Prop} {ib : Nat} {hs : List Int} {n k : Nat} (H : Hid (Tb w F J ib hs n k)) (hn : 0 < n) (hn2 : n ≤ 4000000) (hk : k < hs.length) (hk2 : hs.length ≤ 1000001) (hr : Hid (0 ≤ hs[k] ∧ hs[k] < 18446744073709551616)) (hlt : Hid (∀ g, F g ∨ J g → g < w.heap.size)) :
    Calls Tryd.prog 62 #[.pointer (some ⟨ib, 0, none⟩), .int .i64 (k : Int)] w fun e w' => e = .returned (.tuple #[]) ∧ Hid (TbEnd w w' F J ib hs n (k + 1)) := by
  obtain ⟨i0, hi, hz0, hz1, hz2⟩ := info_parts infoInt
  obtain ⟨hv, bv, bs, h1, h2, h3, h4, h5, h6, h7, h8⟩ := H.out
  have HBK : Hid (Bks w J hs n k bs) := Lib.hid ⟨h7, h8⟩
  have hbl : bs.length = n := by have := h5.1; simpa using this
  obtain ⟨gb, cb, rfl, hgb, hnc, hcb, hfb⟩ := own_pos h5 hn
  obtain ⟨gh, ch, rfl, hgh, _, hch, _⟩ := own_pos h3 (by omega)
  obtain ⟨b, hb⟩ : ∃ b, slot hs[k] n = b := ⟨_, rfl⟩
  have hbn : b < n := hb ▸ slot_lt _ hn
  have HSL : Hid (slot (hs.getD k 0) n = b) := Lib.hid (by simpa [List.getD, hk] using hb)
  obtain ⟨v, kv1, kv2, kv3⟩ := h7 b hbn
  obtain ⟨m, hm⟩ : ∃ m, (bucket hs n b k).length = m := ⟨_, rfl⟩
  have hml : m ≤ 1000001 := by rw [← hm]; exact Nat.le_trans bucket_len (by omega)
  obtain ⟨A3, c3, rfl, hA3, hm3⟩ := own_slice kv2
  rw [hm] at kv2 kv3 kv1
  have HOWN := Lib.hid kv2
  have HM := Lib.hid hm
  have HBV := Lib.hid h5
  have HHV := Lib.hid h3
  have HKV1 := Lib.hid kv1
  have HKV3 := Lib.hid kv3
  have HF4 := Lib.hid h4
  have HF6 := Lib.hid h6
  have HF2 := Lib.hid h2
  have HB1 := Lib.hid h1
  have HBL := Lib.hid hbl
  have HCB : Hid (w.cell? ⟨gb, b, none⟩ = some (.slice A3 m c3)) := Lib.hid (by rw [hcb b (by omega)]; exact kv1)
  have HFB := Lib.hid hfb
  have hh : w.cell? ⟨gh, k, none⟩ = some (.int .u64 hs[k]) := by rw [hch k (by omega)]; simp [hk]
  have c0 := h1.cell 0
  have c1 := h1.cell 1
  have hltib := h1.lt
  have g7 : (k : Int) < (hs.length : Int) := by omega
  have AT := at_any (w := w) H hn hn2 hr
  rw [hb] at AT
  have HAT := Lib.hid AT
  obtain ⟨z, hz⟩ : ∃ z, hs[k] = z := ⟨_, rfl⟩
  rw [hz] at hh HAT
  clear AT h1 h2 h3 h4 h5 h6 h7 h8 hcb hch hfb kv1 kv2 kv3 hm hb hbl hA3 hz
  go_enter Tryd.func62, Tryd.ntmps62
  go_upto_region 1 with (go_at_call 67; refine HAT.out.mono ?_; rintro e w5 ⟨rfl, rfl⟩)
  clear hh c0 c1
  obtain ⟨S, hSd⟩ : ∃ S : Bool → World → Prop, S = fun q W => q = true → W.cell? ⟨gb, b, none⟩ = some (.slice A3 m c3) ∧ Bk W ib 86 #[.slice (some ⟨gh, 0, none⟩) hs.length ch, .slice (some ⟨gb, 0, none⟩) n cb] := ⟨_, rfl⟩
  have HMO : ∀ w, S true w → S false w := by rw [hSd]; intro w _ h; cases h
  have HSP : ∀ W : World, S true W → W.cell? ⟨gb, b, none⟩ = some (.slice A3 m c3) ∧ Bk W ib 86 #[.slice (some ⟨gh, 0, none⟩) hs.length ch, .slice (some ⟨gb, 0, none⟩) n cb] := fun W h => by rw [hSd] at h; exact h rfl
  have HSM : ∀ W : World, W.cell? ⟨gb, b, none⟩ = some (.slice A3 m c3) ∧ Bk W ib 86 #[.slice (some ⟨gh, 0, none⟩) hs.length ch, .slice (some ⟨gb, 0, none⟩) n cb] → S true W := fun W h => by rw [hSd]; exact fun _ => h
  have HSF : ∀ W : World, S false W := fun W => by rw [hSd]; intro h; cases h
  clear hSd
  refine wp_region_T S 16 (by kernel_rfl) (HSM _ ⟨HCB.out, HB1.out⟩) (fun hH => ?_)
  have HS0 : Hid (Sft (fun _ => False) w w.drew) := Lib.hid (Sft.refl _ _).drew
  have HCB2 : Hid (w.drew.cell? ⟨gb, b, none⟩ = some (.slice A3 m c3)) := HCB
  have HB2 : Hid (Bk w.drew ib 86 #[.slice (some ⟨gh, 0, none⟩) hs.length ch, .slice (some ⟨gb, 0, none⟩) n cb]) := HB1
  have HOWN2 : Hid (w.drew.ownsRow 0 3 1 (.slice A3 m c3) m ((bucket hs n b k).map (Value.int .i64))) := HOWN
  have HZ2 : Hid (w.drew.heap.size = w.heap.size ∧ ∀ g : Nat, w.drew.heap[g]? = w.heap[g]?) := Lib.hid ⟨rfl, fun _ => rfl⟩
  have HWD : Hid (Sft (fun _ => False) w w.drew) := HS0
  clear HS0
  generalize w.drew = W2 at *
  have q1 : (b : Int) < (n : Int) := by omega
  refine wpAnyT_take (i := 0) (v := ?_) spat0 (by kernel_rfl) (by kernel_rfl) (by kernel_rfl) (by decide) (fun _ _ _ h => h) (Or.inl ⟨by rfl, ?_⟩) HMO hH ?_
  rotate_left
  · (intro w hSw; clear hSw; go_simp; (try with_reducible rfl))
  (try simp only [Act.put, List.setIfInBounds_toArray, List.set_cons_zero, List.set_cons_succ])
  refine wpAnyT_take (i := 1) (v := ?_) spat1 (by kernel_rfl) (by kernel_rfl) (by kernel_rfl) (by decide) (fun _ _ _ h => h) (Or.inl ⟨by rfl, ?_⟩) HMO hH ?_
  rotate_left
  · (intro w hSw; clear hSw; go_simp; (try with_reducible rfl))
  (try simp only [Act.put, List.setIfInBounds_toArray, List.set_cons_zero, List.set_cons_succ])
  refine wpAnyT_take (i := 2) (v := ?_) spat2 (by kernel_rfl) (by kernel_rfl) (by kernel_rfl) (by decide) (fun _ _ _ h => h) (Or.inl ⟨by rfl, ?_⟩) HMO hH ?_
  rotate_left
  · (intro w hSw; clear hSw; go_simp; (try with_reducible rfl))
  (try simp only [Act.put, List.setIfInBounds_toArray, List.set_cons_zero, List.set_cons_succ])
  refine wpAnyT_read (i := 3) (v := ?_) [15, 16] spat3 (by kernel_rfl) (by kernel_rfl) (by kernel_rfl) (by decide) (by kernel_rfl) (fun _ _ _ h => h) (Or.inl ⟨by rfl, ?_⟩) hH ?_
  rotate_left
  · (intro w hSw; obtain ⟨hf, hb⟩ := HSP _ hSw; have b0 := hb.cell 0; have b1 := hb.cell 1; clear hb; clear hSw; go_simp; (try with_reducible rfl))
  (try simp only [Act.put, List.setIfInBounds_toArray, List.set_cons_zero, List.set_cons_succ])
  refine wpAnyT_take (i := 4) (v := ?_) spat4 (by kernel_rfl) (by kernel_rfl) (by kernel_rfl) (by decide) (fun _ _ _ h => h) (Or.inl ⟨by rfl, ?_⟩) HMO hH ?_
  rotate_left
  · (intro w hSw; clear hSw; go_simp; (try with_reducible rfl))
  (try simp only [Act.put, List.setIfInBounds_toArray, List.set_cons_zero, List.set_cons_succ])
  refine wpAnyT_take (i := 5) (v := ?_) spat5 (by kernel_rfl) (by kernel_rfl) (by kernel_rfl) (by decide) (fun _ _ _ h => h) (Or.inl ⟨by rfl, ?_⟩) HMO hH ?_
  rotate_left
  · (intro w hSw; clear hSw; go_simp; (try with_reducible rfl))
  (try simp only [Act.put, List.setIfInBounds_toArray, List.set_cons_zero, List.set_cons_succ])
  refine wpAnyT_take (i := 6) (v := ?_) spat6 (by kernel_rfl) (by kernel_rfl) (by kernel_rfl) (by decide) (fun _ _ _ h => h) (Or.inl ⟨by rfl, ?_⟩) HMO hH ?_
  rotate_left
  · (intro w hSw; clear hSw; go_simp; (try with_reducible rfl))
  (try simp only [Act.put, List.setIfInBounds_toArray, List.set_cons_zero, List.set_cons_succ])
  refine wpAnyT_take (i := 7) (v := ?_) spat7 (by kernel_rfl) (by kernel_rfl) (by kernel_rfl) (by decide) (fun _ _ _ h => h) (Or.inl ⟨by rfl, ?_⟩) HMO hH ?_
  rotate_left
  · (intro w hSw; clear hSw; go_simp; (try with_reducible rfl))
  (try simp only [Act.put, List.setIfInBounds_toArray, List.set_cons_zero, List.set_cons_succ])
  refine wpAnyT_read (i := 8) (v := ?_) [10, 11, 14, 16] spat8 (by kernel_rfl) (by kernel_rfl) (by kernel_rfl) (by decide) (by kernel_rfl) (fun _ _ _ h => h) (Or.inl ⟨by rfl, ?_⟩) hH ?_
  rotate_left
  · (intro w hSw; obtain ⟨hf, hb⟩ := HSP _ hSw; have b0 := hb.cell 0; have b1 := hb.cell 1; clear hb; clear hSw; go_simp; (try with_reducible rfl))
  (try simp only [Act.put, List.setIfInBounds_toArray, List.set_cons_zero, List.set_cons_succ])
  refine wpAnyT_take (i := 9) (v := ?_) spat9 (by kernel_rfl) (by kernel_rfl) (by kernel_rfl) (by decide) (fun _ _ _ h => h) (Or.inl ⟨by rfl, ?_⟩) HMO hH ?_
  rotate_left
  · (intro w hSw; clear hSw; go_simp; (try with_reducible rfl))
  (try simp only [Act.put, List.setIfInBounds_toArray, List.set_cons_zero, List.set_cons_succ])
  refine wpAnyT_take (i := 10) (v := ?_) spat10 (by kernel_rfl) (by kernel_rfl) (by kernel_rfl) (by decide) (fun _ _ _ h => h) (Or.inl ⟨by rfl, ?_⟩) HMO hH ?_
  rotate_left
  · (intro w hSw; clear hSw; go_simp; (try with_reducible rfl))
  (try simp only [Act.put, List.setIfInBounds_toArray, List.set_cons_zero, List.set_cons_succ])
  refine wpAnyT_read (i := 11) (v := ?_) [14, 16] spat11 (by kernel_rfl) (by kernel_rfl) (by kernel_rfl) (by decide) (by kernel_rfl) (fun _ _ _ h => h) (Or.inl ⟨by rfl, ?_⟩) hH ?_
  rotate_left
  · (intro w hSw; obtain ⟨hf, hb⟩ := HSP _ hSw; have b0 := hb.cell 0; have b1 := hb.cell 1; clear hb; clear hSw; go_simp; (try with_reducible rfl))
  (try simp only [Act.put, List.setIfInBounds_toArray, List.set_cons_zero, List.set_cons_succ])
  refine wpAnyT_take (i := 12) (v := ?_) spat12 (by kernel_rfl) (by kernel_rfl) (by kernel_rfl) (by decide) (fun _ _ _ h => h) (Or.inl ⟨by rfl, ?_⟩) HMO hH ?_
  rotate_left
  · (intro w hSw; clear hSw; go_simp; (try with_reducible rfl))
  (try simp only [Act.put, List.setIfInBounds_toArray, List.set_cons_zero, List.set_cons_succ])
  refine wpAnyT_ready (rs := [13]) (by kernel_rfl) (by simp) ?_
  refine AllReadyT.cons spat13 true (by kernel_rfl) (fun K hK => ?_) AllReadyT.nil
  go_simp
  refine hK.out _ _ (HSM _ ⟨(World.cell?_alloc_lt _ _ _ (by rw [HZ2.out.1]; exact hgb)).trans HCB2.out, HB2.out.alloc _⟩) (fun hH => ?_)
  clear hK K
  (try simp only [Act.put, List.setIfInBounds_toArray, List.set_cons_zero, List.set_cons_succ])
  refine wpAnyT_ready (rs := [14]) (by kernel_rfl) (by simp) ?_
  refine AllReadyT.cons spat14 true (by kernel_rfl) (fun K hK => ?_) AllReadyT.nil
  refine step_append_lies _ rfl _ _ 33 rfl 0 3 i0 _ 1 8 Tryd.underlying33 hi hz0 hz1 hz2 rfl (by decide) (.slice A3 m c3) m ((bucket hs n b k).map (Value.int .i64)) rfl (HOWN2.out.alloc _) ⟨W2.heap.size, 0, none⟩ 1 1 [.int .i64 (k : Int)] rfl rfl ?c1 ?c2 (by decide) ?c3 ?c4 ?c5 _ rfl ?_
  case c1 =>
    intro j u hu
    match j, hu with
    | 0, hu => simp only [List.getElem?_cons_zero, Option.some.injEq] at hu; subst hu; exact World.cell?_alloc_new _ _ _ _
  case c2 => exact fun q hq => by simp at hq; subst hq; rfl
  case c3 => unfold maxLen; omega
  case c4 => omega
  case c5 => omega
  intro g' c' W3 hown hgrow hat hlt3
  have HS3 : Hid (Sft (fun b => (Value.slice A3 m c3).ownBlock = some b) W2 W3) := Lib.hid ((Sft.alloc _ W2 _).trans (Sft.of_grown hgrow (fun r e => e)) (fun _ h => .inl h))
  have H3 : Hid ((Value.slice A3 m c3).ownBlock = some g' ∨ W2.heap.size ≤ g') := Lib.hid (hat.imp id (fun e => by rw [e]; simp))
  have HOWN3 := Lib.hid hown
  have HNE : Hid (∀ g e, Ty w g e → e ≠ 3 → (Value.slice A3 m c3).ownBlock ≠ some g) := Lib.hid fun g e ht hne hv => (ht.ne (own_ty HOWN.out g hv) hne) rfl
  have HKP : Hid (∀ g, g < w.heap.size → (Value.slice A3 m c3).ownBlock ≠ some g → W3.heap[g]? = w.heap[g]?) := Lib.hid fun g hg hv => (HS3.out.block g (by rw [HZ2.out.1]; exact hg) hv).trans (HZ2.out.2 g)
  have HTB3 := HKP.out ib hltib (HNE.out ib _ HB1.out.ty (by decide))
  have HGB3 := HKP.out gb hgb (HNE.out gb _ (own_ty HBV.out gb rfl) (by decide))
  have HB3 : Hid (Bk W3 ib 86 #[.slice (some ⟨gh, 0, none⟩) hs.length ch, .slice (some ⟨gb, 0, none⟩) n cb]) := Lib.hid (HTB3.trans HB1.out)
  have HCB3 : Hid (W3.cell? ⟨gb, b, none⟩ = some (.slice A3 m c3)) := Lib.hid ((World.cell?_of_block (a := ⟨gb, b, none⟩) HGB3).trans HCB.out)
  have HFZ3 : Hid (W3.frozen? ⟨gb, b, none⟩ = false) := Lib.hid ((World.frozen?_of_block (a := ⟨gb, b, none⟩) HGB3).trans (HFB.out b))
  refine hK.out _ _ (HSM _ ⟨HCB3.out, HB3.out⟩) (fun hH => ?_)
  have HGN : Hid (gb ≠ g') := Lib.hid (by
    rintro rfl
    rcases H3.out with h | h
    · exact HNE.out gb _ (own_ty HBV.out gb rfl) (by decide) h
    · rw [HZ2.out.1] at h; omega)
  have HEND : Hid (TbEnd w (W3.setCell ⟨gb, b, none⟩ (.slice (some ⟨g', 0, none⟩) (m + 1) c')) F J ib hs n (k + 1)) := Lib.hid (by
    have hsz : w.heap.size ≤ W3.heap.size := by rw [← HZ2.out.1]; exact HS3.out.size
    have hset : ∀ g, g ≠ gb → (W3.setCell ⟨gb, b, none⟩ (.slice (some ⟨g', 0, none⟩) (m + 1) c')).heap[g]? = W3.heap[g]? := fun g hg => Below.heap_setCell _ _ _ _ hg
    have hsz2 : (W3.setCell ⟨gb, b, none⟩ (.slice (some ⟨g', 0, none⟩) (m + 1) c')).heap.size = W3.heap.size := by simp [World.setCell]
    have hkeep : ∀ g e, Ty w g e → e ≠ 3 → g ≠ gb → (W3.setCell ⟨gb, b, none⟩ (.slice (some ⟨g', 0, none⟩) (m + 1) c')).heap[g]? = w.heap[g]? := fun g e ht hne hg => (hset g hg).trans (HKP.out g ht.lt (HNE.out g e ht hne))
    have tgb := own_ty HBV.out gb rfl
    have hbv3 : W3.ownsRow 0 33 1 (.slice (some ⟨gb, 0, none⟩) n cb) n bs := own_stays HBV.out fun g hg => by
      injection hg with hg
      subst hg
      exact HKP.out gb hgb (HNE.out gb _ tgb (by decide))
    have hbv4 := (hbv3.stored b (.slice (some ⟨g', 0, none⟩) (m + 1) c')).1
    have how4 : (W3.setCell ⟨gb, b, none⟩ (.slice (some ⟨g', 0, none⟩) (m + 1) c')).ownsRow 0 3 1 (.slice (some ⟨g', 0, none⟩) (m + 1) c') ((bucket hs n b k).length + 1) ((bucket hs n b k).map (Value.int .i64) ++ [.int .i64 (k : Int)]) := by
      rw [HM.out]
      refine own_stays HOWN3.out fun g hg => ?_
      injection hg with hg
      subst hg
      exact hset _ (Ne.symm HGN.out)
    have hbk := HBK.out.put (w' := W3.setCell ⟨gb, b, none⟩ (.slice (some ⟨g', 0, none⟩) (m + 1) c')) (v' := .slice (some ⟨g', 0, none⟩) (m + 1) c') HBL.out HSL.out hbn HKV1.out (g' := g') rfl how4 (H3.out.imp id (fun h => by rw [← HZ2.out.1]; exact h)) (fun g ht hv => (hset g (ht.ne tgb (by decide))).trans (HKP.out g ht.lt hv))
    refine ⟨F, fun g => J g ∨ g = g', ⟨_, _, _, (hkeep ib _ HB1.out.ty (by decide) (HB1.out.ty.ne tgb (by decide))).trans HB1.out, HF2.out, own_stays HHV.out fun g hg => hkeep g _ (own_ty HHV.out g hg) (by decide) ((own_ty HHV.out g hg).ne tgb (by decide)), HF4.out, hbv4, HF6.out, hbk.1, hbk.2⟩, ?_, fun g h => .inl h, ?_, ?_⟩
    · refine ⟨HS3.out.os.trans ?_, HS3.out.tape.trans ?_, HS3.out.output.trans ?_, by rw [hsz2]; exact hsz, fun g hg hx => (hset g (fun e => hx (.inl (e ▸ HF6.out gb rfl)))).trans (HKP.out g hg (fun hv => hx (.inr (HKV3.out g hv))))⟩
      · exact HWD.out.os
      · exact HWD.out.tape
      · exact HWD.out.output
    · rintro g (h | rfl)
      · exact .inl h
      · rcases H3.out with h | h
        · exact .inl (HKV3.out _ h)
        · exact .inr (by rw [← HZ2.out.1]; exact h)
    · intro g hg
      rw [hsz2]
      rcases hg with h | h | rfl
      · exact Nat.lt_of_lt_of_le (hlt.out g (.inl h)) hsz
      · exact Nat.lt_of_lt_of_le (hlt.out g (.inr h)) hsz
      · exact hlt3)
  have HLT3 : Hid (gb < W3.heap.size) := Lib.hid (Nat.lt_of_lt_of_le hgb (by rw [← HZ2.out.1]; exact HS3.out.size))
  clear hK K hgrow hat hown hlt3 HTB3 HGB3
  (try simp only [Act.put, List.setIfInBounds_toArray, List.set_cons_zero, List.set_cons_succ])
  refine wpAnyT_take (i := 15) (v := ?_) spat15 (by kernel_rfl) (by kernel_rfl) (by kernel_rfl) (by decide) (fun _ _ _ h => h) (Or.inl ⟨by rfl, ?_⟩) HMO hH ?_
  rotate_left
  · (intro w hSw; clear hSw; go_simp; (try with_reducible rfl))
  (try simp only [Act.put, List.setIfInBounds_toArray, List.set_cons_zero, List.set_cons_succ])
  refine wpAnyT_ready (rs := [16]) (by kernel_rfl) (by simp) ?_
  refine AllReadyT.cons spat16 false (by kernel_rfl) (fun K hK => ?_) AllReadyT.nil
  have hF9 := HCB3.out
  have hZ9 := HFZ3.out
  have hL9 := HLT3.out
  go_simp
  refine hK.out _ _ (HSF _) (fun hH => ?_)
  clear hK K hF9 hZ9
  (try simp only [Act.put, List.setIfInBounds_toArray, List.set_cons_zero, List.set_cons_succ])
  refine wpAnyT_done (by kernel_rfl) ?_ _
  (try go_wp2)
  go_end0
  exact ⟨rfl, HEND⟩
end Go.Proofs.YtdnhhfhjjimcgaaDoor.dg
