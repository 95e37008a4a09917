/- Package dag: a sort's key. -/
import Derived.Laws.IdiomStrings
import Derived.Laws.BytesArg
import Derived.Test.YtdnhhfhjjimcgaaDoorHc
namespace Go.Proofs.YtdnhhfhjjimcgaaDoor.dg
open Go Go.RowKit

theorem infoU8 : (Tryd.prog.info? 5).map (fun i => (i.zero, i.size, i.bytes)) = some (some (.int .u8 0), 1, 1) := by kernel_rfl
set_option maxRecDepth 100000 in
theorem own_conv {w : World} {base m c : Nat} {A : Option Addr} {l : List UInt8} (h : w.ownsRow base 5 1 (.slice A m c) m (Lib.byteCells l)) : (convert 100 9 (.slice A m c)).run Tryd.prog w = .ok (.string ⟨l.toArray⟩) w := by
  have hl : l.length = m := by have := h.1; rw [Lib.byteCells_length] at this; omega
  cases A with
  | none =>
    obtain ⟨A', c', e, hn, _⟩ := own_slice h
    injection e with e1 _ e2
    subst e1 e2
    have hm := hn rfl
    obtain rfl : l = [] := List.eq_nil_of_length_eq_zero (by omega)
    exact run_convert_bytes_nil w _ _ Tryd.underlying100 Tryd.underlying5 _ _ _ Tryd.underlying9
  | some ad =>
    subst hl
    refine run_convert_bytes_back w _ _ 5 ad c l Tryd.underlying100 Tryd.underlying5 Tryd.underlying9 fun j hj => ?_
    obtain ⟨g, c2, e, _, _, hc, _⟩ := own_pos h (by omega)
    injection e with e _ _
    injection e with e
    subst e
    rw [Go.WideShapes.add_plain, Nat.zero_add, hc j (by omega)]
    simp [Lib.byteCells, hj]
set_option maxRecDepth 100000 in
set_option maxHeartbeats 4000000 in
theorem keyOf_any {w : World} (ht : Hid (Tab w)) {n : ByteArray} (hn : n.size ≤ 1000000) {G : Nat → Prop} {ks : List Int} {A : Option Addr} {c : Nat} (hr : Hid (Ri w G ks A c)) (hl : ks.length ≤ 1000000) (hv : Hid (∀ x ∈ ks, 0 ≤ x ∧ x < 10000000)) :
    Calls Tryd.prog 43 #[.string n, .slice A ks.length c] w fun e w' => e = .returned (.agg #[.string n, .string (argT ks)]) ∧ Hid (Below w.heap.size w w') := by
  obtain ⟨i0, hi, hz0, hz1, hz2⟩ := info_parts infoU8
  go_enter Tryd.func43, Tryd.ntmps43
  go_upto_region 1 with fail
  generalize hW : World.alloc _ _ = W1
  have HB0 : Hid (Below w.heap.size w W1) := Lib.hid (hW ▸ (Below.refl _ w).alloc (Nat.le_refl _) _)
  have HSZ : Hid (W1.heap.size = w.heap.size + 1) := Lib.hid (by rw [← hW]; simp)
  have HX : Hid (Bk W1 w.heap.size 91 #[.string ⟨#[]⟩, .string ⟨#[]⟩]) := Lib.hid (hW ▸ Bk.new w _ _)
  have HT : Hid (Lib.TabBelow Tryd.prog (w.heap.size + 1) W1 "internal/strconv.uint64pow10" .u64 Lib.pow10Tab) := Lib.hid (by
    have h1 : Lib.TabIs Tryd.prog W1 "internal/strconv.uint64pow10" .u64 Lib.pow10Tab := (Lib.tabBelow_of_tabIs ht.out) W1 HB0.out
    have h2 := Lib.tabBelow_of_tabIs h1
    rw [HSZ.out] at h2
    exact h2)
  clear hW
  go_upto_region 3 with fail
  go_loopw [5, 10] (fun tv iv wr => ∃ (k m c3 : Nat) (A3 : Option Addr), k ≤ ks.length ∧ m ≤ 8 * k ∧ iv = .int .i64 (k : Int) ∧ tv = .slice A3 m c3 ∧ Hid (wr.ownsRow (w.heap.size + 1) 5 1 (.slice A3 m c3) m (Lib.byteCells (argB (ks.take k)))) ∧ Hid (Below (w.heap.size + 1) W1 wr)) (fun _ iv _ => ks.length - (intOf iv).toNat)
  case atStart => exact ⟨0, 0, 0, none, Nat.zero_le _, by omega, rfl, rfl, Lib.hid (World.ownsRow_nil _ _ _ _), Lib.hid (Below.refl _ _)⟩
  case round =>
    obtain ⟨k, m, c3, A3, hk, hm, rfl, rfl, HOWN, HB⟩ := hrel
    by_cases hlt : k < ks.length
    · have g7 : (k : Int) < (ks.length : Int) := by omega
      have HBW : Hid (Below w.heap.size w wr) := Lib.hid (HB0.out.trans (HB.out.mono (by omega)))
      obtain ⟨g, off, rfl, _, _, hc⟩ := (hr.out.below HBW.out).get hlt
      obtain ⟨x, hx⟩ : ∃ x, ks[k]'hlt = x := ⟨_, rfl⟩
      have HXX := Lib.hid hx
      have HXR : Hid (0 ≤ x ∧ x < 10000000) := Lib.hid (hx ▸ hv.out _ (List.getElem_mem hlt))
      rw [hx] at hc
      clear hx
      have HIL : Hid ((Lib.itoa x).length ≤ 7) := Lib.hid (itoa_small HXR.out.1 HXR.out.2)
      have HSW : Hid (w.heap.size + 1 ≤ wr.heap.size) := Lib.hid (by have := HB.out.size; rw [HSZ.out] at this; exact this)
      have AI := Tryd.strconv_AppendInt_10 (w.heap.size + 1) m x (by have := HXR.out; omega) (by have := HXR.out; omega) (.slice A3 m c3) _ wr HOWN.out HSW.out (by omega) (HT.out.on HB.out)
      have HAI := Lib.hid AI
      clear AI
      obtain ⟨p, hp⟩ : ∃ p, (Lib.itoa x).length = p := ⟨_, rfl⟩
      have hp7 : p ≤ 7 := by have := HIL.out; omega
      rw [hp] at HAI
      have HPL := Lib.hid hp
      clear hp
      go_upto_region 6 with (go_at_call 51; refine HAI.out.mono ?_; rintro e w5 ⟨v', rfl, hown, hbel, _⟩; obtain ⟨A5, c5, rfl, _, _⟩ := own_slice hown; have HO5 := Lib.hid hown; have HB5 := Lib.hid hbel; clear hown hbel)
      have HS5 : Hid (w.heap.size + 1 ≤ w5.heap.size) := Lib.hid (Nat.le_trans HSW.out HB5.out.size)
      go_wp2_with (at_builtin; refine wpList_append_lies _ rfl _ _ 100 rfl (w.heap.size + 1) 5 i0 _ 1 1 Tryd.underlying100 hi hz0 hz1 hz2 rfl (by decide) (.slice A5 (m + p) c5) (m + p) _ rfl (HO5.out.alloc _) ⟨w5.heap.size, 0, none⟩ 1 1 [.int .u8 32] rfl rfl (one_cell _ _ _) (one_one rfl) (by decide) (by unfold maxLen; omega) (by omega) (by have := HS5.out; simp; omega) (w5.heap.size + 1) (by simp) ?_; intro g' c6 W6 hown hgrow hat hlt3; have HO6 := Lib.hid hown; have HG6 := Lib.hid hgrow; clear hown hgrow hat hlt3)
      go_roundw
      case rel => exact ⟨k + 1, m + p + 1, c6, some ⟨g', 0, none⟩, by omega, by omega, by go_num, rfl, Lib.hid (by
        have h6 := HO6.out
        rw [argB_take hlt, HXX.out, Lib.byteCells_append, Lib.byteCells_append, ← List.append_assoc]
        exact h6), Lib.hid (HB.out.trans (HB5.out.trans (((Below.refl _ _).alloc HS5.out _).grown HG6.out (by have := HS5.out; simp; omega) (fun q hq => (HO5.out.lt q hq).1))))⟩
      case measure => simp [intOf]; omega
    · obtain rfl : k = ks.length := by omega
      have g7 : ¬ ((ks.length : Int) < (ks.length : Int)) := by omega
      have HTX : Hid (⟨(argB (ks.take ks.length)).toArray⟩ = argT ks) := Lib.hid (by rw [List.take_length]; rfl)
      have HX2 := Lib.hid (HX.out.below HB.out (by omega))
      have HBW : Hid (Below w.heap.size w wr) := Lib.hid (HB0.out.trans (HB.out.mono (by omega)))
      go_upto_region 8 with fail
      obtain ⟨S', hSd⟩ : ∃ S' : Bool → World → Prop, S' = fun q W => q = true → (convert 100 9 (.slice A3 m c3)).run Tryd.prog W = .ok (.string (argT ks)) W := ⟨_, rfl⟩
      have HMO : ∀ w, S' true w → S' false w := by rw [hSd]; intro w _ h; cases h
      have HSP : ∀ W : World, S' true W → (convert 100 9 (.slice A3 m c3)).run Tryd.prog W = .ok (.string (argT ks)) W := fun W h => by rw [hSd] at h; exact h rfl
      have HSM : ∀ W : World, (convert 100 9 (.slice A3 m c3)).run Tryd.prog W = .ok (.string (argT ks)) W → S' true W := fun W h => by rw [hSd]; exact fun _ => h
      have HSF : ∀ W : World, S' false W := fun W => by rw [hSd]; intro h; cases h
      clear hSd
      refine wp_region_T S' 5 (by kernel_rfl) (HSM _ (by have := own_conv (w := wr.drew) HOWN.out; rw [HTX.out] at this; exact this)) (fun hH => ?_)
      have HX3 : Hid (Bk wr.drew w.heap.size 91 #[.string ⟨#[]⟩, .string ⟨#[]⟩]) := HX2
      have HBW3 : Hid (Below w.heap.size w wr.drew) := Lib.hid HBW.out.drew
      have HZ : Hid (wr.drew.heap.size = wr.heap.size ∧ ∀ g : Nat, wr.drew.heap[g]? = wr.heap[g]?) := Lib.hid ⟨rfl, fun _ => rfl⟩
      generalize wr.drew = W3 at *
      refine wpAnyT_take (i := 0) (v := ?_) spat0 (by kernel_rfl) (by kernel_rfl) (by kernel_rfl) (by decide) (fun _ _ _ h => h) (Or.inl ⟨by rfl, ?_⟩) HMO hH ?_
      rotate_left
      · (intro w hSw; clear hSw; go_simp; (try with_reducible rfl))
      (try simp only [Act.put, List.setIfInBounds_toArray, List.set_cons_zero, List.set_cons_succ])
      refine wpAnyT_take (i := 2) (v := ?_) spat2 (by kernel_rfl) (by kernel_rfl) (by kernel_rfl) (by decide) (fun _ _ _ h => h) (Or.inl ⟨by rfl, ?_⟩) HMO hH ?_
      rotate_left
      · (intro w hSw; clear hSw; go_simp; (try with_reducible rfl))
      (try simp only [Act.put, List.setIfInBounds_toArray, List.set_cons_zero, List.set_cons_succ])
      refine wpAnyT_read (i := 3) (v := ?_) [4, 5] spat3 (by kernel_rfl) (by kernel_rfl) (by kernel_rfl) (by decide) (by kernel_rfl) (fun _ _ _ h => h) (Or.inl ⟨by rfl, ?_⟩) hH ?_
      rotate_left
      · (intro w hSw; have hrun := HSP _ hSw; clear hSw; go_simp; (try with_reducible rfl))
      (try simp only [Act.put, List.setIfInBounds_toArray, List.set_cons_zero, List.set_cons_succ])
      refine wpAnyT_ready (rs := [1]) (by kernel_rfl) (by simp) ?_
      refine AllReadyT.cons spat1 true (by kernel_rfl) (fun K' hK' => ?_) AllReadyT.nil
      go_simp
      refine (sclone_any n W3 hn).mono ?_
      rintro e W5 ⟨rfl, HB5⟩
      have HC5 : Hid ((convert 100 9 (.slice A3 m c3)).run Tryd.prog W5 = .ok (.string (argT ks)) W5) := Lib.hid (by
        have := own_conv (w := W5) (own_stays (w := wr) HOWN.out fun g hg => (HB5.out.block g (by have := (HOWN.out.lt g hg).2; rw [HZ.out.1]; exact this)).trans (HZ.out.2 g))
        rw [HTX.out] at this
        exact this)
      have HX5 := Lib.hid (HX3.out.below HB5.out HX3.out.lt)
      have HBW5 : Hid (Below w.heap.size w W5) := Lib.hid (HBW3.out.trans (HB5.out.mono HBW3.out.size))
      refine hK'.out _ _ (HSM _ HC5.out) (fun hH => ?_)
      clear hK' K'
      (try simp only [Act.put, List.setIfInBounds_toArray, List.set_cons_zero, List.set_cons_succ])
      refine wpAnyT_take (i := 4) (v := ?_) spat4 (by kernel_rfl) (by kernel_rfl) (by kernel_rfl) (by decide) (fun _ _ _ h => h) (Or.inl ⟨by rfl, ?_⟩) HMO hH ?_
      rotate_left
      · (intro w hSw; clear hSw; go_simp; (try with_reducible rfl))
      (try simp only [Act.put, List.setIfInBounds_toArray, List.set_cons_zero, List.set_cons_succ])
      refine wpAnyT_ready (rs := [5]) (by kernel_rfl) (by simp) ?_
      refine AllReadyT.cons spat5 false (by kernel_rfl) (fun K' hK' => ?_) AllReadyT.nil
      have d0 := HX5.out.cell 0
      have d1 := HX5.out.cell 1
      have df := HX5.out.frozen
      have HX6 : Hid (Bk ((W5.setCell ⟨w.heap.size, 0, none⟩ (.string n)).setCell ⟨w.heap.size, 1, none⟩ (.string (argT ks))) w.heap.size 91 #[.string n, .string (argT ks)]) := Lib.hid (by
        have := (HX5.out.set_ 0 (.string n)).set_ 1 (.string (argT ks))
        simpa using this)
      have HBW6 : Hid (Below w.heap.size w ((W5.setCell ⟨w.heap.size, 0, none⟩ (.string n)).setCell ⟨w.heap.size, 1, none⟩ (.string (argT ks)))) := Lib.hid ((HBW5.out.setCell (Nat.le_refl _) _).setCell (Nat.le_refl _) _)
      go_simp
      refine hK'.out _ _ (HSF _) (fun hH => ?_)
      clear hK' K' d0 d1 df
      (try simp only [Act.put, List.setIfInBounds_toArray, List.set_cons_zero, List.set_cons_succ])
      refine wpAnyT_done (by kernel_rfl) ?_ _
      clear HMO HSP HSM HSF hH
      generalize World.setCell (World.setCell _ _ _) _ _ = W6 at *
      have d0 := HX6.out.cell 0
      have d1 := HX6.out.cell 1
      (try go_wp2)
      refine bodyPost_ret (v := .agg #[.string n, .string (argT ks)]) (by simp [results, Tryd.results43, go_sem, d0, d1]) rfl ⟨rfl, HBW6⟩
end Go.Proofs.YtdnhhfhjjimcgaaDoor.dg
