/- The document's answer of layer 5: are two trees one? -/
import Derived.Test.YtmnllioeaaimcaaDoorVb
import Derived.StillTailTactics
namespace Go.Proofs.YtmnllioeaaimcaaDoor.tr
open Go.RowKit Go.Proofs.YtmnllioeaaimcaaDoor.tk

theorem below_drew {B : Nat} {w w' : World} (h : Below B w w') : Below B w w'.drew := ⟨h.os, h.tape, h.output, h.size, h.block⟩
set_option maxRecDepth 100000 in
set_option maxHeartbeats 2000000 in
theorem refSame_any : ∀ (N : Nat) {l l' at_ : Bool} {t u : Tok} {ks js : List Tree} {A A' : Option Addr} {c c' : Nat} {w : World} {F G : Nat → Prop}, parts (.mk l t ks) ≤ N → N ≤ 100000000 → Hid (Vt w F (.mk l t ks) [.bool l, .int .i64 t.k, .string ⟨t.s.toArray⟩, .int .i64 t.p, .slice A ks.length c]) → Hid (Vt w G (.mk l' u js) [.bool l', .int .i64 u.k, .string ⟨u.s.toArray⟩, .int .i64 u.p, .slice A' js.length c']) →
    Calls Tryd.prog 18 #[.agg #[.bool l, .int .i64 t.k, .string ⟨t.s.toArray⟩, .int .i64 t.p, .slice A ks.length c], .agg #[.bool l', .int .i64 u.k, .string ⟨u.s.toArray⟩, .int .i64 u.p, .slice A' js.length c'], .bool at_] w fun e w' => e = .returned (.bool (sameB at_ (.mk l t ks) (.mk l' u js))) ∧ Hid (Below w.heap.size w w') := by
  intro N
  induction N with
  | zero => intro l l' at_ t u ks js A A' c c' w F G h; have := parts_pos (.mk l t ks); omega
  | succ N ih =>
    intro l l' at_ t u ks js A A' c c' w F G h hN hv hv'
    have HP : Hid (∀ j (h : j < ks.length), parts ks[j] ≤ N) := Lib.hid fun j hj => by have := parts_kid (l := l) (t := t) hj; omega
    have hkl : ks.length ≤ 100000000 := by
      have h1 := len_partss ks
      have e : parts (.mk l t ks) = 1 + partss ks := by simp [parts]
      omega
    obtain ⟨r, hr⟩ : ∃ r, sameB at_ (.mk l t ks) (.mk l' u js) = r := ⟨_, rfl⟩
    rw [hr]
    have HR := Lib.hid hr
    clear hr
    go_enter Tryd.func18, Tryd.ntmps18
    go_upto_region 1 with fail
    generalize hW : World.alloc (w.alloc _) _ = W0
    have HT0 : Hid (Bk W0 w.heap.size 37 #[.bool l, .int .i64 t.k, .string ⟨t.s.toArray⟩, .int .i64 t.p, .slice A ks.length c]) := Lib.hid (hW ▸ ((Bk.new w _ _).below ((Below.refl _ _).alloc (Nat.le_refl _) _) (by simp)))
    have HU0 : Hid (Bk W0 (w.heap.size + 1) 37 #[.bool l', .int .i64 u.k, .string ⟨u.s.toArray⟩, .int .i64 u.p, .slice A' js.length c']) := Lib.hid (by
      have := Bk.new (w.alloc (.cells #[.bool l, .int .i64 t.k, .string ⟨t.s.toArray⟩, .int .i64 t.p, .slice A ks.length c] 37)) 37 #[.bool l', .int .i64 u.k, .string ⟨u.s.toArray⟩, .int .i64 u.p, .slice A' js.length c']
      rw [hW] at this
      simpa using this)
    have HB0 : Hid (Below w.heap.size w W0) := Lib.hid (hW ▸ ((Below.refl _ _).alloc (Nat.le_refl _) _).alloc (by simp) _)
    have HL0 : Hid (w.heap.size + 1 < W0.heap.size) := Lib.hid (HU0.out.lt)
    clear hW
    have a0 : W0.cell? ⟨w.heap.size, 0, none⟩ = some (.bool l) := HT0.out.cell 0
    have a1 : W0.cell? ⟨w.heap.size, 1, none⟩ = some (.int .i64 t.k) := HT0.out.cell 1
    have a2 : W0.cell? ⟨w.heap.size, 2, none⟩ = some (.string ⟨t.s.toArray⟩) := HT0.out.cell 2
    have a3 : W0.cell? ⟨w.heap.size, 3, none⟩ = some (.int .i64 t.p) := HT0.out.cell 3
    have a4 : W0.cell? ⟨w.heap.size, 4, none⟩ = some (.slice A ks.length c) := HT0.out.cell 4
    have b0 : W0.cell? ⟨w.heap.size + 1, 0, none⟩ = some (.bool l') := HU0.out.cell 0
    have b1 : W0.cell? ⟨w.heap.size + 1, 1, none⟩ = some (.int .i64 u.k) := HU0.out.cell 1
    have b2 : W0.cell? ⟨w.heap.size + 1, 2, none⟩ = some (.string ⟨u.s.toArray⟩) := HU0.out.cell 2
    have b3 : W0.cell? ⟨w.heap.size + 1, 3, none⟩ = some (.int .i64 u.p) := HU0.out.cell 3
    have b4 : W0.cell? ⟨w.heap.size + 1, 4, none⟩ = some (.slice A' js.length c') := HU0.out.cell 4
    by_cases h1 : l = l'
    · subst h1
      have g1 : ((l != l) : Bool) = false := by simp
      by_cases h2 : t.k = u.k
      · have g2 : ((t.k != u.k) : Bool) = false := by simp [h2]
        by_cases h3 : t.s = u.s
        · have g3 : ((t.s != u.s) : Bool) = false := by simp [h3]
          by_cases h40 : at_ = true ∧ t.p ≠ u.p
          · obtain ⟨rfl, h41⟩ := h40
            have g4 : ((t.p != u.p) : Bool) = true := by simp [h41]
            obtain rfl : r = false := by rw [← HR.out]; simp [sameB, h41]
            go_wp2_with fail
            go_ret
            exact ⟨rfl, HB0⟩
          have h4 : at_ = true → t.p = u.p := fun e => Classical.byContradiction fun e2 => h40 ⟨e, e2⟩
          clear h40
          have HS : Hid (sameB at_ (.mk l t ks) (.mk l u js) = samesB at_ ks js) := Lib.hid (by
            cases at_ with
            | false => simp [sameB, h2, h3]
            | true => simp [sameB, h2, h3, h4 rfl])
          have HR2 := Lib.hid (HS.out.symm.trans HR.out)
          clear HR HS
          by_cases h5 : ks.length = js.length
          · have g5 : (((ks.length : Int) != (js.length : Int)) : Bool) = false := by simp [h5]
            cases at_ with
            | false =>
              go_upto_region 4 with fail
              have H5 := Lib.hid h5
              clear a0 a1 a2 a3 a4 b0 b1 b2 b3 b4 g1 g2 g3 g5 h2 h3 h4 h5
              go_loopw [7] (fun iv wr => ∃ k : Nat, k ≤ ks.length ∧ iv = .int .i64 (k : Int) ∧ Hid (∀ j (h : j < ks.length) (h' : j < js.length), j < k → sameB false ks[j] js[j] = true) ∧ Hid (Below W0.heap.size W0 wr)) (fun iv _ => ks.length - (intOf iv).toNat)
              case atStart => exact ⟨0, Nat.zero_le _, rfl, Lib.hid (fun j _ _ h => absurd h (by omega)), Lib.hid (Below.refl _ _)⟩
              case round =>
                obtain ⟨k, hk, rfl, HK, HB⟩ := hrel
                have HT := Lib.hid (HT0.out.below HB.out (by have := HL0.out; omega))
                have HU := Lib.hid (HU0.out.below HB.out HL0.out)
                have a4 : wr.cell? ⟨w.heap.size, 4, none⟩ = some (.slice A ks.length c) := HT.out.cell 4
                have b4 : wr.cell? ⟨w.heap.size + 1, 4, none⟩ = some (.slice A' js.length c') := HU.out.cell 4
                by_cases hlt : k < ks.length
                · have g7 : (k : Int) < (ks.length : Int) := by omega
                  have g8 : (k : Int) < (js.length : Int) := by have := H5.out; omega
                  obtain ⟨g, off, rfl, hF, hg, hr⟩ := hv.out.kids (by omega)
                  obtain ⟨g', off', rfl, hG, hg', hr'⟩ := hv'.out.kids (by have := H5.out; omega)
                  have HBw : Hid (Below w.heap.size w wr) := Lib.hid (HB0.out.trans (HB.out.mono HB0.out.size))
                  have hr2 := Vr.stays HBw.out.size (fun g hF hg => ⟨hF, HBw.out.block g hg⟩) hF hg ks hr
                  have hr3 := Vr.stays HBw.out.size (fun g hF hg => ⟨hF, HBw.out.block g hg⟩) hG hg' js hr'
                  obtain ⟨l1, t1, k1, A1, c1, e1, hv1, q0, q1, q2, q3, q4⟩ := hr2.get hlt
                  obtain ⟨l2, t2, k2, A2, c2, e2, hv2, p0, p1, p2, p3, p4⟩ := hr3.get (show k < js.length by have := H5.out; omega)
                  have HPK : Hid (parts (.mk l1 t1 k1) ≤ N) := Lib.hid (by have := HP.out k hlt; rw [e1] at this; exact this)
                  obtain ⟨b, hb⟩ : ∃ b, sameB false (.mk l1 t1 k1) (.mk l2 t2 k2) = b := ⟨_, rfl⟩
                  have HE : Hid (sameB false (ks[k]'hlt) (js[k]'(by have := H5.out; omega)) = b) := Lib.hid (by rw [e1, e2]; exact hb)
                  have IH : Calls Tryd.prog 18 #[.agg #[.bool l1, .int .i64 t1.k, .string ⟨t1.s.toArray⟩, .int .i64 t1.p, .slice A1 k1.length c1], .agg #[.bool l2, .int .i64 t2.k, .string ⟨t2.s.toArray⟩, .int .i64 t2.p, .slice A2 k2.length c2], .bool false] wr.drew fun e w' => e = .returned (.bool b) ∧ Hid (Below wr.drew.heap.size wr.drew w') := hb ▸ ih HPK.out (by omega) (Lib.hid (hv1.below (below_drew (Below.refl _ _)))) (Lib.hid (hv2.below (below_drew (Below.refl _ _))))
                  clear hr hr' hr2 hr3 hv1 hv2 e1 e2 hb
                  go_upto_region 6 with fail
                  refine wp_region_still_tail 11 (by kernel_rfl) (by kernel_rfl) ?_
                  simp only [List.take_succ_cons, List.take_zero, List.drop_succ_cons, List.drop_zero]
                  show wpStill _ _ wr.drew (fun a' => wpList _ _ _ _ a' wr.drew) _ _
                  repeat still_step
                  refine wpStill_nil ?_
                  cases b with
                  | true =>
                    go_wp2_with (go_at_call 18; refine IH.mono ?_; rintro e w5 ⟨rfl, HB5⟩)
                    go_roundw
                    case rel => exact ⟨k + 1, by omega, by go_num, Lib.hid (fun j h h' hj => by
                      by_cases e : j = k
                      · subst e; exact HE.out
                      · exact HK.out j h h' (by omega)), Lib.hid ((below_drew HB.out).trans (HB5.out.mono HB.out.size))⟩
                    case measure => simp [intOf]; omega
                  | false =>
                    obtain rfl : r = false := by
                      rw [← HR2.out]
                      cases e : samesB false ks js with
                      | false => rfl
                      | true =>
                        have := (sames_at H5.out).1 e k hlt (by have := H5.out; omega)
                        rw [HE.out] at this
                        cases this
                    go_wp2_with (go_at_call 18; refine IH.mono ?_; rintro e w5 ⟨rfl, HB5⟩)
                    go_ret
                    exact ⟨rfl, Lib.hid (HB0.out.trans (((below_drew HB.out).trans (HB5.out.mono HB.out.size)).mono HB0.out.size))⟩
                · obtain rfl : k = ks.length := by omega
                  have g7 : ¬ ((ks.length : Int) < (ks.length : Int)) := by omega
                  obtain rfl : r = true := by
                    rw [← HR2.out]
                    exact (sames_at H5.out).2 fun j h h' => HK.out j h h' h
                  go_wp2_with fail
                  go_ret
                  exact ⟨rfl, Lib.hid (HB0.out.trans (HB.out.mono HB0.out.size))⟩
            | true =>
              have g4 : ((t.p != u.p) : Bool) = false := by simp [h4 rfl]
              go_upto_region 4 with fail
              have H5 := Lib.hid h5
              clear a0 a1 a2 a3 a4 b0 b1 b2 b3 b4 g1 g2 g3 g5 h2 h3 h4 h5
              go_loopw [7] (fun iv wr => ∃ k : Nat, k ≤ ks.length ∧ iv = .int .i64 (k : Int) ∧ Hid (∀ j (h : j < ks.length) (h' : j < js.length), j < k → sameB true ks[j] js[j] = true) ∧ Hid (Below W0.heap.size W0 wr)) (fun iv _ => ks.length - (intOf iv).toNat)
              case atStart => exact ⟨0, Nat.zero_le _, rfl, Lib.hid (fun j _ _ h => absurd h (by omega)), Lib.hid (Below.refl _ _)⟩
              case round =>
                obtain ⟨k, hk, rfl, HK, HB⟩ := hrel
                have HT := Lib.hid (HT0.out.below HB.out (by have := HL0.out; omega))
                have HU := Lib.hid (HU0.out.below HB.out HL0.out)
                have a4 : wr.cell? ⟨w.heap.size, 4, none⟩ = some (.slice A ks.length c) := HT.out.cell 4
                have b4 : wr.cell? ⟨w.heap.size + 1, 4, none⟩ = some (.slice A' js.length c') := HU.out.cell 4
                by_cases hlt : k < ks.length
                · have g7 : (k : Int) < (ks.length : Int) := by omega
                  have g8 : (k : Int) < (js.length : Int) := by have := H5.out; omega
                  obtain ⟨g, off, rfl, hF, hg, hr⟩ := hv.out.kids (by omega)
                  obtain ⟨g', off', rfl, hG, hg', hr'⟩ := hv'.out.kids (by have := H5.out; omega)
                  have HBw : Hid (Below w.heap.size w wr) := Lib.hid (HB0.out.trans (HB.out.mono HB0.out.size))
                  have hr2 := Vr.stays HBw.out.size (fun g hF hg => ⟨hF, HBw.out.block g hg⟩) hF hg ks hr
                  have hr3 := Vr.stays HBw.out.size (fun g hF hg => ⟨hF, HBw.out.block g hg⟩) hG hg' js hr'
                  obtain ⟨l1, t1, k1, A1, c1, e1, hv1, q0, q1, q2, q3, q4⟩ := hr2.get hlt
                  obtain ⟨l2, t2, k2, A2, c2, e2, hv2, p0, p1, p2, p3, p4⟩ := hr3.get (show k < js.length by have := H5.out; omega)
                  have HPK : Hid (parts (.mk l1 t1 k1) ≤ N) := Lib.hid (by have := HP.out k hlt; rw [e1] at this; exact this)
                  obtain ⟨b, hb⟩ : ∃ b, sameB true (.mk l1 t1 k1) (.mk l2 t2 k2) = b := ⟨_, rfl⟩
                  have HE : Hid (sameB true (ks[k]'hlt) (js[k]'(by have := H5.out; omega)) = b) := Lib.hid (by rw [e1, e2]; exact hb)
                  have IH : Calls Tryd.prog 18 #[.agg #[.bool l1, .int .i64 t1.k, .string ⟨t1.s.toArray⟩, .int .i64 t1.p, .slice A1 k1.length c1], .agg #[.bool l2, .int .i64 t2.k, .string ⟨t2.s.toArray⟩, .int .i64 t2.p, .slice A2 k2.length c2], .bool true] wr.drew fun e w' => e = .returned (.bool b) ∧ Hid (Below wr.drew.heap.size wr.drew w') := hb ▸ ih HPK.out (by omega) (Lib.hid (hv1.below (below_drew (Below.refl _ _)))) (Lib.hid (hv2.below (below_drew (Below.refl _ _))))
                  clear hr hr' hr2 hr3 hv1 hv2 e1 e2 hb
                  go_upto_region 6 with fail
                  refine wp_region_still_tail 11 (by kernel_rfl) (by kernel_rfl) ?_
                  simp only [List.take_succ_cons, List.take_zero, List.drop_succ_cons, List.drop_zero]
                  show wpStill _ _ wr.drew (fun a' => wpList _ _ _ _ a' wr.drew) _ _
                  repeat still_step
                  refine wpStill_nil ?_
                  cases b with
                  | true =>
                    go_wp2_with (go_at_call 18; refine IH.mono ?_; rintro e w5 ⟨rfl, HB5⟩)
                    go_roundw
                    case rel => exact ⟨k + 1, by omega, by go_num, Lib.hid (fun j h h' hj => by
                      by_cases e : j = k
                      · subst e; exact HE.out
                      · exact HK.out j h h' (by omega)), Lib.hid ((below_drew HB.out).trans (HB5.out.mono HB.out.size))⟩
                    case measure => simp [intOf]; omega
                  | false =>
                    obtain rfl : r = false := by
                      rw [← HR2.out]
                      cases e : samesB true ks js with
                      | false => rfl
                      | true =>
                        have := (sames_at H5.out).1 e k hlt (by have := H5.out; omega)
                        rw [HE.out] at this
                        cases this
                    go_wp2_with (go_at_call 18; refine IH.mono ?_; rintro e w5 ⟨rfl, HB5⟩)
                    go_ret
                    exact ⟨rfl, Lib.hid (HB0.out.trans (((below_drew HB.out).trans (HB5.out.mono HB.out.size)).mono HB0.out.size))⟩
                · obtain rfl : k = ks.length := by omega
                  have g7 : ¬ ((ks.length : Int) < (ks.length : Int)) := by omega
                  obtain rfl : r = true := by
                    rw [← HR2.out]
                    exact (sames_at H5.out).2 fun j h h' => HK.out j h h' h
                  go_wp2_with fail
                  go_ret
                  exact ⟨rfl, Lib.hid (HB0.out.trans (HB.out.mono HB0.out.size))⟩
          · have g5 : (((ks.length : Int) != (js.length : Int)) : Bool) = true := by
              rw [bne_iff_ne]
              omega
            obtain rfl : r = false := by
              rw [← HR2.out]
              cases e : samesB at_ ks js with
              | false => rfl
              | true => exact absurd (sames_len e) h5
            cases at_ with
            | false =>
              go_wp2_with fail
              go_ret
              exact ⟨rfl, HB0⟩
            | true =>
              have g4 : ((t.p != u.p) : Bool) = false := by simp [h4 rfl]
              go_wp2_with fail
              go_ret
              exact ⟨rfl, HB0⟩
        · have g3 : ((t.s != u.s) : Bool) = true := by simp [h3]
          obtain rfl : r = false := by rw [← HR.out]; simp [sameB, h3]
          go_wp2_with fail
          go_ret
          exact ⟨rfl, HB0⟩
      · have g2 : ((t.k != u.k) : Bool) = true := by simp [h2]
        obtain rfl : r = false := by rw [← HR.out]; simp [sameB, h2]
        go_wp2_with fail
        go_ret
        exact ⟨rfl, HB0⟩
    · have g1 : ((l != l') : Bool) = true := by simp [h1]
      obtain rfl : r = false := by rw [← HR.out]; simp [sameB, h1]
      go_wp2_with fail
      go_ret
      exact ⟨rfl, HB0⟩
end Go.Proofs.YtmnllioeaaimcaaDoor.tr
