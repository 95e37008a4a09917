/- Package dag: twice as many buckets; a hash is added. -/
import Derived.Laws.MakeOwn
import Derived.Test.YtdnhhfhjjimcgaaDoorGu
namespace Go.Proofs.YtdnhhfhjjimcgaaDoor.dg
open Go Go.RowKit

theorem TbEnd.step {w w1 w2 : World} {F J F' J' : Nat → Prop} {ib : Nat} {hs' : List Int} {n' k' : Nat} (a2 : Sft (fun g => F g ∨ J g) w w1) (a3 : ∀ g, F' g → F g ∨ w.heap.size ≤ g) (a4 : ∀ g, J' g → J g ∨ w.heap.size ≤ g) (h2 : TbEnd w1 w2 F' J' ib hs' n' k') : TbEnd w w2 F J ib hs' n' k' := by
  obtain ⟨F2, J2, b1, b2, b3, b4, b5⟩ := h2
  refine ⟨F2, J2, b1, a2.trans b2 (fun g hg => ?_), fun g hg => ?_, fun g hg => ?_, b5⟩
  · rcases hg with hg | hg
    · exact (a3 g hg).imp .inl id
    · exact (a4 g hg).imp .inr id
  · rcases b3 g hg with h | h
    · exact a3 g h
    · exact .inr (Nat.le_trans a2.size h)
  · rcases b4 g hg with h | h
    · exact a4 g h
    · exact .inr (Nat.le_trans a2.size h)
theorem bucket_zero (hs : List Int) (n b : Nat) : bucket hs n b 0 = [] := rfl
theorem madeNil (m : Nat) : (madeCells (Value.slice none 0 0).cells (m * 1)).toList = List.replicate m (Value.slice none 0 0) := by
  rw [Nat.mul_one]
  exact toList_madeCells_one _ _
/-- a table of hashes with new, empty buckets -/
theorem Tb.anew {w w1 : World} {F J : Nat → Prop} {ib : Nat} {hs : List Int} {n k : Nat} (h : Tb w F J ib hs n k) {m : Nat} (hm : 0 < m) (hlt : ∀ g, F g ∨ J g → g < w.heap.size)
    (hown : w1.ownsRow 0 33 1 (.slice (some ⟨w.heap.size, 0, none⟩) m m) m (madeCells (Value.slice none 0 0).cells (m * 1)).toList) (hg : w.grownBy w1 none) :
    TbEnd w (w1.setCell ⟨ib, 1, none⟩ (.slice (some ⟨w.heap.size, 0, none⟩) m m)) F J ib hs m 0 := by
  obtain ⟨hv, bv, bs, h1, h2, h3, h4, h5, h6, h7, h8⟩ := h
  have k1 : ∀ g, g < w.heap.size → w1.heap[g]? = w.heap[g]? := fun g hg1 => hg.block g hg1 (by simp)
  have hib := h1.lt
  have kset : ∀ g, g ≠ ib → (w1.setCell ⟨ib, 1, none⟩ (.slice (some ⟨w.heap.size, 0, none⟩) m m)).heap[g]? = w1.heap[g]? := fun g hg => Below.heap_setCell _ _ _ _ hg
  have hsz : (w1.setCell ⟨ib, 1, none⟩ (.slice (some ⟨w.heap.size, 0, none⟩) m m)).heap.size = w1.heap.size := by simp [World.setCell]
  have hnew : w.heap.size < w1.heap.size := by
    obtain ⟨g, c, e, hl, _⟩ := own_pos hown hm
    injection e with e _ _
    injection e with e
    injection e with e _ _
    omega
  rw [madeNil] at hown
  have hbox : Bk w1 ib 86 #[hv, bv] := (k1 ib hib).trans h1
  refine ⟨fun g => F g ∨ g = w.heap.size, J, ⟨hv, .slice (some ⟨w.heap.size, 0, none⟩) m m, List.replicate m (.slice none 0 0), ?_, .inl h2, ?_, fun g hg => .inl (h4 g hg), ?_, fun g hg => .inr (by injection hg with hg; exact hg.symm), fun b hb => ⟨.slice none 0 0, by simp [hb], ?_, fun g hg => by cases hg⟩, fun b b' v v' g e1 e2 o1 o2 => ?_⟩, ?_, ?_, fun g hg => .inl hg, ?_⟩
  · have := hbox.set_ 1 (.slice (some ⟨w.heap.size, 0, none⟩) m m)
    simpa using this
  · exact own_stays h3 fun g hg => (kset g ((own_ty h3 g hg).ne h1.ty (by decide))).trans (k1 g (own_ty h3 g hg).lt)
  · refine own_stays hown fun g hg => kset g ?_
    simp only [Value.ownBlock, Option.some.injEq] at hg
    omega
  · rw [bucket_zero]
    exact World.ownsRow_nil _ _ _ _
  · have hb : b < m := by have := (List.getElem?_eq_some_iff.1 e1).1; simpa using this
    rw [List.getElem?_replicate, if_pos hb] at e1
    injection e1 with e1
    subst e1
    cases o1
  · refine ⟨hg.os, hg.tape, hg.output, by rw [hsz]; exact hg.size, fun g hg1 hx => (kset g (fun e => hx (.inl (e ▸ h2)))).trans (k1 g hg1)⟩
  · rintro g (h | rfl)
    · exact .inl h
    · exact .inr (Nat.le_refl _)
  · rintro g ((h | rfl) | h)
    · rw [hsz]; exact Nat.lt_of_lt_of_le (hlt g (.inl h)) hg.size
    · rw [hsz]; exact hnew
    · rw [hsz]; exact Nat.lt_of_lt_of_le (hlt g (.inr h)) hg.size
set_option maxRecDepth 100000 in
set_option maxHeartbeats 4000000 in
theorem double_any {w : World} {F J : Nat → Prop} {ib : Nat} {hs : List Int} {n k0 : Nat} (H : Hid (Tb w F J ib hs n k0)) (hn : 0 < n) {m : Nat} (hm : 2 * n = m) (hm2 : m ≤ 4000000) (hk2 : hs.length ≤ 1000001) (hr : Hid (∀ k (h : k < hs.length), 0 ≤ hs[k] ∧ hs[k] < 18446744073709551616)) (hlt : Hid (∀ g, F g ∨ J g → g < w.heap.size)) :
    Calls Tryd.prog 61 #[.pointer (some ⟨ib, 0, none⟩)] w fun e w' => e = .returned (.tuple #[]) ∧ Hid (TbEnd w w' F J ib hs m hs.length) := by
  obtain ⟨i0, hi, hz0, hz1, hz2⟩ := info_parts infoInts
  obtain ⟨w1, hrun, hown, hgrow⟩ := run_makeSlice_full (P := Tryd.prog) w 0 50 33 i0 _ 1 Tryd.underlying50 hi hz0 hz1 .i64 .i64 m (by omega) (by rw [hz2]; omega) (by unfold maxLen; omega) (by omega)
  obtain ⟨gb, cb, Ah, ch, h1⟩ := H.out.lens hn
  have hmn : 2 * (n : Int) = (m : Int) := by omega
  have hib := h1.lt
  have HN : Hid (TbEnd w (w1.setCell ⟨ib, 1, none⟩ (.slice (some ⟨w.heap.size, 0, none⟩) m m)) F J ib hs m 0) := Lib.hid (H.out.anew (by omega) hlt.out hown hgrow)
  have b1 : Bk w1 ib 86 #[.slice Ah hs.length ch, .slice (some ⟨gb, 0, none⟩) n cb] := (hgrow.block ib hib (by simp)).trans h1
  have c1 := h1.cell 1
  have d1 := b1.cell 1
  have f1 := b1.frozen 1
  have hib1 := b1.lt
  have HB2 : Hid (Bk (w1.setCell ⟨ib, 1, none⟩ (.slice (some ⟨w.heap.size, 0, none⟩) m m)) ib 86 #[.slice Ah hs.length ch, .slice (some ⟨w.heap.size, 0, none⟩) m m]) := Lib.hid (by
    have := b1.set_ 1 (.slice (some ⟨w.heap.size, 0, none⟩) m m)
    simpa using this)
  have hm0 : 0 < m := by omega
  clear h1 b1 hown hgrow hm
  go_enter Tryd.func61, Tryd.ntmps61
  go_upto_region 1 with fail
  clear c1 d1 f1 hrun hib1
  generalize World.setCell w1 _ _ = W2 at *
  have c0 := HB2.out.cell 0
  go_upto_region 2 with fail
  clear c0
  go_loopw [18] (fun iv wr => ∃ k : Nat, k ≤ hs.length ∧ iv = .int .i64 (k : Int) ∧ Hid (TbEnd w wr F J ib hs m k)) (fun iv _ => hs.length - (intOf iv).toNat)
  case atStart => exact ⟨0, Nat.zero_le _, rfl, HN⟩
  case round =>
    obtain ⟨k, hk, rfl, HK⟩ := hrel
    by_cases hlt2 : k < hs.length
    · have g7 : (k : Int) < (hs.length : Int) := by omega
      obtain ⟨F', J', a1, a2, a3, a4, a5⟩ := HK.out
      have PU := put_any (Lib.hid a1) hm0 hm2 hlt2 hk2 (Lib.hid (hr.out k hlt2)) (Lib.hid a5)
      have HPU := Lib.hid PU
      have HA : Hid (∀ W, TbEnd wr W F' J' ib hs m (k + 1) → TbEnd w W F J ib hs m (k + 1)) := Lib.hid fun W hW => TbEnd.step a2 a3 a4 hW
      clear PU a1 a2 a3 a4 a5 HK
      go_wp2_with (go_at_call 62; refine HPU.out.mono ?_; rintro e w5 ⟨rfl, HB5⟩)
      go_roundw
      case rel => exact ⟨k + 1, by omega, by go_num, Lib.hid (HA.out _ HB5.out)⟩
      case measure => simp [intOf]; omega
    · obtain rfl : k = hs.length := by omega
      have g7 : ¬ ((hs.length : Int) < (hs.length : Int)) := by omega
      go_wp2_with fail
      go_end0
      exact ⟨rfl, HK⟩
end Go.Proofs.YtdnhhfhjjimcgaaDoor.dg
