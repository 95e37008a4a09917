/- Package dag: a new arena. -/
import Derived.Test.YtdnhhfhjjimcgaaDoorHg
namespace Go.Proofs.YtdnhhfhjjimcgaaDoor.dg
open Go Go.RowKit

set_option maxRecDepth 100000 in
set_option maxHeartbeats 2000000 in
theorem newTable_any {w : World} :
    Calls Tryd.prog 41 #[] w fun e w' => ∃ ib, e = .returned (.pointer (some ⟨ib, 0, none⟩)) ∧ Hid (Tb w' (fun g => w.heap.size ≤ g ∧ g < w'.heap.size) (fun _ => False) ib [] 16 0) ∧ Hid (Below w.heap.size w w') := by
  obtain ⟨i0, hi, hz0, hz1, hz2⟩ := info_parts infoInts
  obtain ⟨w1, hrun, hown, hgrow⟩ := run_makeSlice_full (P := Tryd.prog) w 0 50 33 i0 _ 1 Tryd.underlying50 hi hz0 hz1 .i64 .i64 16 (by omega) (by rw [hz2]; omega) (by unfold maxLen; omega) (by omega)
  have HO := Lib.hid hown
  have HG := Lib.hid hgrow
  have hrun2 : (Instr.makeSlice 50 (.int .i64 16) (.int .i64 16)).run Tryd.prog w = .ok (.slice (some ⟨w.heap.size, 0, none⟩) 16 16) w1 := hrun
  clear hown hgrow hrun
  go_enter Tryd.func41, Tryd.ntmps41
  go_wp2_with fail
  generalize hW : World.alloc _ _ = W2
  have HBK : Hid (Bk W2 w1.heap.size 86 #[.slice none 0 0, .slice (some ⟨w.heap.size, 0, none⟩) 16 16]) := Lib.hid (hW ▸ Bk.new w1 _ _)
  have HSZ : Hid (W2.heap.size = w1.heap.size + 1) := Lib.hid (by rw [← hW]; simp)
  have HO2 : Hid (W2.ownsRow 0 33 1 (.slice (some ⟨w.heap.size, 0, none⟩) 16 16) 16 (List.replicate 16 (Value.slice none 0 0))) := Lib.hid (by
    have h := HO.out
    rw [madeNil] at h
    exact hW ▸ h.alloc _)
  have HB : Hid (Below w.heap.size w W2) := Lib.hid (hW ▸ ((Below.refl _ w).grown HG.out (Nat.le_refl _) (fun k hk => by cases hk)).alloc HG.out.size _)
  clear hW hrun2
  go_ret
  have hnew : w.heap.size < w1.heap.size := by
    obtain ⟨g, c, e, hl, _⟩ := own_pos HO.out (by omega)
    injection e with e _ _
    injection e with e
    injection e with e _ _
    omega
  refine ⟨_, rfl, Lib.hid ⟨_, _, List.replicate 16 (Value.slice none 0 0), HBK.out, ⟨Nat.le_of_lt hnew, by rw [HSZ.out]; omega⟩, World.ownsRow_nil _ _ _ _, (fun g hg => by cases hg), HO2.out, fun g hg => ?_, fun b hb => ⟨.slice none 0 0, by rw [List.getElem?_replicate, if_pos hb], World.ownsRow_nil _ _ _ _, fun g hg => by cases hg⟩, fun b b' v v' g e1 e2 o1 o2 => ?_⟩, HB⟩
  · simp only [Value.ownBlock, Option.some.injEq] at hg
    subst hg
    exact ⟨Nat.le_refl _, by rw [HSZ.out]; omega⟩
  · have hb : b < 16 := by have := (List.getElem?_eq_some_iff.1 e1).1; simpa using this
    rw [List.getElem?_replicate, if_pos hb] at e1
    injection e1 with e1
    subst e1
    cases o1
def boolN : ByteArray := ⟨#[66, 111, 111, 108]⟩
def intN : ByteArray := ⟨#[73, 110, 116]⟩
def St.none_ (m : Int) : St := ⟨min (max m 0) 1048576, [], [], []⟩
def St.new (m : Int) : St := ⟨min (max m 0) 1048576, [⟨boolN, []⟩, ⟨intN, []⟩], [], []⟩
theorem sort_bool (m : Int) : (St.none_ m).sort ⟨#[66, 111, 111, 108]⟩ [] = (0, 0, ⟨min (max m 0) 1048576, [⟨boolN, []⟩], [], []⟩) := rfl
theorem sort_int (m : Int) : (⟨min (max m 0) 1048576, [⟨boolN, []⟩], [], []⟩ : St).sort ⟨#[73, 110, 116]⟩ [] = (1, 0, St.new m) := by
  have h : (⟨min (max m 0) 1048576, [⟨boolN, []⟩], [], []⟩ : St).placeS ⟨#[73, 110, 116]⟩ [] = none := by
    refine find_no fun i hi => ?_
    have : i = 0 := by simp at hi; omega
    subst this
    cases e : sameS ((⟨min (max m 0) 1048576, [⟨boolN, []⟩], [], []⟩ : St).sorts[0]'hi) ⟨#[73, 110, 116]⟩ [] with
    | false => rfl
    | true =>
      have := sameS_iff.1 e
      simp only [List.getElem_cons_zero, Srt.mk.injEq] at this
      have h2 := congrArg ByteArray.size this.1
      revert h2; decide
  unfold St.sort
  rw [h]
  rfl
theorem sz_none (m : Int) : Sz (St.none_ m) := ⟨by simp [St.none_], by simp [St.none_], by simp [St.none_], by simp [St.none_]; omega, by simp [St.none_]; omega⟩
theorem sz_one (m : Int) : Sz (⟨min (max m 0) 1048576, [⟨boolN, []⟩], [], []⟩ : St) := ⟨by simp, by simp, by simp, by simp; omega, by simp; omega⟩
theorem ar_none {w W : World} {a mb ib : Nat} {m : Int} (hb : Bk W a 77 #[.int .i64 (min (max m 0) 1048576), .slice none 0 0, .map (some mb), .slice none 0 0, .slice none 0 0, .pointer (some ⟨ib, 0, none⟩)]) (hm : Mp W mb []) (ht : Tb W (fun g => w.heap.size ≤ g ∧ g < W.heap.size) (fun _ => False) ib [] 16 0) (ha : w.heap.size ≤ a) (hmb : w.heap.size ≤ mb) :
    Ar W (fun g => w.heap.size ≤ g ∧ g < W.heap.size) a (St.none_ m) :=
  ⟨fun _ => False, fun _ => False, .slice none 0 0, .slice none 0 0, .slice none 0 0, mb, ib, 16, {
    box := hb
    srt := ⟨[], World.ownsRow_nil _ _ _ _, rfl, fun g hg => by cases hg⟩
    fns := ⟨[], World.ownsRow_nil _ _ _ _, rfl, fun g hg => by cases hg⟩
    trm := ⟨[], World.ownsRow_nil _ _ _ _, rfl, fun g hg => by cases hg⟩
    map := hm
    tab := ht
    nb := Nb.zero
    fa := ⟨ha, hb.lt⟩
    fm := ⟨hmb, hm.lt⟩
    ii := fun g hg => hg.elim
    jj := fun g hg => hg.elim
    lt := fun g hg => hg.2 }⟩
/-- an arena that the call has made: all of it is new -/
def Mine (w w' : World) (F : Nat → Prop) (a : Nat) (S : St) : Prop := Ar w' F a S ∧ Below w.heap.size w w' ∧ ∀ g, F g → w.heap.size ≤ g
theorem Mine.step {w w1 w2 : World} {F : Nat → Prop} {a : Nat} {S S' : St} (h : Mine w w1 F a S) (h2 : ArEnd w1 w2 F a S') : ∃ F', Mine w w2 F' a S' := by
  obtain ⟨F', h3, h4, h5⟩ := h2
  exact ⟨F', h3, h.2.1.trans (h4.below h.2.1.size h.2.2), fun g hg => (h5 g hg).elim (h.2.2 g) fun h6 => Nat.le_trans h.2.1.size h6⟩
set_option maxRecDepth 100000 in
set_option maxHeartbeats 2000000 in
theorem new_any {w : World} (HTAB : Hid (Tab w)) (m : Int) :
    Calls Tryd.prog 26 #[.int .i64 m] w fun e w' => ∃ a F, e = .returned (.pointer (some ⟨a, 0, none⟩)) ∧ Hid (Mine w w' F a (St.new m)) := by
  have HMM := Lib.hid (Mp.made w)
  have hmm := @run_makeMap Tryd.prog
  go_enter Tryd.func26, Tryd.ntmps26
  go_upto_region 2 with (go_at_call 41; refine newTable_any.mono ?_; rintro e W2 ⟨ib, rfl, HT2, HB2⟩)
  generalize hW : World.alloc W2 _ = W3
  have HM2 : Hid (Mp W2 w.heap.size []) := Lib.hid (HMM.out.stays (HB2.out.block _ (by simp)))
  have HBW : Hid (Below w.heap.size w W2) := Lib.hid (((Below.refl _ w).alloc (Nat.le_refl _) _).trans (HB2.out.mono (by simp)))
  have HB3 : Hid (Below w.heap.size w W3) := Lib.hid (hW ▸ HBW.out.alloc HBW.out.size _)
  have HSZ : Hid (W3.heap.size = W2.heap.size + 1) := Lib.hid (by rw [← hW]; simp)
  have HA3 : Hid (Mine w W3 (fun g => w.heap.size ≤ g ∧ g < W3.heap.size) W2.heap.size (St.none_ m)) := Lib.hid (by
    have ho : ∀ g, g < W2.heap.size → W3.heap[g]? = W2.heap[g]? := fun g hg => hW ▸ Below.heap_alloc _ _ _ hg
    refine ⟨ar_none (mb := w.heap.size) (ib := ib) (hW ▸ Bk.new W2 _ _) (HM2.out.stays (ho _ HM2.out.lt)) (HT2.out.stays (fun g e ht _ hg => ?_) fun g _ hg => hg.elim) HBW.out.size (Nat.le_refl _), HB3.out, fun g hg => hg.1⟩
    have h1 : w.heap.size ≤ g := by have := hg.1; simp at this; omega
    exact ⟨⟨h1, by rw [HSZ.out]; omega⟩, ho g hg.2⟩)
  obtain ⟨a, ha⟩ : ∃ a, W2.heap.size = a := ⟨_, rfl⟩
  rw [ha] at HA3 ⊢
  clear hW ha HM2 HBW HT2 HB2 HSZ HMM hmm
  generalize (fun g => w.heap.size ≤ g ∧ g < W3.heap.size) = F3 at HA3
  have HT3 : Hid (Tab W3) := Lib.hid ((Lib.tabBelow_of_tabIs HTAB.out) W3 HB3.out)
  go_upto_region 3 with (go_at_call 27; refine (sort_any (l := []) (G := fun _ => True) (Lib.hid HA3.out.1) HT3 (n := ⟨#[66, 111, 111, 108]⟩) (by decide) (Lib.hid (Ri.nil _ _ _ _)) (by simp) (Lib.hid (sz_none m)) (sort_bool m)).mono ?_; rintro e W4 ⟨rfl, HE4⟩)
  obtain ⟨F4, hA4⟩ := HA3.out.step HE4.out
  have HA4 := Lib.hid hA4
  have HT4 : Hid (Tab W4) := Lib.hid ((Lib.tabBelow_of_tabIs HTAB.out) W4 HA4.out.2.1)
  clear hA4 HE4 HA3 HT3 HB3
  go_wp2_with (go_at_call 27; refine (sort_any (l := []) (G := fun _ => True) (Lib.hid HA4.out.1) HT4 (n := ⟨#[73, 110, 116]⟩) (by decide) (Lib.hid (Ri.nil _ _ _ _)) (by simp) (Lib.hid (sz_one m)) (sort_int m)).mono ?_; rintro e W5 ⟨rfl, HE5⟩)
  obtain ⟨F5, hA5⟩ := HA4.out.step HE5.out
  have HA5 := Lib.hid hA5
  clear hA5
  go_ret
  exact ⟨a, F5, rfl, HA5⟩
end Go.Proofs.YtdnhhfhjjimcgaaDoor.dg
