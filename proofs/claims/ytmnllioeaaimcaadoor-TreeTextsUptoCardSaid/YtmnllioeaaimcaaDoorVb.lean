/- The document's answer of layer 5: how many tokens a tree has. -/
import Derived.Test.YtmnllioeaaimcaaDoorUc
import Derived.Test.YtmnllioeaaimcaaDoorVa
import Derived.Test.YtmnllioeaaimcaaDoorTi
import Derived.Deep.LoopGhost
namespace Go.Proofs.YtmnllioeaaimcaaDoor.tr
open Go.RowKit Go.Proofs.YtmnllioeaaimcaaDoor.tk

/-- a kid, as it lies in its row -/
theorem Vr.get {w : World} {F : Nat → Prop} {g off : Nat} {ks : List Tree} (h : Vr w F ks g off) {j : Nat} (hj : j < ks.length) :
    ∃ l t kids A c, ks[j] = .mk l t kids ∧ Vt w F (.mk l t kids) [.bool l, .int .i64 t.k, .string ⟨t.s.toArray⟩, .int .i64 t.p, .slice A kids.length c] ∧
      w.cell? ⟨g, off + j * 5, none⟩ = some (.bool l) ∧ w.cell? ⟨g, off + j * 5 + 1, none⟩ = some (.int .i64 t.k) ∧ w.cell? ⟨g, off + j * 5 + 2, none⟩ = some (.string ⟨t.s.toArray⟩) ∧ w.cell? ⟨g, off + j * 5 + 3, none⟩ = some (.int .i64 t.p) ∧ w.cell? ⟨g, off + j * 5 + 4, none⟩ = some (.slice A kids.length c) := by
  obtain ⟨cs, h1, h2⟩ := h.at_ j hj
  generalize ks[j] = t at h1
  obtain ⟨l, t, kids⟩ := t
  have h3 := h1
  unfold Vt at h1
  obtain ⟨A, c, rfl, _⟩ := h1
  exact ⟨l, t, kids, A, c, rfl, h3, h2 0 (by omega), h2 1 (by omega), h2 2 (by omega), h2 3 (by omega), h2 4 (by omega)⟩
theorem Vt.kids {w : World} {F : Nat → Prop} {l : Bool} {t : Tok} {ks : List Tree} {A : Option Addr} {c : Nat} (h : Vt w F (.mk l t ks) [.bool l, .int .i64 t.k, .string ⟨t.s.toArray⟩, .int .i64 t.p, .slice A ks.length c]) (hp : 0 < ks.length) : ∃ g off, A = some ⟨g, off, none⟩ ∧ F g ∧ g < w.heap.size ∧ Vr w F ks g off := by
  unfold Vt at h
  obtain ⟨A', c', e, _, h⟩ := h
  simp only [List.cons.injEq, and_true, true_and, Value.slice.injEq] at e
  obtain ⟨rfl, _⟩ := e
  exact h hp

set_option maxRecDepth 100000 in
set_option maxHeartbeats 2000000 in
/-- the document's Size -/
theorem refSize_any : ∀ (N : Nat) {l : Bool} {t : Tok} {ks : List Tree} {A : Option Addr} {c : Nat} {w : World} {F : Nat → Prop}, parts (.mk l t ks) ≤ N → N ≤ 100000000 → Hid (Vt w F (.mk l t ks) [.bool l, .int .i64 t.k, .string ⟨t.s.toArray⟩, .int .i64 t.p, .slice A ks.length c]) →
    Calls Tryd.prog 14 #[.agg #[.bool l, .int .i64 t.k, .string ⟨t.s.toArray⟩, .int .i64 t.p, .slice A ks.length c]] w fun e w' => e = .returned (.int .i64 (size (.mk l t ks) : Int)) ∧ Hid (Below w.heap.size w w') := by
  intro N
  induction N with
  | zero => intro l t ks A c w F h; have := parts_pos (.mk l t ks); omega
  | succ N ih =>
    intro l t ks A c w F h hN hv
    have HP : Hid (2 + sizes ks ≤ 300000000 ∧ ∀ j (h : j < ks.length), parts ks[j] ≤ N) := Lib.hid ⟨by
      have h1 := sizes_parts ks
      have e : parts (.mk l t ks) = 1 + partss ks := by simp [parts]
      omega, fun j hj => by have := parts_kid (l := l) (t := t) hj; omega⟩
    have hkl : ks.length ≤ 100000000 := by
      have h1 := len_partss ks
      have e : parts (.mk l t ks) = 1 + partss ks := by simp [parts]
      omega
    have HZ1 : Hid (size (.mk true t ks) = 2 + sizes ks) := Lib.hid (by simp [size])
    have HZ0 : Hid (size (.mk false t ks) = 1) := Lib.hid (by simp [size])
    cases l with
    | false =>
      rw [HZ0.out]
      go_enter Tryd.func14, Tryd.ntmps14
      go_wp2_with fail
      go_ret
      exact ⟨rfl, Lib.hid ((Below.refl _ _).alloc (Nat.le_refl _) _)⟩
    | true =>
      rw [HZ1.out]
      go_enter Tryd.func14, Tryd.ntmps14
      go_upto_region 1 with fail
      generalize hW : w.alloc _ = W0
      have HT0 : Hid (Bk W0 w.heap.size 37 #[.bool true, .int .i64 t.k, .string ⟨t.s.toArray⟩, .int .i64 t.p, .slice A ks.length c]) := Lib.hid (hW ▸ Bk.new w _ _)
      have HB0 : Hid (Below w.heap.size w W0) := Lib.hid (hW ▸ (Below.refl _ _).alloc (Nat.le_refl _) _)
      have HL0 : Hid (w.heap.size < W0.heap.size) := Lib.hid (HT0.out.lt)
      clear hW
      have t0 : W0.cell? ⟨w.heap.size, 0, none⟩ = some (.bool true) := HT0.out.cell 0
      go_upto_region 5 with fail
      clear t0
      go_loopw [3, 4] (fun nv iv wr => ∃ k : Nat, k ≤ ks.length ∧ iv = .int .i64 (k : Int) ∧ nv = .int .i64 ((2 + sizes (ks.take k) : Nat) : Int) ∧ Hid (Below W0.heap.size W0 wr)) (fun _ iv _ => ks.length - (intOf iv).toNat)
      case atStart => exact ⟨0, Nat.zero_le _, rfl, by simp [sizes], Lib.hid (Below.refl _ _)⟩
      case round =>
        obtain ⟨k, hk, rfl, rfl, HB⟩ := hrel
        have HT := Lib.hid (HT0.out.below HB.out HL0.out)
        have t4 : wr.cell? ⟨w.heap.size, 4, none⟩ = some (.slice A ks.length c) := HT.out.cell 4
        by_cases hlt : k < ks.length
        · have g7 : (k : Int) < (ks.length : Int) := by omega
          obtain ⟨g, off, rfl, hF, hg, hr⟩ := hv.out.kids (by omega)
          have HBw : Hid (Below w.heap.size w wr) := Lib.hid (HB0.out.trans (HB.out.mono HB0.out.size))
          have hr2 := Vr.stays HBw.out.size (fun g hF hg => ⟨hF, HBw.out.block g hg⟩) hF hg ks hr
          obtain ⟨l', u, kids, A', c', e, hvk, q0, q1, q2, q3, q4⟩ := hr2.get hlt
          have HVK := Lib.hid hvk
          have HPK : Hid (parts (.mk l' u kids) ≤ N) := Lib.hid (by have := HP.out.2 k hlt; rw [e] at this; exact this)
          have HSZ : Hid (sizes (ks.take (k + 1)) = sizes (ks.take k) + size (.mk l' u kids) ∧ sizes (ks.take (k + 1)) ≤ sizes ks) := Lib.hid ⟨by rw [sizes_take hlt, e], sizes_le ks (k + 1)⟩
          clear hr hr2 hvk e
          obtain ⟨a, ha⟩ : ∃ a, sizes (ks.take k) = a := ⟨_, rfl⟩
          obtain ⟨b, hb⟩ : ∃ b, size (.mk l' u kids) = b := ⟨_, rfl⟩
          have HAB : Hid (2 + a + b ≤ 300000000 ∧ sizes (ks.take (k + 1)) = a + b) := Lib.hid (by
            obtain ⟨h1, h2⟩ := HSZ.out
            have h3 := HP.out.1
            rw [ha, hb] at h1
            omega)
          rw [ha]
          have IH : Calls Tryd.prog 14 #[.agg #[.bool l', .int .i64 u.k, .string ⟨u.s.toArray⟩, .int .i64 u.p, .slice A' kids.length c']] wr fun e w' => e = .returned (.int .i64 (b : Int)) ∧ Hid (Below wr.heap.size wr w') := hb ▸ ih HPK.out (by omega) HVK
          have hab := HAB.out.1
          go_wp2_with (go_at_call 14; refine IH.mono ?_; rintro e w5 ⟨rfl, HB5⟩)
          go_roundw
          case rel => exact ⟨k + 1, by omega, by go_num, by rw [HAB.out.2]; go_num, Lib.hid (HB.out.trans (HB5.out.mono HB.out.size))⟩
          case measure => simp [intOf]; omega
        · obtain rfl : k = ks.length := by omega
          have g7 : ¬ ((ks.length : Int) < (ks.length : Int)) := by omega
          rw [List.take_length]
          go_wp2_with fail
          go_ret
          exact ⟨rfl, Lib.hid (HB0.out.trans (HB.out.mono HB0.out.size))⟩
end Go.Proofs.YtmnllioeaaimcaaDoor.tr
