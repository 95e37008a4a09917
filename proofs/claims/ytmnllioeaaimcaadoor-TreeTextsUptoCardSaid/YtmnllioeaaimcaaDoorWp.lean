/- The document's answer of layer 5: a tree as a text. -/
import Derived.Test.YtmnllioeaaimcaaDoorWg
import Derived.Test.YtmnllioeaaimcaaDoorPy
import Derived.Test.YtmnllioeaaimcaaDoorWj
import Derived.Test.YtmnllioeaaimcaaDoorWi
import Derived.Test.YtmnllioeaaimcaaDoorRows
namespace Go.Proofs.YtmnllioeaaimcaaDoor.tr
open Go Go.RowKit Go.Proofs.YtmnllioeaaimcaaDoor.tk

theorem tails_take : ∀ {ks : List Tree} {k : Nat} (h : k < ks.length) {B : List UInt8}, tails (ks.take k) = some B → tails (ks.take (k + 1)) = (text ks[k]).map (fun s => B ++ 32 :: s)
  | t :: r, 0, _, B, hB => by
    have hB : some [] = some B := by simpa [tails] using hB
    injection hB with hB
    subst hB
    cases h : text t <;> simp [tails, h]
  | t :: r, k + 1, hk, B, hB => by
    simp only [List.take_succ_cons] at hB ⊢
    unfold tails at hB
    cases ht : text t with
    | none => simp [ht] at hB
    | some a =>
      cases hr : tails (r.take k) with
      | none => simp [ht, hr] at hB
      | some b =>
        have ih := tails_take (ks := r) (by simpa using hk) hr
        simp only [ht, hr, Option.some.injEq] at hB
        subst hB
        unfold tails
        rw [ht, ih]
        simp only [List.getElem_cons_succ]
        cases text (r[k]'(by simpa using hk)) <;> simp
theorem tails_none : ∀ {ks : List Tree} {k : Nat} (h : k < ks.length), text ks[k] = none → tails ks = none
  | t :: r, 0, _, h => by simp [tails, show text t = none from h]
  | t :: r, k + 1, hk, h => by
    have := tails_none (ks := r) (by simpa using hk) (by simpa using h)
    unfold tails; rw [this]; cases text t <;> rfl
theorem wt_kid : ∀ {ks : List Tree} {j : Nat} (h : j < ks.length), wt (evs ks[j]) ≤ wt (evss ks)
  | t :: r, 0, _ => by simp only [evss, wt_append, List.getElem_cons_zero]; omega
  | t :: r, j + 1, h => by have := wt_kid (ks := r) (by simpa using h); simp only [evss, wt_append, List.getElem_cons_succ]; omega
theorem cat_ba (a b : List UInt8) : (⟨a.toArray⟩ : ByteArray) ++ (⟨b.toArray⟩ : ByteArray) = ⟨(a ++ b).toArray⟩ := by
  apply ByteArray.ext
  simp

theorem size_ba (a : List UInt8) : (⟨a.toArray⟩ : ByteArray).size = a.length := by
  show a.toArray.size = _
  simp
theorem tails_len {ks : List Tree} {B : List UInt8} (h : tails ks = some B) : B.length ≤ wt (evss ks) := by
  have h1 := go_rest ks []
  rw [h] at h1
  have h2 := go_len _ h1
  simpa using h2
theorem text_len {t : Tree} {s : List UInt8} (h : text t = some s) : s.length ≤ wt (evs t) := by
  have h1 := go_text t [] true
  rw [h] at h1
  have h2 := go_len _ h1
  simpa using h2
theorem wt_take : ∀ (ks : List Tree) (k : Nat), wt (evss (ks.take k)) ≤ wt (evss ks)
  | [], _ => by simp
  | t :: r, 0 => by simp [evss, wt]
  | t :: r, k + 1 => by have := wt_take r k; simp only [List.take_succ_cons, evss, wt_append]; omega

set_option maxRecDepth 100000 in
set_option maxHeartbeats 2000000 in
/-- the document's Text -/
theorem refText_any : ∀ (N : Nat) {l : Bool} {t : Tok} {ks : List Tree} {A : Option Addr} {c : Nat} {w : World} {F : Nat → Prop}, parts (.mk l t ks) ≤ N → N ≤ 100000000 → wt (evs (.mk l t ks)) ≤ 40000000 → Hid (Vt w F (.mk l t ks) [.bool l, .int .i64 t.k, .string ⟨t.s.toArray⟩, .int .i64 t.p, .slice A ks.length c]) →
    Calls Tryd.prog 12 #[.agg #[.bool l, .int .i64 t.k, .string ⟨t.s.toArray⟩, .int .i64 t.p, .slice A ks.length c]] w fun e w' => Hid (WordIs (text (.mk l t ks)) e) ∧ Hid (Below w.heap.size w w') := by
  intro N
  induction N with
  | zero => intro l t ks A c w F h; have := parts_pos (.mk l t ks); omega
  | succ N ih =>
    intro l t ks A c w F h hN hw hv
    have HP : Hid (∀ j (h : j < ks.length), parts ks[j] ≤ N) := Lib.hid fun j hj => by have := parts_kid (l := l) (t := t) hj; omega
    have hkl : ks.length ≤ 100000000 := by
      have h1 := len_partss ks
      have e : parts (.mk l t ks) = 1 + partss ks := by simp [parts]
      omega
    have HW := Lib.hid hw
    clear h hw
    cases l with
    | false =>
      have HZ : Hid (text (.mk false t ks) = if t.k = 1 ∨ t.k = 2 then none else wordW t.k t.s) := Lib.hid (by simp [text])
      rw [HZ.out]
      by_cases k1 : t.k = 1 ∨ t.k = 2
      · rw [if_pos k1]
        go_enter Tryd.func12, Tryd.ntmps12
        by_cases k2 : t.k = 1
        · go_wp2_with fail
          go_ret2
          exact ⟨Lib.hid rfl, Lib.hid ((Below.refl _ _).alloc (Nat.le_refl _) _)⟩
        · have k3 : t.k = 2 := k1.resolve_left k2
          go_wp2_with fail
          go_ret2
          exact ⟨Lib.hid rfl, Lib.hid ((Below.refl _ _).alloc (Nat.le_refl _) _)⟩
      · rw [if_neg k1]
        have k2 : ¬ t.k = 1 := fun e => k1 (.inl e)
        have k3 : ¬ t.k = 2 := fun e => k1 (.inr e)
        have hS : (⟨t.s.toArray⟩ : ByteArray).size ≤ 20000000 := by
          have := HW.out
          have e : wt (evs (.mk false t ks)) = 2 * t.s.length + 4 := by simp [evs, wt, Ev.tok]
          rw [e] at this
          show t.s.toArray.size ≤ _
          simp at this ⊢
          omega
        have hW2 := fun (w : World) => refWord_any (w := w) (K := t.k) (P := t.p) hS
        rw [show (⟨t.s.toArray⟩ : ByteArray).data.toList = t.s by simp] at hW2
        have HW2 := Lib.hid hW2
        clear hW2 hS k1
        have e1 : (t.k == 1) = false := by rw [beq_eq_false_iff_ne]; exact k2
        have e2 : (t.k == 2) = false := by rw [beq_eq_false_iff_ne]; exact k3
        clear k2 k3
        cases hr : wordW t.k t.s with
        | none =>
          rw [hr] at HW2
          go_enter Tryd.func12, Tryd.ntmps12
          go_wp2_with (go_at_call 24; refine (HW2.out _).mono ?_; rintro e w1 ⟨he, hb⟩; have he := he.out; simp only [WordIs] at he; subst he)
          go_ret2
          exact ⟨Lib.hid rfl, Lib.hid (((Below.refl _ _).alloc (Nat.le_refl _) _).trans (hb.out.mono (by simp)))⟩
        | some W =>
          rw [hr] at HW2
          go_enter Tryd.func12, Tryd.ntmps12
          go_wp2_with (go_at_call 24; refine (HW2.out _).mono ?_; rintro e w1 ⟨he, hb⟩; have he := he.out; simp only [WordIs] at he; subst he)
          go_ret2
          exact ⟨Lib.hid rfl, Lib.hid (((Below.refl _ _).alloc (Nat.le_refl _) _).trans (hb.out.mono (by simp)))⟩
    | true =>
      have HZ : Hid (text (.mk true t ks) = (tails ks).map (fun b => 40 :: (b.drop 1 ++ [41]))) := Lib.hid (by simp [text])
      have HWS : Hid (wt (evss ks) ≤ 40000000) := Lib.hid (by
        have h2 := HW.out
        simp only [evs, if_true, wt, wt_append] at h2
        omega)
      have HWK : Hid (∀ j (h : j < ks.length), wt (evs ks[j]) ≤ 40000000) := Lib.hid fun j hj => Nat.le_trans (wt_kid hj) HWS.out
      clear HW
      rw [HZ.out]
      go_enter Tryd.func12, Tryd.ntmps12
      go_upto_region 1 with fail
      generalize hW : w.alloc _ = W0
      have HT0 : Hid (Bk W0 w.heap.size 37 #[.bool true, .int .i64 t.k, .string ⟨t.s.toArray⟩, .int .i64 t.p, .slice A ks.length c]) := Lib.hid (hW ▸ Bk.new w _ _)
      have HB0 : Hid (Below w.heap.size w W0) := Lib.hid (hW ▸ (Below.refl _ _).alloc (Nat.le_refl _) _)
      have HL0 : Hid (w.heap.size < W0.heap.size) := Lib.hid (HT0.out.lt)
      clear hW
      have t0 : W0.cell? ⟨w.heap.size, 0, none⟩ = some (.bool true) := HT0.out.cell 0
      go_upto_region 7 with fail
      clear t0
      go_loopw [4, 5, 6, 7] (fun sv iv _ _ wr => ∃ (k : Nat) (B : List UInt8) (S : ByteArray), k ≤ ks.length ∧ iv = .int .i64 (k : Int) ∧ sv = .string S ∧ S.size ≤ 40000001 ∧ Hid (S = ⟨(40 :: B.drop 1).toArray⟩) ∧ Hid (tails (ks.take k) = some B ∧ (0 < k → 0 < B.length)) ∧ Hid (Below W0.heap.size W0 wr)) (fun _ iv _ _ _ => ks.length - (intOf iv).toNat)
      case atStart => exact ⟨0, [], _, Nat.zero_le _, rfl, rfl, by decide, Lib.hid rfl, Lib.hid ⟨by simp [tails], fun h => by omega⟩, Lib.hid (Below.refl _ _)⟩
      case round =>
        obtain ⟨k, B, S, hk, rfl, rfl, hS, HS, HTK, HB⟩ := hrel
        have HT := Lib.hid (HT0.out.below HB.out HL0.out)
        have t4 : wr.cell? ⟨w.heap.size, 4, none⟩ = some (.slice A ks.length c) := HT.out.cell 4
        by_cases hlt : k < ks.length
        · have g7 : (k : Int) < (ks.length : Int) := by omega
          obtain ⟨g, off, rfl, hF, hg, hr⟩ := hv.out.kids (by omega)
          have HBw : Hid (Below w.heap.size w wr) := Lib.hid (HB0.out.trans (HB.out.mono HB0.out.size))
          have hr2 := Vr.stays HBw.out.size (fun g hF hg => ⟨hF, HBw.out.block g hg⟩) hF hg ks hr
          obtain ⟨l', u, kids, A', c', e, hvk, q0, q1, q2, q3, q4⟩ := hr2.get hlt
          have HVK := Lib.hid hvk
          have HPK : Hid (parts (.mk l' u kids) ≤ N) := Lib.hid (by have := HP.out k hlt; rw [e] at this; exact this)
          have HWT : Hid (wt (evs (.mk l' u kids)) ≤ 40000000) := Lib.hid (by have := HWK.out k hlt; rw [e] at this; exact this)
          have HTT : Hid (tails (ks.take (k + 1)) = (text (.mk l' u kids)).map (fun s => B ++ 32 :: s)) := Lib.hid (by rw [tails_take hlt HTK.out.1, e])
          have HNO : Hid (text (.mk l' u kids) = none → tails ks = none) := Lib.hid (fun h => tails_none hlt (by rw [e]; exact h))
          clear hr hr2 hvk e
          have IH := Lib.hid (ih HPK.out (by omega) HWT.out HVK)
          cases hx : text (.mk l' u kids) with
          | none =>
            rw [hx] at IH
            have HX := Lib.hid (HNO.out hx)
            clear hx
            go_wp2_with (go_at_call 12; refine IH.out.mono ?_; rintro e w5 ⟨he, HB5⟩; have he := he.out; simp only [WordIs] at he; subst he)
            go_ret2
            exact ⟨Lib.hid (by rw [HX.out]; rfl), Lib.hid (HBw.out.trans (HB5.out.mono HBw.out.size))⟩
          | some s =>
            rw [hx] at IH
            have HT2 : Hid (tails (ks.take (k + 1)) = some (B ++ 32 :: s)) := Lib.hid (by rw [HTT.out, hx]; rfl)
            have HLS : Hid ((B ++ 32 :: s).length ≤ 40000000) := Lib.hid (Nat.le_trans (tails_len HT2.out) (Nat.le_trans (wt_take _ _) HWS.out))
            obtain ⟨T, hT⟩ : ∃ T : ByteArray, (⟨s.toArray⟩ : ByteArray) = T := ⟨_, rfl⟩
            have hTs : T.size ≤ 40000000 := by rw [← hT, size_ba]; exact Nat.le_trans (text_len hx) HWT.out
            have HT3 := Lib.hid hT
            clear hx HTT HNO hT
            by_cases h0 : k = 0
            · have h1 : ¬ (0 : Int) < (k : Int) := by omega
              have h2 : ¬ 0 < k := by omega
              have HB0' : Hid (B = []) := Lib.hid (by have := HTK.out.1; rw [h0] at this; simpa [tails] using this)
              clear h0
              go_wp2_with (go_at_call 12; refine IH.out.mono ?_; rintro e w5 ⟨he, HB5⟩; have he := he.out; simp only [WordIs] at he; rw [HT3.out] at he; subst he)
              go_roundw
              case rel =>
                have e1 : S ++ T = ⟨(40 :: (B ++ 32 :: s).drop 1).toArray⟩ := by rw [HS.out, ← HT3.out, HB0'.out, cat_ba]; rfl
                refine ⟨k + 1, B ++ 32 :: s, _, by omega, by go_num, rfl, ?_, Lib.hid e1, Lib.hid ⟨HT2.out, fun _ => by rw [List.length_append, List.length_cons]; omega⟩, Lib.hid (HB.out.trans (HB5.out.mono HB.out.size))⟩
                have h3 := HLS.out
                rw [e1, size_ba]
                simp at h3 ⊢
                omega
              case measure => simp [intOf]; omega
            · have h1 : (0 : Int) < (k : Int) := by omega
              have h2 : 0 < k := by omega
              clear h0
              go_wp2_with (go_at_call 12; refine IH.out.mono ?_; rintro e w5 ⟨he, HB5⟩; have he := he.out; simp only [WordIs] at he; rw [HT3.out] at he; subst he)
              go_roundw
              case rel =>
                have e1 : S ++ { data := #[32] } ++ T = ⟨(40 :: (B ++ 32 :: s).drop 1).toArray⟩ := by
                  rw [HS.out, ← HT3.out, show ({ data := #[32] } : ByteArray) = ⟨[32].toArray⟩ from rfl, cat_ba, cat_ba]
                  have hp := HTK.out.2 (by omega)
                  cases B with
                  | nil => simp at hp
                  | cons b B' => simp
                refine ⟨k + 1, B ++ 32 :: s, _, by omega, by go_num, rfl, ?_, Lib.hid e1, Lib.hid ⟨HT2.out, fun _ => by rw [List.length_append, List.length_cons]; omega⟩, Lib.hid (HB.out.trans (HB5.out.mono HB.out.size))⟩
                have h3 := HLS.out
                rw [e1, size_ba]
                simp at h3 ⊢
                omega
              case measure => simp [intOf]; omega
        · obtain rfl : k = ks.length := by omega
          have g7 : ¬ ((ks.length : Int) < (ks.length : Int)) := by omega
          have HX : Hid (tails ks = some B) := Lib.hid (by have := HTK.out.1; rwa [List.take_length] at this)
          go_wp2_with fail
          go_ret2
          refine ⟨Lib.hid ?_, Lib.hid (HB0.out.trans (HB.out.mono HB0.out.size))⟩
          rw [HX.out]
          simp only [WordIs, Option.map_some]
          rw [HS.out, show ({ data := #[41] } : ByteArray) = ⟨[41].toArray⟩ from rfl, cat_ba]
          simp
end Go.Proofs.YtmnllioeaaimcaaDoor.tr

/- The statement's own count of a tree's parts, up to a number. -/
namespace Go.Proofs.YtmnllioeaaimcaaDoor.tr
open Go Go.RowKit Go.Proofs.YtmnllioeaaimcaaDoor.tk

set_option maxRecDepth 100000 in
set_option maxHeartbeats 2000000 in
theorem lparts_any : ∀ (N : Nat) {l : Bool} {t : Tok} {ks : List Tree} {A : Option Addr} {c m : Nat} {w : World} {F : Nat → Prop}, parts (.mk l t ks) ≤ N → m ≤ 1000 → Hid (Vt w F (.mk l t ks) [.bool l, .int .i64 t.k, .string ⟨t.s.toArray⟩, .int .i64 t.p, .slice A ks.length c]) →
    Calls Tryd.prog 10 #[.agg #[.bool l, .int .i64 t.k, .string ⟨t.s.toArray⟩, .int .i64 t.p, .slice A ks.length c], .int .i64 (m : Int)] w fun e w' => e = .returned (.int .i64 ((min (parts (.mk l t ks)) (m + 1) : Nat) : Int)) ∧ Hid (Below w.heap.size w w') := by
  intro N
  induction N with
  | zero => intro l t ks A c m w F h; have := parts_pos (.mk l t ks); omega
  | succ N ih =>
    intro l t ks A c m w F h hm hv
    have HP : Hid (∀ j (h : j < ks.length), parts ks[j] ≤ N) := Lib.hid fun j hj => by have := parts_kid (l := l) (t := t) hj; omega
    have HE : Hid (parts (.mk l t ks) = 1 + partss ks) := Lib.hid (by simp [parts])
    clear h
    go_enter Tryd.func10, Tryd.ntmps10
    go_upto_region 1 with fail
    generalize hW : w.alloc _ = W0
    have HT0 : Hid (Bk W0 w.heap.size 37 #[.bool l, .int .i64 t.k, .string ⟨t.s.toArray⟩, .int .i64 t.p, .slice A ks.length c]) := Lib.hid (hW ▸ Bk.new w _ _)
    have HB0 : Hid (Below w.heap.size w W0) := Lib.hid (hW ▸ (Below.refl _ _).alloc (Nat.le_refl _) _)
    clear hW
    have t4 : W0.cell? ⟨w.heap.size, 4, none⟩ = some (.slice A ks.length c) := HT0.out.cell 4
    go_upto_region 3 with fail
    clear t4
    go_loopw [5, 7, 11] (fun nv _ iv wr => ∃ k n : Nat, k ≤ ks.length ∧ iv = .int .i64 (k : Int) ∧ nv = .int .i64 (n : Int) ∧ Hid (n = min (1 + partss (ks.take k)) (m + 1)) ∧ Hid (Below W0.heap.size W0 wr)) (fun _ _ iv _ => ks.length - (intOf iv).toNat)
    case atStart => exact ⟨0, 1, Nat.zero_le _, rfl, rfl, Lib.hid (by have : partss (ks.take 0) = 0 := by simp [partss]
                                                                      omega), Lib.hid (Below.refl _ _)⟩
    case round =>
      obtain ⟨k, n, hk, rfl, rfl, HN, HB⟩ := hrel
      have HBw : Hid (Below w.heap.size w wr) := Lib.hid (HB0.out.trans (HB.out.mono HB0.out.size))
      by_cases hlt : k < ks.length
      · have g7 : (k : Int) < (ks.length : Int) := by omega
        obtain ⟨g, off, rfl, hF, hg, hr⟩ := hv.out.kids (by omega)
        have hr2 := Vr.stays HBw.out.size (fun g hF hg => ⟨hF, HBw.out.block g hg⟩) hF hg ks hr
        obtain ⟨l', u, kids, A', c', e, hvk, q0, q1, q2, q3, q4⟩ := hr2.get hlt
        have HPK : Hid (parts (.mk l' u kids) ≤ N) := Lib.hid (by have := HP.out k hlt; rw [e] at this; exact this)
        have HKK : Hid (k ≤ partss (ks.take k) ∧ partss (ks.take (k + 1)) = partss (ks.take k) + parts (.mk l' u kids) ∧ partss (ks.take k) ≤ partss ks) := Lib.hid ⟨by
          have := len_partss (ks.take k)
          rwa [List.length_take, Nat.min_eq_left hk] at this, by rw [partss_take hlt, e], partss_le ks k⟩
        have HVK := Lib.hid hvk
        clear hr hr2 hvk e
        by_cases hnm : m < n
        · have g8 : (m : Int) < (n : Int) := by omega
          have HX : Hid (n = min (parts (.mk l t ks)) (m + 1)) := Lib.hid (by have h1 := HN.out; have h2 := HKK.out; rw [HE.out]; omega)
          go_wp2_with fail
          go_ret
          exact ⟨by rw [← HX.out]; rfl, Lib.hid (HBw.out.alloc HBw.out.size _)⟩
        · have g8 : ¬ (m : Int) < (n : Int) := by omega
          have hk2 : k ≤ 1000 := by have h1 := HN.out; have h2 := HKK.out; omega
          go_upto_region 5 with fail
          clear q0 q1 q2 q3 q4
          generalize hW : wr.alloc _ = W9
          have HT9 : Hid (Bk W9 wr.heap.size 37 #[.bool l', .int .i64 u.k, .string ⟨u.s.toArray⟩, .int .i64 u.p, .slice A' kids.length c']) := Lib.hid (hW ▸ Bk.new wr _ _)
          have HB9 : Hid (Below W0.heap.size W0 W9) := Lib.hid (HB.out.trans (hW ▸ (Below.refl _ wr).alloc HB.out.size _))
          obtain ⟨b, hb⟩ : ∃ b, min (parts (.mk l' u kids)) (m - n + 1) = b := ⟨_, rfl⟩
          have P9 : Calls Tryd.prog 10 #[.agg #[.bool l', .int .i64 u.k, .string ⟨u.s.toArray⟩, .int .i64 u.p, .slice A' kids.length c'], .int .i64 ((m : Int) - (n : Int))] W9 fun e w' => e = .returned (.int .i64 (b : Int)) ∧ Hid (Below W9.heap.size W9 w') := by
            rw [show ((m : Int) - (n : Int)) = ((m - n : Nat) : Int) by omega, ← hb]
            exact ih HPK.out (by omega) (Lib.hid (HVK.out.stays (F' := fun _ => True) (by rw [← hW]; simp) (fun g _ hl => ⟨trivial, by rw [← hW]; exact Below.heap_alloc wr _ g hl⟩)))
          have HBB : Hid (b ≤ 1001 ∧ n + b = min (1 + partss (ks.take (k + 1))) (m + 1)) := Lib.hid (by have h1 := HN.out; have h2 := HKK.out; omega)
          have hb1 := HBB.out.1
          clear hW hb
          have P10 := Lib.hid P9
          clear P9
          have t0 := HT9.out.cell 0
          have t1 := HT9.out.cell 1
          have t2 := HT9.out.cell 2
          have t3 := HT9.out.cell 3
          have t4 := HT9.out.cell 4
          go_wp2_with (go_at_call 10; refine P10.out.mono ?_; rintro e w9 ⟨rfl, hb9⟩)
          go_roundw
          case rel => exact ⟨k + 1, n + b, by omega, by go_num, by go_num, Lib.hid HBB.out.2, Lib.hid (HB9.out.trans (hb9.out.mono HB9.out.size))⟩
          case measure => simp [intOf]; omega
      · obtain rfl : k = ks.length := by omega
        have g7 : ¬ ((ks.length : Int) < (ks.length : Int)) := by omega
        have HX : Hid (n = min (parts (.mk l t ks)) (m + 1)) := Lib.hid (by have h1 := HN.out; rw [List.take_length] at h1; rw [HE.out]; exact h1)
        go_wp2_with fail
        go_ret
        exact ⟨by rw [← HX.out]; rfl, HBw⟩
end Go.Proofs.YtmnllioeaaimcaaDoor.tr

/- The statement's own clean: lists with the token that opens them, tokens without kids. -/
namespace Go.Proofs.YtmnllioeaaimcaaDoor.tr
open Go Go.RowKit Go.Proofs.YtmnllioeaaimcaaDoor.tk

/-- the token, and the kids, of a clean tree -/
def cu (l : Bool) (t : Tok) : Tok := if l then open1 else t
def ck (l : Bool) (ks : List Tree) : List Tree := if l then cleans ks else []
theorem clean_eq (l : Bool) (t : Tok) (ks : List Tree) : clean (.mk l t ks) = .mk l (cu l t) (ck l ks) := by cases l <;> simp [clean, cu, ck]
theorem cleans_snoc : ∀ {ks : List Tree} {k : Nat} (h : k < ks.length), cleans (ks.take (k + 1)) = cleans (ks.take k) ++ [clean ks[k]]
  | t :: r, 0, _ => by simp [cleans]
  | t :: r, k + 1, h => by
    have := cleans_snoc (ks := r) (k := k) (by simpa using h)
    simp only [List.take_succ_cons, cleans, List.getElem_cons_succ, this, List.cons_append]
theorem cleans_len : ∀ (ks : List Tree), (cleans ks).length = ks.length
  | [] => rfl
  | t :: r => by simp [cleans, cleans_len r]
/-- what clean has made so far: its result's box, its list's box, the list's kids -/
structure Cl (w wr : World) (kk : List Tree) (v : Value) : Prop where
  res : Bk wr (w.heap.size + 1) 37 #[.bool false, .int .i64 0, .string ⟨#[]⟩, .int .i64 0, .slice none 0 0]
  out : Bk wr (w.heap.size + 2) 37 #[.bool true, .int .i64 1, .string ⟨#[40]⟩, .int .i64 0, v]
  kd : Kd wr (w.heap.size + 3) (fun b => w.heap.size + 3 ≤ b ∧ v.ownBlock ≠ some b) kk v
  bel : Below w.heap.size w wr
  sz : w.heap.size + 3 ≤ wr.heap.size
theorem Kd.lt {w : World} {n0 : Nat} {F : Nat → Prop} {ks : List Tree} {v : Value} (h : Kd w n0 F ks v) : ∀ g, v.ownBlock = some g → n0 ≤ g ∧ g < w.heap.size := by
  obtain ⟨xs, h1, _⟩ := h
  exact h1.lt
theorem Cl.below {w wr w2 : World} {kk : List Tree} {v : Value} (h : Cl w wr kk v) (hb : Below wr.heap.size wr w2) : Cl w w2 kk v :=
  ⟨h.res.below hb h.res.lt, h.out.below hb h.out.lt, h.kd.stays hb.size (fun g hg hl => ⟨hg, hb.block g hl⟩) (fun g hg => hb.block g (h.kd.lt g hg).2), h.bel.trans (hb.mono h.bel.size), by have := hb.size; have := h.sz; omega⟩
theorem Cl.row {w wr : World} {kk : List Tree} {v : Value} (h : Cl w wr kk v) : ∃ A c, v = .slice A kk.length c := by
  obtain ⟨xs, h1, _⟩ := h.kd
  obtain ⟨A, c, e, _⟩ := own_slice h1
  exact ⟨A, c, e⟩
theorem Cl.push {w w5 w7 : World} {kk : List Tree} {v : Value} {xs cs : List Value} {t : Tree} {g' c' n5 : Nat} {o : Obj} (h : Cl w w5 kk v) (hav : Av w5 (fun b => w.heap.size + 3 ≤ b ∧ v.ownBlock ≠ some b) kk xs) (ht : Vt w5 (fun b => n5 ≤ b) t cs) (hn : w.heap.size + 3 ≤ n5 ∧ ∀ g, v.ownBlock = some g → g < n5)
    (hown : w7.ownsRow (w.heap.size + 3) 37 5 (.slice (some ⟨g', 0, none⟩) (kk.length + 1) c') (kk.length + 1) (xs ++ cs)) (hg : (w5.alloc o).grownBy w7 v.ownBlock) (hat : v.ownBlock = some g' ∨ g' = (w5.alloc o).heap.size) :
    Cl w (w7.setCell ⟨w.heap.size + 2, 4, none⟩ (.slice (some ⟨g', 0, none⟩) (kk.length + 1) c')) (kk ++ [t]) (.slice (some ⟨g', 0, none⟩) (kk.length + 1) c') ∧ Bk w7 (w.heap.size + 2) 37 #[.bool true, .int .i64 1, .string ⟨#[40]⟩, .int .i64 0, v] ∧ (∀ b, b < w5.heap.size → v.ownBlock ≠ some b → w7.heap[b]? = w5.heap[b]?) := by
  have hge := (hown.lt g' rfl).1
  have hsz := h.sz
  have hlo : ∀ g, v.ownBlock = some g → w.heap.size + 3 ≤ g ∧ g < w5.heap.size := h.kd.lt
  have hb7 : ∀ b, b < w5.heap.size → v.ownBlock ≠ some b → w7.heap[b]? = w5.heap[b]? := fun b hb hv => (hg.block b (by simp; omega) (fun e => hv e.symm)).trans (Below.heap_alloc w5 o b hb)
  have s57 : w5.heap.size ≤ w7.heap.size := by have := hg.size; simp at this; omega
  have hset : ∀ b, b ≠ w.heap.size + 2 → (w7.setCell ⟨w.heap.size + 2, 4, none⟩ (.slice (some ⟨g', 0, none⟩) (kk.length + 1) c')).heap[b]? = w7.heap[b]? := fun b hb => Below.heap_setCell w7 ⟨w.heap.size + 2, 4, none⟩ _ b hb
  have hne : ∀ b, b < w.heap.size + 3 → v.ownBlock ≠ some b := fun b hb e => by have := hlo b e; omega
  have ho7 : Bk w7 (w.heap.size + 2) 37 #[.bool true, .int .i64 1, .string ⟨#[40]⟩, .int .i64 0, v] := (hb7 _ (by omega) (hne _ (by omega))).trans h.out
  have hs : (w7.setCell ⟨w.heap.size + 2, 4, none⟩ (.slice (some ⟨g', 0, none⟩) (kk.length + 1) c')).heap.size = w7.heap.size := by simp
  refine ⟨⟨(hset _ (by omega)).trans ((hb7 _ (by omega) (hne _ (by omega))).trans h.res), ho7.set_ 4 _, ?_, ?_, by rw [hs]; omega⟩, ho7, hb7⟩
  · refine ⟨xs ++ cs, ?_, ?_⟩
    · rw [List.length_append]
      exact own_same hown (fun g e => hset g (by simp only [Value.ownBlock, Option.some.injEq] at e; omega))
    · refine Av.snoc ?_ ?_
      · refine Vt.stays (w := w5) (by rw [hs]; exact s57) (fun b hb hl => ⟨⟨by omega, fun e => ?_⟩, (hset b (by omega)).trans (hb7 b hl (fun e => by have := hn.2 b e; omega))⟩) t ht
        simp only [Value.ownBlock, Option.some.injEq] at e
        subst e
        rcases hat with h1 | h1
        · have := hn.2 _ h1; omega
        · simp at h1; omega
      · refine Av.stays (w := w5) (by rw [hs]; exact s57) (fun b hb hl => ⟨⟨hb.1, fun e => ?_⟩, (hset b (by omega)).trans (hb7 b hl hb.2)⟩) hav
        simp only [Value.ownBlock, Option.some.injEq] at e
        subst e
        rcases hat with h1 | h1
        · exact hb.2 h1
        · simp at h1; omega
  · have b1 : Below w.heap.size w w7 := h.bel.trans ⟨hg.os, hg.tape, hg.output, by exact s57, fun b hb => hb7 b (by omega) (hne b (by omega))⟩
    exact b1.setCell (p := ⟨w.heap.size + 2, 4, none⟩) (by simp) _

set_option maxRecDepth 100000 in
set_option maxHeartbeats 4000000 in

set_option maxRecDepth 100000 in
set_option maxHeartbeats 4000000 in
/-- clean -/
theorem lclean_any : ∀ (N : Nat) {l : Bool} {t : Tok} {ks : List Tree} {A : Option Addr} {c : Nat} {w : World} {F : Nat → Prop}, parts (.mk l t ks) ≤ N → N ≤ 100000000 → Hid (Vt w F (.mk l t ks) [.bool l, .int .i64 t.k, .string ⟨t.s.toArray⟩, .int .i64 t.p, .slice A ks.length c]) →
    Calls Tryd.prog 16 #[.agg #[.bool l, .int .i64 t.k, .string ⟨t.s.toArray⟩, .int .i64 t.p, .slice A ks.length c]] w fun e w' => ∃ A2 c2, e = .returned (.agg #[.bool l, .int .i64 (cu l t).k, .string ⟨(cu l t).s.toArray⟩, .int .i64 (cu l t).p, .slice A2 (ck l ks).length c2]) ∧
      Hid (Vt w' (fun b => w.heap.size ≤ b) (.mk l (cu l t) (ck l ks)) [.bool l, .int .i64 (cu l t).k, .string ⟨(cu l t).s.toArray⟩, .int .i64 (cu l t).p, .slice A2 (ck l ks).length c2]) ∧ Hid (Below w.heap.size w w') := by
  intro N
  induction N with
  | zero => intro l t ks A c w F h; have := parts_pos (.mk l t ks); omega
  | succ N ih =>
    intro l t ks A c w F h hN hv
    obtain ⟨i0, hi, hz0, hz1, hz2⟩ := info_parts infoT
    have HP : Hid (∀ j (h : j < ks.length), parts ks[j] ≤ N) := Lib.hid fun j hj => by have := parts_kid (l := l) (t := t) hj; omega
    have hkl : ks.length ≤ 100000000 := by
      have h1 := len_partss ks
      have e : parts (.mk l t ks) = 1 + partss ks := by simp [parts]
      omega
    clear h
    cases l with
    | false =>
      simp only [cu, ck, Bool.false_eq_true, if_false]
      go_enter Tryd.func16, Tryd.ntmps16
      go_wp2_with fail
      generalize hW : World.alloc (World.alloc _ _) _ = W9
      have HR9 : Bk W9 (w.heap.size + 1) 37 #[.bool false, .int .i64 t.k, .string ⟨t.s.toArray⟩, .int .i64 t.p, .slice none 0 0] := by
        have h := Bk.new (w.alloc (.cells #[.bool false, .int .i64 t.k, .string ⟨t.s.toArray⟩, .int .i64 t.p, .slice A ks.length c] 37)) 37 #[.bool false, .int .i64 t.k, .string ⟨t.s.toArray⟩, .int .i64 t.p, .slice none 0 0]
        rw [hW] at h
        simpa only [World.size_alloc] using h
      have HBF : Hid (Below w.heap.size w W9) := Lib.hid (by
        rw [← hW]
        exact (((Below.refl _ w).alloc (Nat.le_refl _) _).alloc (by simp) _))
      have e0 := HR9.cell 0
      have e1 := HR9.cell 1
      have e2 := HR9.cell 2
      have e3 := HR9.cell 3
      have e4 := HR9.cell 4
      clear hW
      refine bodyPost_ret (v := .agg #[.bool false, .int .i64 t.k, .string ⟨t.s.toArray⟩, .int .i64 t.p, .slice none 0 0]) (by simp [results, Tryd.results16, go_sem, e0, e1, e2, e3, e4]) rfl ⟨none, 0, rfl, Lib.hid ?_, HBF⟩
      unfold Vt
      exact ⟨none, 0, rfl, Nat.le_refl _, fun h => by simp at h⟩
    | true =>
      simp only [cu, ck, if_true]
      have hcl : (cleans ks).length = ks.length := cleans_len ks
      rw [hcl]
      go_enter Tryd.func16, Tryd.ntmps16
      go_upto_region 1 with fail
      generalize hW : World.alloc (World.alloc _ _) _ = W0
      have HP0 : Hid (Bk W0 w.heap.size 37 #[.bool true, .int .i64 t.k, .string ⟨t.s.toArray⟩, .int .i64 t.p, .slice A ks.length c]) := Lib.hid (hW ▸ (Bk.new w _ _).alloc _)
      have HR0 : Hid (Bk W0 (w.heap.size + 1) 37 #[.bool false, .int .i64 0, .string ⟨#[]⟩, .int .i64 0, .slice none 0 0]) := Lib.hid (by
        have h := Bk.new (w.alloc (.cells #[.bool true, .int .i64 t.k, .string ⟨t.s.toArray⟩, .int .i64 t.p, .slice A ks.length c] 37)) 37 #[.bool false, .int .i64 0, .string ⟨#[]⟩, .int .i64 0, .slice none 0 0]
        rw [hW] at h
        simpa only [World.size_alloc] using h)
      have HB0 : Hid (Below w.heap.size w W0) := Lib.hid (hW ▸ (((Below.refl _ _).alloc (Nat.le_refl _) _).alloc (by simp) _))
      have HZ0 : Hid (W0.heap.size = w.heap.size + 2) := Lib.hid (by rw [← hW]; simp)
      clear hW
      have t0 : W0.cell? ⟨w.heap.size, 0, none⟩ = some (.bool true) := HP0.out.cell 0
      go_upto_region 4 with fail
      clear t0
      generalize hW : World.alloc _ _ = W1
      have HC0 : Hid (Cl w W1 (cleans (ks.take 0)) (.slice none 0 0)) := Lib.hid (by
        have hb := HB0.out.alloc HB0.out.size (.cells #[.bool true, .int .i64 1, .string ⟨#[40]⟩, .int .i64 0, .slice none 0 0] 37)
        have ho := Bk.new W0 37 #[.bool true, .int .i64 1, .string ⟨#[40]⟩, .int .i64 0, .slice none 0 0]
        rw [HZ0.out] at ho
        rw [← hW]
        refine ⟨HR0.out.alloc _, ho, ⟨[], ⟨rfl, .inl ⟨rfl, rfl⟩⟩, by simp [cleans, Av]⟩, hb, by simp [HZ0.out]⟩)
      have HP1 : Hid (Bk W1 w.heap.size 37 #[.bool true, .int .i64 t.k, .string ⟨t.s.toArray⟩, .int .i64 t.p, .slice A ks.length c]) := Lib.hid (hW ▸ HP0.out.alloc _)
      have HO2 : Hid (W0.heap.size = w.heap.size + 2) := HZ0
      rw [HO2.out]
      clear hW HB0 HR0 HP0 HO2 HZ0
      have t4 : W1.cell? ⟨w.heap.size, 4, none⟩ = some (.slice A ks.length c) := HP1.out.cell 4
      go_upto_region 5 with fail
      clear t4 HP1
      go_loopw [5, 17] (fun _ iv wr => ∃ (k : Nat) (v : Value), k ≤ ks.length ∧ iv = .int .i64 (k : Int) ∧ Hid (Cl w wr (cleans (ks.take k)) v)) (fun _ iv _ => ks.length - (intOf iv).toNat)
      case atStart => exact ⟨0, _, Nat.zero_le _, rfl, HC0⟩
      case round =>
        obtain ⟨k, v, hk, rfl, HC⟩ := hrel
        have HLK : Hid ((cleans (ks.take k)).length = k) := Lib.hid (by rw [cleans_len, List.length_take, Nat.min_eq_left hk])
        obtain ⟨A3, c3, hv3⟩ := HC.out.row
        rw [HLK.out] at hv3
        subst hv3
        by_cases hlt : k < ks.length
        · have g7 : (k : Int) < (ks.length : Int) := by omega
          obtain ⟨g, off, rfl, hF, hg, hr⟩ := hv.out.kids (by omega)
          have hr2 := Vr.stays HC.out.bel.size (fun g hF hg => ⟨hF, HC.out.bel.block g hg⟩) hF hg ks hr
          obtain ⟨l', u, kids, A', c', e, hvk, q0, q1, q2, q3, q4⟩ := hr2.get hlt
          have HPK : Hid (parts (.mk l' u kids) ≤ N) := Lib.hid (by have := HP.out k hlt; rw [e] at this; exact this)
          have HCT : Hid (cleans (ks.take (k + 1)) = cleans (ks.take k) ++ [.mk l' (cu l' u) (ck l' kids)]) := Lib.hid (by rw [cleans_snoc hlt, e, clean_eq])
          have HVK := Lib.hid hvk
          clear hr hr2 hvk e
          go_upto_region 7 with fail
          clear q0 q1 q2 q3 q4
          generalize hW : World.alloc _ _ = W1
          have HT1 : Hid (Bk W1 wr.heap.size 37 #[.bool l', .int .i64 u.k, .string ⟨u.s.toArray⟩, .int .i64 u.p, .slice A' kids.length c']) := Lib.hid (hW ▸ Bk.new wr _ _)
          have HC1 : Hid (Cl w W1 (cleans (ks.take k)) (.slice A3 k c3)) := Lib.hid (HC.out.below (hW ▸ (Below.refl _ wr).alloc (Nat.le_refl _) _))
          have HV1 : Hid (Vt W1 (fun _ => True) (.mk l' u kids) [.bool l', .int .i64 u.k, .string ⟨u.s.toArray⟩, .int .i64 u.p, .slice A' kids.length c']) := Lib.hid (HVK.out.stays (by rw [← hW]; simp) (fun g _ hl => ⟨trivial, by rw [← hW]; exact Below.heap_alloc wr _ g hl⟩))
          have HNV : Hid (¬ (Value.slice A3 k c3).ownBlock = some wr.heap.size) := Lib.hid (fun e => Nat.lt_irrefl _ (HC.out.kd.lt _ e).2)
          have HN5 : Hid (wr.heap.size < W1.heap.size ∧ w.heap.size + 3 ≤ wr.heap.size) := Lib.hid ⟨by rw [← hW]; simp, HC.out.sz⟩
          clear hW HVK HC
          generalize wr.heap.size = n5 at *
          obtain ⟨S, hSd⟩ : ∃ S : Bool → World → Prop, S = fun bb W => bb = true → Bk W (w.heap.size + 2) 37 #[.bool true, .int .i64 1, .string ⟨#[40]⟩, .int .i64 0, .slice A3 k c3] ∧ Bk W n5 37 #[.bool l', .int .i64 u.k, .string ⟨u.s.toArray⟩, .int .i64 u.p, .slice A' kids.length c'] := ⟨_, rfl⟩
          have HMO : ∀ w, S true w → S false w := by rw [hSd]; intro w _ h; cases h
          have HSP : ∀ W : World, S true W → Bk W (w.heap.size + 2) 37 #[.bool true, .int .i64 1, .string ⟨#[40]⟩, .int .i64 0, .slice A3 k c3] ∧ Bk W n5 37 #[.bool l', .int .i64 u.k, .string ⟨u.s.toArray⟩, .int .i64 u.p, .slice A' kids.length c'] := fun W h => by rw [hSd] at h; exact h rfl
          have HSM : ∀ W : World, Bk W (w.heap.size + 2) 37 #[.bool true, .int .i64 1, .string ⟨#[40]⟩, .int .i64 0, .slice A3 k c3] → Bk W n5 37 #[.bool l', .int .i64 u.k, .string ⟨u.s.toArray⟩, .int .i64 u.p, .slice A' kids.length c'] → S true W := fun W h1 h2 => by rw [hSd]; exact fun _ => ⟨h1, h2⟩
          have HSF : ∀ W : World, S false W := fun W => by rw [hSd]; intro h; cases h
          clear hSd
          refine wp_region_T S 7 (by kernel_rfl) (HSM _ HC1.out.out HT1.out) (fun hH => ?_)
          have HC2 : Hid (Cl w W1.drew (cleans (ks.take k)) (.slice A3 k c3)) := Lib.hid (HC1.out.below (Below.refl _ _).drew)
          have HT2 : Hid (Bk W1.drew n5 37 #[.bool l', .int .i64 u.k, .string ⟨u.s.toArray⟩, .int .i64 u.p, .slice A' kids.length c']) := HT1
          have HV2 : Hid (Vt W1.drew (fun _ => True) (.mk l' u kids) [.bool l', .int .i64 u.k, .string ⟨u.s.toArray⟩, .int .i64 u.p, .slice A' kids.length c']) := Lib.hid (Vt.stays (w := W1) (w' := W1.drew) (Nat.le_refl _) (fun _ h _ => ⟨h, rfl⟩) _ HV1.out)
          have HN5 : Hid (n5 < W1.drew.heap.size ∧ w.heap.size + 3 ≤ n5) := HN5
          clear HC1 HT1 HV1
          generalize W1.drew = W2 at *
          have IH := Lib.hid (ih HPK.out (by omega) HV2)
          refine wpAnyT_take (i := 0) (v := ?_) spat0 (by kernel_rfl) (by kernel_rfl) (by kernel_rfl) (by decide) (fun _ _ _ h => h) (Or.inl ⟨by rfl, ?_⟩) HMO hH ?_
          rotate_left
          · (intro w hSw; clear hSw; go_simp; (try with_reducible rfl))
          (try simp only [Act.put, List.setIfInBounds_toArray, List.set_cons_zero, List.set_cons_succ])
          refine wpAnyT_read (i := 1) (v := ?_) [5, 7] spat1 (by kernel_rfl) (by kernel_rfl) (by kernel_rfl) (by decide) (by kernel_rfl) (fun _ _ _ h => h) (Or.inl ⟨by rfl, ?_⟩) hH ?_
          rotate_left
          · (intro w hSw; obtain ⟨hb, _⟩ := HSP _ hSw; have b4 := hb.cell 4; clear hb; clear hSw; go_simp; (try with_reducible rfl))
          (try simp only [Act.put, List.setIfInBounds_toArray, List.set_cons_zero, List.set_cons_succ])
          refine wpAnyT_read (i := 2) (v := ?_) [3, 4, 5, 7] spat2 (by kernel_rfl) (by kernel_rfl) (by kernel_rfl) (by decide) (by kernel_rfl) (fun _ _ _ h => h) (Or.inl ⟨by rfl, ?_⟩) hH ?_
          rotate_left
          · (intro w hSw; obtain ⟨_, hb⟩ := HSP _ hSw; have b0 := hb.cell 0; have b1 := hb.cell 1; have b2 := hb.cell 2; have b3 := hb.cell 3; have b4 := hb.cell 4; clear hb; clear hSw; go_simp; (try with_reducible rfl))
          (try simp only [Act.put, List.setIfInBounds_toArray, List.set_cons_zero, List.set_cons_succ])
          refine wpAnyT_ready (rs := [3]) (by kernel_rfl) (by simp) ?_
          refine AllReadyT.cons spat3 true (by kernel_rfl) (fun K hK => ?_) AllReadyT.nil
          go_simp
          refine IH.out.mono ?_
          rintro e W5 ⟨A5, c5, rfl, hv5, hb5⟩
          have HC5 := Lib.hid (HC2.out.below hb5.out)
          have HT5 : Hid (Bk W5 n5 37 #[.bool l', .int .i64 u.k, .string ⟨u.s.toArray⟩, .int .i64 u.p, .slice A' kids.length c']) := Lib.hid (HT2.out.below hb5.out HT2.out.lt)
          have HW5 : Hid (W2.heap.size ≤ W5.heap.size) := Lib.hid hb5.out.size
          have HV5 : Hid (Vt W5 (fun b => W2.heap.size ≤ b) (.mk l' (cu l' u) (ck l' kids)) [.bool l', .int .i64 (cu l' u).k, .string ⟨(cu l' u).s.toArray⟩, .int .i64 (cu l' u).p, .slice A5 (ck l' kids).length c5]) := hv5
          have hN5 := HC2.out.kd.lt
          have HLT5 := Lib.hid hN5
          have HS5 := Lib.hid (HSM _ HC5.out.out HT5.out)
          refine hK.out _ _ HS5.out (fun hH => ?_)
          clear hK K IH hv5 hb5 hN5 HC2 HT2 HV2
          (try simp only [Act.put, List.setIfInBounds_toArray, List.set_cons_zero, List.set_cons_succ])
          refine wpAnyT_ready (rs := [4]) (by kernel_rfl) (by simp) ?_
          refine AllReadyT.cons spat4 true (by kernel_rfl) (fun K hK => ?_) AllReadyT.nil
          go_simp
          have HS6 : Hid (S true (W5.alloc (.cells ([.bool l', .int .i64 (cu l' u).k, .string ⟨(cu l' u).s.toArray⟩, .int .i64 (cu l' u).p, .slice A5 (ck l' kids).length c5]).toArray 37))) := Lib.hid (HSM _ (HC5.out.out.alloc _) (HT5.out.alloc _))
          refine hK.out _ _ HS6.out (fun hH => ?_)
          clear hK K
          (try simp only [Act.put, List.setIfInBounds_toArray, List.set_cons_zero, List.set_cons_succ])
          refine wpAnyT_ready (rs := [5]) (by kernel_rfl) (by simp) ?_
          refine AllReadyT.cons spat5 true (by kernel_rfl) (fun K hK => ?_) AllReadyT.nil
          obtain ⟨xs, hown, hav⟩ := HC5.out.kd
          rw [HLK.out] at hown
          have HAV := Lib.hid hav
          refine step_append_lies _ rfl _ _ 24 rfl (w.heap.size + 3) 37 i0 _ 5 64 Tryd.underlying24 hi hz0 hz1 hz2 rfl (by decide) (.slice A3 k c3) k xs rfl (hown.alloc _) ⟨W5.heap.size, 0, none⟩ 1 1 [.bool l', .int .i64 (cu l' u).k, .string ⟨(cu l' u).s.toArray⟩, .int .i64 (cu l' u).p, .slice A5 (ck l' kids).length c5] rfl rfl ?c1 ?c2 (by decide) ?c3 ?c4 ?c5 _ rfl ?_
          case c1 => exact new5 W5 _ _ _ _ _ _
          case c2 => exact fun q hq => five_one hq rfl rfl rfl rfl rfl
          case c3 => unfold maxLen; omega
          case c4 => omega
          case c5 => have := HC5.out.sz; simp; omega
          intro gn cn W7 hown7 hgrow hat hlt7
          have hpush := HC5.out.push (n5 := W2.heap.size) (c' := cn) (g' := gn) HAV.out HV5.out ⟨by have := HN5.out; omega, fun g e => (HLT5.out g e).2⟩ (by rw [HLK.out]; exact hown7) hgrow hat
          rw [HLK.out] at hpush
          have HEND : Hid (Cl w (W7.setCell ⟨w.heap.size + 2, 4, none⟩ (.slice (some ⟨gn, 0, none⟩) (k + 1) cn)) (cleans (ks.take (k + 1))) (.slice (some ⟨gn, 0, none⟩) (k + 1) cn)) := Lib.hid (by rw [HCT.out]; exact hpush.1)
          have HB7 : Hid (Bk W7 (w.heap.size + 2) 37 #[.bool true, .int .i64 1, .string ⟨#[40]⟩, .int .i64 0, .slice A3 k c3]) := Lib.hid hpush.2.1
          have HT7 : Hid (Bk W7 n5 37 #[.bool l', .int .i64 u.k, .string ⟨u.s.toArray⟩, .int .i64 u.p, .slice A' kids.length c']) := Lib.hid ((hpush.2.2 n5 (by have := HN5.out; have := HW5.out; omega) (fun e => HNV.out e)).trans HT5.out)
          refine hK.out _ _ (HSM _ HB7.out HT7.out) (fun hH => ?_)
          clear hK K hown7 hgrow hat hlt7 hpush hown hav HAV HC5 HT5 HV5 HLT5 HS5 HS6 HT7
          (try simp only [Act.put, List.setIfInBounds_toArray, List.set_cons_zero, List.set_cons_succ])
          refine wpAnyT_take (i := 6) (v := ?_) spat6 (by kernel_rfl) (by kernel_rfl) (by kernel_rfl) (by decide) (fun _ _ _ h => h) (Or.inl ⟨by rfl, ?_⟩) HMO hH ?_
          rotate_left
          · (intro w hSw; clear hSw; go_simp; (try with_reducible rfl))
          (try simp only [Act.put, List.setIfInBounds_toArray, List.set_cons_zero, List.set_cons_succ])
          refine wpAnyT_ready (rs := [7]) (by kernel_rfl) (by simp) ?_
          refine AllReadyT.cons spat7 false (by kernel_rfl) (fun K hK => ?_) AllReadyT.nil
          have hF9 := HB7.out.cell 4
          have hZ9 := HB7.out.frozen
          go_simp
          refine hK.out _ _ (HSF _) (fun hH => ?_)
          clear hK K hF9 hZ9 HB7
          (try simp only [Act.put, List.setIfInBounds_toArray, List.set_cons_zero, List.set_cons_succ])
          refine wpAnyT_done (by kernel_rfl) ?_ _
          revert HEND
          generalize World.setCell _ _ _ = W9
          intro HEND
          go_wp2_with fail
          go_roundw
          case rel => exact ⟨k + 1, _, by omega, by go_num, HEND⟩
          case measure => simp [intOf]; omega
        · obtain rfl : k = ks.length := by omega
          have g7 : ¬ ((ks.length : Int) < (ks.length : Int)) := by omega
          rw [List.take_length] at HC
          have o0 := HC.out.out.cell 0
          have o1 := HC.out.out.cell 1
          have o2 := HC.out.out.cell 2
          have o3 := HC.out.out.cell 3
          have o4 := HC.out.out.cell 4
          have r0 := HC.out.res.cell 0
          have r1 := HC.out.res.cell 1
          have r2 := HC.out.res.cell 2
          have r3 := HC.out.res.cell 3
          have r4 := HC.out.res.cell 4
          have rf := HC.out.res.frozen
          go_wp2_with fail
          clear o0 o1 o2 o3 o4 r0 r1 r2 r3 r4 rf
          generalize hW : World.setCell (World.setCell (World.setCell (World.setCell (World.setCell _ _ _) _ _) _ _) _ _) _ _ = W9
          have HR9 : Bk W9 (w.heap.size + 1) 37 #[.bool true, .int .i64 1, .string ⟨#[40]⟩, .int .i64 0, .slice A3 ks.length c3] := by
            have h2 := ((((HC.out.res.set_ 0 (.bool true)).set_ 1 (.int .i64 1)).set_ 2 (.string ⟨#[40]⟩)).set_ 3 (.int .i64 0)).set_ 4 (.slice A3 ks.length c3)
            rw [← hW]
            exact h2
          have HBF : Hid (Below w.heap.size w W9) := Lib.hid (by
            rw [← hW]
            refine Below.setCell (Below.setCell (Below.setCell (Below.setCell (Below.setCell HC.out.bel ?_ _) ?_ _) ?_ _) ?_ _) ?_ _ <;> simp)
          have HVT : Hid (Vt W9 (fun b => w.heap.size ≤ b) (.mk true open1 (cleans ks)) [.bool true, .int .i64 1, .string ⟨#[40]⟩, .int .i64 0, .slice A3 ks.length c3]) := Lib.hid (by
            have hkd : Kd W9 (w.heap.size + 3) (fun b => w.heap.size + 3 ≤ b ∧ (Value.slice A3 ks.length c3).ownBlock ≠ some b) (cleans ks) (.slice A3 ks.length c3) := by
              have hb : ∀ b, b ≠ w.heap.size + 1 → W9.heap[b]? = wr.heap[b]? := fun b hb => by
                rw [← hW]
                exact (Below.heap_setCell _ _ _ b hb).trans ((Below.heap_setCell _ _ _ b hb).trans ((Below.heap_setCell _ _ _ b hb).trans ((Below.heap_setCell _ _ _ b hb).trans (Below.heap_setCell _ _ _ b hb))))
              exact HC.out.kd.stays (by rw [← hW]; simp) (fun g hg _ => ⟨hg, hb g (by omega)⟩) (fun g hg => hb g (by have := HC.out.kd.lt g hg; omega))
            have hrw := hkd.rw (F' := fun b => w.heap.size ≤ b) (fun g h => by have := h.1; omega) (fun g h => by have := (hkd.lt g h).1; omega)
            exact Vt.iff.2 ⟨_, rfl, hrw⟩)
          have e0 := HR9.cell 0
          have e1 := HR9.cell 1
          have e2 := HR9.cell 2
          have e3 := HR9.cell 3
          have e4 := HR9.cell 4
          clear hW
          refine bodyPost_ret (v := .agg #[.bool true, .int .i64 1, .string ⟨#[40]⟩, .int .i64 0, .slice A3 ks.length c3]) (by simp [results, Tryd.results16, go_sem, e0, e1, e2, e3, e4]) rfl ⟨A3, c3, rfl, HVT, HBF⟩
end Go.Proofs.YtmnllioeaaimcaaDoor.tr

/- The statement TreeTexts, walked. -/
namespace Go.Proofs.YtmnllioeaaimcaaDoor.tr
open Go Go.RowKit Go.Proofs.YtmnllioeaaimcaaDoor.tk

theorem tokCells_tk : ∀ (D : List Tk), tokCells (D.map tokOf) = tkCells D
  | [] => rfl
  | x :: D => by
    have := tokCells_tk D
    simp only [tkCells, List.map_cons, tokCells, List.flatMap_cons, tokOf] at this ⊢
    rw [this]
    rfl
theorem rb_bytes (w : World) (S : ByteArray) (cap : Nat) (fr : Nat × Nat) (t : TypeId) : Rb (w.alloc (.cells (bytesRow S cap) t fr)) (some ⟨w.heap.size, 0, none⟩) S.data.toList := fun _ => by
  refine ⟨w.heap.size, 0, rfl, by simp, fun j hj => ?_⟩
  have hb : (w.alloc (.cells (bytesRow S cap) t fr)).heap[w.heap.size]? = some (.cells (bytesRow S cap) t fr) := by
    show (w.heap.push _)[w.heap.size]? = _
    simp
  have hj2 : j < S.data.size := by simpa using hj
  simp only [World.cell?, hb]
  simp only [Nat.zero_add, bytesRow]
  show (_ : Array Value)[j]? = _
  rw [Array.getElem?_append_left (by simpa using hj2)]
  simp [byV]
  exact ⟨_, Array.getElem?_eq_getElem hj2, rfl⟩
/-- a tree in a block of its own is a row of one -/
theorem rw_one {w : World} {t : Tree} {cs : List Value} {F : Nat → Prop} (h : Vt w F t cs) (ty : TypeId) : Rw (w.alloc (.cells cs.toArray ty)) (fun _ => True) [t] (.slice (some ⟨w.heap.size, 0, none⟩) 1 1) := by
  refine ⟨some ⟨w.heap.size, 0, none⟩, 1, rfl, Nat.le_refl _, fun _ => ⟨w.heap.size, 0, rfl, trivial, by simp, ?_⟩⟩
  have h2 : Vt (w.alloc (.cells cs.toArray ty)) (fun _ => True) t cs := Vt.stays (by simp) (fun g _ hl => ⟨trivial, Below.heap_alloc w _ g hl⟩) t h
  refine Av.vr (xs := cs) ⟨cs, [], by simp, h2, rfl⟩ fun j hj => ?_
  have hb : (w.alloc (.cells cs.toArray ty)).heap[w.heap.size]? = some (.cells cs.toArray ty) := by
    show (w.heap.push _)[w.heap.size]? = _
    simp
  simp only [World.cell?, hb]
  simp
section
variable {w : World} {l : Bool} {t : Tok} {ks : List Tree} {A : Option Addr} {c : Nat}
set_option maxRecDepth 100000 in
set_option maxHeartbeats 4000000 in
theorem texts_big (HSH : Hid (w.ShapedOpen Tryd.prog)) (HV : Hid (Vt w (fun b => b < w.heap.size) (.mk l t ks) [.bool l, .int .i64 t.k, .string ⟨t.s.toArray⟩, .int .i64 t.p, .slice A ks.length c])) (h : 300 < parts (.mk l t ks)) :
    Calls Tryd.prog 4 #[.agg #[.bool l, .int .i64 t.k, .string ⟨t.s.toArray⟩, .int .i64 t.p, .slice A ks.length c]] w fun e w' => e = .returned (.bool true) ∧ Hid (Below w.heap.size w w') := by
  have SP := fun (w : World) (h : w.ShapedOpen Tryd.prog) => speaks_any h
  go_enter Tryd.func4, Tryd.ntmps4
  go_upto_region 1 with fail
  generalize hW : w.alloc _ = W0
  have HT0 : Hid (Bk W0 w.heap.size 37 #[.bool l, .int .i64 t.k, .string ⟨t.s.toArray⟩, .int .i64 t.p, .slice A ks.length c]) := Lib.hid (hW ▸ Bk.new w _ _)
  have HB0 : Hid (Below w.heap.size w W0) := Lib.hid (hW ▸ (Below.refl _ _).alloc (Nat.le_refl _) _)
  have HS0 := Lib.hid (SP W0 (shaped_below HSH.out HB0.out))
  clear hW SP
  go_upto_region 3 with (go_at_call 6; refine HS0.out.mono ?_; rintro e w1 ⟨rfl, hb1⟩)
  have HT1 := Lib.hid (HT0.out.below hb1.out HT0.out.lt)
  have HB1 : Hid (Below w.heap.size w w1) := Lib.hid (HB0.out.trans (hb1.out.mono HB0.out.size))
  clear HT0 HB0 HS0 hb1
  have P1 := Lib.hid (lparts_any (w := w1) (m := 300) (parts (.mk l t ks)) (Nat.le_refl _) (by omega) (Lib.hid (HV.out.stays (F' := fun _ => True) HB1.out.size (fun g hg _ => ⟨trivial, HB1.out.block g hg⟩))))
  have t0 := HT1.out.cell 0
  have t1 := HT1.out.cell 1
  have t2 := HT1.out.cell 2
  have t3 := HT1.out.cell 3
  have t4 := HT1.out.cell 4
  have hmin : min (parts (.mk l t ks)) (300 + 1) = 301 := by omega
  rw [hmin] at P1
  clear hmin h
  go_wp2_with (go_at_call 10; refine P1.out.mono ?_; rintro e w2 ⟨rfl, hb2⟩)
  go_ret
  exact ⟨rfl, Lib.hid (HB1.out.trans (hb2.out.mono HB1.out.size))⟩
set_option maxRecDepth 100000 in
set_option maxHeartbeats 8000000 in
theorem texts_none (HSH : Hid (w.ShapedOpen Tryd.prog)) (HV : Hid (Vt w (fun b => b < w.heap.size) (.mk l t ks) [.bool l, .int .i64 t.k, .string ⟨t.s.toArray⟩, .int .i64 t.p, .slice A ks.length c])) (h : parts (.mk l t ks) ≤ 300) (HWT : Hid (wt (evs (.mk l t ks)) ≤ 40000000)) (HTX : Hid (text (.mk l t ks) = none)) :
    Calls Tryd.prog 4 #[.agg #[.bool l, .int .i64 t.k, .string ⟨t.s.toArray⟩, .int .i64 t.p, .slice A ks.length c]] w fun e w' => e = .returned (.bool true) ∧ Hid (Below w.heap.size w w') := by
  have SP := fun (w : World) (h : w.ShapedOpen Tryd.prog) => speaks_any h
  go_enter Tryd.func4, Tryd.ntmps4
  go_upto_region 1 with fail
  generalize hW : w.alloc _ = W0
  have HT0 : Hid (Bk W0 w.heap.size 37 #[.bool l, .int .i64 t.k, .string ⟨t.s.toArray⟩, .int .i64 t.p, .slice A ks.length c]) := Lib.hid (hW ▸ Bk.new w _ _)
  have HB0 : Hid (Below w.heap.size w W0) := Lib.hid (hW ▸ (Below.refl _ _).alloc (Nat.le_refl _) _)
  have HS0 := Lib.hid (SP W0 (shaped_below HSH.out HB0.out))
  clear hW SP
  go_upto_region 3 with (go_at_call 6; refine HS0.out.mono ?_; rintro e w1 ⟨rfl, hb1⟩)
  have HT1 := Lib.hid (HT0.out.below hb1.out HT0.out.lt)
  have HB1 : Hid (Below w.heap.size w w1) := Lib.hid (HB0.out.trans (hb1.out.mono HB0.out.size))
  clear HT0 HB0 HS0 hb1
  have P1 := Lib.hid (lparts_any (w := w1) (m := 300) (parts (.mk l t ks)) (Nat.le_refl _) (by omega) (Lib.hid (HV.out.stays (F' := fun _ => True) HB1.out.size (fun g hg _ => ⟨trivial, HB1.out.block g hg⟩))))
  have t0 := HT1.out.cell 0
  have t1 := HT1.out.cell 1
  have t2 := HT1.out.cell 2
  have t3 := HT1.out.cell 3
  have t4 := HT1.out.cell 4
  have HPP := Lib.hid h
  obtain ⟨np, hnp⟩ : ∃ n, min (parts (.mk l t ks)) (300 + 1) = n := ⟨_, rfl⟩
  have g1 : ¬ (300 : Int) < (np : Int) := by omega
  rw [hnp] at P1
  clear hnp h
  go_upto_region 5 with (go_at_call 10; refine P1.out.mono ?_; rintro e w2 ⟨rfl, hb2⟩)
  have HT2 := Lib.hid (HT1.out.below hb2.out HT1.out.lt)
  have HB2 : Hid (Below w.heap.size w w2) := Lib.hid (HB1.out.trans (hb2.out.mono HB1.out.size))
  clear HT1 HB1 hb2 P1 t0 t1 t2 t3 t4 g1
  have P2 : Hid (Calls Tryd.prog 11 #[.agg #[.bool l, .int .i64 t.k, .string ⟨t.s.toArray⟩, .int .i64 t.p, .slice A ks.length c]] w2 fun e w' => e = .returned (.tuple #[.string ⟨#[]⟩, .bool false]) ∧ Hid (Below w2.heap.size w2 w')) := Lib.hid ((text_any (HV.out.stays HB2.out.size (fun g hg _ => ⟨by have := HB2.out.size; omega, HB2.out.block g hg⟩)) (by have := size_parts (.mk l t ks); have := HPP.out; omega) HWT.out (shaped_below HSH.out HB2.out)).mono fun e w' r => ⟨by have h := r.1.out; rw [HTX.out] at h; simpa only [WordIs] using h, r.2⟩)
  have t0 := HT2.out.cell 0
  have t1 := HT2.out.cell 1
  have t2 := HT2.out.cell 2
  have t3 := HT2.out.cell 3
  have t4 := HT2.out.cell 4
  go_upto_region 6 with (go_at_call 11; refine P2.out.mono ?_; rintro e w3 ⟨rfl, hb3⟩)
  have HT3 := Lib.hid (HT2.out.below hb3.out HT2.out.lt)
  have HB3 : Hid (Below w.heap.size w w3) := Lib.hid (HB2.out.trans (hb3.out.mono HB2.out.size))
  clear HT2 HB2 hb3 P2 t0 t1 t2 t3 t4
  have P3 : Hid (Calls Tryd.prog 12 #[.agg #[.bool l, .int .i64 t.k, .string ⟨t.s.toArray⟩, .int .i64 t.p, .slice A ks.length c]] w3 fun e w' => e = .returned (.tuple #[.string ⟨#[]⟩, .bool false]) ∧ Hid (Below w3.heap.size w3 w')) := Lib.hid ((refText_any 300 HPP.out (by omega) HWT.out (Lib.hid (HV.out.stays (F' := fun _ => True) HB3.out.size (fun g hg _ => ⟨trivial, HB3.out.block g hg⟩)))).mono fun e w' r => ⟨by have h := r.1.out; rw [HTX.out] at h; simpa only [WordIs] using h, r.2⟩)
  have t0 := HT3.out.cell 0
  have t1 := HT3.out.cell 1
  have t2 := HT3.out.cell 2
  have t3 := HT3.out.cell 3
  have t4 := HT3.out.cell 4
  go_upto_region 7 with (go_at_call 12; refine P3.out.mono ?_; rintro e w4 ⟨rfl, hb4⟩)
  have HT4 := Lib.hid (HT3.out.below hb4.out HT3.out.lt)
  have HB4 : Hid (Below w.heap.size w w4) := Lib.hid (HB3.out.trans (hb4.out.mono HB3.out.size))
  clear HT3 HB3 hb4 P3 t0 t1 t2 t3 t4
  obtain ⟨n, hn⟩ : ∃ n, size (.mk l t ks) = n := ⟨_, rfl⟩
  have HN := Lib.hid hn
  clear hn
  obtain ⟨S0, hSd⟩ : ∃ S : Bool → World → Prop, S = fun _ W => Bk W w.heap.size 37 #[.bool l, .int .i64 t.k, .string ⟨t.s.toArray⟩, .int .i64 t.p, .slice A ks.length c] := ⟨_, rfl⟩
  have HMO : ∀ w, S0 true w → S0 false w := by rw [hSd]; intro w h; exact h
  have HSA : ∀ a b (W : World), S0 a W → S0 b W := by rw [hSd]; intro a b W h; exact h
  have HSP : ∀ a (W : World), S0 a W → Bk W w.heap.size 37 #[.bool l, .int .i64 t.k, .string ⟨t.s.toArray⟩, .int .i64 t.p, .slice A ks.length c] := by rw [hSd]; intro a W h; exact h
  have HSM : ∀ a (W : World), Bk W w.heap.size 37 #[.bool l, .int .i64 t.k, .string ⟨t.s.toArray⟩, .int .i64 t.p, .slice A ks.length c] → S0 a W := by rw [hSd]; intro a W h; exact h
  clear hSd
  refine wp_region_T S0 15 (by kernel_rfl) (HSM _ _ HT4.out) (fun hH => ?_)
  have HT5 : Hid (Bk w4.drew w.heap.size 37 #[.bool l, .int .i64 t.k, .string ⟨t.s.toArray⟩, .int .i64 t.p, .slice A ks.length c]) := HT4
  have HB5 : Hid (Below w.heap.size w w4.drew) := Lib.hid HB4.out.drew
  clear HT4 HB4
  generalize w4.drew = w5 at *
  have P5 : Hid (Calls Tryd.prog 13 #[.agg #[.bool l, .int .i64 t.k, .string ⟨t.s.toArray⟩, .int .i64 t.p, .slice A ks.length c]] w5 fun e w' => e = .returned (.int .i64 (n : Int)) ∧ Hid (Below w5.heap.size w5 w')) := Lib.hid (HN.out ▸ size_any (HV.out.stays HB5.out.size (fun g hg _ => ⟨by have := HB5.out.size; omega, HB5.out.block g hg⟩)) (by have := size_parts (.mk l t ks); have := HPP.out; omega))
  refine wpAnyT_take (i := 0) (v := ?_) spat0 (by kernel_rfl) (by kernel_rfl) (by kernel_rfl) (by decide) (fun _ _ _ h => h) (Or.inl ⟨by rfl, ?_⟩) HMO (HSA _ _ _ hH) ?_
  rotate_left
  · (intro w hSw; clear hSw; go_simp; (try with_reducible rfl))
  (try simp only [Act.put, List.setIfInBounds_toArray, List.set_cons_zero, List.set_cons_succ])
  refine wpAnyT_take (i := 1) (v := ?_) spat1 (by kernel_rfl) (by kernel_rfl) (by kernel_rfl) (by decide) (fun _ _ _ h => h) (Or.inl ⟨by rfl, ?_⟩) HMO (HSA _ _ _ hH) ?_
  rotate_left
  · (intro w hSw; clear hSw; go_simp; (try with_reducible rfl))
  (try simp only [Act.put, List.setIfInBounds_toArray, List.set_cons_zero, List.set_cons_succ])
  refine wpAnyT_take (i := 2) (v := ?_) spat2 (by kernel_rfl) (by kernel_rfl) (by kernel_rfl) (by decide) (fun _ _ _ h => h) (Or.inl ⟨by rfl, ?_⟩) HMO (HSA _ _ _ hH) ?_
  rotate_left
  · (intro w hSw; clear hSw; go_simp; (try with_reducible rfl))
  (try simp only [Act.put, List.setIfInBounds_toArray, List.set_cons_zero, List.set_cons_succ])
  refine wpAnyT_take (i := 3) (v := ?_) spat3 (by kernel_rfl) (by kernel_rfl) (by kernel_rfl) (by decide) (fun _ _ _ h => h) (Or.inl ⟨by rfl, ?_⟩) HMO (HSA _ _ _ hH) ?_
  rotate_left
  · (intro w hSw; clear hSw; go_simp; (try with_reducible rfl))
  (try simp only [Act.put, List.setIfInBounds_toArray, List.set_cons_zero, List.set_cons_succ])
  refine wpAnyT_take (i := 4) (v := ?_) spat4 (by kernel_rfl) (by kernel_rfl) (by kernel_rfl) (by decide) (fun _ _ _ h => h) (Or.inl ⟨by rfl, ?_⟩) HMO (HSA _ _ _ hH) ?_
  rotate_left
  · (intro w hSw; clear hSw; go_simp; (try with_reducible rfl))
  (try simp only [Act.put, List.setIfInBounds_toArray, List.set_cons_zero, List.set_cons_succ])
  refine wpAnyT_take (i := 5) (v := ?_) spat5 (by kernel_rfl) (by kernel_rfl) (by kernel_rfl) (by decide) (fun _ _ _ h => h) (Or.inl ⟨by rfl, ?_⟩) HMO (HSA _ _ _ hH) ?_
  rotate_left
  · (intro w hSw; clear hSw; go_simp; (try with_reducible rfl))
  (try simp only [Act.put, List.setIfInBounds_toArray, List.set_cons_zero, List.set_cons_succ])
  refine wpAnyT_take (i := 6) (v := ?_) spat6 (by kernel_rfl) (by kernel_rfl) (by kernel_rfl) (by decide) (fun _ _ _ h => h) (Or.inl ⟨by rfl, ?_⟩) HMO (HSA _ _ _ hH) ?_
  rotate_left
  · (intro w hSw; clear hSw; go_simp; (try with_reducible rfl))
  (try simp only [Act.put, List.setIfInBounds_toArray, List.set_cons_zero, List.set_cons_succ])
  refine wpAnyT_take (i := 7) (v := ?_) spat7 (by kernel_rfl) (by kernel_rfl) (by kernel_rfl) (by decide) (fun _ _ _ h => h) (Or.inl ⟨by rfl, ?_⟩) HMO (HSA _ _ _ hH) ?_
  rotate_left
  · (intro w hSw; clear hSw; go_simp; (try with_reducible rfl))
  (try simp only [Act.put, List.setIfInBounds_toArray, List.set_cons_zero, List.set_cons_succ])
  refine wpAnyT_take (i := 8) (v := ?_) spat8 (by kernel_rfl) (by kernel_rfl) (by kernel_rfl) (by decide) (fun _ _ _ h => h) (Or.inl ⟨by rfl, ?_⟩) HMO (HSA _ _ _ hH) ?_
  rotate_left
  · (intro w hSw; clear hSw; go_simp; (try with_reducible rfl))
  (try simp only [Act.put, List.setIfInBounds_toArray, List.set_cons_zero, List.set_cons_succ])
  refine wpAnyT_take (i := 9) (v := ?_) spat9 (by kernel_rfl) (by kernel_rfl) (by kernel_rfl) (by decide) (fun _ _ _ h => h) (Or.inl ⟨by rfl, ?_⟩) HMO (HSA _ _ _ hH) ?_
  rotate_left
  · (intro w hSw; have hb := HSP _ _ hSw; have b0 := hb.cell 0; have b1 := hb.cell 1; have b2 := hb.cell 2; have b3 := hb.cell 3; have b4 := hb.cell 4; clear hb; clear hSw; go_simp; (try with_reducible rfl))
  (try simp only [Act.put, List.setIfInBounds_toArray, List.set_cons_zero, List.set_cons_succ])
  refine wpAnyT_take (i := 11) (v := ?_) spat11 (by kernel_rfl) (by kernel_rfl) (by kernel_rfl) (by decide) (fun _ _ _ h => h) (Or.inl ⟨by rfl, ?_⟩) HMO (HSA _ _ _ hH) ?_
  rotate_left
  · (intro w hSw; have hb := HSP _ _ hSw; have b0 := hb.cell 0; have b1 := hb.cell 1; have b2 := hb.cell 2; have b3 := hb.cell 3; have b4 := hb.cell 4; clear hb; clear hSw; go_simp; (try with_reducible rfl))
  (try simp only [Act.put, List.setIfInBounds_toArray, List.set_cons_zero, List.set_cons_succ])
  refine wpAnyT_ready (rs := [10]) (by kernel_rfl) (by simp) ?_
  refine AllReadyT.cons spat10 false (by kernel_rfl) (fun K hK => ?_) AllReadyT.nil
  go_simp
  refine P5.out.mono ?_
  rintro e w6 ⟨rfl, hb6⟩
  have HT6 := Lib.hid (HT5.out.below hb6.out HT5.out.lt)
  have HB6 : Hid (Below w.heap.size w w6) := Lib.hid (HB5.out.trans (hb6.out.mono HB5.out.size))
  refine hK.out _ _ (HSM _ _ HT6.out) (fun hH => ?_)
  clear hK K HT5 HB5 hb6 P5
  (try simp only [Act.put, List.setIfInBounds_toArray, List.set_cons_zero, List.set_cons_succ])
  have P6 : Hid (Calls Tryd.prog 14 #[.agg #[.bool l, .int .i64 t.k, .string ⟨t.s.toArray⟩, .int .i64 t.p, .slice A ks.length c]] w6 fun e w' => e = .returned (.int .i64 (n : Int)) ∧ Hid (Below w6.heap.size w6 w')) := Lib.hid (HN.out ▸ refSize_any 300 HPP.out (by omega) (Lib.hid (HV.out.stays (F' := fun _ => True) HB6.out.size (fun g hg _ => ⟨trivial, HB6.out.block g hg⟩))))
  refine wpAnyT_ready (rs := [12]) (by kernel_rfl) (by simp) ?_
  refine AllReadyT.cons spat12 false (by kernel_rfl) (fun K hK => ?_) AllReadyT.nil
  go_simp
  refine P6.out.mono ?_
  rintro e w7 ⟨rfl, hb7⟩
  have HT7 := Lib.hid (HT6.out.below hb7.out HT6.out.lt)
  have HB7 : Hid (Below w.heap.size w w7) := Lib.hid (HB6.out.trans (hb7.out.mono HB6.out.size))
  refine hK.out _ _ (HSM _ _ HT7.out) (fun hH => ?_)
  clear hK K HT6 HB6 hb7 P6
  (try simp only [Act.put, List.setIfInBounds_toArray, List.set_cons_zero, List.set_cons_succ])
  refine wpAnyT_take (i := 13) (v := ?_) spat13 (by kernel_rfl) (by kernel_rfl) (by kernel_rfl) (by decide) (fun _ _ _ h => h) (Or.inl ⟨by rfl, ?_⟩) HMO (HSA _ _ _ hH) ?_
  rotate_left
  · (intro w hSw; clear hSw; go_simp; (try with_reducible rfl))
  (try simp only [Act.put, List.setIfInBounds_toArray, List.set_cons_zero, List.set_cons_succ])
  refine wpAnyT_take (i := 14) (v := ?_) spat14 (by kernel_rfl) (by kernel_rfl) (by kernel_rfl) (by decide) (fun _ _ _ h => h) (Or.inl ⟨by rfl, ?_⟩) HMO (HSA _ _ _ hH) ?_
  rotate_left
  · (intro w hSw; clear hSw; go_simp; (try with_reducible rfl))
  (try simp only [Act.put, List.setIfInBounds_toArray, List.set_cons_zero, List.set_cons_succ])
  refine wpAnyT_done (by kernel_rfl) ?_ _
  clear hH HMO HSA HSP HSM
  go_wp2_with fail
  go_ret
  exact ⟨rfl, HB7⟩
set_option maxRecDepth 100000 in
set_option maxHeartbeats 8000000 in
theorem texts_some (HSH : Hid (w.ShapedOpen Tryd.prog)) (HV : Hid (Vt w (fun b => b < w.heap.size) (.mk l t ks) [.bool l, .int .i64 t.k, .string ⟨t.s.toArray⟩, .int .i64 t.p, .slice A ks.length c])) (h : parts (.mk l t ks) ≤ 300) (HWT : Hid (wt (evs (.mk l t ks)) ≤ 40000000)) {W : List UInt8} (HTX : Hid (text (.mk l t ks) = some W)) :
    Calls Tryd.prog 4 #[.agg #[.bool l, .int .i64 t.k, .string ⟨t.s.toArray⟩, .int .i64 t.p, .slice A ks.length c]] w fun e w' => e = .returned (.bool true) ∧ Hid (Below w.heap.size w w') := by
  obtain ⟨D, ts, hrd, hdl, hrt, hers⟩ := text_read (deep := 1000) HTX.out (by have := high_parts (.mk l t ks); omega)
  have HRT := Lib.hid hrt
  have HSAME : Hid (samesB false ts [.mk l (cu l t) (ck l ks)] = true) := Lib.hid ((sames_er _ _).2 (by rw [hers, ← clean_eq]; simp [ers, er_clean]))
  have HTP : Hid (partss ts ≤ 100000000) := Lib.hid (by have h1 := read_parts hrt; have h2 := size_parts (.mk l t ks); rw [List.length_map, hdl] at h1; omega)
  obtain ⟨S, hS⟩ : ∃ S : ByteArray, (⟨W.toArray⟩ : ByteArray) = S := ⟨_, rfl⟩
  have HS := Lib.hid hS
  have HSZ : Hid (S.size ≤ 40000000) := Lib.hid (by rw [← hS, size_ba]; exact Nat.le_trans (text_len HTX.out) HWT.out)
  have HRD : Hid (readL S.data.toList = .ok D) := Lib.hid (by rw [← hS]; simpa using hrd)
  have hsz := HSZ.out
  have HDS : Hid (D.length = size (.mk l t ks)) := Lib.hid hdl
  have HNB2 : Hid (size (.mk l t ks) ≤ 600) := Lib.hid (by have := size_parts (.mk l t ks); omega)
  clear hrd hdl hrt hers hS
  have SP := fun (w : World) (h : w.ShapedOpen Tryd.prog) => speaks_any h
  go_enter Tryd.func4, Tryd.ntmps4
  go_upto_region 1 with fail
  generalize hW : w.alloc _ = W0
  have HT0 : Hid (Bk W0 w.heap.size 37 #[.bool l, .int .i64 t.k, .string ⟨t.s.toArray⟩, .int .i64 t.p, .slice A ks.length c]) := Lib.hid (hW ▸ Bk.new w _ _)
  have HB0 : Hid (Below w.heap.size w W0) := Lib.hid (hW ▸ (Below.refl _ _).alloc (Nat.le_refl _) _)
  have HS0 := Lib.hid (SP W0 (shaped_below HSH.out HB0.out))
  clear hW SP
  go_upto_region 3 with (go_at_call 6; refine HS0.out.mono ?_; rintro e w1 ⟨rfl, hb1⟩)
  have HT1 := Lib.hid (HT0.out.below hb1.out HT0.out.lt)
  have HB1 : Hid (Below w.heap.size w w1) := Lib.hid (HB0.out.trans (hb1.out.mono HB0.out.size))
  clear HT0 HB0 HS0 hb1
  have P1 := Lib.hid (lparts_any (w := w1) (m := 300) (parts (.mk l t ks)) (Nat.le_refl _) (by omega) (Lib.hid (HV.out.stays (F' := fun _ => True) HB1.out.size (fun g hg _ => ⟨trivial, HB1.out.block g hg⟩))))
  have t0 := HT1.out.cell 0
  have t1 := HT1.out.cell 1
  have t2 := HT1.out.cell 2
  have t3 := HT1.out.cell 3
  have t4 := HT1.out.cell 4
  have HPP := Lib.hid h
  obtain ⟨np, hnp⟩ : ∃ n, min (parts (.mk l t ks)) (300 + 1) = n := ⟨_, rfl⟩
  have g1 : ¬ (300 : Int) < (np : Int) := by omega
  rw [hnp] at P1
  clear hnp h
  go_upto_region 5 with (go_at_call 10; refine P1.out.mono ?_; rintro e w2 ⟨rfl, hb2⟩)
  have HT2 := Lib.hid (HT1.out.below hb2.out HT1.out.lt)
  have HB2 : Hid (Below w.heap.size w w2) := Lib.hid (HB1.out.trans (hb2.out.mono HB1.out.size))
  clear HT1 HB1 hb2 P1 t0 t1 t2 t3 t4 g1
  have P2 : Hid (Calls Tryd.prog 11 #[.agg #[.bool l, .int .i64 t.k, .string ⟨t.s.toArray⟩, .int .i64 t.p, .slice A ks.length c]] w2 fun e w' => e = .returned (.tuple #[.string S, .bool true]) ∧ Hid (Below w2.heap.size w2 w')) := Lib.hid ((text_any (HV.out.stays HB2.out.size (fun g hg _ => ⟨by have := HB2.out.size; omega, HB2.out.block g hg⟩)) (by have := size_parts (.mk l t ks); have := HPP.out; omega) HWT.out (shaped_below HSH.out HB2.out)).mono fun e w' r => ⟨by have h := r.1.out; rw [HTX.out] at h; simpa only [WordIs, HS.out] using h, r.2⟩)
  have t0 := HT2.out.cell 0
  have t1 := HT2.out.cell 1
  have t2 := HT2.out.cell 2
  have t3 := HT2.out.cell 3
  have t4 := HT2.out.cell 4
  go_upto_region 6 with (go_at_call 11; refine P2.out.mono ?_; rintro e w3 ⟨rfl, hb3⟩)
  have HT3 := Lib.hid (HT2.out.below hb3.out HT2.out.lt)
  have HB3 : Hid (Below w.heap.size w w3) := Lib.hid (HB2.out.trans (hb3.out.mono HB2.out.size))
  clear HT2 HB2 hb3 P2 t0 t1 t2 t3 t4
  have P3 : Hid (Calls Tryd.prog 12 #[.agg #[.bool l, .int .i64 t.k, .string ⟨t.s.toArray⟩, .int .i64 t.p, .slice A ks.length c]] w3 fun e w' => e = .returned (.tuple #[.string S, .bool true]) ∧ Hid (Below w3.heap.size w3 w')) := Lib.hid ((refText_any 300 HPP.out (by omega) HWT.out (Lib.hid (HV.out.stays (F' := fun _ => True) HB3.out.size (fun g hg _ => ⟨trivial, HB3.out.block g hg⟩)))).mono fun e w' r => ⟨by have h := r.1.out; rw [HTX.out] at h; simpa only [WordIs, HS.out] using h, r.2⟩)
  have t0 := HT3.out.cell 0
  have t1 := HT3.out.cell 1
  have t2 := HT3.out.cell 2
  have t3 := HT3.out.cell 3
  have t4 := HT3.out.cell 4
  go_upto_region 7 with (go_at_call 12; refine P3.out.mono ?_; rintro e w4 ⟨rfl, hb4⟩)
  have HT4 := Lib.hid (HT3.out.below hb4.out HT3.out.lt)
  have HB4 : Hid (Below w.heap.size w w4) := Lib.hid (HB3.out.trans (hb4.out.mono HB3.out.size))
  clear HT3 HB3 hb4 P3 t0 t1 t2 t3 t4
  obtain ⟨n, hn⟩ : ∃ n, size (.mk l t ks) = n := ⟨_, rfl⟩
  have HN := Lib.hid hn
  clear hn
  have HDL : Hid (D.length = n) := Lib.hid (HDS.out.trans HN.out)
  have HNB : Hid (n ≤ 600) := Lib.hid (HN.out ▸ HNB2.out)
  obtain ⟨S0, hSd⟩ : ∃ S : Bool → World → Prop, S = fun _ W => Bk W w.heap.size 37 #[.bool l, .int .i64 t.k, .string ⟨t.s.toArray⟩, .int .i64 t.p, .slice A ks.length c] := ⟨_, rfl⟩
  have HMO : ∀ w, S0 true w → S0 false w := by rw [hSd]; intro w h; exact h
  have HSA : ∀ a b (W : World), S0 a W → S0 b W := by rw [hSd]; intro a b W h; exact h
  have HSP : ∀ a (W : World), S0 a W → Bk W w.heap.size 37 #[.bool l, .int .i64 t.k, .string ⟨t.s.toArray⟩, .int .i64 t.p, .slice A ks.length c] := by rw [hSd]; intro a W h; exact h
  have HSM : ∀ a (W : World), Bk W w.heap.size 37 #[.bool l, .int .i64 t.k, .string ⟨t.s.toArray⟩, .int .i64 t.p, .slice A ks.length c] → S0 a W := by rw [hSd]; intro a W h; exact h
  clear hSd
  refine wp_region_T S0 15 (by kernel_rfl) (HSM _ _ HT4.out) (fun hH => ?_)
  have HT5 : Hid (Bk w4.drew w.heap.size 37 #[.bool l, .int .i64 t.k, .string ⟨t.s.toArray⟩, .int .i64 t.p, .slice A ks.length c]) := HT4
  have HB5 : Hid (Below w.heap.size w w4.drew) := Lib.hid HB4.out.drew
  clear HT4 HB4
  generalize w4.drew = w5 at *
  have P5 : Hid (Calls Tryd.prog 13 #[.agg #[.bool l, .int .i64 t.k, .string ⟨t.s.toArray⟩, .int .i64 t.p, .slice A ks.length c]] w5 fun e w' => e = .returned (.int .i64 (n : Int)) ∧ Hid (Below w5.heap.size w5 w')) := Lib.hid (HN.out ▸ size_any (HV.out.stays HB5.out.size (fun g hg _ => ⟨by have := HB5.out.size; omega, HB5.out.block g hg⟩)) (by have := size_parts (.mk l t ks); have := HPP.out; omega))
  refine wpAnyT_take (i := 0) (v := ?_) spat0 (by kernel_rfl) (by kernel_rfl) (by kernel_rfl) (by decide) (fun _ _ _ h => h) (Or.inl ⟨by rfl, ?_⟩) HMO (HSA _ _ _ hH) ?_
  rotate_left
  · (intro w hSw; clear hSw; go_simp; (try with_reducible rfl))
  (try simp only [Act.put, List.setIfInBounds_toArray, List.set_cons_zero, List.set_cons_succ])
  refine wpAnyT_take (i := 1) (v := ?_) spat1 (by kernel_rfl) (by kernel_rfl) (by kernel_rfl) (by decide) (fun _ _ _ h => h) (Or.inl ⟨by rfl, ?_⟩) HMO (HSA _ _ _ hH) ?_
  rotate_left
  · (intro w hSw; clear hSw; go_simp; (try with_reducible rfl))
  (try simp only [Act.put, List.setIfInBounds_toArray, List.set_cons_zero, List.set_cons_succ])
  refine wpAnyT_take (i := 2) (v := ?_) spat2 (by kernel_rfl) (by kernel_rfl) (by kernel_rfl) (by decide) (fun _ _ _ h => h) (Or.inl ⟨by rfl, ?_⟩) HMO (HSA _ _ _ hH) ?_
  rotate_left
  · (intro w hSw; clear hSw; go_simp; (try with_reducible rfl))
  (try simp only [Act.put, List.setIfInBounds_toArray, List.set_cons_zero, List.set_cons_succ])
  refine wpAnyT_take (i := 3) (v := ?_) spat3 (by kernel_rfl) (by kernel_rfl) (by kernel_rfl) (by decide) (fun _ _ _ h => h) (Or.inl ⟨by rfl, ?_⟩) HMO (HSA _ _ _ hH) ?_
  rotate_left
  · (intro w hSw; clear hSw; go_simp; (try with_reducible rfl))
  (try simp only [Act.put, List.setIfInBounds_toArray, List.set_cons_zero, List.set_cons_succ])
  refine wpAnyT_take (i := 4) (v := ?_) spat4 (by kernel_rfl) (by kernel_rfl) (by kernel_rfl) (by decide) (fun _ _ _ h => h) (Or.inl ⟨by rfl, ?_⟩) HMO (HSA _ _ _ hH) ?_
  rotate_left
  · (intro w hSw; clear hSw; go_simp; (try with_reducible rfl))
  (try simp only [Act.put, List.setIfInBounds_toArray, List.set_cons_zero, List.set_cons_succ])
  refine wpAnyT_take (i := 5) (v := ?_) spat5 (by kernel_rfl) (by kernel_rfl) (by kernel_rfl) (by decide) (fun _ _ _ h => h) (Or.inl ⟨by rfl, ?_⟩) HMO (HSA _ _ _ hH) ?_
  rotate_left
  · (intro w hSw; clear hSw; go_simp; (try with_reducible rfl))
  (try simp only [Act.put, List.setIfInBounds_toArray, List.set_cons_zero, List.set_cons_succ])
  refine wpAnyT_take (i := 6) (v := ?_) spat6 (by kernel_rfl) (by kernel_rfl) (by kernel_rfl) (by decide) (fun _ _ _ h => h) (Or.inl ⟨by rfl, ?_⟩) HMO (HSA _ _ _ hH) ?_
  rotate_left
  · (intro w hSw; clear hSw; go_simp; (try with_reducible rfl))
  (try simp only [Act.put, List.setIfInBounds_toArray, List.set_cons_zero, List.set_cons_succ])
  refine wpAnyT_take (i := 7) (v := ?_) spat7 (by kernel_rfl) (by kernel_rfl) (by kernel_rfl) (by decide) (fun _ _ _ h => h) (Or.inl ⟨by rfl, ?_⟩) HMO (HSA _ _ _ hH) ?_
  rotate_left
  · (intro w hSw; clear hSw; go_simp; (try with_reducible rfl))
  (try simp only [Act.put, List.setIfInBounds_toArray, List.set_cons_zero, List.set_cons_succ])
  refine wpAnyT_take (i := 8) (v := ?_) spat8 (by kernel_rfl) (by kernel_rfl) (by kernel_rfl) (by decide) (fun _ _ _ h => h) (Or.inl ⟨by rfl, ?_⟩) HMO (HSA _ _ _ hH) ?_
  rotate_left
  · (intro w hSw; clear hSw; go_simp; (try with_reducible rfl))
  (try simp only [Act.put, List.setIfInBounds_toArray, List.set_cons_zero, List.set_cons_succ])
  refine wpAnyT_take (i := 9) (v := ?_) spat9 (by kernel_rfl) (by kernel_rfl) (by kernel_rfl) (by decide) (fun _ _ _ h => h) (Or.inl ⟨by rfl, ?_⟩) HMO (HSA _ _ _ hH) ?_
  rotate_left
  · (intro w hSw; have hb := HSP _ _ hSw; have b0 := hb.cell 0; have b1 := hb.cell 1; have b2 := hb.cell 2; have b3 := hb.cell 3; have b4 := hb.cell 4; clear hb; clear hSw; go_simp; (try with_reducible rfl))
  (try simp only [Act.put, List.setIfInBounds_toArray, List.set_cons_zero, List.set_cons_succ])
  refine wpAnyT_take (i := 11) (v := ?_) spat11 (by kernel_rfl) (by kernel_rfl) (by kernel_rfl) (by decide) (fun _ _ _ h => h) (Or.inl ⟨by rfl, ?_⟩) HMO (HSA _ _ _ hH) ?_
  rotate_left
  · (intro w hSw; have hb := HSP _ _ hSw; have b0 := hb.cell 0; have b1 := hb.cell 1; have b2 := hb.cell 2; have b3 := hb.cell 3; have b4 := hb.cell 4; clear hb; clear hSw; go_simp; (try with_reducible rfl))
  (try simp only [Act.put, List.setIfInBounds_toArray, List.set_cons_zero, List.set_cons_succ])
  refine wpAnyT_ready (rs := [10]) (by kernel_rfl) (by simp) ?_
  refine AllReadyT.cons spat10 false (by kernel_rfl) (fun K hK => ?_) AllReadyT.nil
  go_simp
  refine P5.out.mono ?_
  rintro e w6 ⟨rfl, hb6⟩
  have HT6 := Lib.hid (HT5.out.below hb6.out HT5.out.lt)
  have HB6 : Hid (Below w.heap.size w w6) := Lib.hid (HB5.out.trans (hb6.out.mono HB5.out.size))
  refine hK.out _ _ (HSM _ _ HT6.out) (fun hH => ?_)
  clear hK K HT5 HB5 hb6 P5
  (try simp only [Act.put, List.setIfInBounds_toArray, List.set_cons_zero, List.set_cons_succ])
  have P6 : Hid (Calls Tryd.prog 14 #[.agg #[.bool l, .int .i64 t.k, .string ⟨t.s.toArray⟩, .int .i64 t.p, .slice A ks.length c]] w6 fun e w' => e = .returned (.int .i64 (n : Int)) ∧ Hid (Below w6.heap.size w6 w')) := Lib.hid (HN.out ▸ refSize_any 300 HPP.out (by omega) (Lib.hid (HV.out.stays (F' := fun _ => True) HB6.out.size (fun g hg _ => ⟨trivial, HB6.out.block g hg⟩))))
  refine wpAnyT_ready (rs := [12]) (by kernel_rfl) (by simp) ?_
  refine AllReadyT.cons spat12 false (by kernel_rfl) (fun K hK => ?_) AllReadyT.nil
  go_simp
  refine P6.out.mono ?_
  rintro e w7 ⟨rfl, hb7⟩
  have HT7 := Lib.hid (HT6.out.below hb7.out HT6.out.lt)
  have HB7 : Hid (Below w.heap.size w w7) := Lib.hid (HB6.out.trans (hb7.out.mono HB6.out.size))
  refine hK.out _ _ (HSM _ _ HT7.out) (fun hH => ?_)
  clear hK K HT6 HB6 hb7 P6
  (try simp only [Act.put, List.setIfInBounds_toArray, List.set_cons_zero, List.set_cons_succ])
  refine wpAnyT_take (i := 13) (v := ?_) spat13 (by kernel_rfl) (by kernel_rfl) (by kernel_rfl) (by decide) (fun _ _ _ h => h) (Or.inl ⟨by rfl, ?_⟩) HMO (HSA _ _ _ hH) ?_
  rotate_left
  · (intro w hSw; clear hSw; go_simp; (try with_reducible rfl))
  (try simp only [Act.put, List.setIfInBounds_toArray, List.set_cons_zero, List.set_cons_succ])
  refine wpAnyT_take (i := 14) (v := ?_) spat14 (by kernel_rfl) (by kernel_rfl) (by kernel_rfl) (by decide) (fun _ _ _ h => h) (Or.inl ⟨by rfl, ?_⟩) HMO (HSA _ _ _ hH) ?_
  rotate_left
  · (intro w hSw; clear hSw; go_simp; (try with_reducible rfl))
  (try simp only [Act.put, List.setIfInBounds_toArray, List.set_cons_zero, List.set_cons_succ])
  refine wpAnyT_done (by kernel_rfl) ?_ _
  clear hH HMO HSA HSP HSM
  go_upto_region 11 with fail
  have hcv := fun (w : World) (s : ByteArray) => run_bytes_of_string (P := Tryd.prog) w 9 44 5 s Tryd.underlying9 Tryd.underlying44 Tryd.underlying5
  have P8 : Hid (∀ fr, Calls Tryd.prog 15 #[.slice (some ⟨w7.heap.size, 0, none⟩) S.size (grownCap w7 S.size 0 5), .int .i64 (S.size : Int)] (w7.drew.alloc (.cells (bytesRow S (grownCap w7 S.size 0 5)) 5 fr)) fun e w' => ∃ A3 c3, e = .returned (.tuple #[.slice A3 n c3, .agg #[.int .i64 0, .int .i64 0]]) ∧ Hid (Tm w' w'.heap.size A3 (D.map tokOf)) ∧ Hid (Below w7.heap.size w7 w')) := Lib.hid (fun fr => by
    have e1 : S.data.toList.length = S.size := by show _ = S.data.size; simp
    have h := pread_ok (w := w7.drew.alloc (.cells (bytesRow S (grownCap w7 S.size 0 5)) 5 fr)) (m := (S.size : Int)) (cb := grownCap w7 S.size 0 5) (Lib.hid (rb_bytes w7.drew S _ fr _)) (by rw [e1]; have := HSZ.out; omega) (by rw [e1]; exact grownCap_ge _ _ _ _) (by rw [e1]; simp) HRD.out
    rw [e1] at h
    rw [HDL.out] at h
    refine h.mono fun e w' r => ?_
    obtain ⟨A3, c3, h1, _, _, h2, h3⟩ := r
    have b8 : Below w7.heap.size w7 (w7.drew.alloc (.cells (bytesRow S (grownCap w7 S.size 0 5)) 5 fr)) := ((Below.refl _ w7).drew).alloc (Nat.le_refl _) _
    exact ⟨A3, c3, h1, Lib.hid (tm_own (by rw [tokCells_tk]; exact h2.out)), Lib.hid (b8.trans (h3.out.mono b8.size))⟩)
  go_upto_region 12 with (go_at_call 15; refine (P8.out _).mono ?_; rintro e w8 ⟨A3, c3, rfl, htm, hb8⟩)
  clear hcv P8
  have HTM8 := htm
  generalize hW : World.alloc _ _ = W9
  obtain ⟨q1, hq1⟩ : ∃ q, w8.heap.size = q := ⟨_, rfl⟩
  have HQ : Hid (Below w7.heap.size w7 W9) := Lib.hid (hb8.out.trans (hW ▸ (Below.refl _ w8).alloc hb8.out.size _))
  have HF1 : Hid (Bk W9 q1 27 #[.int .i64 0, .int .i64 0]) := Lib.hid (by rw [← hq1]; exact hW ▸ Bk.new w8 _ _)
  have HTM9 : Hid (Tm W9 W9.heap.size A3 (D.map tokOf)) := Lib.hid ((HTM8.out.below (hW ▸ (Below.refl _ w8).alloc (Nat.le_refl _) _)).mono (by rw [← hW]; simp))
  have HT9 := Lib.hid (HT7.out.below HQ.out HT7.out.lt)
  have HB9 : Hid (Below w.heap.size w W9) := Lib.hid (HB7.out.trans (HQ.out.mono HB7.out.size))
  rw [hq1]
  clear hW hq1 hb8 htm HTM8 HQ HT7 HB7
  have P9 : Hid (Calls Tryd.prog 7 #[.slice A3 n c3, .int .i64 1000] W9 fun e w' => ∃ A4 M c4, e = .returned (.tuple #[.slice A4 M c4, .agg #[.int .i64 0, .int .i64 0]]) ∧ Hid (Rw w' (fun _ => True) ts (.slice A4 M c4)) ∧ Hid (Below W9.heap.size W9 w')) := Lib.hid (by
    have h := tread_ok (cb := c3) HTM9 (by rw [List.length_map, HDL.out]; have := HNB.out; omega) HRT.out
    rw [List.length_map, HDL.out] at h
    exact h)
  go_upto_region 13 with (go_at_call 7; refine P9.out.mono ?_; rintro e w10 ⟨A4, M4, c4, rfl, hv4, hb10⟩)
  generalize hW : World.alloc _ _ = W11
  obtain ⟨q2, hq2⟩ : ∃ q, w10.heap.size = q := ⟨_, rfl⟩
  have HQ : Hid (Below W9.heap.size W9 W11) := Lib.hid (hb10.out.trans (hW ▸ (Below.refl _ w10).alloc hb10.out.size _))
  have HF2 : Hid (Bk W11 q2 27 #[.int .i64 0, .int .i64 0]) := Lib.hid (by rw [← hq2]; exact hW ▸ Bk.new w10 _ _)
  have HV4 : Hid (Rw W11 (fun _ => True) ts (.slice A4 M4 c4)) := Lib.hid (hv4.out.stays (by rw [← hW]; simp) (fun g _ hl => ⟨trivial, by rw [← hW]; exact Below.heap_alloc w10 _ g hl⟩))
  have HF1b := Lib.hid (HF1.out.below HQ.out HF1.out.lt)
  have HT11 := Lib.hid (HT9.out.below HQ.out HT9.out.lt)
  have HB11 : Hid (Below w.heap.size w W11) := Lib.hid (HB9.out.trans (HQ.out.mono HB9.out.size))
  rw [hq2]
  clear hW hq2 hb10 hv4 HQ HT9 HB9 HTM9 HF1 P9
  have f0 := HF1b.out.cell 0
  have k0 := HF2.out.cell 0
  have t0 := HT11.out.cell 0
  have t1 := HT11.out.cell 1
  have t2 := HT11.out.cell 2
  have t3 := HT11.out.cell 3
  have t4 := HT11.out.cell 4
  have P11 := Lib.hid (lclean_any (w := W11) 300 HPP.out (by omega) (Lib.hid (HV.out.stays (F' := fun _ => True) HB11.out.size (fun g hg _ => ⟨trivial, HB11.out.block g hg⟩))))
  have hnb := HNB.out
  go_wp2_with (first | (go_at_call 16; refine P11.out.mono ?_; rintro e w12 ⟨A5, c5, rfl, hv5, hb12⟩; have P12 : Hid (Calls Tryd.prog 13 #[.agg #[.bool l, .int .i64 (cu l t).k, .string ⟨(cu l t).s.toArray⟩, .int .i64 (cu l t).p, .slice A5 (ck l ks).length c5]] w12 fun e w' => e = .returned (.int .i64 (n : Int)) ∧ Hid (Below w12.heap.size w12 w')) := Lib.hid (by have h := size_any (hv5.out.stays (F' := fun b => b < w12.heap.size) (Nat.le_refl _) (fun g _ hl => ⟨hl, rfl⟩)) (by rw [← clean_eq, size_clean, HN.out]; omega); rw [← clean_eq, size_clean, HN.out] at h; exact h); have HB12 : Hid (Below W11.heap.size W11 w12) := hb12; have HT12 := Lib.hid (HT11.out.below hb12.out HT11.out.lt); clear hv5 hb12) | (go_at_call 13; refine P12.out.mono ?_; rintro e w13 ⟨rfl, hb13⟩; have HB13 : Hid (Below W11.heap.size W11 w13) := Lib.hid (HB12.out.trans (hb13.out.mono HB12.out.size)); have HT13 := Lib.hid (HT12.out.below hb13.out HT12.out.lt); have u0 := HT13.out.cell 0; have u1 := HT13.out.cell 1; have u2 := HT13.out.cell 2; have u3 := HT13.out.cell 3; have u4 := HT13.out.cell 4; have P13 := Lib.hid (lclean_any (w := w13) 300 HPP.out (by omega) (Lib.hid (HV.out.stays (F' := fun _ => True) (HB11.out.trans (HB13.out.mono HB11.out.size)).size (fun g hg _ => ⟨trivial, (HB11.out.trans (HB13.out.mono HB11.out.size)).block g hg⟩)))); clear hb13) | (go_at_call 16; refine P13.out.mono ?_; rintro e w14 ⟨A6, c6, rfl, hv6, hb14⟩; have HB14 : Hid (Below W11.heap.size W11 w14) := Lib.hid (HB13.out.trans (hb14.out.mono HB13.out.size)); have P14 : Hid (Calls Tryd.prog 9 #[.slice A4 M4 c4, .slice (some ⟨w14.heap.size, 0, none⟩) 1 1, .bool false] (w14.alloc (.cells #[.bool l, .int .i64 (cu l t).k, .string ⟨(cu l t).s.toArray⟩, .int .i64 (cu l t).p, .slice A6 (ck l ks).length c6] 37)) fun e w' => e = .returned (.bool true) ∧ Hid (Below w14.heap.size w14 w')) := Lib.hid (by have b9 : Below w14.heap.size w14 (w14.alloc (.cells #[.bool l, .int .i64 (cu l t).k, .string ⟨(cu l t).s.toArray⟩, .int .i64 (cu l t).p, .slice A6 (ck l ks).length c6] 37)) := (Below.refl _ _).alloc (Nat.le_refl _) _; have h := same_any (at_ := false) (Lib.hid (HV4.out.stays (F' := fun _ => True) (HB14.out.trans (b9.mono HB14.out.size)).size (fun g _ hl => ⟨trivial, (HB14.out.trans (b9.mono HB14.out.size)).block g hl⟩))) (Lib.hid (rw_one hv6.out 37)) HTP.out; rw [HSAME.out] at h; exact h.mono fun e w' r => ⟨r.1, Lib.hid (b9.trans (r.2.out.mono b9.size))⟩); clear hv6 hb14) | (go_at_call 9; refine P14.out.mono ?_; rintro e w15 ⟨rfl, hb15⟩))
  go_ret
  exact ⟨rfl, Lib.hid (HB11.out.trans ((HB14.out.mono HB11.out.size).trans (hb15.out.mono (Nat.le_trans HB11.out.size HB14.out.size))))⟩
end
/-- the statement TreeTexts: for all trees whose text is not too long -/
theorem treeTexts_any {w : World} (hsh : w.ShapedOpen Tryd.prog) {l : Bool} {t : Tok} {ks : List Tree} {A : Option Addr} {c : Nat} (hv : Vt w (fun b => b < w.heap.size) (.mk l t ks) [.bool l, .int .i64 t.k, .string ⟨t.s.toArray⟩, .int .i64 t.p, .slice A ks.length c]) (hwt : parts (.mk l t ks) ≤ 300 → wt (evs (.mk l t ks)) ≤ 40000000) :
    Calls Tryd.prog 4 #[.agg #[.bool l, .int .i64 t.k, .string ⟨t.s.toArray⟩, .int .i64 t.p, .slice A ks.length c]] w fun e w' => e = .returned (.bool true) ∧ Hid (Below w.heap.size w w') := by
  by_cases h : parts (.mk l t ks) ≤ 300
  · cases hx : text (.mk l t ks) with
    | none => exact texts_none (Lib.hid hsh) (Lib.hid hv) h (Lib.hid (hwt h)) (Lib.hid hx)
    | some W => exact texts_some (Lib.hid hsh) (Lib.hid hv) h (Lib.hid (hwt h)) (Lib.hid hx)
  · exact texts_big (Lib.hid hsh) (Lib.hid hv) (by omega)
end Go.Proofs.YtmnllioeaaimcaaDoor.tr

/- A tree that comes in: how long its texts are, by its bulk. -/
namespace Go.Proofs.YtmnllioeaaimcaaDoor.tr
open Go Go.RowKit Go.Proofs.YtmnllioeaaimcaaDoor.tk Go.ChangeAt

theorem wt_mk (b : Bool) (t : Tok) (ks : List Tree) : wt (evs (.mk b t ks)) ≤ 2 * t.s.length + 8 + wt (evss ks) := by
  cases b with
  | false => simp [evs, wt, Ev.tok]; omega
  | true => simp [evs, wt, wt_append, Ev.tok, zeroT]; omega
theorem wt_sum {H : Type} : ∀ (l : List (DataW H)) (f : Nat → Tree), (∀ i (h : i < l.length), wt (evs (f i)) ≤ 2 * Rows.uptoBulk l[i]) → wt (evss ((List.range l.length).map f)) ≤ 2 * Rows.uptoBulkAll l
  | [], f, _ => by simp [evss, wt]
  | d :: r, f, h => by
    have h1 := wt_sum r (f ∘ Nat.succ) (fun i hi => by have := h (i + 1) (by simpa using hi); simpa using this)
    have h0 := h 0 (by simp)
    simp only [List.length_cons, List.range_succ_eq_map, List.map_cons, List.map_map, evss, wt_append, Rows.uptoBulkAll]
    simp only [List.getElem_cons_zero] at h0
    omega
set_option maxRecDepth 100000 in
theorem open_tokW {H : Type} {enc : TypeId × Value → H} {W : World} {base fuel : Nat} {sp : Nat → Bool} {held : Bool} {cs : List Value} {x : DataW H × List MemPlace} (h : DataW.trod enc Tryd.prog W base sp held fuel 35 cs = some x) :
    ∃ (a : Int) (s : ByteArray) (b : Int), cs = [.int .i64 a, .string s, .int .i64 b] ∧ Rows.uptoBulk x.1 = s.data.toList.length + 4 := by
  obtain ⟨xs, n, _, hxx, hl, hx, hf⟩ := DataW.trod_struct Tryd.underlying35 h
  rw [cellsTok] at hl
  have hx : xs.length = 3 := hx
  match cs, hl, xs, hx with
  | [c0, c1, c2], _, [y0, y1, y2], _ =>
    have f0 : DataW.trod enc Tryd.prog W base sp held n 3 (List.take (Tryd.prog.cellsOf 3) [c0, c1, c2]) = some y0 := hf 0 _ rfl
    have f1 : DataW.trod enc Tryd.prog W base sp held n 9 (List.take (Tryd.prog.cellsOf 9) [c1, c2]) = some y1 := hf 1 _ rfl
    have f2 : DataW.trod enc Tryd.prog W base sp held n 3 (List.take (Tryd.prog.cellsOf 3) [c2]) = some y2 := hf 2 _ rfl
    rw [cellsInt] at f0 f2
    rw [cellsStr] at f1
    obtain ⟨a, ea, za, _⟩ := DataW.trod_int Tryd.underlying3 f0
    obtain ⟨s, es, zs, _⟩ := DataW.trod_string Tryd.underlying9 f1
    obtain ⟨b, eb, zb, _⟩ := DataW.trod_int Tryd.underlying3 f2
    simp only [List.take_succ_cons, List.take_zero, List.cons.injEq, and_true] at ea es eb
    exact ⟨a, s, b, by rw [ea, es, eb], by rw [hxx]; simp only [List.map_cons, List.map_nil, Rows.uptoBulk, Rows.uptoBulkAll, za, zs, zb]; omega⟩
set_option maxRecDepth 100000 in
/-- a tree, opened: what is written of it is at most twice its bulk -/
theorem open_treeW {H : Type} {enc : TypeId × Value → H} {W : World} {base : Nat} {sp : Nat → Bool} {held : Bool} : ∀ (fuel : Nat) {cs : List Value} {x : DataW H × List MemPlace}, DataW.trod enc Tryd.prog W base sp held fuel 37 cs = some x → ∃ t, Vt W (fun _ => True) t cs ∧ wt (evs t) ≤ 2 * Rows.uptoBulk x.1 := by
  intro fuel
  induction fuel using Nat.strongRecOn with
  | _ fuel ih =>
    intro cs x h
    obtain ⟨xs, n, rfl, hxx, hl, hx, hf⟩ := DataW.trod_struct Tryd.underlying37 h
    rw [cellsTree] at hl
    have hx : xs.length = 3 := hx
    match cs, hl, xs, hx with
    | [c0, c1, c2, c3, c4], _, [y0, y1, y2], _ =>
      have f0 : DataW.trod enc Tryd.prog W base sp held n 4 (List.take (Tryd.prog.cellsOf 4) [c0, c1, c2, c3, c4]) = some y0 := hf 0 _ rfl
      have f1 : DataW.trod enc Tryd.prog W base sp held n 35 (List.take (Tryd.prog.cellsOf 35) [c1, c2, c3, c4]) = some y1 := hf 1 _ rfl
      have f2 : DataW.trod enc Tryd.prog W base sp held n 24 (List.take (Tryd.prog.cellsOf 24) [c4]) = some y2 := hf 2 _ rfl
      rw [cellsBool] at f0
      rw [cellsTok] at f1
      rw [cellsKids] at f2
      obtain ⟨b, e0, z0⟩ := DataW.trod_bool Tryd.underlying4 f0
      obtain ⟨a, s, p, e1, z1⟩ := open_tokW f1
      simp only [List.take_succ_cons, List.take_zero, List.cons.injEq, and_true] at e0 e1 f2
      obtain ⟨rfl, rfl, rfl⟩ := e1
      subst e0
      have hS : (⟨s.data.toList.toArray⟩ : ByteArray) = s := rfl
      rcases DataW.trod_slice Tryd.underlying24 f2 with ⟨e2, z2⟩ | ⟨ad, len, cap, elems, rest, m, rfl, e2, z2, _, hlc, _, hlen, hel, _, _⟩
      · simp only [List.cons.injEq, and_true] at e2
        subst e2
        refine ⟨.mk b ⟨a, s.data.toList, p⟩ [], by unfold Vt; exact ⟨none, 0, by simp, by simp, fun h => absurd h (by simp)⟩, ?_⟩
        have h1 := wt_mk b ⟨a, s.data.toList, p⟩ []
        simp only [evss, wt] at h1
        rw [hxx]
        simp only [List.map_cons, List.map_nil, Rows.uptoBulk, Rows.uptoBulkAll, z1, z0, z2]
        omega
      · simp only [List.cons.injEq, and_true] at e2
        subst e2
        have one : ∀ i, i < len → ∃ t, (∃ cs, Vt W (fun _ => True) t cs ∧ ∀ j, j < 5 → W.cell? (ad.add (i * 5 + j)) = cs[j]?) ∧ ∀ y, elems[i]? = some y → wt (evs t) ≤ 2 * Rows.uptoBulk y.1 := by
          intro i hi
          have key := hel i hi
          rw [List.getElem?_eq_getElem (by omega)] at key
          obtain ⟨cs', h1, h2⟩ := Option.bind_eq_some_iff.1 key
          rw [cellsTree] at h1
          obtain ⟨t, ht, hw⟩ := ih m (by omega) h2
          obtain ⟨_, hcl, hat⟩ := World.cells?_some h1
          refine ⟨t, ⟨cs', ht, fun j hj => ?_⟩, fun y hy => by rw [List.getElem?_eq_getElem (by omega)] at hy; injection hy with hy; rw [← hy]; exact hw⟩
          have := hat j hj
          rw [Go.Deep.add_add] at this
          exact this
        have all : ∃ f : Nat → Tree, ∀ i, i < len → (∃ cs, Vt W (fun _ => True) (f i) cs ∧ ∀ j, j < 5 → W.cell? (ad.add (i * 5 + j)) = cs[j]?) ∧ ∀ y, elems[i]? = some y → wt (evs (f i)) ≤ 2 * Rows.uptoBulk y.1 := by
          refine ⟨fun i => if hi : i < len then (one i hi).choose else .mk false ⟨0, [], 0⟩ [], fun i hi => ?_⟩
          have := (one i hi).choose_spec
          simp only [hi, dif_pos]
          exact this
        obtain ⟨f, hf⟩ := all
        refine ⟨.mk b ⟨a, s.data.toList, p⟩ ((List.range len).map f), ?_, ?_⟩
        rotate_left
        · have h1 : wt (evs (.mk b ⟨a, s.data.toList, p⟩ ((List.range len).map f))) ≤ 2 * s.data.toList.length + 8 + wt (evss ((List.range len).map f)) := wt_mk b ⟨a, s.data.toList, p⟩ ((List.range len).map f)
          have h2 : wt (evss ((List.range len).map f)) ≤ 2 * Rows.uptoBulkAll (elems.map (·.1)) := by
            have := wt_sum (elems.map (·.1)) f (fun i hi => by
              have hi' : i < elems.length := by simpa using hi
              have := (hf i (by omega)).2 _ (List.getElem?_eq_getElem hi')
              simpa using this)
            rw [List.length_map, hlen] at this
            exact this
          rw [hxx]
          simp only [List.map_cons, List.map_nil, Rows.uptoBulk, Rows.uptoBulkAll, z1, z0, z2]
          omega
        unfold Vt
        refine ⟨some ad, cap, by simp, by simpa using hlc, fun hp => ?_⟩
        have hp : 0 < len := by simpa using hp
        obtain ⟨g, off, spot⟩ := ad
        obtain ⟨cs0, hv0, hc0⟩ := (hf 0 hp).1
        have hc00 := hc0 0 (by omega)
        have h5 : ∃ v, cs0[0]? = some v := by
          generalize f 0 = t at hv0
          cases t with
          | mk l t ks => unfold Vt at hv0; obtain ⟨_, _, rfl, _⟩ := hv0; exact ⟨_, rfl⟩
        obtain ⟨v, hv⟩ := h5
        rw [hv] at hc00
        have hspot : spot = none := by simpa [Addr.add] using World.cell?_spot hc00
        subst hspot
        have hlt : g < W.heap.size := by
          have := World.block_lt_of_cell? W _ hc00
          simpa [Addr.add] using this
        refine ⟨g, off, rfl, trivial, hlt, Vr.mk fun j hj => ?_⟩
        have hj' : j < len := by simpa using hj
        obtain ⟨cs, h1, h2⟩ := (hf j hj').1
        refine ⟨cs, by simpa using h1, fun i hi => ?_⟩
        have := h2 i hi
        rw [Go.WideShapes.add_plain] at this
        rw [show off + j * 5 + i = off + (j * 5 + i) by omega]
        exact this
end Go.Proofs.YtmnllioeaaimcaaDoor.tr
