/- Package token: blanks and comments. -/
import Derived.Deep.LoopGhost
import Derived.Lib.BytesEntry
import Derived.Test.YtmnllioeaaimcaaDoorPc
namespace Go.Proofs.YtmnllioeaaimcaaDoor.tk
open Go.RowKit

theorem runE_not' {f : UInt8 → Bool} {bs : List UInt8} {i : Nat} (h : runE f bs i < bs.length) : f (bs[runE f bs i]'h) = false := by
  have hd := drop_run f bs i
  rw [drop_cons h] at hd
  have := List.head?_dropWhile_not f (bs.drop i)
  rw [hd] at this
  simp only [List.head?_cons] at this
  exact this
theorem skip_dropW : ∀ l : List UInt8, skipL l = skipL (l.dropWhile isBlank)
  | [] => rfl
  | c :: r => by
    cases h : isBlank c
    · rw [List.dropWhile_cons_of_neg (by simp [h])]
    · rw [List.dropWhile_cons_of_pos h, skipL_cons, if_pos h, skip_dropW r]
theorem idx10 : ∀ l : List UInt8, Lib.indexByte l 10 = if l.dropWhile notLine = [] then -1 else ((l.takeWhile notLine).length : Int)
  | [] => rfl
  | c :: r => by
    unfold Lib.indexByte
    cases h : notLine c
    · have e : c = 10 := by
        unfold notLine at h
        simp at h
        exact UInt8.toNat_inj.1 h
      rw [List.dropWhile_cons_of_neg (by simp [h]), List.takeWhile_cons_of_neg (by simp [h])]
      simp [e]
    · have e : (c == 10) = false := by
        unfold notLine at h
        simp at h
        rw [beq_eq_false_iff_ne]
        rintro rfl
        exact h rfl
      rw [List.dropWhile_cons_of_pos h, List.takeWhile_cons_of_pos h, idx10 r]
      simp only [e, Bool.false_eq_true, if_false]
      by_cases hd : r.dropWhile notLine = []
      · simp [hd]
      · simp only [hd, if_false, List.length_cons]
        rw [if_neg (by simp)]
        omega
section
variable {bs : List UInt8} {k p Q : Nat}
theorem skip_past (hQ : runE isBlank bs k = Q) : skipL (bs.drop k) = skipL (bs.drop Q) := by
  rw [skip_dropW (bs.drop k), drop_run, hQ]
theorem skip_here (hQ : runE isBlank bs k = Q) (hle : Q ≤ bs.length) (h : hereB bs Q ≠ 59) : skipL (bs.drop Q) = bs.drop Q := by
  rcases Nat.lt_or_ge Q bs.length with hq | hq
  · rw [here_at hq] at h
    exact skip_stop hq (by subst hQ; exact runE_not' hq) (fun e => h (UInt8.toNat_inj.1 e))
  · rw [List.drop_eq_nil_of_le hq, skipL]
theorem here59 (h : hereB bs Q = 59) : ∃ h : Q < bs.length, bs[Q] = 59 := by
  unfold hereB at h
  split at h
  · rename_i hq; exact ⟨hq, h⟩
  · cases h
theorem skip_semi (h : hereB bs Q = 59) : skipL (bs.drop Q) = skipL (bs.drop (runE notLine bs Q)) ∧ Q < runE notLine bs Q ∧ runE notLine bs Q ≤ bs.length ∧
    Lib.indexByte (bs.drop Q) 10 = if runE notLine bs Q < bs.length then ((runE notLine bs Q - Q : Nat) : Int) else -1 := by
  obtain ⟨hq, e⟩ := here59 h
  have hl : notLine bs[Q] = true := by rw [e]; decide
  have hs := runE_step hq hl
  have hge := runE_ge (f := notLine) (bs := bs) (i := Q + 1)
  have hle := runE_le (f := notLine) (bs := bs) (i := Q) (by omega)
  refine ⟨?_, by omega, hle, ?_⟩
  · rw [skip_line hq (by rw [e]; decide) (by rw [e]; rfl), drop_run, ← hs]
  · rw [idx10, drop_run, run_len]
    by_cases hlt : runE notLine bs Q < bs.length
    · rw [if_pos hlt, if_neg (by rw [drop_cons hlt]; exact List.cons_ne_nil _ _)]
    · rw [if_neg hlt, if_pos (List.drop_eq_nil_of_le (by omega))]
theorem skipAt_of (h : skipL (bs.drop p) = bs.drop Q) (hle : Q ≤ bs.length) : skipAt bs p = Q := by
  unfold skipAt
  rw [h, List.length_drop]
  omega
end
theorem bytesOf_ints (l : List UInt8) : Lib.bytesOf (l.map fun c => (c.toNat : Int)) = l := by
  unfold Lib.bytesOf
  rw [List.map_map]
  conv => rhs; rw [← List.map_id l]
  apply List.map_congr_left
  intro c _
  simp [Function.comp]
theorem bidx_any {w : World} {b off n c : Nat} {l : List UInt8} (h : Rb w (some ⟨b, off, none⟩) l) (hl : l.length = n) (h0 : 0 < n) :
    Calls Tryd.prog 48 #[.slice (some ⟨b, off, none⟩) n c, .int .u8 10] w fun e w' => e = .returned (.int .i64 (Lib.indexByte l 10)) ∧ w = w' := by
  have hx : (callFunc 66 #[.slice (some ⟨b, off, none⟩) n c, .int .u8 10]).run Tryd.prog w = .ok (.value (.int .i64 (Lib.indexByte l 10))) w := by
    have := Lib.run_indexByteSlice (P := Tryd.prog) (w := w) b off n c (l.map fun c => (c.toNat : Int)) (by rw [List.length_map]; exact hl) (fun i hi => by
      obtain ⟨b2, off2, e, _, hc⟩ := h (by omega)
      injection e with e; injection e with e1 e2
      subst e1 e2
      rw [hc i (by omega), List.getD_eq_getElem?_getD, List.getElem?_map, List.getElem?_eq_getElem (by omega)]
      rfl) 10
    rw [bytesOf_ints] at this
    rw [run_callFunc_extern Tryd.func66 (by kernel_rfl) (by kernel_rfl) (by kernel_rfl) (e := Extern.BytealgIndexByte.indexByte) (by kernel_rfl), this]
    simp [Result.andThen]
  clear h
  go_enter Tryd.func48, Tryd.ntmps48
  go_wp2_with fail
  go_ret
  exact ⟨rfl, rfl⟩
theorem Rb.sub {w : World} {b off : Nat} {bs : List UInt8} (h : Rb w (some ⟨b, off, none⟩) bs) (q : Nat) : Rb w (some ⟨b, off + q, none⟩) (bs.drop q) := fun hn => by
  rw [List.length_drop] at hn
  obtain ⟨b2, off2, e, hlt, hc⟩ := h (by omega)
  injection e with e; injection e with e1 e2
  subst e1 e2
  refine ⟨b, off + q, rfl, hlt, fun j hj => ?_⟩
  rw [List.length_drop] at hj
  rw [Nat.add_assoc, hc (q + j) (by omega), List.getElem_drop]

set_option maxRecDepth 100000 in
set_option maxHeartbeats 2000000 in
theorem pskip_any {w : World} {R : Nat} {A : Option Addr} {bs : List UInt8} {cb p : Nat} (H : Hid (Rs w R A bs cb p)) (hl : bs.length ≤ 100000000) (hcap : bs.length ≤ cb) (hp : p ≤ bs.length) :
    Calls Tryd.prog 35 #[.pointer (some ⟨R, 0, none⟩)] w fun e w' => e = .returned (.bool (decide (skipAt bs p < bs.length))) ∧ Hid (Rs w' R A bs cb (skipAt bs p)) ∧ Hid (But R w w') := by
  obtain ⟨G, hG⟩ : ∃ G, skipAt bs p = G := ⟨_, rfl⟩
  obtain ⟨g, hg⟩ : ∃ g, decide (G < bs.length) = g := ⟨_, rfl⟩
  rw [hG, hg]
  have HG := Lib.hid hG
  have Hg := Lib.hid hg
  clear hG hg
  go_enter Tryd.func35, Tryd.ntmps35
  go_wp2_with fail
  go_loopw [] (fun wr => ∃ k : Nat, k ≤ bs.length ∧ Hid (Rs wr R A bs cb k) ∧ Hid (But R w wr) ∧ Hid (skipL (bs.drop k) = skipL (bs.drop p))) (fun wr => bs.length - plc wr R)
  case atStart => exact ⟨p, hp, H, Lib.hid (But.refl _ _), Lib.hid rfl⟩
  case round =>
    clear H
    obtain ⟨k, hk, HR, HB, HK⟩ := hrel
    obtain ⟨Q, hQ⟩ : ∃ Q, runE isBlank bs k = Q := ⟨_, rfl⟩
    have hQ1 : k ≤ Q := hQ ▸ runE_ge
    have hQ2 : Q ≤ bs.length := hQ ▸ runE_le hk
    have HQ := Lib.hid hQ
    clear hQ
    have P := past_any (Lib.hid isT_blank) HR hl hcap hk
    rw [HQ.out] at P
    have P := Lib.hid P
    go_upto_region 2 with (go_at_call 45; refine P.out.mono ?_; rintro e w1 ⟨rfl, H1, B1⟩)
    have P2 := here_any H1 hl hcap
    have HB1 : Hid (But R w w1) := Lib.hid (HB.out.trans B1.out)
    by_cases h : hereB bs Q = 59
    · have HS := Lib.hid (skip_semi h)
      obtain ⟨hq, _⟩ := here59 h
      rw [h] at P2
      have P2 := Lib.hid P2
      clear h
      go_upto_region 4 with (go_at_call 47; refine P2.out.mono ?_; rintro e w2 ⟨rfl, n, rfl⟩)
      have S2 := Lib.hid (H1.out.drewN n)
      have HB2 := Lib.hid (HB1.out.drewN n)
      generalize w1.drewN n = W2 at S2 HB2 ⊢
      obtain ⟨b, off, rfl, _⟩ := S2.out.rb (by omega)
      have c0 := S2.out.c0
      have c1 := S2.out.c1
      have hQc : Q ≤ cb := by omega
      have hQn : ¬ cb = Q := by omega
      obtain ⟨Q', hQ'⟩ : ∃ Q', runE notLine bs Q = Q' := ⟨_, rfl⟩
      rw [hQ'] at HS
      clear hQ'
      have hlt := HS.out.2.1
      have hle := HS.out.2.2.1
      obtain ⟨d, rfl⟩ : ∃ d, Q' = Q + d := ⟨Q' - Q, by omega⟩
      have HK2 : Hid (skipL (bs.drop (Q + d)) = skipL (bs.drop p)) := Lib.hid (by rw [← HS.out.1, ← skip_past HQ.out]; exact HK.out)
      obtain ⟨z, hz⟩ : ∃ z, Lib.indexByte (bs.drop Q) 10 = z := ⟨_, rfl⟩
      have PB : Hid (∀ n, Calls Tryd.prog 48 #[.slice (some ⟨b, off + Q, none⟩) (bs.length - Q) (cb - Q), .int .u8 10] (W2.drewN n) fun e w' => e = .returned (.int .i64 z) ∧ ∃ m, w' = W2.drewN m) := Lib.hid fun n => by
        have := bidx_any (c := cb - Q) ((S2.out.rb.drewN n).sub Q) (List.length_drop ..) (by omega)
        rw [hz] at this
        exact this.mono fun _ _ ⟨he, hw⟩ => ⟨he, n, hw.symm⟩
      have hz2 := HS.out.2.2.2
      rw [hz] at hz2
      have HZ := Lib.hid hz2
      clear hz hz2 HS
      by_cases hend : Q + d < bs.length
      · have ez : z = (d : Int) := by
          have := HZ.out
          rw [if_pos hend, Nat.add_sub_cancel_left] at this
          exact this
        subst ez
        have g1 : ¬ ((d : Int) < 0) := by omega
        go_quiet (with_reducible exact PB.out _)
        have S3 := Lib.hid (S2.out.drewN nq)
        have HB3 := Lib.hid (HB2.out.drewN nq)
        generalize W2.drewN nq = W3 at S3 HB3 ⊢
        clear c0 c1
        have c1 := S3.out.c1
        have f1 := S3.out.f1
        go_wp2_with fail
        generalize hW : World.setCell _ _ _ = W4
        obtain ⟨S4, B4⟩ := S3.out.go (Q + d) hW
        have S4 := Lib.hid S4
        have HB4 := Lib.hid (HB3.out.trans B4)
        clear hW c1 f1 B4
        go_roundw
        case rel => exact ⟨Q + d, by omega, S4, HB4, HK2⟩
        case measure => rw [HR.out.plc, S4.out.plc]; omega
      · have ez : z = -1 := by
          have := HZ.out
          rw [if_neg hend] at this
          exact this
        subst ez
        have hE : Q + d = bs.length := by omega
        go_quiet (with_reducible exact PB.out _)
        have S3 := Lib.hid (S2.out.drewN nq)
        have HB3 := Lib.hid (HB2.out.drewN nq)
        generalize W2.drewN nq = W3 at S3 HB3 ⊢
        clear c0 c1 hE
        have c0 := S3.out.c0
        have c1 := S3.out.c1
        go_wp2_with fail
        go_quiet (fail)
        have S5 := Lib.hid (S3.out.drewN nq)
        have HB5 := Lib.hid (HB3.out.drewN nq)
        generalize W3.drewN nq = W5 at S5 HB5 ⊢
        clear c0 c1
        have c1 := S5.out.c1
        have f1 := S5.out.f1
        have e9 : (Q : Int) + ((bs.length : Int) - (Q : Int)) = ((bs.length : Nat) : Int) := by omega
        go_wp2_with fail
        generalize hW : World.setCell _ _ _ = W4
        have hE : Q + d = bs.length := by omega
        obtain ⟨S4, B4⟩ := S5.out.go bs.length hW
        have S4 := Lib.hid S4
        have HB4 := Lib.hid (HB5.out.trans B4)
        rw [hE] at HK2
        clear hW c1 f1 B4 e9
        go_roundw
        case rel => exact ⟨bs.length, by omega, S4, HB4, HK2⟩
        case measure => rw [HR.out.plc, S4.out.plc]; omega
    · have HE : Hid (G = Q) := Lib.hid (by
        rw [← HG.out]
        exact skipAt_of (by rw [← HK.out, skip_past HQ.out]; exact skip_here HQ.out hQ2 h) hQ2)
      obtain ⟨d, hd⟩ : ∃ d, hereB bs Q = d := ⟨_, rfl⟩
      rw [hd] at P2 h
      have g2 : (((d.toNat : Int) != 59) : Bool) = true := by
        rw [bne_iff_ne]
        intro e
        exact h (UInt8.toNat_inj.1 (show d.toNat = 59 by omega))
      have P2 := Lib.hid P2
      clear h hd
      go_upto_region 3 with (go_at_call 47; refine P2.out.mono ?_; rintro e w2 ⟨rfl, n, rfl⟩)
      have S2 := Lib.hid (H1.out.drewN n)
      have HB2 := Lib.hid (HB1.out.drewN n)
      generalize w1.drewN n = W2 at S2 HB2 ⊢
      have c0 := S2.out.c0
      have c1 := S2.out.c1
      cases g
      · have g3 : ¬ ((Q : Int) < (bs.length : Int)) := by
          have := Hg.out
          rw [HE.out] at this
          have := of_decide_eq_false this
          omega
        go_quiet (fail)
        go_wp2_with fail
        go_ret
        exact ⟨rfl, HE.out ▸ S2.out.drewN _, HB2.out.drewN _⟩
      · have g3 : ((Q : Int) < (bs.length : Int)) := by
          have := Hg.out
          rw [HE.out] at this
          have := of_decide_eq_true this
          omega
        go_quiet (fail)
        go_wp2_with fail
        go_ret
        exact ⟨rfl, HE.out ▸ S2.out.drewN _, HB2.out.drewN _⟩
end Go.Proofs.YtmnllioeaaimcaaDoor.tk
