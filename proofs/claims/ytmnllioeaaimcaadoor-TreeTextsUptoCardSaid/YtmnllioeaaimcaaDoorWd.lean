/- Package tree: going through a tree. -/
import Derived.Shelf.Abstract
import Derived.Shelf.RegionOpen
import Derived.WalkKit
import Derived.OwnWalkIn
import Derived.TacticsInMore
import Derived.LoopNIn
import Derived.LoopIn
import Derived.Deep.LoopGhost
import Derived.Test.YtmnllioeaaimcaaDoorWb
import Derived.Test.YtmnllioeaaimcaaDoorVb
namespace Go.Proofs.YtmnllioeaaimcaaDoor.tr
open Go Go.RowKit Go.Proofs.YtmnllioeaaimcaaDoor.tk
attribute [local go_sem] Oper.semAt_some

/-- between two rounds: k bounds what is to come -/
def LR (t : Tree) (n0 : Nat) (J : List Ev → (Nat → Prop) → World → Prop) (k : Nat) (v3 v4 : Value) (wr : World) : Prop :=
  ∃ S pre X g c vals, v3 = .slice (some ⟨g, 0, none⟩) S.length c ∧ v4 = .int .i64 ((S.length : Int) - 1) ∧ k = 2 * (rem S).length + S.length ∧ k ≤ 2 * size t + 1 ∧ pre ++ rem S = evs t ∧ Lf wr n0 g c S X vals ∧ J pre X wr

set_option maxRecDepth 100000 in
set_option maxHeartbeats 2000000 in
theorem iter_in {F : Fence} {n : Nat} (hf : F.fn 30) (hro : F.round = none) (hn : 1 ≤ n) {l Bt n0 : Nat} {lb : Bool} {u : Tok} {ks : List Tree} {A : Option Addr} {c : Nat} {J Jx : List Ev → (Nat → Prop) → World → Prop} (hJ : Stab J)
    (hY : ∀ pre x X W1, J pre X W1 → (∀ g, X g → g < W1.heap.size) → pre ++ [x] <+: evs (.mk lb u ks) → YieldAt F (n - 1) Tryd.prog l x.enc W1 fun e W' =>
      (e = .returned (.bool true) ∧ J (pre ++ [x]) X W' ∧ Kps n0 X W1 W') ∨ (e = .returned (.bool false) ∧ Jx (pre ++ [x]) X W'))
    {W : World} (hB : Bk W Bt 37 #[.bool lb, .int .i64 u.k, .string ⟨u.s.toArray⟩, .int .i64 u.p, .slice A ks.length c]) (hv : Vt W (fun b => b < n0) (.mk lb u ks) [.bool lb, .int .i64 u.k, .string ⟨u.s.toArray⟩, .int .i64 u.p, .slice A ks.length c])
    (h0 : J [] (fun _ => False) W) (hn0 : n0 ≤ W.heap.size) (hsz : size (.mk lb u ks) ≤ 100000000) :
    CallsIn F n Tryd.prog 30 #[.func (.yield l) #[] #[], .pointer (some ⟨Bt, 0, none⟩)] W fun e W' => (∃ v, e = .returned v) ∧ ((∃ X, J (evs (.mk lb u ks)) X W') ∨ (∃ pre X, pre <+: evs (.mk lb u ks) ∧ Jx pre X W')) := by
  have HJ := Lib.hid hJ
  have HY := Lib.hid hY
  have HV := Lib.hid hv
  have H0 := Lib.hid h0
  have HN := Lib.hid hn0
  have HS := Lib.hid hsz
  have t0 := hB.cell 0
  have t1 := hB.cell 1
  have t2 := hB.cell 2
  have t3 := hB.cell 3
  have t4 := hB.cell 4
  have hlt := hB.lt
  clear hJ hY hv h0 hn0 hsz hB
  obtain ⟨i0, hi, hz0, hz1, hz2⟩ := info_parts infoK
  obtain ⟨T, hT⟩ : ∃ T, Tree.mk lb u ks = T := ⟨_, rfl⟩
  rw [hT] at HY HS ⊢
  refine callsIn_of_wp Tryd.func30 rfl hf ?_ hro
  simp only [Tryd.ntmps30, List.size_toArray, List.length_cons, List.length_nil, Nat.reduceAdd, Nat.reduceSub, Array.replicate_succ, Array.replicate_zero, List.push_toArray, List.append_toArray, List.nil_append, List.cons_append]
  gi_wp2
  generalize hW : World.alloc _ _ = W1
  have HI : Hid (LR T n0 J (2 * size T + 1) (.slice (some ⟨W.heap.size + 1, 0, none⟩) 1 1) (.int .i64 0) W1) := Lib.hid (by
    obtain ⟨h1, h2⟩ := Lf.start HV.out HN.out hW
    rw [hT] at h1
    exact ⟨[[T]], [], _, _, _, _, rfl, rfl, by simp [rem, evss, evs_size], Nat.le_refl _, by simp [rem, evss], h1, HJ.out _ _ _ _ _ H0.out h2 (fun g hg => .inr (by rcases hg with rfl | rfl <;> omega))⟩)
  have HN1 : Hid (n0 ≤ W1.heap.size) := Lib.hid (by rw [← hW]; have := HN.out; simp; omega)
  clear hW t0 t1 t2 t3 t4 H0 HV HN hlt hT
  gi_loopw [3, 4] (fun v3 v4 wr => (∃ k, LR T n0 J k v3 v4 wr) ∧ n0 ≤ wr.heap.size) (fun v3 v4 wr => leastOf (fun k => LR T n0 J k v3 v4 wr))
  case atStart => exact ⟨⟨_, HI.out⟩, HN1.out⟩
  case round =>
    clear HI HN1
    obtain ⟨hrel, hn1⟩ := hrel
    obtain ⟨m, hm⟩ : ∃ m, leastOf (fun k => LR T n0 J k u3 u4 wr) = m := ⟨_, rfl⟩
    have hle := (leastOf_spec hrel).1
    rw [hm] at hle
    have HM := Lib.hid hm
    clear hm hrel
    obtain ⟨S, pre, X, g, c, vals, rfl, rfl, hk, hkb, hE, hL, hj⟩ := hle
    have HK := Lib.hid hk
    have HKB := Lib.hid hkb
    have HE := Lib.hid hE
    have HL := Lib.hid hL
    have HJ1 := Lib.hid hj
    have HN := Lib.hid hn1
    clear hk hkb hE hL hj hn1
    cases S with
    | nil =>
      gi_wp2
      go_end0
      have := HE.out
      rw [rem, List.append_nil] at this
      subst this
      exact ⟨⟨_, rfl⟩, .inl ⟨_, HJ1.out⟩⟩
    | cons r s =>
      rw [show (((r :: s).length : Int) - 1) = (s.length : Int) by simp]
      rw [show (((r :: s).length : Int) - 1) = (s.length : Int) by simp] at HM
      obtain ⟨A, c', vs, e, hc, hr, tc, hal⟩ := HL.out.top
      subst e
      obtain ⟨L, hLs⟩ : ∃ L, s.length = L := ⟨_, rfl⟩
      have hcap : L + 1 ≤ c := by
        rcases HL.out.row.2 with ⟨h2, _⟩ | ⟨_, _, _, e1, _, _, e4, _⟩
        · simp at h2
        · simp only [Value.slice.injEq, true_and] at e1
          have := e4
          simp only [List.length_cons] at this
          omega
      simp only [List.length_cons, hLs] at HM tc ⊢
      have hLb : L ≤ 300000000 := by
        have h1 := HK.out
        have h2 := HKB.out
        have h3 := HS.out
        simp only [List.length_cons, hLs] at h1
        omega
      have HLS := Lib.hid hLs
      have hc0 : ¬ c = 0 := by omega
      have HR := Lib.hid hr
      have HA := Lib.hid hal
      clear hr hal hLs
      have q1 : (L : Int) < ((L + 1 : Nat) : Int) := by omega
      have q0 : (0 : Int) ≤ (L : Int) := by omega
      have q2 : L ≤ c := by omega
      cases r with
      | nil =>
        have HP := Lib.hid HL.out.pop
        simp only [List.length_nil] at tc
        by_cases hL0 : L = 0
        · subst hL0
          obtain rfl : s = [] := List.eq_nil_of_length_eq_zero HLS.out
          have HNEW : Hid (∃ k', k' < m ∧ LR T n0 J k' (.slice (some ⟨g, 0, none⟩) 0 c) (.int .i64 (-1)) wr) := Lib.hid ⟨0, by have := HK.out; simp [rem, evss] at this; omega, [], pre, X, g, c, vs, rfl, rfl, rfl, Nat.zero_le _, by have := HE.out; rw [rem_last] at this; exact this, HP.out, HJ1.out⟩
          have HN2 := HN
          gi_wp2
          refine ⟨fun _ h => (by cases h), ?_⟩
          gi_wp2
          go_roundw
          case rel => obtain ⟨k', _, h2⟩ := HNEW.out; exact ⟨⟨k', h2⟩, HN2.out⟩
          case measure => obtain ⟨k', h1, h2⟩ := HNEW.out; exact Nat.lt_of_le_of_lt ((leastOf_spec ⟨k', h2⟩).2 k' h2) (Nat.lt_of_lt_of_le h1 (Nat.le_of_eq HM.out.symm))
        · have q3 : (0 : Int) < (L : Int) := by omega
          obtain ⟨q, s', rfl⟩ : ∃ q s', s = q :: s' := by
            cases s with
            | nil => exact absurd HLS.out.symm hL0
            | cons q s' => exact ⟨q, s', rfl⟩
          have hE2 := HE.out
          rw [rem_pop] at hE2
          obtain ⟨fn, tmps, assign, body, hy, hR⟩ := HY.out pre .cl X wr HJ1.out (fun g hg => (HL.out.lt g hg).2) ⟨rem (q :: s'), by rw [← hE2]; simp⟩
          dsimp only [Ev.enc, Ev.kind, Ev.tok, tokV, zeroT] at hy
          have HE2 := Lib.hid hE2
          clear hE2
          gi_wp2
          refine hR.mono ?_
          rintro e W3 (⟨rfl, hJ3, hk3⟩ | ⟨rfl, hJx3⟩)
          · have HNEW : Hid (∃ k', k' < m ∧ LR T n0 J k' (.slice (some ⟨g, 0, none⟩) L c) (.int .i64 ((L : Int) - 1)) W3) := Lib.hid ⟨_, by have := HK.out; rw [rem_pop] at this; simp only [List.length_cons] at this ⊢; omega, q :: s', pre ++ [.cl], X, g, c, vs, by rw [HLS.out], by rw [HLS.out], rfl, by have h1 := HK.out; have h2 := HKB.out; rw [rem_pop] at h1; simp only [List.length_cons] at h1 ⊢; omega, by have := HE2.out; simpa using this, HP.out.kept hk3, hJ3⟩
            have HN2 : Hid (n0 ≤ W3.heap.size) := Lib.hid (by have := HN.out; have := hk3.bel.size; omega)
            clear hJ3 hk3 hy hR
            gi_wp2
            go_roundw
            case rel => obtain ⟨k', _, h2⟩ := HNEW.out; exact ⟨⟨k', h2⟩, HN2.out⟩
            case measure => obtain ⟨k', h1, h2⟩ := HNEW.out; exact Nat.lt_of_le_of_lt ((leastOf_spec ⟨k', h2⟩).2 k' h2) (Nat.lt_of_lt_of_le h1 (Nat.le_of_eq HM.out.symm))
          · have HE3 := HE2
            gi_wp2
            refine bodyPost_ret (results_none rfl _ _ _) rfl ?_
            exact ⟨⟨_, rfl⟩, .inr ⟨pre ++ [.cl], X, ⟨rem (q :: s'), by rw [← HE3.out]; simp⟩, hJx3⟩⟩
      | cons t r =>
        obtain ⟨b, off, e, hF, hblt, hv⟩ := HR.out (by simp)
        subst e
        obtain ⟨l', u', kids, A', c2, e, hvk, p0, p1, p2, p3, p4⟩ := hv.get (j := 0) (by simp)
        simp only [List.getElem_cons_zero] at e
        subst e
        simp only [Nat.zero_mul, Nat.add_zero] at p0 p1 p2 p3 p4
        have HVK := Lib.hid hvk
        have HV := Lib.hid hv
        have HF := Lib.hid hF
        obtain ⟨R, hRl⟩ : ∃ R, r.length = R := ⟨_, rfl⟩
        have hRc : R + 1 ≤ c' := by simp only [List.length_cons, hRl] at hc; exact hc
        simp only [List.length_cons, hRl] at tc HL
        have HRL := Lib.hid hRl
        have hgl : g < wr.heap.size := (HL.out.lt g HL.out.xg).2
        have hfz := HL.out.frozen L
        have q4 : (0 : Int) < ((R + 1 : Nat) : Int) := by omega
        have q5 : 1 ≤ R + 1 := by omega
        have hbg : b ≠ g := hF.1
        clear hvk hv hF hRl hc
        by_cases hc1 : c' = 1
        · subst hc1
          obtain rfl : R = 0 := by omega
          cases l' with
          | false =>
            have HL2 : Hid (Lf (wr.setCell ⟨g, L, none⟩ (.slice (some ⟨b, off, none⟩) 0 0)) n0 g c (r :: s) X ((.slice (some ⟨b, off, none⟩) 0 0) :: vs) ∧ Sft X wr (wr.setCell ⟨g, L, none⟩ (.slice (some ⟨b, off, none⟩) 0 0))) := Lib.hid (by
              have h1 := HL.out
              rw [← HRL.out] at h1
              have h2 := h1.next (w' := wr.setCell ⟨g, L, none⟩ (.slice (some ⟨b, off, none⟩) 0 0)) (by rw [HLS.out, HRL.out]; simp)
              rw [HRL.out] at h2
              simpa using h2)
            have HL3 : Hid (Lf ((wr.setCell ⟨g, L, none⟩ (.slice (some ⟨b, off, none⟩) 0 0)).alloc (.cells #[.bool false, .int .i64 u'.k, .string ⟨u'.s.toArray⟩, .int .i64 u'.p, .slice A' kids.length c2] 37)) n0 g c (r :: s) X ((.slice (some ⟨b, off, none⟩) 0 0) :: vs) ∧ Sft X wr ((wr.setCell ⟨g, L, none⟩ (.slice (some ⟨b, off, none⟩) 0 0)).alloc (.cells #[.bool false, .int .i64 u'.k, .string ⟨u'.s.toArray⟩, .int .i64 u'.p, .slice A' kids.length c2] 37))) := Lib.hid ⟨HL2.out.1.alloc _, HL2.out.2.trans (Sft.alloc X _ _) (fun _ h => .inl h)⟩
            have HJ2 := Lib.hid (HJ.out _ _ _ _ _ HJ1.out HL3.out.2 (fun _ h => .inl h))
            have HE2 := Lib.hid HE.out
            rw [rem_st] at HE2
            obtain ⟨fn, tmps, assign, body, hy, hR⟩ := HY.out pre (.st u') X _ HJ2.out (fun g hg => (HL3.out.1.lt g hg).2) ⟨rem (r :: s), by rw [← HE2.out]; simp⟩
            dsimp only [Ev.enc, Ev.kind, Ev.tok, tokV] at hy
            gi_wp2
            refine hR.mono ?_
            rintro e W3 (⟨rfl, hJ3, hk3⟩ | ⟨rfl, hJx3⟩)
            · have HNEW : Hid (∃ k', k' < m ∧ LR T n0 J k' (.slice (some ⟨g, 0, none⟩) (L + 1) c) (.int .i64 (L : Int)) W3) := Lib.hid ⟨_, by have := HK.out; rw [rem_st] at this; simp only [List.length_cons] at this ⊢; omega, r :: s, pre ++ [.st u'], X, g, c, _, by rw [List.length_cons, HLS.out], by rw [List.length_cons, HLS.out]; congr 1; omega, rfl, by have h1 := HK.out; have h2 := HKB.out; rw [rem_st] at h1; simp only [List.length_cons] at h1 ⊢; omega, by have := HE2.out; simpa using this, HL3.out.1.kept hk3, hJ3⟩
              have HN2 : Hid (n0 ≤ W3.heap.size) := Lib.hid (by have := HN.out; have h2 := hk3.bel.size; simp at h2; omega)
              clear hJ3 hk3 hy hR
              gi_wp2
              go_roundw
              case rel => obtain ⟨k', _, h2⟩ := HNEW.out; exact ⟨⟨k', h2⟩, HN2.out⟩
              case measure => obtain ⟨k', h1, h2⟩ := HNEW.out; exact Nat.lt_of_le_of_lt ((leastOf_spec ⟨k', h2⟩).2 k' h2) (Nat.lt_of_lt_of_le h1 (Nat.le_of_eq HM.out.symm))
            · gi_wp2
              refine bodyPost_ret (results_none rfl _ _ _) rfl ?_
              exact ⟨⟨_, rfl⟩, .inr ⟨pre ++ [.st u'], X, ⟨rem (r :: s), by rw [← HE2.out]; simp⟩, hJx3⟩⟩
          | true =>
            have HL2 : Hid (Lf (wr.setCell ⟨g, L, none⟩ (.slice (some ⟨b, off, none⟩) 0 0)) n0 g c (r :: s) X ((.slice (some ⟨b, off, none⟩) 0 0) :: vs) ∧ Sft X wr (wr.setCell ⟨g, L, none⟩ (.slice (some ⟨b, off, none⟩) 0 0))) := Lib.hid (by
              have h1 := HL.out
              rw [← HRL.out] at h1
              have h2 := h1.next (w' := wr.setCell ⟨g, L, none⟩ (.slice (some ⟨b, off, none⟩) 0 0)) (by rw [HLS.out, HRL.out]; simp)
              rw [HRL.out] at h2
              simpa using h2)
            have HL3 : Hid (Lf ((wr.setCell ⟨g, L, none⟩ (.slice (some ⟨b, off, none⟩) 0 0)).alloc (.cells #[.bool true, .int .i64 u'.k, .string ⟨u'.s.toArray⟩, .int .i64 u'.p, .slice A' kids.length c2] 37)) n0 g c (r :: s) X ((.slice (some ⟨b, off, none⟩) 0 0) :: vs) ∧ Sft X wr ((wr.setCell ⟨g, L, none⟩ (.slice (some ⟨b, off, none⟩) 0 0)).alloc (.cells #[.bool true, .int .i64 u'.k, .string ⟨u'.s.toArray⟩, .int .i64 u'.p, .slice A' kids.length c2] 37))) := Lib.hid ⟨HL2.out.1.alloc _, HL2.out.2.trans (Sft.alloc X _ _) (fun _ h => .inl h)⟩
            have HE2 := Lib.hid HE.out
            rw [rem_op] at HE2
            have HVW : Hid (Rw ((wr.setCell ⟨g, L, none⟩ (.slice (some ⟨b, off, none⟩) 0 0)).alloc (.cells #[.bool true, .int .i64 u'.k, .string ⟨u'.s.toArray⟩, .int .i64 u'.p, .slice A' kids.length c2] 37)) (fun b => b ≠ g ∧ (b < n0 ∨ X b)) kids (.slice A' kids.length c2)) := Lib.hid (by
              obtain ⟨v, e, hv⟩ := Vt.iff.1 HVK.out
              simp only [List.cons.injEq, and_true, true_and] at e
              subst e
              exact hv.stays (by simp) (fun q hq hl => ⟨hq, (Below.heap_alloc _ _ q (by simpa using hl)).trans (Below.heap_setCell wr _ _ q (by simpa using hq.1))⟩))
            have HBX : Hid (Bk ((wr.setCell ⟨g, L, none⟩ (.slice (some ⟨b, off, none⟩) 0 0)).alloc (.cells #[.bool true, .int .i64 u'.k, .string ⟨u'.s.toArray⟩, .int .i64 u'.p, .slice A' kids.length c2] 37)) wr.heap.size 37 #[.bool true, .int .i64 u'.k, .string ⟨u'.s.toArray⟩, .int .i64 u'.p, .slice A' kids.length c2]) := Lib.hid (by
              have := Bk.new (wr.setCell ⟨g, L, none⟩ (.slice (some ⟨b, off, none⟩) 0 0)) 37 #[.bool true, .int .i64 u'.k, .string ⟨u'.s.toArray⟩, .int .i64 u'.p, .slice A' kids.length c2]
              simpa using this)
            have HRW : Hid (World.ownsRow ((wr.setCell ⟨g, L, none⟩ (.slice (some ⟨b, off, none⟩) 0 0)).alloc (.cells #[.bool true, .int .i64 u'.k, .string ⟨u'.s.toArray⟩, .int .i64 u'.p, .slice A' kids.length c2] 37)) n0 24 1 (.slice (some ⟨g, 0, none⟩) (L + 1) c) (L + 1) (List.reverse ((.slice (some ⟨b, off, none⟩) 0 0) :: vs))) := Lib.hid (by
              have := HL3.out.1.row
              simp only [List.length_cons, HLS.out] at this
              exact this)
            obtain ⟨W3, hW3⟩ : ∃ W3, ((wr.setCell ⟨g, L, none⟩ (.slice (some ⟨b, off, none⟩) 0 0)).alloc (.cells #[.bool true, .int .i64 u'.k, .string ⟨u'.s.toArray⟩, .int .i64 u'.p, .slice A' kids.length c2] 37)) = W3 := ⟨_, rfl⟩
            have hsz3 : W3.heap.size = wr.heap.size + 1 := by rw [← hW3]; simp
            have HW3 := Lib.hid hW3
            clear hW3
            have HS3 := Lib.hid hsz3
            clear hsz3
            gi_wp2_with (gi_at_builtin; refine wpListIn_append_lies _ rfl _ _ 75 rfl n0 24 i0 (.slice none 0 0) 1 24 Tryd.underlying75 hi hz0 hz1 hz2 rfl (by decide) _ (L + 1) _ rfl (HRW.out.alloc _) ⟨wr.heap.size + 1, 0, none⟩ 1 1 [.slice A' kids.length c2] rfl rfl ?c1 (fun u hu => ?c2) (by decide) (by unfold maxLen; omega) (by omega) (by have := HN.out; simp; omega) ?_)
            case c1 =>
              intro j x hj
              match j, hj with
              | 0, hj => simp at hj; subst hj; have := (Bk.new W3 24 #[.slice A' kids.length c2]).cell 0; rw [HS3.out, ← HW3.out] at this; simpa [Addr.add] using this
            case c2 => simp at hu; subst hu; rfl
            intro g' cap w6 r1 r2 r3 r4
            have hW3 := HW3.out
            have hsz3 := HS3.out
            rw [hW3] at r2 HL3 HVW HBX
            obtain ⟨o, ho⟩ : ∃ o, Obj.cells #[Value.slice A' kids.length c2] 24 = o := ⟨_, rfl⟩
            rw [ho] at r2
            have HP := Lib.hid (Lf.push (HL3.out.1.alloc o) (HVW.out.stays (by simp) (fun q hq hl => ⟨hq, Below.heap_alloc W3 o q hl⟩)) (by simpa [HLS.out] using r1) r2 (by simpa [Value.ownBlock, hsz3] using r3) r4 (by have := HN.out; simp; omega))
            have HSF : Hid (Sft X wr w6) := Lib.hid ((HL3.out.2.trans (Sft.alloc X W3 o) (fun _ h => .inl h)).trans HP.out.2 (fun _ h => .inl h))
            have HJ2 : Hid (J pre (fun b => b = g' ∨ (X b ∧ b ≠ g)) w6) := Lib.hid (HJ.out _ _ _ _ _ HJ1.out HSF.out (fun q hq => by
              rcases hq with rfl | ⟨hq, _⟩
              · rcases r3 with r3 | r3
                · simp only [Value.ownBlock, Option.some.injEq] at r3
                  exact .inl (r3 ▸ HL.out.xg)
                · exact .inr (by omega)
              · exact .inl hq))
            have HB6 : Hid (Bk w6 wr.heap.size 37 #[.bool true, .int .i64 u'.k, .string ⟨u'.s.toArray⟩, .int .i64 u'.p, .slice A' kids.length c2]) := Lib.hid ((r2.block _ (by simp; omega) (by simp only [Value.ownBlock, ne_eq, Option.some.injEq]; omega)).trans ((Below.heap_alloc W3 o _ (by omega)).trans HBX.out))
            have b1 : w6.cell? ⟨wr.heap.size, 1, none⟩ = some (.int .i64 u'.k) := HB6.out.cell 1
            have b2 : w6.cell? ⟨wr.heap.size, 2, none⟩ = some (.string ⟨u'.s.toArray⟩) := HB6.out.cell 2
            have b3 : w6.cell? ⟨wr.heap.size, 3, none⟩ = some (.int .i64 u'.p) := HB6.out.cell 3
            obtain ⟨fn, tmps, assign, body, hy, hR⟩ := HY.out pre (.op u') _ w6 HJ2.out (fun g hg => (HP.out.1.lt g hg).2) ⟨rem (kids :: r :: s), by rw [← HE2.out]; simp⟩
            dsimp only [Ev.enc, Ev.kind, Ev.tok, tokV] at hy
            clear r1 r2 r3 hW3 ho
            gi_wp2
            refine hR.mono ?_
            rintro e W7 (⟨rfl, hJ3, hk3⟩ | ⟨rfl, hJx3⟩)
            · have HNEW : Hid (∃ k', k' < m ∧ LR T n0 J k' (.slice (some ⟨g', 0, none⟩) (L + 1 + 1) cap) (.int .i64 ((L : Int) + 1)) W7) := Lib.hid ⟨_, by have := HK.out; rw [rem_op] at this; simp only [List.length_cons] at this ⊢; omega, kids :: r :: s, pre ++ [.op u'], _, g', cap, _, by rw [List.length_cons, List.length_cons, HLS.out], by rw [List.length_cons, List.length_cons, HLS.out]; congr 1; omega, rfl, by have h1 := HK.out; have h2 := HKB.out; rw [rem_op] at h1; simp only [List.length_cons] at h1 ⊢; omega, by have := HE2.out; simpa using this, HP.out.1.kept hk3, hJ3⟩
              have HN2 : Hid (n0 ≤ W7.heap.size) := Lib.hid (by have := HN.out; have h2 := hk3.bel.size; have h3 := HSF.out.size; omega)
              clear hJ3 hk3 hy hR b1 b2 b3
              gi_wp2
              go_roundw
              case rel => obtain ⟨k', _, h2⟩ := HNEW.out; exact ⟨⟨k', h2⟩, HN2.out⟩
              case measure => obtain ⟨k', h1, h2⟩ := HNEW.out; exact Nat.lt_of_le_of_lt ((leastOf_spec ⟨k', h2⟩).2 k' h2) (Nat.lt_of_lt_of_le h1 (Nat.le_of_eq HM.out.symm))
            · gi_wp2
              refine bodyPost_ret (results_none rfl _ _ _) rfl ?_
              exact ⟨⟨_, rfl⟩, .inr ⟨pre ++ [.op u'], _, ⟨rem (kids :: r :: s), by rw [← HE2.out]; simp⟩, hJx3⟩⟩
        · cases l' with
          | false =>
            have HL2 : Hid (Lf (wr.setCell ⟨g, L, none⟩ (.slice (some ⟨b, off + 5, none⟩) R (c' - 1))) n0 g c (r :: s) X ((.slice (some ⟨b, off + 5, none⟩) R (c' - 1)) :: vs) ∧ Sft X wr (wr.setCell ⟨g, L, none⟩ (.slice (some ⟨b, off + 5, none⟩) R (c' - 1)))) := Lib.hid (by
              have h1 := HL.out
              rw [← HRL.out] at h1
              have h2 := h1.next (w' := wr.setCell ⟨g, L, none⟩ (.slice (some ⟨b, off + 5, none⟩) R (c' - 1))) (by rw [HLS.out, HRL.out]; rw [if_neg hc1]; rfl)
              rw [HRL.out] at h2
              rw [if_neg hc1] at h2; exact h2)
            have HL3 : Hid (Lf ((wr.setCell ⟨g, L, none⟩ (.slice (some ⟨b, off + 5, none⟩) R (c' - 1))).alloc (.cells #[.bool false, .int .i64 u'.k, .string ⟨u'.s.toArray⟩, .int .i64 u'.p, .slice A' kids.length c2] 37)) n0 g c (r :: s) X ((.slice (some ⟨b, off + 5, none⟩) R (c' - 1)) :: vs) ∧ Sft X wr ((wr.setCell ⟨g, L, none⟩ (.slice (some ⟨b, off + 5, none⟩) R (c' - 1))).alloc (.cells #[.bool false, .int .i64 u'.k, .string ⟨u'.s.toArray⟩, .int .i64 u'.p, .slice A' kids.length c2] 37))) := Lib.hid ⟨HL2.out.1.alloc _, HL2.out.2.trans (Sft.alloc X _ _) (fun _ h => .inl h)⟩
            have HJ2 := Lib.hid (HJ.out _ _ _ _ _ HJ1.out HL3.out.2 (fun _ h => .inl h))
            have HE2 := Lib.hid HE.out
            rw [rem_st] at HE2
            obtain ⟨fn, tmps, assign, body, hy, hR⟩ := HY.out pre (.st u') X _ HJ2.out (fun g hg => (HL3.out.1.lt g hg).2) ⟨rem (r :: s), by rw [← HE2.out]; simp⟩
            dsimp only [Ev.enc, Ev.kind, Ev.tok, tokV] at hy
            gi_wp2
            refine hR.mono ?_
            rintro e W3 (⟨rfl, hJ3, hk3⟩ | ⟨rfl, hJx3⟩)
            · have HNEW : Hid (∃ k', k' < m ∧ LR T n0 J k' (.slice (some ⟨g, 0, none⟩) (L + 1) c) (.int .i64 (L : Int)) W3) := Lib.hid ⟨_, by have := HK.out; rw [rem_st] at this; simp only [List.length_cons] at this ⊢; omega, r :: s, pre ++ [.st u'], X, g, c, _, by rw [List.length_cons, HLS.out], by rw [List.length_cons, HLS.out]; congr 1; omega, rfl, by have h1 := HK.out; have h2 := HKB.out; rw [rem_st] at h1; simp only [List.length_cons] at h1 ⊢; omega, by have := HE2.out; simpa using this, HL3.out.1.kept hk3, hJ3⟩
              have HN2 : Hid (n0 ≤ W3.heap.size) := Lib.hid (by have := HN.out; have h2 := hk3.bel.size; simp at h2; omega)
              clear hJ3 hk3 hy hR
              gi_wp2
              go_roundw
              case rel => obtain ⟨k', _, h2⟩ := HNEW.out; exact ⟨⟨k', h2⟩, HN2.out⟩
              case measure => obtain ⟨k', h1, h2⟩ := HNEW.out; exact Nat.lt_of_le_of_lt ((leastOf_spec ⟨k', h2⟩).2 k' h2) (Nat.lt_of_lt_of_le h1 (Nat.le_of_eq HM.out.symm))
            · gi_wp2
              refine bodyPost_ret (results_none rfl _ _ _) rfl ?_
              exact ⟨⟨_, rfl⟩, .inr ⟨pre ++ [.st u'], X, ⟨rem (r :: s), by rw [← HE2.out]; simp⟩, hJx3⟩⟩
          | true =>
            have HL2 : Hid (Lf (wr.setCell ⟨g, L, none⟩ (.slice (some ⟨b, off + 5, none⟩) R (c' - 1))) n0 g c (r :: s) X ((.slice (some ⟨b, off + 5, none⟩) R (c' - 1)) :: vs) ∧ Sft X wr (wr.setCell ⟨g, L, none⟩ (.slice (some ⟨b, off + 5, none⟩) R (c' - 1)))) := Lib.hid (by
              have h1 := HL.out
              rw [← HRL.out] at h1
              have h2 := h1.next (w' := wr.setCell ⟨g, L, none⟩ (.slice (some ⟨b, off + 5, none⟩) R (c' - 1))) (by rw [HLS.out, HRL.out]; rw [if_neg hc1]; rfl)
              rw [HRL.out] at h2
              rw [if_neg hc1] at h2; exact h2)
            have HL3 : Hid (Lf ((wr.setCell ⟨g, L, none⟩ (.slice (some ⟨b, off + 5, none⟩) R (c' - 1))).alloc (.cells #[.bool true, .int .i64 u'.k, .string ⟨u'.s.toArray⟩, .int .i64 u'.p, .slice A' kids.length c2] 37)) n0 g c (r :: s) X ((.slice (some ⟨b, off + 5, none⟩) R (c' - 1)) :: vs) ∧ Sft X wr ((wr.setCell ⟨g, L, none⟩ (.slice (some ⟨b, off + 5, none⟩) R (c' - 1))).alloc (.cells #[.bool true, .int .i64 u'.k, .string ⟨u'.s.toArray⟩, .int .i64 u'.p, .slice A' kids.length c2] 37))) := Lib.hid ⟨HL2.out.1.alloc _, HL2.out.2.trans (Sft.alloc X _ _) (fun _ h => .inl h)⟩
            have HE2 := Lib.hid HE.out
            rw [rem_op] at HE2
            have HVW : Hid (Rw ((wr.setCell ⟨g, L, none⟩ (.slice (some ⟨b, off + 5, none⟩) R (c' - 1))).alloc (.cells #[.bool true, .int .i64 u'.k, .string ⟨u'.s.toArray⟩, .int .i64 u'.p, .slice A' kids.length c2] 37)) (fun b => b ≠ g ∧ (b < n0 ∨ X b)) kids (.slice A' kids.length c2)) := Lib.hid (by
              obtain ⟨v, e, hv⟩ := Vt.iff.1 HVK.out
              simp only [List.cons.injEq, and_true, true_and] at e
              subst e
              exact hv.stays (by simp) (fun q hq hl => ⟨hq, (Below.heap_alloc _ _ q (by simpa using hl)).trans (Below.heap_setCell wr _ _ q (by simpa using hq.1))⟩))
            have HBX : Hid (Bk ((wr.setCell ⟨g, L, none⟩ (.slice (some ⟨b, off + 5, none⟩) R (c' - 1))).alloc (.cells #[.bool true, .int .i64 u'.k, .string ⟨u'.s.toArray⟩, .int .i64 u'.p, .slice A' kids.length c2] 37)) wr.heap.size 37 #[.bool true, .int .i64 u'.k, .string ⟨u'.s.toArray⟩, .int .i64 u'.p, .slice A' kids.length c2]) := Lib.hid (by
              have := Bk.new (wr.setCell ⟨g, L, none⟩ (.slice (some ⟨b, off + 5, none⟩) R (c' - 1))) 37 #[.bool true, .int .i64 u'.k, .string ⟨u'.s.toArray⟩, .int .i64 u'.p, .slice A' kids.length c2]
              simpa using this)
            have HRW : Hid (World.ownsRow ((wr.setCell ⟨g, L, none⟩ (.slice (some ⟨b, off + 5, none⟩) R (c' - 1))).alloc (.cells #[.bool true, .int .i64 u'.k, .string ⟨u'.s.toArray⟩, .int .i64 u'.p, .slice A' kids.length c2] 37)) n0 24 1 (.slice (some ⟨g, 0, none⟩) (L + 1) c) (L + 1) (List.reverse ((.slice (some ⟨b, off + 5, none⟩) R (c' - 1)) :: vs))) := Lib.hid (by
              have := HL3.out.1.row
              simp only [List.length_cons, HLS.out] at this
              exact this)
            obtain ⟨W3, hW3⟩ : ∃ W3, ((wr.setCell ⟨g, L, none⟩ (.slice (some ⟨b, off + 5, none⟩) R (c' - 1))).alloc (.cells #[.bool true, .int .i64 u'.k, .string ⟨u'.s.toArray⟩, .int .i64 u'.p, .slice A' kids.length c2] 37)) = W3 := ⟨_, rfl⟩
            have hsz3 : W3.heap.size = wr.heap.size + 1 := by rw [← hW3]; simp
            have HW3 := Lib.hid hW3
            clear hW3
            have HS3 := Lib.hid hsz3
            clear hsz3
            gi_wp2_with (gi_at_builtin; refine wpListIn_append_lies _ rfl _ _ 75 rfl n0 24 i0 (.slice none 0 0) 1 24 Tryd.underlying75 hi hz0 hz1 hz2 rfl (by decide) _ (L + 1) _ rfl (HRW.out.alloc _) ⟨wr.heap.size + 1, 0, none⟩ 1 1 [.slice A' kids.length c2] rfl rfl ?c1 (fun u hu => ?c2) (by decide) (by unfold maxLen; omega) (by omega) (by have := HN.out; simp; omega) ?_)
            case c1 =>
              intro j x hj
              match j, hj with
              | 0, hj => simp at hj; subst hj; have := (Bk.new W3 24 #[.slice A' kids.length c2]).cell 0; rw [HS3.out, ← HW3.out] at this; simpa [Addr.add] using this
            case c2 => simp at hu; subst hu; rfl
            intro g' cap w6 r1 r2 r3 r4
            have hW3 := HW3.out
            have hsz3 := HS3.out
            rw [hW3] at r2 HL3 HVW HBX
            obtain ⟨o, ho⟩ : ∃ o, Obj.cells #[Value.slice A' kids.length c2] 24 = o := ⟨_, rfl⟩
            rw [ho] at r2
            have HP := Lib.hid (Lf.push (HL3.out.1.alloc o) (HVW.out.stays (by simp) (fun q hq hl => ⟨hq, Below.heap_alloc W3 o q hl⟩)) (by simpa [HLS.out] using r1) r2 (by simpa [Value.ownBlock, hsz3] using r3) r4 (by have := HN.out; simp; omega))
            have HSF : Hid (Sft X wr w6) := Lib.hid ((HL3.out.2.trans (Sft.alloc X W3 o) (fun _ h => .inl h)).trans HP.out.2 (fun _ h => .inl h))
            have HJ2 : Hid (J pre (fun b => b = g' ∨ (X b ∧ b ≠ g)) w6) := Lib.hid (HJ.out _ _ _ _ _ HJ1.out HSF.out (fun q hq => by
              rcases hq with rfl | ⟨hq, _⟩
              · rcases r3 with r3 | r3
                · simp only [Value.ownBlock, Option.some.injEq] at r3
                  exact .inl (r3 ▸ HL.out.xg)
                · exact .inr (by omega)
              · exact .inl hq))
            have HB6 : Hid (Bk w6 wr.heap.size 37 #[.bool true, .int .i64 u'.k, .string ⟨u'.s.toArray⟩, .int .i64 u'.p, .slice A' kids.length c2]) := Lib.hid ((r2.block _ (by simp; omega) (by simp only [Value.ownBlock, ne_eq, Option.some.injEq]; omega)).trans ((Below.heap_alloc W3 o _ (by omega)).trans HBX.out))
            have b1 : w6.cell? ⟨wr.heap.size, 1, none⟩ = some (.int .i64 u'.k) := HB6.out.cell 1
            have b2 : w6.cell? ⟨wr.heap.size, 2, none⟩ = some (.string ⟨u'.s.toArray⟩) := HB6.out.cell 2
            have b3 : w6.cell? ⟨wr.heap.size, 3, none⟩ = some (.int .i64 u'.p) := HB6.out.cell 3
            obtain ⟨fn, tmps, assign, body, hy, hR⟩ := HY.out pre (.op u') _ w6 HJ2.out (fun g hg => (HP.out.1.lt g hg).2) ⟨rem (kids :: r :: s), by rw [← HE2.out]; simp⟩
            dsimp only [Ev.enc, Ev.kind, Ev.tok, tokV] at hy
            clear r1 r2 r3 hW3 ho
            gi_wp2
            refine hR.mono ?_
            rintro e W7 (⟨rfl, hJ3, hk3⟩ | ⟨rfl, hJx3⟩)
            · have HNEW : Hid (∃ k', k' < m ∧ LR T n0 J k' (.slice (some ⟨g', 0, none⟩) (L + 1 + 1) cap) (.int .i64 ((L : Int) + 1)) W7) := Lib.hid ⟨_, by have := HK.out; rw [rem_op] at this; simp only [List.length_cons] at this ⊢; omega, kids :: r :: s, pre ++ [.op u'], _, g', cap, _, by rw [List.length_cons, List.length_cons, HLS.out], by rw [List.length_cons, List.length_cons, HLS.out]; congr 1; omega, rfl, by have h1 := HK.out; have h2 := HKB.out; rw [rem_op] at h1; simp only [List.length_cons] at h1 ⊢; omega, by have := HE2.out; simpa using this, HP.out.1.kept hk3, hJ3⟩
              have HN2 : Hid (n0 ≤ W7.heap.size) := Lib.hid (by have := HN.out; have h2 := hk3.bel.size; have h3 := HSF.out.size; omega)
              clear hJ3 hk3 hy hR b1 b2 b3
              gi_wp2
              go_roundw
              case rel => obtain ⟨k', _, h2⟩ := HNEW.out; exact ⟨⟨k', h2⟩, HN2.out⟩
              case measure => obtain ⟨k', h1, h2⟩ := HNEW.out; exact Nat.lt_of_le_of_lt ((leastOf_spec ⟨k', h2⟩).2 k' h2) (Nat.lt_of_lt_of_le h1 (Nat.le_of_eq HM.out.symm))
            · gi_wp2
              refine bodyPost_ret (results_none rfl _ _ _) rfl ?_
              exact ⟨⟨_, rfl⟩, .inr ⟨pre ++ [.op u'], _, ⟨rem (kids :: r :: s), by rw [← HE2.out]; simp⟩, hJx3⟩⟩
end Go.Proofs.YtmnllioeaaimcaaDoor.tr

/- Package tree: how many tokens a tree has. -/
namespace Go.Proofs.YtmnllioeaaimcaaDoor.tr
open Go Go.RowKit Go.Proofs.YtmnllioeaaimcaaDoor.tk
attribute [local go_sem] Oper.semAt_some

set_option maxRecDepth 100000 in
set_option maxHeartbeats 1000000 in
theorem parts_in {F : Fence} {n : Nat} (hf : F.fn 19) (hro : F.round = none) {lb : Bool} {k p : Int} {s : ByteArray} {v : Value} {w : World} :
    CallsIn F n Tryd.prog 19 #[.agg #[.bool lb, .int .i64 k, .string s, .int .i64 p, v]] w fun e w' => e = .returned (.func (.func 30) #[] #[.pointer (some ⟨w.heap.size, 0, none⟩)]) ∧ w' = w.alloc (.cells #[.bool lb, .int .i64 k, .string s, .int .i64 p, v] 37) := by
  refine callsIn_of_wp Tryd.func19 rfl hf ?_ hro
  simp only [Tryd.ntmps19, List.size_toArray, List.length_cons, List.length_nil, Nat.reduceAdd, Nat.reduceSub, Array.replicate_succ, Array.replicate_zero, List.push_toArray, List.append_toArray, List.nil_append, List.cons_append]
  gi_wp2
  go_ret
  exact ⟨rfl, rfl⟩

/-- what parts gives keeps its word -/
theorem parts_seq {F : Fence} {n : Nat} (hf : F.fn 30) (hro : F.round = none) (hn : 1 ≤ n) {Bt n0 : Nat} {lb : Bool} {u : Tok} {ks : List Tree} {A : Option Addr} {c : Nat}
    {w : World} (hB : Bk w Bt 37 #[.bool lb, .int .i64 u.k, .string ⟨u.s.toArray⟩, .int .i64 u.p, .slice A ks.length c]) (hv : Vt w (fun b => b < n0) (.mk lb u ks) [.bool lb, .int .i64 u.k, .string ⟨u.s.toArray⟩, .int .i64 u.p, .slice A ks.length c])
    (hn0 : n0 ≤ w.heap.size) (hsz : size (.mk lb u ks) ≤ 100000000) :
    Seqs F n Tryd.prog 30 #[.pointer (some ⟨Bt, 0, none⟩)] Ev.enc (evs (.mk lb u ks)) n0 w := fun l _ _ _ hW hJ _ hY h0 =>
  iter_in hf hro hn (l := l) hJ hY (hB.below hW hB.lt) (hv.stays hW.size (fun g hg hl => ⟨hg, hW.block g hl⟩)) h0 (Nat.le_trans hn0 hW.size) hsz

/-- of what the caller of a range has: a box that is none of the iterator's -/
def SizeI (w : World) (pre : List Ev) (X : Nat → Prop) (W : World) : Prop := Boxed W (w.heap.size + 1) 3 (.int .i64 (pre.length : Int)) ∧ ¬ X (w.heap.size + 1) ∧ Below w.heap.size w W ∧ ∀ b, X b → w.heap.size ≤ b
theorem SizeI.stab (w : World) : Stab (SizeI w) := by
  rintro pre X X' W W' ⟨h1, h2, h3, h4⟩ hs hX
  have hl := h1.lt
  refine ⟨(hs.block _ hl h2).trans h1, fun h => (hX _ h).elim h2 (fun _ => by omega), h3.trans (hs.below h3.size h4), fun b hb => (hX b hb).elim (h4 b) (fun _ => by have := h3.size; omega)⟩
theorem Ev.fits {E pre : List Ev} {x : Ev} {N : Nat} (h : pre ++ [x] <+: E) (hN : E.length ≤ N) : pre.length + 1 ≤ N := by
  have := h.length_le
  simp at this
  omega

set_option maxRecDepth 100000 in
set_option maxHeartbeats 2000000 in
theorem size_any {lb : Bool} {u : Tok} {ks : List Tree} {A : Option Addr} {c : Nat} {w : World} (hv : Vt w (fun b => b < w.heap.size) (.mk lb u ks) [.bool lb, .int .i64 u.k, .string ⟨u.s.toArray⟩, .int .i64 u.p, .slice A ks.length c]) (hsz : size (.mk lb u ks) ≤ 100000000) :
    Calls Tryd.prog 13 #[.agg #[.bool lb, .int .i64 u.k, .string ⟨u.s.toArray⟩, .int .i64 u.p, .slice A ks.length c]] w fun e w' => e = .returned (.int .i64 (size (.mk lb u ks) : Int)) ∧ Hid (Below w.heap.size w w') := by
  have HV := Lib.hid hv
  have HS := Lib.hid hsz
  clear hv hsz
  refine (callsIn_wide (n := 4)).1 ?_
  refine callsIn_of_wp_marks Tryd.func13 rfl trivial ?_ rfl
  simp only [Tryd.ntmps13, List.size_toArray, List.length_cons, List.length_nil, Nat.reduceAdd, Nat.reduceSub, Array.replicate_succ, Array.replicate_zero, List.push_toArray, List.append_toArray, List.nil_append, List.cons_append]
  gi_wp2_with (refine ⟨trivial, ?_⟩; gi_at_call 19; refine (parts_in trivial rfl).mono ?_; rintro e w' ⟨rfl, rfl⟩)
  generalize hW : World.alloc _ _ = W0
  have hsz : W0.heap.size = w.heap.size + 3 := by rw [← hW]; simp
  have HB : Hid (Below w.heap.size w W0) := Lib.hid (hW ▸ (((Below.refl _ w).alloc (Nat.le_refl _) _).alloc (by simp) _).alloc (by simp; omega) _)
  have HX : Hid (Boxed W0 (w.heap.size + 1) 3 (.int .i64 0)) := Lib.hid (by
    have := (Boxed.new (w.alloc (.cells #[.bool lb, .int .i64 u.k, .string ⟨u.s.toArray⟩, .int .i64 u.p, .slice A ks.length c] 37)) 3 (.int .i64 0)).alloc (.cells #[.bool lb, .int .i64 u.k, .string ⟨u.s.toArray⟩, .int .i64 u.p, .slice A ks.length c] 37)
    rw [hW] at this
    simpa using this)
  have HT : Hid (Bk W0 (w.heap.size + 2) 37 #[.bool lb, .int .i64 u.k, .string ⟨u.s.toArray⟩, .int .i64 u.p, .slice A ks.length c]) := Lib.hid (by
    have := Bk.new ((w.alloc (.cells #[.bool lb, .int .i64 u.k, .string ⟨u.s.toArray⟩, .int .i64 u.p, .slice A ks.length c] 37)).alloc (.cells #[.int .i64 0] 3)) 37 #[.bool lb, .int .i64 u.k, .string ⟨u.s.toArray⟩, .int .i64 u.p, .slice A ks.length c]
    rw [hW] at this
    simpa using this)
  clear hW
  refine rangeFunc_own rfl (by omega) (gf := 30) (lb := #[.pointer (some ⟨w.heap.size + 2, 0, none⟩)]) rfl trivial (enters_of Tryd.func30 (by kernel_rfl) rfl)
    (parts_seq trivial rfl (by omega) HT.out (HV.out.stays HB.out.size (fun g hg hl => ⟨hg, HB.out.block g hl⟩)) HB.out.size HS.out) HB.out.size (fun _ => rfl)
    (SizeI w) (fun _ _ _ _ => False) (SizeI.stab w) (fun _ _ _ _ _ _ h _ _ => h) ⟨HX.out, id, HB.out, fun _ h => h.elim⟩ ?round ?done ?stop
  case round =>
    rintro l pre x X W hI hX hpre
    dsimp only [Ev.enc]
    gi_wp2
    refine ⟨Kps.refl _ _ _, fun W2 hs hz => ?_⟩
    obtain ⟨h1, h2, h3, h4⟩ := SizeI.stab w _ _ _ _ _ hI hs (fun _ h => .inl h)
    have c0 := h1.cell
    have f0 := h1.frozen
    have hb : pre.length + 1 ≤ 100000000 := Ev.fits hpre (by rw [evs_size]; exact HS.out)
    gi_wp2
    refine ⟨⟨(Below.refl _ W2).setCell (p := ⟨w.heap.size + 1, 0, none⟩) (by simp) _, fun g hg _ => Below.heap_setCell W2 _ _ g (fun e => h2 (by rw [← show g = w.heap.size + 1 from e]; exact hg))⟩, ?_, h2, h3.setCell (p := ⟨w.heap.size + 1, 0, none⟩) (by simp) _, h4⟩
    have := h1.set (.int .i64 ((pre.length : Int) + 1))
    simpa using this
  case done =>
    rintro D X W hD hXD ⟨h1, h2, h3, h4⟩ hK
    have c0 := h1.cell
    rw [evs_size] at c0
    gi_wp2
    refine ⟨by simp, .inl ⟨_, _, rfl, run_takeDeferred hK, ?_⟩⟩
    exact ⟨_, results_tmp rfl _ _ _, rfl, Lib.hid (h3.trans ((Sft.putObj (X := fun g => g = D) rfl _).below h3.size (fun g e => by omega)))⟩
  case stop =>
    rintro D c pre X W _ _ _ h _
    exact h.elim
end Go.Proofs.YtmnllioeaaimcaaDoor.tr
