/- The statements of layer 5: are rows of trees one? The example of the document. -/
import Derived.StillTailTactics
import Derived.Test.YtmnllioeaaimcaaDoorVc
import Derived.Test.YtmnllioeaaimcaaDoorVk
import Derived.Test.YtmnllioeaaimcaaDoorWg
namespace Go.Proofs.YtmnllioeaaimcaaDoor.tr
open Go Go.RowKit Go.Proofs.YtmnllioeaaimcaaDoor.tk

set_option maxRecDepth 100000 in
set_option maxHeartbeats 2000000 in
theorem same_any {w : World} {F G : Nat → Prop} {ks js : List Tree} {v u : Value} {at_ : Bool} (hv : Hid (Rw w F ks v)) (hu : Hid (Rw w G js u)) (hp : partss ks ≤ 100000000) :
    Calls Tryd.prog 9 #[v, u, .bool at_] w fun e w' => e = .returned (.bool (samesB at_ ks js)) ∧ Hid (Below w.heap.size w w') := by
  have HV := hv
  have HU := hu
  obtain ⟨A, c, rfl, _, hr⟩ := hv.out
  obtain ⟨A', c', rfl, _, hr'⟩ := hu.out
  have HR := Lib.hid hr
  have HR' := Lib.hid hr'
  have HP := Lib.hid hp
  have hkl : ks.length ≤ 100000000 := Nat.le_trans (len_partss ks) hp
  clear hr hr' hp hv hu HV HU
  obtain ⟨r, hr⟩ : ∃ r, samesB at_ ks js = r := ⟨_, rfl⟩
  have HR2 := Lib.hid hr
  rw [hr]
  clear hr
  have HB0 : Hid (Below w.heap.size w w) := Lib.hid (Below.refl _ _)
  by_cases h5 : ks.length = js.length
  · have H5 := Lib.hid h5
    have g5 : (((ks.length : Int) != (js.length : Int)) : Bool) = false := by
      rw [bne_eq_false_iff_eq]
      omega
    clear h5
    go_enter Tryd.func9, Tryd.ntmps9
    go_upto_region 4 with fail
    go_loopw [15] (fun iv wr => ∃ k : Nat, k ≤ ks.length ∧ iv = .int .i64 (k : Int) ∧ Hid (∀ j (h : j < ks.length) (h' : j < js.length), j < k → sameB at_ ks[j] js[j] = true) ∧ Hid (Below w.heap.size w wr)) (fun iv _ => ks.length - (intOf iv).toNat)
    case atStart => exact ⟨0, Nat.zero_le _, rfl, Lib.hid (fun j h h' hj => absurd hj (by omega)), HB0⟩
    case round =>
      obtain ⟨k, hk, rfl, HK, HB⟩ := hrel
      by_cases hlt : k < ks.length
      · have g7 : (k : Int) < (ks.length : Int) := by omega
        have g8 : (k : Int) < (js.length : Int) := by have := H5.out; omega
        obtain ⟨g, off, eA, hF, hg, hr⟩ := HR.out (by omega)
        obtain ⟨g', off', eA', hF', hg', hr'⟩ := HR'.out (by have := H5.out; omega)
        subst eA
        subst eA'
        have hr2 := Vr.stays HB.out.size (fun g hF hg => ⟨hF, HB.out.block g hg⟩) hF hg ks hr
        have hr3 := Vr.stays HB.out.size (fun g hF hg => ⟨hF, HB.out.block g hg⟩) hF' hg' js hr'
        obtain ⟨l1, t1, k1, A1, c1, e1, hv1, q0, q1, q2, q3, q4⟩ := hr2.get hlt
        obtain ⟨l2, t2, k2, A2, c2, e2, hv2, s0, s1, s2, s3, s4⟩ := hr3.get (j := k) (by have := H5.out; omega)
        have HPK : Hid (parts (.mk l1 t1 k1) ≤ 100000000) := Lib.hid (by
          have h1 := HP.out
          have h2 := partss_take (ks := ks) hlt
          have h3 := partss_le ks (k + 1)
          rw [e1] at h2
          omega)
        obtain ⟨b, hb⟩ : ∃ b, sameB at_ (.mk l1 t1 k1) (.mk l2 t2 k2) = b := ⟨_, rfl⟩
        have HE : Hid (sameB at_ (ks[k]'hlt) (js[k]'(by have := H5.out; omega)) = b) := Lib.hid (by rw [e1, e2]; exact hb)
        have IH : Calls Tryd.prog 18 #[.agg #[.bool l1, .int .i64 t1.k, .string ⟨t1.s.toArray⟩, .int .i64 t1.p, .slice A1 k1.length c1], .agg #[.bool l2, .int .i64 t2.k, .string ⟨t2.s.toArray⟩, .int .i64 t2.p, .slice A2 k2.length c2], .bool at_] wr.drew fun e w' => e = .returned (.bool b) ∧ Hid (Below wr.drew.heap.size wr.drew w') := hb ▸ refSame_any 100000000 HPK.out (Nat.le_refl _) (Lib.hid (Vt.stays (w := wr) (w' := wr.drew) (F' := F) (show wr.heap.size ≤ wr.drew.heap.size from Nat.le_refl _) (fun _ h _ => ⟨h, rfl⟩) _ hv1)) (Lib.hid (Vt.stays (w := wr) (w' := wr.drew) (F' := G) (show wr.heap.size ≤ wr.drew.heap.size from Nat.le_refl _) (fun _ h _ => ⟨h, rfl⟩) _ hv2))
        clear hr hr' hr2 hr3 hv1 hv2 e1 e2 hb
        go_upto_region 6 with fail
        refine wp_region_still_tail 9 (by kernel_rfl) (by kernel_rfl) ?_
        simp only [List.take_succ_cons, List.take_zero, List.drop_succ_cons, List.drop_zero]
        show wpStill _ _ wr.drew (fun a' => wpList _ _ _ _ a' wr.drew) _ _
        repeat still_step
        refine wpStill_nil ?_
        cases b with
        | true =>
          go_wp2_with (go_at_call 18; refine IH.mono ?_; rintro e w5 ⟨rfl, HB5⟩)
          go_roundw
          case rel => exact ⟨k + 1, by omega, by go_num, Lib.hid (fun j h h' hj => by
            by_cases e : j = k
            · subst e; exact HE.out
            · exact HK.out j h h' (by omega)), Lib.hid ((below_drew HB.out).trans (HB5.out.mono HB.out.size))⟩
          case measure => simp [intOf]; omega
        | false =>
          obtain rfl : r = false := by
            rw [← HR2.out]
            cases e : samesB at_ ks js with
            | false => rfl
            | true =>
              have := (sames_at H5.out).1 e k hlt (by have := H5.out; omega)
              rw [HE.out] at this
              cases this
          go_wp2_with (go_at_call 18; refine IH.mono ?_; rintro e w5 ⟨rfl, HB5⟩)
          go_ret
          exact ⟨rfl, Lib.hid ((below_drew HB.out).trans (HB5.out.mono HB.out.size))⟩
      · obtain rfl : k = ks.length := by omega
        have g7 : ¬ ((ks.length : Int) < (ks.length : Int)) := by omega
        obtain rfl : r = true := by
          rw [← HR2.out]
          exact (sames_at H5.out).2 fun j h h' => HK.out j h h' h
        go_wp2_with fail
        go_ret
        exact ⟨rfl, HB⟩
  · have g5 : (((ks.length : Int) != (js.length : Int)) : Bool) = true := by
      rw [bne_iff_ne]
      omega
    obtain rfl : r = false := by
      rw [← HR2.out]
      cases e : samesB at_ ks js with
      | false => rfl
      | true => exact absurd (sames_len e) h5
    go_enter Tryd.func9, Tryd.ntmps9
    go_wp2_with fail
    go_ret
    exact ⟨rfl, HB0⟩

/-- the document's example -/
def exT : Tree := .mk true ⟨0, [], 0⟩ [.mk false ⟨3, [120], 0⟩ [], .mk true ⟨0, [], 0⟩ []]
theorem word_x : wordW 3 [120] = some [120] := by
  have hs : skipL [120] = [120] := by rw [skipL_cons, if_neg (by decide), if_neg (by decide)]
  have hc : scan [120] = .tok 3 [120] 1 := by unfold scan; rfl
  have hd : Rd [] 1 [] := .done (by unfold skipL; rfl)
  have st := Rd.step (p := 0) hs (by simp) hc (ts := []) hd
  have hr : readL [120] = .ok [⟨3, [120], 0⟩] := readL_ok.2 st
  have ht : told 3 [120] [120] = true := by unfold told; rw [hr]; rfl
  have hq : cands 3 [120] = [[120], [124, 120, 124]] := rfl
  unfold wordW
  rw [hq, List.find?_cons_of_pos ht]
theorem exT_text : text exT = some [40, 120, 32, 40, 41, 41] := by
  simp [exT, text, tails, word_x]
set_option maxRecDepth 100000 in
set_option maxHeartbeats 2000000 in
theorem speaks_any {w : World} (hsh : w.ShapedOpen Tryd.prog) :
    Calls Tryd.prog 6 #[] w fun e w' => e = .returned (.bool true) ∧ Hid (Below w.heap.size w w') := by
  have HSH := Lib.hid hsh
  clear hsh
  go_enter Tryd.func6, Tryd.ntmps6
  go_upto_region 2 with fail
  generalize hW : World.alloc _ _ = W1
  have HB1 : Hid (Below w.heap.size w W1) := Lib.hid (hW ▸ ((Below.refl _ w).alloc (Nat.le_refl _) _).alloc (by simp) _)
  have HT1 : Hid (Bk W1 (w.heap.size + 1) 37 #[.bool true, .int .i64 0, .string ⟨#[]⟩, .int .i64 0, .slice (some ⟨w.heap.size, 0, none⟩) 2 2]) := Lib.hid (by
    have := Bk.new (w.alloc (.cells #[.bool false, .int .i64 3, .string ⟨#[120]⟩, .int .i64 0, .slice none 0 0, .bool true, .int .i64 0, .string ⟨#[]⟩, .int .i64 0, .slice none 0 0] 37)) 37 #[.bool true, .int .i64 0, .string ⟨#[]⟩, .int .i64 0, .slice (some ⟨w.heap.size, 0, none⟩) 2 2]
    rw [hW] at this
    simpa using this)
  have HR1 : Hid (Bk W1 w.heap.size 37 #[.bool false, .int .i64 3, .string ⟨#[120]⟩, .int .i64 0, .slice none 0 0, .bool true, .int .i64 0, .string ⟨#[]⟩, .int .i64 0, .slice none 0 0]) := Lib.hid (hW ▸ (Bk.new w _ _).alloc _)
  clear hW
  have HV : Hid (Vt W1 (fun b => b < W1.heap.size) exT [.bool true, .int .i64 0, .string ⟨#[]⟩, .int .i64 0, .slice (some ⟨w.heap.size, 0, none⟩) 2 2]) := Lib.hid (by
    unfold exT Vt
    refine ⟨some ⟨w.heap.size, 0, none⟩, 2, rfl, Nat.le_refl _, fun _ => ⟨w.heap.size, 0, rfl, HR1.out.lt, HR1.out.lt, ?_⟩⟩
    unfold Vr
    refine ⟨⟨[.bool false, .int .i64 3, .string ⟨#[120]⟩, .int .i64 0, .slice none 0 0], by unfold Vt; exact ⟨none, 0, rfl, Nat.le_refl _, fun h => absurd h (by simp)⟩, fun j hj => ?_⟩, ?_⟩
    · rw [HR1.out.cell]
      match j, hj with
      | 0, _ | 1, _ | 2, _ | 3, _ | 4, _ => rfl
    · unfold Vr
      refine ⟨⟨[.bool true, .int .i64 0, .string ⟨#[]⟩, .int .i64 0, .slice none 0 0], by unfold Vt; exact ⟨none, 0, rfl, Nat.le_refl _, fun h => absurd h (by simp)⟩, fun j hj => ?_⟩, by unfold Vr; trivial⟩
      rw [HR1.out.cell]
      match j, hj with
      | 0, _ | 1, _ | 2, _ | 3, _ | 4, _ => rfl)
  have hsz : size exT = 5 := by simp [exT, size, sizes]
  have hwt : wt (evs exT) ≤ 40000000 := by simp [exT, evs, evss, wt, Ev.tok, zeroT]
  have P : Hid (Calls Tryd.prog 11 #[.agg #[.bool true, .int .i64 0, .string ⟨#[]⟩, .int .i64 0, .slice (some ⟨w.heap.size, 0, none⟩) 2 2]] W1 fun e w' => e = .returned (.tuple #[.string ⟨#[40, 120, 32, 40, 41, 41]⟩, .bool true]) ∧ Hid (Below W1.heap.size W1 w')) := Lib.hid ((text_any (lb := true) (u := ⟨0, [], 0⟩) (A := some ⟨w.heap.size, 0, none⟩) (c := 2) HV.out (by show size exT ≤ _; omega) hwt (shaped_below HSH.out HB1.out)).mono fun e w' r => ⟨by
    have h := r.1.out
    rw [show text (.mk true ⟨0, [], 0⟩ [.mk false ⟨3, [120], 0⟩ [], .mk true ⟨0, [], 0⟩ []]) = some [40, 120, 32, 40, 41, 41] from exT_text] at h
    exact h, r.2⟩)
  have t0 := HT1.out.cell 0
  have t1 := HT1.out.cell 1
  have t2 := HT1.out.cell 2
  have t3 := HT1.out.cell 3
  have t4 := HT1.out.cell 4
  go_upto_region 3 with (go_at_call 11; refine P.out.mono ?_; rintro e w2 ⟨rfl, hb2⟩)
  clear t0 t1 t2 t3 t4 P
  have HT2 := HT1.out.below hb2.out HT1.out.lt
  have t0 := HT2.cell 0
  have t1 := HT2.cell 1
  have t2 := HT2.cell 2
  have t3 := HT2.cell 3
  have t4 := HT2.cell 4
  have P2 : Hid (Calls Tryd.prog 13 #[.agg #[.bool true, .int .i64 0, .string ⟨#[]⟩, .int .i64 0, .slice (some ⟨w.heap.size, 0, none⟩) 2 2]] w2 fun e w' => e = .returned (.int .i64 5) ∧ Hid (Below w2.heap.size w2 w')) := Lib.hid ((size_any (lb := true) (u := ⟨0, [], 0⟩) (A := some ⟨w.heap.size, 0, none⟩) (c := 2) (HV.out.stays hb2.out.size (fun g hg hl => ⟨by have := hb2.out.size; omega, hb2.out.block g hl⟩)) (by show size exT ≤ _; omega)).mono fun e w' r => ⟨by
    have h := r.1
    rw [show size (.mk true ⟨0, [], 0⟩ [.mk false ⟨3, [120], 0⟩ [], .mk true ⟨0, [], 0⟩ []]) = 5 from hsz] at h
    exact h, r.2⟩)
  clear HT2
  go_wp2_with (go_at_call 13; refine P2.out.mono ?_; rintro e w3 ⟨rfl, hb3⟩)
  go_ret
  exact ⟨rfl, Lib.hid ((HB1.out.trans (hb2.out.mono HB1.out.size)).trans (hb3.out.mono (Nat.le_trans HB1.out.size hb2.out.size)))⟩
end Go.Proofs.YtmnllioeaaimcaaDoor.tr

/- The statement TreeReads, walked. -/
namespace Go.Proofs.YtmnllioeaaimcaaDoor.tr
open Go Go.RowKit Go.Proofs.YtmnllioeaaimcaaDoor.tk

/-- no more parts than tokens -/
def stackParts : List (Tok × List Tree) → Nat
  | [] => 0
  | q :: r => 1 + partss q.2 + stackParts r
theorem step_parts {deep : Int} {x : Tok} {s s' : State} (h : step deep x s = .ok s') : partss s'.1 + stackParts s'.2 ≤ partss s.1 + stackParts s.2 + 1 := by
  obtain ⟨ks, st⟩ := s
  unfold step at h
  dsimp only at h
  split at h
  · split at h
    · cases h
    · injection h with h; subst h; simp [partss, stackParts]; omega
  · split at h
    · cases st with
      | nil => cases h
      | cons q st =>
        obtain ⟨t, pk⟩ := q
        injection h with h; subst h
        simp [partss_append, partss, parts, stackParts]; omega
    · injection h with h; subst h
      simp [partss_append, partss, parts]; omega
theorem run_parts {deep : Int} {l : List Tok} : ∀ {s s' : State}, run deep l s = .ok s' → partss s'.1 + stackParts s'.2 ≤ partss s.1 + stackParts s.2 + l.length := by
  induction l with
  | nil => intro s s' h; injection h with h; subst h; simp
  | cons x r ih =>
    intro s s' h
    unfold run at h
    cases hx : step deep x s with
    | error e => rw [hx] at h; cases h
    | ok s1 =>
      rw [hx] at h
      have h1 := step_parts hx
      have h2 := ih h
      simp only [List.length_cons]
      omega
theorem read_parts {deep : Int} {l : List Tok} {ks : List Tree} (h : read deep l = .ok ks) : partss ks ≤ l.length := by
  have := run_parts (read_ok.1 h)
  simpa [partss, stackParts] using this
theorem rw_nil (w : World) (F : Nat → Prop) : Rw w F [] (.slice none 0 0) := ⟨none, 0, rfl, Nat.le_refl _, fun h => absurd h (by simp)⟩
section
variable {w : World} {deep : Int} {A : Option Addr} {l : List Tok} {cb : Nat} (ht : Hid (Tm w w.heap.size A l)) (hl : l.length ≤ 80000000)
include ht hl
theorem tread_bad {code : Nat} {p : Int} (h : read deep l = .error (code, p)) : Calls Tryd.prog 7 #[.slice A l.length cb, .int .i64 deep] w fun e w' => e = .returned (.tuple #[.slice none 0 0, .agg #[.int .i64 (code : Int), .int .i64 p]]) ∧ Hid (Below w.heap.size w w') :=
  (tread_any ht hl).mono fun e w' r => ⟨by have h2 := r.1.out; unfold ReadIs at h2; rw [h] at h2; exact h2, r.2⟩
theorem tread_ok {ts : List Tree} (h : read deep l = .ok ts) : Calls Tryd.prog 7 #[.slice A l.length cb, .int .i64 deep] w fun e w' => ∃ A3 M c3, e = .returned (.tuple #[.slice A3 M c3, .agg #[.int .i64 0, .int .i64 0]]) ∧ Hid (Rw w' (fun _ => True) ts (.slice A3 M c3)) ∧ Hid (Below w.heap.size w w') :=
  (tread_any ht hl).mono fun e w' r => by
    have h2 := r.1.out
    unfold ReadIs at h2
    rw [h] at h2
    obtain ⟨v, h3, h4⟩ := h2
    have h5 := h4
    obtain ⟨A3, c3, e3, _⟩ := h5
    rw [e3] at h3 h4
    exact ⟨_, _, _, h3, Lib.hid h4, r.2⟩
theorem rread_bad2 {code : Nat} {p : Int} (h : read deep l = .error (code, p)) : Calls Tryd.prog 8 #[.slice A l.length cb, .int .i64 deep] w fun e w' => e = .returned (.tuple #[.slice none 0 0, .int .i64 (code : Int), .int .i64 p]) ∧ Hid (Below w.heap.size w w') :=
  (refRead_any ht hl).mono fun e w' r => ⟨by have h2 := r.1.out; unfold RefIs at h2; rw [h] at h2; exact h2, r.2⟩
theorem rread_ok2 {ts : List Tree} (h : read deep l = .ok ts) : Calls Tryd.prog 8 #[.slice A l.length cb, .int .i64 deep] w fun e w' => ∃ A3 M c3, e = .returned (.tuple #[.slice A3 M c3, .int .i64 0, .int .i64 0]) ∧ Hid (Rw w' (fun _ => True) ts (.slice A3 M c3)) ∧ Hid (Below w.heap.size w w') :=
  (refRead_any ht hl).mono fun e w' r => by
    have h2 := r.1.out
    unfold RefIs at h2
    rw [h] at h2
    obtain ⟨v, h3, h4⟩ := h2
    have h5 := h4
    obtain ⟨A3, c3, e3, _⟩ := h5
    rw [e3] at h3 h4
    exact ⟨_, _, _, h3, Lib.hid h4, r.2⟩
end

set_option maxRecDepth 100000 in
set_option maxHeartbeats 4000000 in
/-- the statement TreeReads: for every list and every depth -/
theorem treeReads_any {w : World} (hsh : w.ShapedOpen Tryd.prog) {deep : Int} {A : Option Addr} {l : List Tok} {cb : Nat} (ht : Tm w w.heap.size A l) :
    Calls Tryd.prog 3 #[.slice A l.length cb, .int .i64 deep] w fun e w' => e = .returned (.bool true) ∧ Hid (Below w.heap.size w w') := by
  have SP := Lib.hid (speaks_any hsh)
  have HT := Lib.hid ht
  clear ht hsh
  obtain ⟨N, hN⟩ : ∃ N, l.length = N := ⟨_, rfl⟩
  have HN := Lib.hid hN
  rw [hN]
  clear hN
  by_cases hlen : N ≤ 3000
  · have g0 : ¬ ((3000 : Int) < (N : Int)) := by omega
    have HL : Hid (l.length ≤ 80000000) := Lib.hid (by rw [HN.out]; omega)
    cases hr : read deep l with
    | error er =>
      obtain ⟨code, p⟩ := er
      have HE := Lib.hid hr
      clear hr
      go_enter Tryd.func3, Tryd.ntmps3
      go_upto_region 5 with (go_at_call 6; refine SP.out.mono ?_; rintro e w1 ⟨rfl, hb1⟩)
      have HT1 := Lib.hid ((HT.out.below hb1.out).mono hb1.out.size)
      have P1 : Hid (Calls Tryd.prog 7 #[.slice A N cb, .int .i64 deep] w1 fun e w' => e = .returned (.tuple #[.slice none 0 0, .agg #[.int .i64 (code : Int), .int .i64 p]]) ∧ Hid (Below w1.heap.size w1 w')) := Lib.hid (HN.out ▸ tread_bad HT1 HL.out HE.out)
      go_upto_region 6 with (go_at_call 7; refine P1.out.mono ?_; rintro e w2 ⟨rfl, hb2⟩)
      generalize hW : World.alloc _ _ = W2
      have HF2 : Hid (Bk W2 w2.heap.size 27 #[.int .i64 (code : Int), .int .i64 p]) := Lib.hid (hW ▸ Bk.new w2 _ _)
      have HB2 : Hid (Below w.heap.size w W2) := Lib.hid (hb1.out.trans ((hb2.out.mono hb1.out.size).trans (hW ▸ (Below.refl _ w2).alloc (Nat.le_trans hb1.out.size hb2.out.size) _)))
      clear hW hb1 hb2 HT1 P1
      have HT2 := Lib.hid ((HT.out.below HB2.out).mono HB2.out.size)
      have P2 : Hid (Calls Tryd.prog 8 #[.slice A N cb, .int .i64 deep] W2 fun e w' => e = .returned (.tuple #[.slice none 0 0, .int .i64 (code : Int), .int .i64 p]) ∧ Hid (Below W2.heap.size W2 w')) := Lib.hid (HN.out ▸ rread_bad2 HT2 HL.out HE.out)
      go_upto_region 7 with (go_at_call 8; refine P2.out.mono ?_; rintro e w3 ⟨rfl, hb3⟩)
      have hF3 := HF2.out.below hb3.out HF2.out.lt
      have f0 : w3.cell? ⟨w2.heap.size, 0, none⟩ = some (.int .i64 (code : Int)) := hF3.cell 0
      have f1 : w3.cell? ⟨w2.heap.size, 1, none⟩ = some (.int .i64 p) := hF3.cell 1
      have P3 := Lib.hid (same_any (w := w3) (F := fun _ => True) (G := fun _ => True) (at_ := true) (Lib.hid (rw_nil w3 _)) (Lib.hid (rw_nil w3 _)) (by simp [partss]))
      rw [show samesB true [] [] = true from (sames_iff _ _).2 rfl] at P3
      have HB3 := Lib.hid (HB2.out.trans (hb3.out.mono HB2.out.size))
      clear hF3 hb3 P2 HT2
      go_wp2_with (go_at_call 9; refine P3.out.mono ?_; rintro e w4 ⟨rfl, hb4⟩)
      go_ret
      exact ⟨rfl, Lib.hid (HB3.out.trans (hb4.out.mono HB3.out.size))⟩
    | ok ts =>
      have HE := Lib.hid hr
      clear hr
      go_enter Tryd.func3, Tryd.ntmps3
      go_upto_region 5 with (go_at_call 6; refine SP.out.mono ?_; rintro e w1 ⟨rfl, hb1⟩)
      have HT1 := Lib.hid ((HT.out.below hb1.out).mono hb1.out.size)
      have P1 : Hid (Calls Tryd.prog 7 #[.slice A N cb, .int .i64 deep] w1 fun e w' => ∃ A3 M c3, e = .returned (.tuple #[.slice A3 M c3, .agg #[.int .i64 0, .int .i64 0]]) ∧ Hid (Rw w' (fun _ => True) ts (.slice A3 M c3)) ∧ Hid (Below w1.heap.size w1 w')) := Lib.hid (HN.out ▸ tread_ok HT1 HL.out HE.out)
      go_upto_region 6 with (go_at_call 7; refine P1.out.mono ?_; rintro e w2 ⟨A3, M, c3, rfl, hv2, hb2⟩)
      generalize hW : World.alloc _ _ = W2
      have HF2 : Hid (Bk W2 w2.heap.size 27 #[.int .i64 0, .int .i64 0]) := Lib.hid (hW ▸ Bk.new w2 _ _)
      have HB2 : Hid (Below w.heap.size w W2) := Lib.hid (hb1.out.trans ((hb2.out.mono hb1.out.size).trans (hW ▸ (Below.refl _ w2).alloc (Nat.le_trans hb1.out.size hb2.out.size) _)))
      have HV2 : Hid (Rw W2 (fun _ => True) ts (.slice A3 M c3)) := Lib.hid (hv2.out.stays (by rw [← hW]; simp) (fun g _ hl => ⟨trivial, by rw [← hW]; exact Below.heap_alloc w2 _ g hl⟩))
      clear hW hb1 hb2 HT1 P1 hv2
      have HT2 := Lib.hid ((HT.out.below HB2.out).mono HB2.out.size)
      have P2 : Hid (Calls Tryd.prog 8 #[.slice A N cb, .int .i64 deep] W2 fun e w' => ∃ A3 M c3, e = .returned (.tuple #[.slice A3 M c3, .int .i64 0, .int .i64 0]) ∧ Hid (Rw w' (fun _ => True) ts (.slice A3 M c3)) ∧ Hid (Below W2.heap.size W2 w')) := Lib.hid (HN.out ▸ rread_ok2 HT2 HL.out HE.out)
      go_upto_region 7 with (go_at_call 8; refine P2.out.mono ?_; rintro e w3 ⟨A4, M4, c4, rfl, hv3, hb3⟩)
      have hF3 := HF2.out.below hb3.out HF2.out.lt
      have f0 : w3.cell? ⟨w2.heap.size, 0, none⟩ = some (.int .i64 0) := hF3.cell 0
      have f1 : w3.cell? ⟨w2.heap.size, 1, none⟩ = some (.int .i64 0) := hF3.cell 1
      have HPT : Hid (partss ts ≤ 100000000) := Lib.hid (by have := read_parts HE.out; have := HL.out; omega)
      have P3 := Lib.hid (same_any (w := w3) (F := fun _ => True) (G := fun _ => True) (at_ := true) (Lib.hid (HV2.out.stays hb3.out.size (fun g _ hl => ⟨trivial, hb3.out.block g hl⟩))) hv3 HPT.out)
      rw [show samesB true ts ts = true from (sames_iff _ _).2 rfl] at P3
      have HB3 := Lib.hid (HB2.out.trans (hb3.out.mono HB2.out.size))
      clear hF3 hb3 P2 HT2
      go_wp2_with (go_at_call 9; refine P3.out.mono ?_; rintro e w4 ⟨rfl, hb4⟩)
      go_ret
      exact ⟨rfl, Lib.hid (HB3.out.trans (hb4.out.mono HB3.out.size))⟩
  · have g0 : (3000 : Int) < (N : Int) := by omega
    go_enter Tryd.func3, Tryd.ntmps3
    go_wp2_with (go_at_call 6; refine SP.out.mono ?_; rintro e w1 ⟨rfl, hb1⟩)
    go_ret
    exact ⟨rfl, hb1⟩
end Go.Proofs.YtmnllioeaaimcaaDoor.tr
