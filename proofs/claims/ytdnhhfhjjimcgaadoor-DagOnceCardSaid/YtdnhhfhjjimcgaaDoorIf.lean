/- The statement DagSorts: what holds of all sorts, as mathematics; are two rows of functions one. -/
import Derived.Test.YtdnhhfhjjimcgaaDoorIc
namespace Go.Proofs.YtdnhhfhjjimcgaaDoor.dg
open Go Go.RowKit
set_option linter.unusedVariables false
set_option linter.unusedSimpArgs false

/-- what holds of sorts, wherever they were added; no terms are there -/
structure Sk (S : St) : Prop where
  no : S.terms = []
  one : ∀ (i j : Nat) (hi : i < S.sorts.length) (hj : j < S.sorts.length), i < j → S.sorts[i] ≠ S.sorts[j]
  low : ∀ (i : Nat) (hi : i < S.sorts.length), ∀ k ∈ (S.sorts[i]).args, k < (i : Int)
theorem Sk.new (m : Int) : Sk (St.new m) := by
  refine ⟨rfl, fun i j hi hj hij => ?_, fun i hi k hk => ?_⟩
  · have hj2 : j < 2 := hj
    obtain ⟨rfl, rfl⟩ : i = 0 ∧ j = 1 := by omega
    intro h
    have h2 : boolN = intN := congrArg Srt.name h
    exact absurd h2 (by decide)
  · have hi2 : i < 2 := hi
    rcases (by omega : i = 0 ∨ i = 1) with rfl | rfl <;> simp [St.new] at hk
theorem Sk.sort {S S' : St} (h : Sk S) {n : ByteArray} {l : List Int} {z er : Int} (hz : S.sort n l = (z, er, S')) :
    Sk S' ∧ S'.sort n l = (z, er, S') ∧ S'.funs = S.funs ∧ (er = 0 → ∃ p : Nat, z = (p : Int) ∧ ∃ hp : p < S'.sorts.length, S'.sorts[p] = ⟨n, l⟩) := by
  have hz0 := hz
  unfold St.sort at hz
  split at hz
  · simp only [Prod.mk.injEq] at hz
    obtain ⟨rfl, rfl, rfl⟩ := hz
    exact ⟨h, hz0, rfl, fun h => absurd h (by decide)⟩
  · rename_i hall
    have hall2 : l.all S.isSort = true := by simpa using hall
    split at hz
    · rename_i p hp
      simp only [Prod.mk.injEq] at hz
      obtain ⟨rfl, rfl, rfl⟩ := hz
      obtain ⟨h1, h2, _⟩ := find_some hp
      exact ⟨h, hz0, rfl, fun _ => ⟨p, rfl, h1, sameS_iff.1 h2⟩⟩
    · rename_i hp
      simp only [Prod.mk.injEq] at hz
      obtain ⟨rfl, rfl, rfl⟩ := hz
      have hno := find_none hp
      have hsl : ∀ k ∈ l, 0 ≤ k ∧ k < (S.sorts.length : Int) := fun k hk => by
        have := List.all_eq_true.1 hall2 k hk
        simpa [St.isSort] using this
      refine ⟨⟨h.no, fun i j hi hj hij => ?_, fun i hi k hk => ?_⟩, ?_, rfl, fun _ => ⟨_, rfl, by simp, by simp⟩⟩
      · simp only [List.length_append, List.length_singleton] at hi hj
        have hi' : i < S.sorts.length := by omega
        by_cases hjl : j < S.sorts.length
        · simp only [List.getElem_append_left hi', List.getElem_append_left hjl]
          exact h.one i j hi' hjl hij
        · obtain rfl : j = S.sorts.length := by omega
          simp only [List.getElem_append_left hi', List.getElem_concat_length]
          intro e
          have := hno i hi'
          rw [sameS_iff.2 e] at this
          cases this
      · simp only [List.length_append, List.length_singleton] at hi
        by_cases hil : i < S.sorts.length
        · simp only [List.getElem_append_left hil] at hk
          exact h.low i hil k hk
        · obtain rfl : i = S.sorts.length := by omega
          simp only [List.getElem_concat_length] at hk
          exact (hsl k hk).2
      · unfold St.sort
        have ha : l.all ({ S with sorts := S.sorts ++ [⟨n, l⟩] } : St).isSort = true := List.all_eq_true.2 fun k hk => by
          have := hsl k hk
          simp [St.isSort]
          omega
        have hpl : ({ S with sorts := S.sorts ++ [⟨n, l⟩] } : St).placeS n l = some S.sorts.length := find_at (by simp) (sameS_iff.2 (by simp)) (fun j hj => by
          simp only [List.getElem_append_left hj]
          exact hno j hj)
        rw [if_neg (by rw [ha]; simp), hpl]
theorem Sk.fun_ {S S' : St} (h : Sk S) {f : Fnn} {z er : Int} (hz : S.fun_ f = (z, er, S')) : Sk S' ∧ (er = 0 → z = (S.funs.length : Int) ∧ S'.funs = S.funs ++ [f]) ∧ (er ≠ 0 → S'.funs = S.funs) := by
  unfold St.fun_ at hz
  split at hz
  · simp only [Prod.mk.injEq] at hz
    obtain ⟨rfl, rfl, rfl⟩ := hz
    exact ⟨h, fun h => absurd h (by decide), fun _ => rfl⟩
  · simp only [Prod.mk.injEq] at hz
    obtain ⟨rfl, rfl, rfl⟩ := hz
    exact ⟨⟨h.no, h.one, h.low⟩, fun _ => ⟨rfl, rfl⟩, fun h => absurd rfl h⟩
theorem FnnC.drewN {w : World} {I : Nat → Prop} (n : Nat) (s : Fnn) (cs : List Value) (h : FnnC w I s cs) : FnnC (w.drewN n) I s cs := h.stays (Nat.le_refl _) fun g hg _ => ⟨hg, rfl⟩
theorem SrtC.drewN {w : World} {I : Nat → Prop} (n : Nat) (s : Srt) (cs : List Value) (h : SrtC w I s cs) : SrtC (w.drewN n) I s cs := h.stays (Nat.le_refl _) fun g hg _ => ⟨hg, rfl⟩
theorem Vw.drewN {α : Type} {w : World} {e : TypeId} {size : Nat} {ok ok' : α → List Value → Prop} {l : List α} {v : Value} (h : Vw w e size ok l v) (n : Nat) (hk : ∀ x cs, ok x cs → ok' x cs) : Vw (w.drewN n) e size ok' l v := by
  obtain ⟨xs, h1, h2⟩ := h
  exact ⟨xs, own_stays h1 fun g _ => rfl, h2.mono fun x _ cs => hk x cs⟩

set_option maxRecDepth 100000 in
set_option maxHeartbeats 4000000 in
theorem funsEq_any {w : World} {v1 v2 : Value} {l : List Fnn} {I I' : Nat → Prop} (h1 : Hid (Vw w 63 3 (FnnC w I) l v1)) (h2 : Hid (Vw w 63 3 (FnnC w I') l v2)) (hln : l.length ≤ 1000000) (hal : Hid (∀ x ∈ l, x.args.length ≤ 1000000)) :
    Calls Tryd.prog 14 #[v1, v2] w fun e w' => e = .returned (.bool true) ∧ ∃ n, w' = w.drewN n := by
  obtain ⟨A, c, hv, _, _⟩ := h1.out.slice
  subst hv
  obtain ⟨B, d, hv, _, _⟩ := h2.out.slice
  subst hv
  obtain ⟨N, hN⟩ : ∃ N, l.length = N := ⟨_, rfl⟩
  rw [hN] at h1 h2 hln ⊢
  have HN := Lib.hid hN
  clear hN
  go_enter Tryd.func14, Tryd.ntmps14
  go_upto_region 4 with fail
  go_loopw [13] (fun iv wr => ∃ k : Nat, k ≤ N ∧ iv = .int .i64 (k : Int) ∧ Hid (∃ q, wr = w.drewN q)) (fun iv _ => N - (intOf iv).toNat)
  case atStart => exact ⟨0, Nat.zero_le _, rfl, Lib.hid ⟨0, rfl⟩⟩
  case round =>
    obtain ⟨k, hk, rfl, HQ⟩ := hrel
    by_cases hlt : k < N
    · have g7 : (k : Int) < (N : Int) := by omega
      have g9 : decide ((N : Int) ≤ (k : Int)) = false := decide_eq_false (by omega)
      have HVR : Hid (Vw wr 63 3 (FnnC wr I) l (.slice A N c) ∧ Vw wr 63 3 (FnnC wr I') l (.slice B N d)) := Lib.hid (by
        obtain ⟨q, rfl⟩ := HQ.out
        exact ⟨h1.out.drewN q (FnnC.drewN q), h2.out.drewN q (FnnC.drewN q)⟩)
      obtain ⟨g4, e4, ds4, q4, _, ⟨A4, c4, rfl, ri4⟩, h4⟩ := HVR.out.1.get FnnC.len (j := k) (by rw [HN.out]; exact hlt)
      obtain ⟨g5, e5, ds5, q5, _, ⟨A5, c5, rfl, ri5⟩, h5⟩ := HVR.out.2.get FnnC.len (j := k) (by rw [HN.out]; exact hlt)
      rw [HN.out] at q4 q5
      injection q4 with q4 _ q4'
      injection q5 with q5 _ q5'
      subst q4 q4' q5 q5'
      obtain ⟨x, hx⟩ : ∃ x, l[k]'(by rw [HN.out]; exact hlt) = x := ⟨_, rfl⟩
      have hxl : x.args.length ≤ 1000000 := hal.out x (hx ▸ List.getElem_mem _)
      rw [hx] at ri4 ri5 h4 h5
      have a0 := h4 0 (by omega)
      have a1 := h4 1 (by omega)
      have a2 := h4 2 (by omega)
      have b0 := h5 0 (by omega)
      have b1 := h5 1 (by omega)
      have b2 := h5 2 (by omega)
      rw [Nat.add_zero] at a0 b0
      simp only [List.getElem?_cons_zero, List.getElem?_cons_succ] at a0 a1 a2 b0 b1 b2
      have R4 := Lib.hid ri4
      have R5 := Lib.hid ri5
      have hself : (x.args == x.args) = true := by simp
      have hselfn : (x.name.toList != x.name.toList) = false := by simp
      have hselfz : ((x.res != x.res) : Bool) = false := by simp
      have PQ : ∀ q, Calls Tryd.prog 25 #[.slice A4 x.args.length c4, .slice A5 x.args.length c5] (wr.drewN q) fun e w'' => e = .returned (.bool true) ∧ ∃ p, w'' = wr.drewN p := fun q =>
        (sameInts_any (w := wr.drewN q) (Lib.hid (R4.out.drewN q)) (Lib.hid (R5.out.drewN q)) hxl).mono fun _ _ hx => ⟨by rw [hx.1, hself], by obtain ⟨p, hp⟩ := hx.2; exact ⟨q + p, by rw [hp]; exact World.drewN_drewN ..⟩⟩
      clear h4 h5 ri4 ri5 hx
      go_upto_region 6 with fail
      go_quiet (exact PQ _)
      have HQ2 : Hid (∃ q, wr.drewN nq = w.drewN q) := Lib.hid (by obtain ⟨q, rfl⟩ := HQ.out; exact ⟨q + nq, World.drewN_drewN ..⟩)
      clear PQ a0 a1 a2 b0 b1 b2 HVR HQ R4 R5
      generalize wr.drewN nq = W6 at *
      go_wp2_with fail
      go_roundw
      case rel => exact ⟨k + 1, by omega, by go_num, HQ2⟩
      case measure => simp [intOf]; omega
    · obtain rfl : k = N := by omega
      have g7 : ¬ ((k : Int) < (k : Int)) := by omega
      go_wp2_with fail
      go_ret
      exact ⟨rfl, HQ.out⟩
theorem alike_any {w : World} {v1 v2 : Value} {l : List Fnn} {I I' : Nat → Prop} (h1 : Hid (Vw w 63 3 (FnnC w I) l v1)) (h2 : Hid (Vw w 63 3 (FnnC w I') l v2)) (hln : l.length ≤ 1000000) (hal : Hid (∀ x ∈ l, x.args.length ≤ 1000000)) :
    Calls Tryd.prog 30 #[v1, v2] w fun e w' => e = .returned (.bool true) ∧ ∃ n, w' = w.drewN n := by
  go_enter Tryd.func30, Tryd.ntmps30
  go_wp2_with (go_at_call 14; refine (funsEq_any h1 h2 hln hal).mono ?_; rintro e W1 ⟨rfl, HQ⟩)
  go_ret
  exact ⟨rfl, HQ⟩
end Go.Proofs.YtdnhhfhjjimcgaaDoor.dg
