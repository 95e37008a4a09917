/- The document's answers Same, make1, Int. -/
import Derived.Test.YtgmnpajecpjklaaDoorRef
namespace Go.Proofs.YtgmnpajecpjklaaDoor.wh
open Go.RowKit

theorem same_iff {nx ny : Bool} {xs ys : List Nat} {a b : Int} (hx : rightB nx xs = true) (hy : rightB ny ys = true) (ha : zval nx xs = a) (hb : zval ny ys = b) : decide (nx = ny ∧ xs = ys) = decide (a = b) := by
  subst ha hb
  rw [Bool.eq_iff_iff, decide_eq_true_iff, decide_eq_true_iff]
  constructor
  · rintro ⟨rfl, rfl⟩; rfl
  · intro h; exact zval_unique hx hy h

theorem take_ne {xs ys : List Nat} {k : Nat} (hx : k < xs.length) (hy : k < ys.length) (h : xs[k] ≠ ys[k]) : xs ≠ ys := fun e => by subst e; exact h rfl
theorem take_step {xs ys : List Nat} {k : Nat} (hx : k < xs.length) (hy : k < ys.length) (h : xs.take k = ys.take k) (e : xs[k] = ys[k]) : xs.take (k + 1) = ys.take (k + 1) := by
  rw [List.take_succ_eq_append_getElem hx, List.take_succ_eq_append_getElem hy, h, e]

set_option maxRecDepth 100000 in
set_option maxHeartbeats 1000000 in
theorem same_any {v u : Value} {p q : Nat} {a b : Int} {w : World} (hp : p ≤ 100000) (hx : IsInt w w.heap.size p v a) (hy : IsInt w w.heap.size q u b) :
    Calls Tryd.prog 12 #[v, u] w fun e w' => e = .returned (.bool (decide (a = b))) ∧ Hid (Below w.heap.size w w') := by
  obtain ⟨nx, A, n, c, xs, rfl, hnp, CX, ZX⟩ := hx.cells
  obtain ⟨ny, B, m, d, ys, rfl, hmq, CY, ZY⟩ := hy.cells
  rw [← same_iff CX.out.right CY.out.right ZX.out ZY.out]
  clear hx hy ZX ZY
  have HT : Hid (Two w w.heap.size nx A n c (w.heap.size + 1) ny B m d ((w.alloc (.cells #[.bool nx, .slice A n c] 24)).alloc (.cells #[.bool ny, .slice B m d] 24))) :=
    ⟨((Below.refl _ _).alloc (Nat.le_refl _) _).alloc (by simp) _, (Box.new _ _ _ _ _).alloc _, by have h := Box.new (w.alloc (.cells #[.bool nx, .slice A n c] 24)) ny B m d; rwa [World.size_alloc] at h, Nat.le_refl _, by omega, by omega⟩
  by_cases hneg : nx = ny
  · subst hneg
    by_cases hlen : n = m
    · subst hlen
      go_enter Tryd.func12, Tryd.ntmps12
      go_wp2
      go_loopw [5] (fun i wr => (∃ k : Nat, k ≤ n ∧ i = .int .i64 k ∧ Hid (xs.take k = ys.take k)) ∧ Hid (Two w w.heap.size nx A n c (w.heap.size + 1) nx B n d wr)) (fun i _ => n - (intOf i).toNat)
      case atStart => exact ⟨⟨0, Nat.zero_le _, rfl, rfl⟩, HT⟩
      case round =>
        obtain ⟨⟨k, hk, rfl, ha⟩, ht⟩ := hrel
        have c1 := ht.out.one.c1
        have c2 := ht.out.two.c1
        by_cases hlt : k < n
        · have hkx : k < xs.length := by rw [CX.out.len]; exact hlt
          have hky : k < ys.length := by rw [CY.out.len]; exact hlt
          obtain ⟨b1, off1, rfl, _, hc1⟩ := (CX.out.over ht.out.below).rd.at_ hkx
          obtain ⟨b2, off2, rfl, _, hc2⟩ := (CY.out.over ht.out.below).rd.at_ hky
          by_cases he : xs[k] = ys[k]
          · have he' : (((xs[k] : Nat) : Int) != ((ys[k] : Nat) : Int)) = false := by simp [he]
            have HE := Lib.hid (take_step hkx hky ha.out he)
            clear he
            go_wp2
            go_quiet (fail)
            go_wp2
            go_roundw
            case rel => exact ⟨⟨k + 1, by omega, by go_num, HE.out⟩, ⟨below_drewN ht.out.below _, ht.out.one.drewN _, ht.out.two.drewN _, ht.out.le⟩⟩
            case measure => simp [intOf]; omega
          · have he' : (((xs[k] : Nat) : Int) != ((ys[k] : Nat) : Int)) = true := by simp; omega
            have HE : Hid (xs ≠ ys) := take_ne hkx hky he
            clear he
            go_wp2
            go_quiet (fail)
            go_wp2
            go_ret
            exact ⟨ret_bool (by simp [HE.out]), below_drewN ht.out.below _⟩
        · have HE : Hid (xs = ys) := by
            have h := ha.out
            obtain rfl : k = n := by omega
            rwa [List.take_of_length_le (by rw [CX.out.len]; exact Nat.le_refl _), List.take_of_length_le (by rw [CY.out.len]; exact Nat.le_refl _)] at h
          go_wp2
          go_ret
          exact ⟨ret_bool (by simp [HE.out]), ht.out.below⟩
    · have hl' : (((n : Nat) : Int) != ((m : Nat) : Int)) = true := by simp; omega
      have HE : Hid (xs ≠ ys) := fun e => hlen (by rw [← CX.out.len, ← CY.out.len, e])
      clear hlen
      go_enter Tryd.func12, Tryd.ntmps12
      go_wp2
      go_ret
      exact ⟨ret_bool (by simp [HE.out]), HT.out.below⟩
  · have hn' : (nx != ny) = true := by simp [hneg]
    have HE := Lib.hid hneg
    clear hneg
    go_enter Tryd.func12, Tryd.ntmps12
    go_wp2
    go_ret
    exact ⟨ret_bool (by simp [HE.out]), HT.out.below⟩

/-- a sign and decimal digits of known cells -/
def GivesNum (W : World) (m : Nat) (z : Int) (e : Ending) (w' : World) : Prop := ∃ neg A n c, e = .returned (.agg #[.bool neg, .slice A n c]) ∧ Hid (IsNum w' w'.heap.size m (.agg #[.bool neg, .slice A n c]) z) ∧ Hid (Below W.heap.size W w')

theorem tz_cut {neg : Bool} {ds : List Nat} {k : Nat} (h : CutAt ds k) : tz neg (ds.take k) = tz neg ds := by unfold tz; rw [h.2.2]

set_option maxRecDepth 100000 in
set_option maxHeartbeats 1000000 in
theorem make1_any (neg : Bool) (A : Option Addr) (n c : Nat) (ds : List Nat) (w : World) (hl : ds.length = n) (hn : n ≤ 1000000) (hnc : n ≤ c) (hr : Rn w w.heap.size A ds) (hd : Ten ds) :
    Calls Tryd.prog 33 #[.bool neg, .slice A n c] w fun e w' => GivesNum w n (tz neg ds) e w' := by
  have HR := Lib.hid hr
  have HL := Lib.hid hl
  have HD := Lib.hid hd
  clear hr hl hd
  go_enter Tryd.func33, Tryd.ntmps33
  go_wp2_with fail
  refine (cut_any A n c ds _ HL.out (by have := HL.out; unfold maxLen; omega) (by have := HL.out; omega) (HR.out.alloc' _)).mono ?_
  rintro e w1 ⟨⟨k, rfl, ht⟩, rfl⟩
  have HT := Lib.hid ht
  clear ht
  cases k with
  | zero =>
    have hz : Hid (tz neg ds = 0) := by
      have h := HT.out.2.2
      simp [tval] at h
      show tz neg ds = 0
      cases neg <;> simp [tz, ← h]
    cases neg with
    | true =>
      go_wp2
      refine bodyPost_ret (v := .agg #[.bool false, .slice A 0 c]) (by simp [results, Tryd.results33, go_sem]) rfl ⟨false, A, 0, c, rfl, ⟨false, A, 0, c, [], rfl, rfl, Rn.nil, Nat.zero_le _, Nat.zero_le _, Ten.nil, Top.nil, fun _ => rfl, by rw [hz.out]; rfl⟩, (Below.refl _ _).alloc (Nat.le_refl _) _⟩
    | false =>
      go_wp2
      refine bodyPost_ret (v := .agg #[.bool false, .slice A 0 c]) (by simp [results, Tryd.results33, go_sem]) rfl ⟨false, A, 0, c, rfl, ⟨false, A, 0, c, [], rfl, rfl, Rn.nil, Nat.zero_le _, Nat.zero_le _, Ten.nil, Top.nil, fun _ => rfl, by rw [hz.out]; rfl⟩, (Below.refl _ _).alloc (Nat.le_refl _) _⟩
  | succ k =>
    have hlen : Hid ((ds.take (k + 1)).length = k + 1) := by show _ = _; rw [List.length_take]; have := HT.out.1; omega
    have hnum : ∀ o : Obj, Hid (IsNum (w.alloc o) (w.alloc o).heap.size n (.agg #[.bool neg, .slice A (k + 1) c]) (tz neg ds)) := fun o => by
      have h1 := HT.out.1
      have h2 := HL.out
      exact ⟨neg, A, k + 1, c, ds.take (k + 1), rfl, hlen.out, (HR.out.take _).alloc' _, by omega, by omega, HD.out.take _, HT.out.2.1, fun e => by have := hlen.out; rw [e] at this; simp at this, tz_cut HT.out⟩
    have HN := Lib.hid hnum
    clear hnum
    cases neg with
    | true =>
      go_wp2
      exact bodyPost_ret (v := .agg #[.bool true, .slice A (k + 1) c]) (by simp [results, Tryd.results33, go_sem]) rfl ⟨true, A, k + 1, c, rfl, HN.out _, (Below.refl _ _).alloc (Nat.le_refl _) _⟩
    | false =>
      go_wp2
      exact bodyPost_ret (v := .agg #[.bool false, .slice A (k + 1) c]) (by simp [results, Tryd.results33, go_sem]) rfl ⟨false, A, k + 1, c, rfl, HN.out _, (Below.refl _ _).alloc (Nat.le_refl _) _⟩
end Go.Proofs.YtgmnpajecpjklaaDoor.wh
