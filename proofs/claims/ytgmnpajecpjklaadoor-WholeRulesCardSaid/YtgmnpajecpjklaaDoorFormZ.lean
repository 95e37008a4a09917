/- The document's answer Form: decimal digits as digits to the base of 10^9. -/
import Derived.Test.YtgmnpajecpjklaaDoorForm
namespace Go.Proofs.YtgmnpajecpjklaaDoor.wh
open Go.RowKit

theorem pow9 (j : Nat) : (1000000000 : Nat) ^ j = 10 ^ (9 * j) := by
  rw [show (1000000000 : Nat) = 10 ^ 9 by decide, ← Nat.pow_mul]
/-- after j digits of the base 10^9 -/
def FormAt (ds : List Nat) (j : Nat) (outs : List Nat) : Prop := outs.length = j ∧ Dig outs ∧ val outs = tval (ds.take (9 * j)) ∧ (ds.length ≤ 9 * j → Top outs)
theorem formAt_zero (ds : List Nat) : FormAt ds 0 [] := ⟨rfl, Dig.nil, by simp [val, tval], fun _ => Top.nil⟩
/-- the digits of place i to i + 8, from k on -/
def chunk (ds : List Nat) (i k : Nat) : Nat := tval ((ds.take (i + 9)).drop k)
theorem chunk_end (ds : List Nat) (i : Nat) : chunk ds i (i + 9) = 0 := by
  unfold chunk
  rw [List.drop_eq_nil_of_le (by rw [List.length_take]; omega)]
  rfl
theorem chunk_in {ds : List Nat} {i k : Nat} (hk : k < ds.length) (hi : k < i + 9) : chunk ds i k = ds[k] + 10 * chunk ds i (k + 1) := by
  unfold chunk
  rw [tval_drop (by rw [List.length_take]; omega), List.getElem_take]
theorem chunk_out {ds : List Nat} {i k : Nat} (hk : ds.length ≤ k) : chunk ds i k = 0 := by
  unfold chunk
  rw [List.drop_eq_nil_of_le (by rw [List.length_take]; omega)]
  rfl
theorem chunk_lt {ds : List Nat} (hd : Ten ds) {i k : Nat} (hi : i ≤ k) : chunk ds i k < 1000000000 := by
  unfold chunk
  have h := tval_lt ((hd.take (i + 9)).drop k)
  have h2 : ((ds.take (i + 9)).drop k).length ≤ 9 := by simp; omega
  have h3 : 10 ^ ((ds.take (i + 9)).drop k).length ≤ 10 ^ 9 := Nat.pow_le_pow_right (by omega) h2
  omega
theorem formAt_step {ds outs : List Nat} {j : Nat} (h : FormAt ds j outs) (hj : 9 * j < ds.length) (hd : Ten ds) (ht : Top ds) : FormAt ds (j + 1) (outs ++ [chunk ds (9 * j) (9 * j)]) := by
  obtain ⟨h1, h2, h3, h4⟩ := h
  have hc := chunk_lt hd (Nat.le_refl (9 * j))
  refine ⟨by simp [h1], h2.append (Dig.cons hc Dig.nil), ?_, fun hl => ?_⟩
  · rw [val_snoc, h1, h3, pow9]
    have e : ds.take (9 * (j + 1)) = ds.take (9 * j) ++ (ds.take (9 * j + 9)).drop (9 * j) := by
      have e1 : 9 * (j + 1) = 9 * j + 9 := by omega
      rw [e1]
      have := List.take_append_drop (9 * j) (ds.take (9 * j + 9))
      rw [List.take_take, Nat.min_eq_left (by omega)] at this
      exact this.symm
    rw [e, tval_append, List.length_take, Nat.min_eq_left (by omega)]
    rfl
  · intro hn
    rw [List.getLast_append_of_ne_nil _ (by simp)]
    show chunk ds (9 * j) (9 * j) ≠ 0
    unfold chunk
    rw [List.take_of_length_le (by omega)]
    have htd : Top (ds.drop (9 * j)) := by
      intro hne
      rw [List.getLast_drop hne]
      exact ht _
    have h5 := ttop_ge htd (by intro e; have := congrArg List.length e; simp at this; omega)
    have h6 : 0 < 10 ^ ((ds.drop (9 * j)).length - 1) := Nat.pow_pos (by omega)
    omega
theorem formAt_end {neg : Bool} {ds outs : List Nat} {j : Nat} (h : FormAt ds j outs) (hj : ds.length ≤ 9 * j) (hj2 : 9 * j < ds.length + 9) (h0 : ds = [] → neg = false) : rightB neg outs = true ∧ zval neg outs = tz neg ds := by
  obtain ⟨h1, h2, h3, h4⟩ := h
  rw [List.take_of_length_le hj] at h3
  refine ⟨right_mk h2 (h4 hj) (fun e => h0 ?_), by unfold zval tz; rw [h3]⟩
  subst e
  simp at h1
  subst h1
  exact List.eq_nil_of_length_eq_zero (by omega)

theorem one_cell (W : World) (t : TypeId) (u : Value) : ∀ j x, [u][j]? = some x → (W.alloc (.cells #[u] t)).cell? ((⟨W.heap.size, 0, none⟩ : Addr).add j) = some x := by
  intro j x hj
  match j, hj with
  | 0, hj => simp at hj; subst hj; simp [Addr.add]
theorem one_one (k : IntKind) (z : Int) : ∀ u ∈ [Value.int k z], u.oneCell' = true := by
  intro u hu
  simp at hu
  subst hu
  rfl
/-- the variables of Form: the number that came in, the result, what has been put together -/
structure FormMem (w : World) (neg : Bool) (A : Option Addr) (n c : Nat) (A3 : Option Addr) (j c3 : Nat) (w' : World) : Prop where
  below : Below w.heap.size w w'
  num : BoxN w' w.heap.size neg A n c
  res : Box w' (w.heap.size + 1) false none 0 0
  out_ : Box w' (w.heap.size + 1 + 1) neg A3 j c3
  size : w.heap.size + 3 ≤ w'.heap.size
section
variable {w w' w1 : World} {neg : Bool} {A A3 : Option Addr} {n c j c3 : Nat}
theorem FormMem.alloc (h : FormMem w neg A n c A3 j c3 w') (o : Obj) : FormMem w neg A n c A3 j c3 (w'.alloc o) := ⟨h.below.alloc h.below.size _, h.num.alloc _, h.res.alloc _, h.out_.alloc _, by have := h.size; simp; omega⟩
theorem FormMem.grown {row : Option Nat} (h : FormMem w neg A n c A3 j c3 w') (hg : w'.grownBy w1 row) (hr : ∀ g, row = some g → w.heap.size + 3 ≤ g) : FormMem w neg A n c A3 j c3 w1 :=
  ⟨h.below.grown hg h.below.size (fun g e => by have := hr g e; omega), h.num.grown hg (fun e => by have := hr _ e.symm; omega), Blk.grown h.res hg (fun e => by have := hr _ e.symm; omega), Blk.grown h.out_ hg (fun e => by have := hr _ e.symm; omega), Nat.le_trans h.size hg.size⟩
theorem FormMem.set_ (h : FormMem w neg A n c A3 j c3 w') (A4 : Option Addr) (j' c4 : Nat) : FormMem w neg A n c A4 j' c4 (w'.setCell ⟨w.heap.size + 1 + 1, 1, none⟩ (.slice A4 j' c4)) :=
  ⟨h.below.setCell (p := ⟨w.heap.size + 1 + 1, 1, none⟩) (by show _ ≤ _ + 1 + 1; omega) _, Blk.far h.num (p := ⟨w.heap.size + 1 + 1, 1, none⟩) (by show _ ≠ _ + 1 + 1; omega) _, Blk.far h.res (p := ⟨w.heap.size + 1 + 1, 1, none⟩) (by show _ + 1 ≠ _ + 1 + 1; omega) _, Blk.set_ h.out_ 1 _, by have := h.size; simpa [World.setCell] using this⟩
end

set_option maxRecDepth 100000 in
set_option maxHeartbeats 2000000 in
theorem form_any {v : Value} {m : Nat} {z : Int} {w : World} (hm : m ≤ 1000) (hv : IsNum w w.heap.size m v z) :
    Calls Tryd.prog 14 #[v] w fun e w' => GivesZ w m z e w' := by
  obtain ⟨i0, hi, hz0, hz1, hz2⟩ := info_parts info_u32
  obtain ⟨neg, A, n, c, ds, rfl, hl, hr, hnm, hnc, hd, ht, hn0, hz⟩ := hv
  subst hl
  have HR := Lib.hid hr
  have HD := Lib.hid hd
  have HT := Lib.hid ht
  have HN := Lib.hid hn0
  have HZ := Lib.hid hz
  clear hr hd ht hn0 hz
  have HF : Hid (FormMem w neg A ds.length c none 0 0 (((w.alloc (.cells #[.bool neg, .slice A ds.length c] 29)).alloc (.cells #[.bool false, .slice none 0 0] 24)).alloc (.cells #[.bool neg, .slice none 0 0] 24))) :=
    ⟨(((Below.refl _ _).alloc (Nat.le_refl _) _).alloc (by simp) _).alloc (by simp; omega) _, ((BoxN.new _ _ _ _ _).alloc _).alloc _,
      by have h := (Box.new (w.alloc (.cells #[.bool neg, .slice A ds.length c] 29)) false none 0 0).alloc (.cells #[.bool neg, .slice none 0 0] 24); rwa [World.size_alloc] at h,
      by have h := Box.new ((w.alloc (.cells #[.bool neg, .slice A ds.length c] 29)).alloc (.cells #[.bool false, .slice none 0 0] 24)) neg none 0 0; rwa [World.size_alloc, World.size_alloc] at h,
      by simp⟩
  go_enter Tryd.func14, Tryd.ntmps14
  go_wp2
  go_loopw [4] (fun iv wr => (∃ (j : Nat) (outs : List Nat) (A3 : Option Addr) (c3 : Nat), 9 * j < ds.length + 9 ∧ iv = .int .i64 ((9 * j : Nat) : Int) ∧ Hid (FormAt ds j outs) ∧ Hid (FormMem w neg A ds.length c A3 j c3 wr) ∧ Hid (wr.ownsRow (w.heap.size + 3) 58 1 (.slice A3 j c3) j (u32s outs)))) (fun iv _ => (ds.length + 9 - (intOf iv).toNat))
  case atStart => exact ⟨0, [], none, 0, by omega, rfl, formAt_zero ds, HF, World.ownsRow_nil _ _ _ _⟩
  case round =>
    obtain ⟨j, outs, A3, c3, hj, rfl, hf, hmem, hown⟩ := hrel
    have c1 := hmem.out.num.c1
    obtain ⟨i, hi9⟩ : ∃ i, i = 9 * j := ⟨_, rfl⟩
    rw [← hi9]
    have HI9 := Lib.hid hi9
    rw [← hi9] at hj
    clear hi9
    by_cases hlt : i < ds.length
    · go_wp2
      go_loop [5, 6] (fun nv kv => ∃ (k t : Nat) (q : Int), i ≤ k ∧ k ≤ i + 9 ∧ nv = .int .i64 t ∧ kv = .int .i64 q ∧ Hid (q = (k : Int) - 1) ∧ Hid (t = chunk ds i k)) (fun _ kv => (intOf kv + 1 - i).toNat)
      case atStart => exact ⟨i + 9, 0, _, by omega, Nat.le_refl _, rfl, rfl, by show _ = _; omega, (chunk_end ds i).symm⟩
      case round =>
        obtain ⟨k, t, q, hik, hki, rfl, rfl, hq, htk⟩ := hrel
        have ht9 : t < 1000000000 := by rw [htk.out]; exact chunk_lt HD.out hik
        by_cases hgo : i < k
        · obtain ⟨k, rfl⟩ : ∃ k', k = k' + 1 := ⟨k - 1, by omega⟩
          obtain rfl : q = (k : Int) := by have := hq.out; omega
          have hge : (i : Int) ≤ (k : Int) := by omega
          by_cases hkl : k < ds.length
          · obtain ⟨b, off, rfl, _, hcell⟩ := (HR.out.below hmem.out.below).at_ hkl
            obtain ⟨x, hx⟩ : ∃ x, x = ds[k] := ⟨_, rfl⟩
            rw [← hx] at hcell
            have hx10 : x < 10 := by rw [hx]; exact HD.out.get k hkl
            have HC : Hid (x + 10 * t = chunk ds i k) := by show _ = _; rw [chunk_in hkl (by omega), ← htk.out, hx]
            clear hx
            go_wp2
            go_round
            case rel => exact ⟨k, x + 10 * t, _, by omega, by omega, by go_num, rfl, rfl, HC.out⟩
            case measure => simp [intOf]; omega
          · have hkl' : ¬ (k : Int) < ((ds.length : Nat) : Int) := by omega
            have HC : Hid (10 * t = chunk ds i k) := by
              show _ = _
              rw [htk.out, chunk_out (by omega : ds.length ≤ k + 1), chunk_out (by omega : ds.length ≤ k)]
            go_wp2
            go_round
            case rel => exact ⟨k, 10 * t, _, by omega, by omega, by go_num, rfl, rfl, HC.out⟩
            case measure => simp [intOf]; omega
        · obtain rfl : k = i := by omega
          have hge : q < (k : Int) := by have := hq.out; omega
          have c3' := hmem.out.out_.c1
          have f3' := hmem.out.out_.f1
          have hsz := hmem.out.size
          have HM : Hid (j + 1 ≤ maxLen ∧ (j + 1) * 4 ≤ 140737488355328) := by have := HI9.out; constructor <;> (try unfold maxLen) <;> omega
          go_wp2_with (at_builtin; refine wpList_append_own _ rfl _ _ 22 rfl (w.heap.size + 3) 58 i0 (.int .u32 0) 1 4 Tryd.underlying22 hi hz0 hz1 hz2 rfl (by decide) _ _ _ rfl (hown.out.alloc _) ⟨wr.heap.size, 0, none⟩ 1 1 [.int .u32 (t : Int)] rfl rfl (one_cell _ _ _) (one_one _ _) HM.out.1 HM.out.2 (by simp; omega) ?_)
          intro v' w1 hown' hgrow _
          obtain ⟨A4, c4, rfl, hc4⟩ := own_row hown'
          have hm1 : FormMem w neg A ds.length c A3 j c3 w1 := (hmem.out.alloc _).grown hgrow (fun g hg => (hown.out.lt g hg).1)
          have HM1 := Lib.hid hm1
          have HO1 := Lib.hid hown'
          have d1 := hm1.out_.c1
          have g1 := hm1.out_.f1
          clear hgrow hown' hm1
          go_wp2
          go_roundw
          case rel => exact ⟨j + 1, outs ++ [t], A4, c4, by have := HI9.out; omega, by have := HI9.out; go_num, by have h := formAt_step hf.out (by have := HI9.out; omega) HD.out HT.out; rw [← HI9.out, ← htk.out] at h; exact h, HM1.out.set_ A4 (j + 1) c4, by have h := ownsRow_setCell_below HO1.out (a := ⟨w.heap.size + 1 + 1, 1, none⟩) (by show _ + 1 + 1 < _; omega) (.slice A4 (j + 1) c4); rw [u32s_append]; exact h⟩
          case measure => simp [intOf]; omega
    · have hlt' : ¬ (i : Int) < ((ds.length : Nat) : Int) := by omega
      have HE := Lib.hid (formAt_end (neg := neg) hf.out (by have := HI9.out; omega) (by have := HI9.out; omega) HN.out)
      have o0 := hmem.out.out_.c0
      have o1 := hmem.out.out_.c1
      have r0 := hmem.out.res.c0
      have r1 := hmem.out.res.c1
      have q0 := hmem.out.res.f0
      have q1 := hmem.out.res.f1
      have HA : Hid (A3 = A3) := rfl
      obtain ⟨hform, hright⟩ : FormAt ds j outs ∧ rightB neg outs = true := ⟨hf.out, HE.out.1⟩
      have HI3 : Hid (IsInt wr wr.heap.size m (.agg #[.bool neg, .slice A3 j c3]) z) := by
        obtain ⟨A', c', e, hc'⟩ := own_row hown.out
        injection e with e1 _ e3
        refine ⟨neg, A3, j, c3, outs, rfl, hf.out.1, Rd.of_own hown.out, by have := HI9.out; omega, by omega, HE.out.1, by rw [HE.out.2]; exact HZ.out⟩
      have HPUT := Lib.hid (HI3.out.put hmem.out.res neg A3 j c3)
      have d0 := (hmem.out.res.put neg A3 j c3).c0
      have d1 := (hmem.out.res.put neg A3 j c3).c1
      have HBL : Hid (Below w.heap.size w (put2 wr (w.heap.size + 1) neg A3 j c3)) := below_put hmem.out.below (by omega) _ _ _ _
      have HSZ := Lib.hid (put2_size wr (w.heap.size + 1) neg A3 j c3)
      clear HA hform hright
      go_wp2
      refine bodyPost_ret (v := .agg #[.bool neg, .slice A3 j c3]) (by simp [results, Tryd.results14, go_sem, d0, d1]) rfl ⟨neg, A3, j, c3, rfl, ?_, HBL⟩
      have h : IsInt (put2 wr (w.heap.size + 1) neg A3 j c3) (put2 wr (w.heap.size + 1) neg A3 j c3).heap.size m _ z := HPUT.out.more (by rw [HSZ.out]; exact Nat.le_refl _) (Nat.le_refl _)
      exact h
end Go.Proofs.YtgmnpajecpjklaaDoor.wh
