/- The walk of ScoreBest. -/
import Derived.Test.YtpikbhcjgcbdfaaSh
namespace Go.Proofs.Ytpikbhcjgcbdfaa.sc
open Go.RowKit

/-- a slice that reads as words of 64 bits -/
def Ru (w : World) (A : Option Addr) (xs : List Nat) : Prop :=
  0 < xs.length → ∃ b off, A = some ⟨b, off, none⟩ ∧ b < w.heap.size ∧ ∀ j (h : j < xs.length), w.cell? ⟨b, off + j, none⟩ = some (.int .u64 ((xs[j]'h : Nat) : Int))
theorem Ru.below {w w' : World} {A : Option Addr} {xs : List Nat} (h : Ru w A xs) (hb : Below w.heap.size w w') : Ru w' A xs := fun hn => by
  obtain ⟨b, off, e, hlt, hc⟩ := h hn
  exact ⟨b, off, e, Nat.lt_of_lt_of_le hlt hb.size, fun j hj => (hb.cell (p := ⟨b, off + j, none⟩) hlt).trans (hc j hj)⟩
/-- the scores behind k rounds -/
def setK (xs : List Nat) (k : Nat) : Nat → Nat := fun j => if j < k then keptW (xs.getD j 0) else 0
theorem setK_next {xs : List Nat} {k : Nat} (hk : k < xs.length) : ∀ j, j < xs.length → upd (setK xs k) k (keptW xs[k]) j = setK xs (k + 1) j := by
  intro j hj
  unfold upd setK
  by_cases h : j = k
  · subst h; simp [List.getD_eq_getElem?_getD, hk]
  · rw [if_neg h]
    by_cases h2 : j < k
    · rw [if_pos h2, if_pos (by omega)]
    · rw [if_neg h2, if_neg (by omega)]
theorem setK_fit {xs : List Nat} (hx : ∀ x ∈ xs, x < 18446744073709551616) (k : Nat) : Fit xs.length (setK xs k) := by
  intro j hj
  unfold setK
  split
  · refine kept_lt ?_
    rw [List.getD_eq_getElem?_getD, List.getElem?_eq_getElem hj]
    exact hx _ (List.getElem_mem _)
  · omega
/-- what is back behind k rounds: the slice value, in a row of the call's own -/
def BackAt (zs : List Int) (k : Nat) (bv : Value) (wr : World) : Prop :=
  ∃ A c, bv = .slice A k c ∧ (A = none → k = 0 ∧ c = 0) ∧ Rz wr A (zs.take k).reverse
theorem any_next {n : Nat} {zs : List Int} {k : Nat} (hk : k < zs.length) : (zs.take (k + 1)).any (hasB n) = ((zs.take k).any (hasB n) || hasB n zs[k]) := by
  rw [take_snoc hk, List.any_append]; simp
theorem score_at {w : World} {T S n st dc : Nat} {L : Nat → Nat} (h : Hid (IsTab w 54 T S n L st dc)) {j : Nat} (hj : j < n) :
    Calls Try.prog 19 #[.pointer (some ⟨T, 0, none⟩), .int .i64 (j : Int)] w fun e w' => e = .returned (.float .f64 (L j)) ∧ w = w' :=
  (score_any h (j : Int)).mono fun _ _ hh => ⟨hh.1.trans (ret_float (by unfold scoreOf; rw [hasB_nat, decide_eq_true hj]; rfl)), hh.2⟩
theorem back_next {B : Nat} {zs : List Int} {k : Nat} (hk : k < zs.length) {v' : Value} {w' : World} (h : w'.ownsRow B 3 1 v' (1 + k) (i64z ([zs[k]] ++ (zs.take k).reverse))) : BackAt zs (k + 1) v' w' := by
  rw [Nat.add_comm 1 k] at h
  obtain ⟨A, c, rfl, _⟩ := own_row h
  refine ⟨A, c, rfl, fun e => ?_, ?_⟩
  · subst e
    obtain ⟨_, (⟨h1, h2⟩ | ⟨g, cap, cur, h1, _⟩)⟩ := h
    · omega
    · injection h1 with h1; cases h1
  · have := Rz.of_own h
    rw [take_snoc hk, List.reverse_append]
    exact this
set_option maxRecDepth 100000 in
set_option maxHeartbeats 4000000 in
theorem bestlaw_any {w : World} {Ax : Option Addr} {xs : List Nat} {cx : Nat} {Az : Option Addr} {zs : List Int} {cz : Nat} {Ay : Option Addr} {ys : List Int} {cy : Nat}
    (hx : Ru w Ax xs) (hxs : ∀ x ∈ xs, x < 18446744073709551616) (hz : Rz w Az zs) (hnz : Az = none → zs.length = 0 ∧ cz = 0) (hy : Rz w Ay ys) (hny : Ay = none → ys.length = 0 ∧ cy = 0)
    (l1 : xs.length ≤ 50) (l2 : zs.length ≤ 50) (l3 : ys.length ≤ 50) :
    Calls Try.prog 5 #[.slice Ax xs.length cx, .slice Az zs.length cz, .slice Ay ys.length cy] w fun e w' => e = .returned (.bool true) ∧ Below w.heap.size w w' := by
  have HX := Lib.hid hx
  have HXS := Lib.hid hxs
  have HZ := Lib.hid hz
  have HNZ := Lib.hid hnz
  have HY := Lib.hid hy
  have HNY := Lib.hid hny
  clear hx hxs hz hnz hy hny
  have d1 : decide ((50 : Int) < (xs.length : Int)) = false := by simp; omega
  have d2 : decide ((50 : Int) < (zs.length : Int)) = false := by simp; omega
  have d3 : decide ((50 : Int) < (ys.length : Int)) = false := by simp; omega
  go_enter Try.func5, Try.ntmps5
  go_wp2_with (first | (go_at_call 6; refine (speaks_any _).mono ?_; rintro e w1 ⟨rfl, HB⟩) | (go_at_call 7; refine (new_pos (by omega) _).mono ?_; rintro e w2 ⟨T, S, rfl, HM⟩))
  have HG : Hid (w.heap.size ≤ T ∧ w.heap.size ≤ S) := Lib.hid ⟨by have := HM.out.1; have := HB.out.size; omega, by have := HM.out.2.1; have := HB.out.size; omega⟩
  have HW2 : Hid (Below w.heap.size w w2) := Lib.hid (HB.out.trans (HM.out.2.2.2.mono HB.out.size))
  go_loopw [40] (fun i wr => ∃ k : Nat, k ≤ xs.length ∧ i = .int .i64 (k : Int) ∧ Hid (IsTab wr 54 T S xs.length (setK xs k) 4607182418800017408 (decayOf 4602678819172646912)) ∧ Hid (Below w.heap.size w wr)) (fun i _ => xs.length - (intOf i).toNat)
  case atStart => exact ⟨0, by omega, rfl, Lib.hid (HM.out.2.2.1.congr (fun j _ => by unfold setK; simp)), HW2⟩
  case round =>
    obtain ⟨k, hk, rfl, HT, HW⟩ := hrel
    clear HB HM HW2
    by_cases hlt : k < xs.length
    · obtain ⟨b, off, rfl, hb, hc⟩ := (HX.out.below HW.out) (by omega)
      have hck := hc k hlt
      clear hc
      have hh : hasB xs.length (k : Int) = true := by rw [hasB_nat]; simpa using hlt
      go_wp2_with (first | (go_at_call 13; refine (of_any _ _).mono ?_; rintro e w' ⟨rfl, rfl⟩) | (go_at_call 14; refine (set_any HT _ _).mono ?_; rintro e w4 ⟨rfl, HTwo, HTab⟩; have HTW := Lib.hid HTwo; have HTB := Lib.hid HTab; clear HTwo HTab))
      go_roundw
      case rel =>
        have hT := HTB.out
        rw [hh, if_pos rfl, Int.toNat_natCast] at hT
        exact ⟨k + 1, by omega, by go_num, Lib.hid (hT.congr (fun j hj => setK_next hlt j hj)), Lib.hid (Two.below HW.out HTW.out HG.out.1 HG.out.2)⟩
      case measure => simp [intOf]; omega
    · obtain rfl : k = xs.length := by omega
      obtain ⟨w3, rfl⟩ : ∃ w3 : World, w3 = wr := ⟨_, rfl⟩
      have HF := Lib.hid (setK_fit HXS.out xs.length)
      generalize setK xs xs.length = L at HT HF
      generalize decayOf 4602678819172646912 = dc at HT
      have HZ3 := Lib.hid (HZ.out.below HW.out)
      have HY3 := Lib.hid (HY.out.below HW.out)
      generalize hn : xs.length = n at *
      clear hn hlt hk d1 l1 HX HXS
      obtain ⟨o, ho⟩ : ∃ o, bestOf n L zs = o := ⟨_, rfl⟩
      have HO := Lib.hid ho
      clear ho
      cases o with
      | none =>
        have hbd : ∀ (w'' : World) (e : Ending), BestDone w3 n L zs e w'' → e = .returned (.tuple #[.int .i64 0, .bool false]) ∧ ∃ q, w'' = w3.drewN q := fun w'' e h => ⟨by have := h.1; rw [HO.out] at this; exact this, h.2⟩
        have HBD := Lib.hid hbd
        clear hbd
        go_wp2_with (first | (go_at_call 21; refine (best_any HT HF HZ3 (by omega)).mono ?_; intro e w' hd; obtain ⟨rfl, q, rfl⟩ := HBD.out _ _ hd; clear hd))
        go_loopw [12, 13, 61] (fun th bv i wr => ∃ k : Nat, k ≤ zs.length ∧ i = .int .i64 (k : Int) ∧ th = .bool ((zs.take k).any (hasB n)) ∧ Hid (BackAt zs k bv wr) ∧ Hid (Below w3.heap.size w3 wr)) (fun _ _ i _ => zs.length - (intOf i).toNat)
        case atStart => exact ⟨0, by omega, rfl, rfl, Lib.hid ⟨_, _, rfl, fun e => (by cases e), fun h => absurd h (by simp)⟩, Lib.hid ((Below.drewN (Below.refl _ _) _).alloc (Nat.le_refl _) _)⟩
        case round =>
          obtain ⟨k, hk, rfl, rfl, HBK, HWR⟩ := hrel
          obtain ⟨A, c, rfl, hA, hR⟩ := HBK.out
          have HA := Lib.hid hA
          have HR := Lib.hid hR
          clear hA hR HBK
          have HSZ := Lib.hid HWR.out.size
          by_cases hlt : k < zs.length
          · obtain ⟨b, off, hAz, hb, hc⟩ := (HZ3.out.below HWR.out) (by omega)
            have hck := hc k hlt
            clear hc
            subst hAz
            obtain ⟨v, hv⟩ : ∃ v, zs[k] = v := ⟨_, rfl⟩
            rw [hv] at hck
            have HV := Lib.hid hv
            clear hv
            have HL : Hid ((zs.take k).reverse.length = k) := Lib.hid (by rw [List.length_reverse, List.length_take]; omega)
            have hh : hasB n v = false := by
              have h := best_is n L zs
              rw [HO.out] at h
              exact h v (by rw [← HV.out]; exact List.getElem_mem _)
            · rcases (show v < 0 ∨ (n : Int) ≤ v by have h := hh; unfold hasB at h; by_cases h0 : 0 ≤ v <;> simp [h0] at h <;> omega) with h0 | h0
              · have e0 : decide (v < 0) = true := decide_eq_true h0
                go_wp2_with (first | (at_builtin; refine wpList_app rfl _ _ rfl w3.heap.size rfl (own_one wr _ HSZ.out) rfl HA.out (HR.out.below ((Below.refl _ _).alloc (Nat.le_refl _) _)) HL.out.symm (by omega) (by simp only [World.size_alloc]; exact Nat.le_succ_of_le HSZ.out) ?_; intro v' w' hown hg; have HOWN := Lib.hid hown; have HB2 : Hid (Below w3.heap.size w3 w') := Lib.hid ((HWR.out.alloc HSZ.out _).grown hg (by simp only [World.size_alloc]; exact Nat.le_succ_of_le HSZ.out) (fun g e => by injection e with e; rw [← e]; exact HSZ.out)); have HTW := Lib.hid (HT.out.below HB2.out); clear hown hg))
                go_roundw
                case rel =>
                  have hown := HOWN.out
                  rw [← HV.out] at hown
                  exact ⟨k + 1, by omega, by go_num, by rw [any_next hlt, HV.out, hh, Bool.or_false], Lib.hid (back_next hlt hown), HB2⟩
                case measure => simp [intOf]; omega
              · have e0 : decide (v < 0) = false := decide_eq_false (by omega)
                have e1 : decide ((n : Int) ≤ v) = true := decide_eq_true h0
                go_wp2_with (first | (at_builtin; refine wpList_app rfl _ _ rfl w3.heap.size rfl (own_one wr _ HSZ.out) rfl HA.out (HR.out.below ((Below.refl _ _).alloc (Nat.le_refl _) _)) HL.out.symm (by omega) (by simp only [World.size_alloc]; exact Nat.le_succ_of_le HSZ.out) ?_; intro v' w' hown hg; have HOWN := Lib.hid hown; have HB2 : Hid (Below w3.heap.size w3 w') := Lib.hid ((HWR.out.alloc HSZ.out _).grown hg (by simp only [World.size_alloc]; exact Nat.le_succ_of_le HSZ.out) (fun g e => by injection e with e; rw [← e]; exact HSZ.out)); have HTW := Lib.hid (HT.out.below HB2.out); clear hown hg))
                go_roundw
                case rel =>
                  have hown := HOWN.out
                  rw [← HV.out] at hown
                  exact ⟨k + 1, by omega, by go_num, by rw [any_next hlt, HV.out, hh, Bool.or_false], Lib.hid (back_next hlt hown), HB2⟩
                case measure => simp [intOf]; omega
          · obtain rfl : k = zs.length := by omega
            have hany : zs.any (hasB n) = false := by rw [← best_some (L := L), HO.out]; rfl
            rw [List.take_length] at HR
            have hbr : ∀ (w'' : World) (e : Ending), BestDone wr n L zs.reverse e w'' → e = .returned (.tuple #[.int .i64 0, .bool false]) ∧ ∃ q, w'' = wr.drewN q := fun w'' e h => ⟨by have := h.1; rw [best_rev, HO.out] at this; exact this, h.2⟩
            have HBR := Lib.hid hbr
            clear hbr
            have HTR := Lib.hid (HT.out.below HWR.out)
            have HZR := Lib.hid (HZ3.out.below HWR.out)
            have HYR := Lib.hid (HY3.out.below HWR.out)
            obtain ⟨bv, bo, hbm⟩ : ∃ (bv : Int) (bo : Bool), ∀ (w4 w'' : World) (e : Ending), BestDone w4 n L (zs ++ ys) e w'' → e = .returned (.tuple #[.int .i64 bv, .bool bo]) ∧ ∃ q, w'' = w4.drewN q := ⟨_, _, fun w4 w'' e h => h⟩
            have HBM := Lib.hid hbm
            clear hbm
            go_wp2_with (first | (go_at_call 21; (with_reducible refine (best_len HTR HF HR (by rw [List.length_reverse]; omega) (List.length_reverse)).mono ?_); intro e w' hd; obtain ⟨rfl, q2, rfl⟩ := HBR.out _ _ hd; clear hd) | (at_builtin; refine wpList_app rfl _ _ rfl wr.heap.size rfl (own_nil (wr.drewN q2) (Nat.le_refl _)) rfl HNZ.out ((HZR.out.drewN q2).below ((Below.refl _ _).alloc (Nat.le_refl _) _)) rfl (by omega) (by simp) ?_; intro v1 w6 hown1 hg1; obtain ⟨A1, c1, rfl, _⟩ := own_row hown1; simp only [List.nil_append, Nat.zero_add] at hown1; have HOWN1 := Lib.hid hown1; have HB6 : Hid (Below wr.heap.size wr w6) := Lib.hid (((Below.drewN (Below.refl _ _) q2).alloc (Nat.le_refl _) _).grown hg1 (by simp) (fun g e => by injection e with e; rw [← e]; exact Nat.le_refl _)); clear hown1 hg1) | (at_builtin; refine wpList_app rfl _ _ rfl wr.heap.size rfl HOWN1.out rfl HNY.out (HYR.out.below HB6.out) rfl (by omega) HB6.out.size ?_; intro v2 w7 hown2 hg2; obtain ⟨A2, c2, rfl, _⟩ := own_row hown2; have HR2 := Lib.hid (Rz.of_own hown2); have HB7 : Hid (Below wr.heap.size wr w7) := Lib.hid (HB6.out.grown hg2 HB6.out.size (fun g e => own_ge HOWN1.out e)); have HT7 := Lib.hid (HTR.out.below HB7.out); clear hown2 hg2) | (go_at_call 21; (with_reducible refine (best_len HT7 HF HR2 (by rw [List.length_append]; omega) (List.length_append)).mono ?_); intro e w' hd; obtain ⟨rfl, q3, rfl⟩ := HBM.out _ _ _ hd; clear hd))
            go_ret
            exact ⟨rfl, (HW.out.trans (HWR.out.mono HW.out.size)).trans ((Below.drewN HB7.out _).mono (Nat.le_trans HW.out.size HSZ.out))⟩
      | some m =>
        have hm : m < n := bestOf_lt n L zs m HO.out
        have hbd : ∀ (w'' : World) (e : Ending), BestDone w3 n L zs e w'' → e = .returned (.tuple #[.int .i64 (m : Int), .bool true]) ∧ ∃ q, w'' = w3.drewN q := fun w'' e h => ⟨by have := h.1; rw [HO.out] at this; exact this, h.2⟩
        have HBD := Lib.hid hbd
        clear hbd
        go_wp2_with (first | (go_at_call 21; refine (best_any HT HF HZ3 (by omega)).mono ?_; intro e w' hd; obtain ⟨rfl, q, rfl⟩ := HBD.out _ _ hd; clear hd))
        go_loopw [12, 13, 61] (fun th bv i wr => ∃ k : Nat, k ≤ zs.length ∧ i = .int .i64 (k : Int) ∧ th = .bool ((zs.take k).any (hasB n)) ∧ Hid (BackAt zs k bv wr) ∧ Hid (Below w3.heap.size w3 wr)) (fun _ _ i _ => zs.length - (intOf i).toNat)
        case atStart => exact ⟨0, by omega, rfl, rfl, Lib.hid ⟨_, _, rfl, fun e => (by cases e), fun h => absurd h (by simp)⟩, Lib.hid ((Below.drewN (Below.refl _ _) _).alloc (Nat.le_refl _) _)⟩
        case round =>
          obtain ⟨k, hk, rfl, rfl, HBK, HWR⟩ := hrel
          obtain ⟨A, c, rfl, hA, hR⟩ := HBK.out
          have HA := Lib.hid hA
          have HR := Lib.hid hR
          clear hA hR HBK
          have HSZ := Lib.hid HWR.out.size
          by_cases hlt : k < zs.length
          · obtain ⟨b, off, hAz, hb, hc⟩ := (HZ3.out.below HWR.out) (by omega)
            have hck := hc k hlt
            clear hc
            subst hAz
            obtain ⟨v, hv⟩ : ∃ v, zs[k] = v := ⟨_, rfl⟩
            rw [hv] at hck
            have HV := Lib.hid hv
            clear hv
            have HL : Hid ((zs.take k).reverse.length = k) := Lib.hid (by rw [List.length_reverse, List.length_take]; omega)
            cases hh : hasB n v
            · rcases (show v < 0 ∨ (n : Int) ≤ v by have h := hh; unfold hasB at h; by_cases h0 : 0 ≤ v <;> simp [h0] at h <;> omega) with h0 | h0
              · have e0 : decide (v < 0) = true := decide_eq_true h0
                go_wp2_with (first | (at_builtin; refine wpList_app rfl _ _ rfl w3.heap.size rfl (own_one wr _ HSZ.out) rfl HA.out (HR.out.below ((Below.refl _ _).alloc (Nat.le_refl _) _)) HL.out.symm (by omega) (by simp only [World.size_alloc]; exact Nat.le_succ_of_le HSZ.out) ?_; intro v' w' hown hg; have HOWN := Lib.hid hown; have HB2 : Hid (Below w3.heap.size w3 w') := Lib.hid ((HWR.out.alloc HSZ.out _).grown hg (by simp only [World.size_alloc]; exact Nat.le_succ_of_le HSZ.out) (fun g e => by injection e with e; rw [← e]; exact HSZ.out)); have HTW := Lib.hid (HT.out.below HB2.out); clear hown hg))
                go_roundw
                case rel =>
                  have hown := HOWN.out
                  rw [← HV.out] at hown
                  exact ⟨k + 1, by omega, by go_num, by rw [any_next hlt, HV.out, hh, Bool.or_false], Lib.hid (back_next hlt hown), HB2⟩
                case measure => simp [intOf]; omega
              · have e0 : decide (v < 0) = false := decide_eq_false (by omega)
                have e1 : decide ((n : Int) ≤ v) = true := decide_eq_true h0
                go_wp2_with (first | (at_builtin; refine wpList_app rfl _ _ rfl w3.heap.size rfl (own_one wr _ HSZ.out) rfl HA.out (HR.out.below ((Below.refl _ _).alloc (Nat.le_refl _) _)) HL.out.symm (by omega) (by simp only [World.size_alloc]; exact Nat.le_succ_of_le HSZ.out) ?_; intro v' w' hown hg; have HOWN := Lib.hid hown; have HB2 : Hid (Below w3.heap.size w3 w') := Lib.hid ((HWR.out.alloc HSZ.out _).grown hg (by simp only [World.size_alloc]; exact Nat.le_succ_of_le HSZ.out) (fun g e => by injection e with e; rw [← e]; exact HSZ.out)); have HTW := Lib.hid (HT.out.below HB2.out); clear hown hg))
                go_roundw
                case rel =>
                  have hown := HOWN.out
                  rw [← HV.out] at hown
                  exact ⟨k + 1, by omega, by go_num, by rw [any_next hlt, HV.out, hh, Bool.or_false], Lib.hid (back_next hlt hown), HB2⟩
                case measure => simp [intOf]; omega
            · obtain ⟨j, rfl, hj⟩ := hasB_cases hh
              have e0 : decide ((j : Int) < 0) = false := decide_eq_false (by omega)
              have e1 : decide ((n : Int) ≤ (j : Int)) = false := decide_eq_false (by omega)
              have hmem : (j : Int) ∈ zs := by rw [← HV.out]; exact List.getElem_mem _
              obtain ⟨m2, hm2, _, hls⟩ := best_member (L := L) hj hmem
              have hme : m2 = m := by have := HO.out; rw [hm2] at this; injection this
              subst hme
              clear hm2 hmem
              have HLS := Lib.hid hls
              clear hls
              go_wp2_with (first | (at_builtin; refine wpList_app rfl _ _ rfl w3.heap.size rfl (own_one wr _ HSZ.out) rfl HA.out (HR.out.below ((Below.refl _ _).alloc (Nat.le_refl _) _)) HL.out.symm (by omega) (by simp only [World.size_alloc]; exact Nat.le_succ_of_le HSZ.out) ?_; intro v' w' hown hg; have HOWN := Lib.hid hown; have HB2 : Hid (Below w3.heap.size w3 w') := Lib.hid ((HWR.out.alloc HSZ.out _).grown hg (by simp only [World.size_alloc]; exact Nat.le_succ_of_le HSZ.out) (fun g e => by injection e with e; rw [← e]; exact HSZ.out)); have HTW := Lib.hid (HT.out.below HB2.out); clear hown hg) | (go_at_call 19; (with_reducible refine (score_at HTW hm).mono ?_); rintro e w4 ⟨rfl, rfl⟩) | (go_at_call 19; (with_reducible refine (score_at HTW hj).mono ?_); rintro e w4 ⟨rfl, rfl⟩) | (go_at_call 23; refine (less_as (HF.out _ hm) (HF.out _ hj) HLS.out _).mono ?_; rintro e w4 ⟨rfl, rfl⟩))
              go_roundw
              case rel =>
                have hown := HOWN.out
                rw [← HV.out] at hown
                exact ⟨k + 1, by omega, by go_num, by rw [any_next hlt, HV.out, hh, Bool.or_true], Lib.hid (back_next hlt hown), HB2⟩
              case measure => simp [intOf]; omega
          · obtain rfl : k = zs.length := by omega
            have hany : zs.any (hasB n) = true := by rw [← best_some (L := L), HO.out]; rfl
            rw [List.take_length] at HR
            have hbr : ∀ (w'' : World) (e : Ending), BestDone wr n L zs.reverse e w'' → e = .returned (.tuple #[.int .i64 (m : Int), .bool true]) ∧ ∃ q, w'' = wr.drewN q := fun w'' e h => ⟨by have := h.1; rw [best_rev, HO.out] at this; exact this, h.2⟩
            have HBR := Lib.hid hbr
            clear hbr
            have HTR := Lib.hid (HT.out.below HWR.out)
            have HZR := Lib.hid (HZ3.out.below HWR.out)
            have HYR := Lib.hid (HY3.out.below HWR.out)
            obtain ⟨m', hm', hml, _, hls⟩ := best_more (ys := ys) HO.out
            have HM2 := Lib.hid hm'
            have HLS := Lib.hid hls
            clear hm' hls
            have hbm : ∀ (w4 w'' : World) (e : Ending), BestDone w4 n L (zs ++ ys) e w'' → e = .returned (.tuple #[.int .i64 (m' : Int), .bool true]) ∧ ∃ q, w'' = w4.drewN q := fun w4 w'' e h => ⟨by have := h.1; rw [HM2.out] at this; exact this, h.2⟩
            have HBM := Lib.hid hbm
            clear hbm
            go_wp2_with (first | (go_at_call 21; (with_reducible refine (best_len HTR HF HR (by rw [List.length_reverse]; omega) (List.length_reverse)).mono ?_); intro e w' hd; obtain ⟨rfl, q2, rfl⟩ := HBR.out _ _ hd; clear hd) | (at_builtin; refine wpList_app rfl _ _ rfl wr.heap.size rfl (own_nil (wr.drewN q2) (Nat.le_refl _)) rfl HNZ.out ((HZR.out.drewN q2).below ((Below.refl _ _).alloc (Nat.le_refl _) _)) rfl (by omega) (by simp) ?_; intro v1 w6 hown1 hg1; obtain ⟨A1, c1, rfl, _⟩ := own_row hown1; simp only [List.nil_append, Nat.zero_add] at hown1; have HOWN1 := Lib.hid hown1; have HB6 : Hid (Below wr.heap.size wr w6) := Lib.hid (((Below.drewN (Below.refl _ _) q2).alloc (Nat.le_refl _) _).grown hg1 (by simp) (fun g e => by injection e with e; rw [← e]; exact Nat.le_refl _)); clear hown1 hg1) | (at_builtin; refine wpList_app rfl _ _ rfl wr.heap.size rfl HOWN1.out rfl HNY.out (HYR.out.below HB6.out) rfl (by omega) HB6.out.size ?_; intro v2 w7 hown2 hg2; obtain ⟨A2, c2, rfl, _⟩ := own_row hown2; have HR2 := Lib.hid (Rz.of_own hown2); have HB7 : Hid (Below wr.heap.size wr w7) := Lib.hid (HB6.out.grown hg2 HB6.out.size (fun g e => own_ge HOWN1.out e)); have HT7 := Lib.hid (HTR.out.below HB7.out); clear hown2 hg2) | (go_at_call 21; (with_reducible refine (best_len HT7 HF HR2 (by rw [List.length_append]; omega) (List.length_append)).mono ?_); intro e w' hd; obtain ⟨rfl, q3, rfl⟩ := HBM.out _ _ _ hd; clear hd) | (go_at_call 19; (with_reducible refine (score_at (Lib.hid (HT7.out.drewN _)) hml).mono ?_); rintro e w8 ⟨rfl, rfl⟩) | (go_at_call 19; (with_reducible refine (score_at (Lib.hid (HT7.out.drewN _)) hm).mono ?_); rintro e w8 ⟨rfl, rfl⟩) | (go_at_call 23; refine (less_as (HF.out _ hml) (HF.out _ hm) HLS.out _).mono ?_; rintro e w8 ⟨rfl, rfl⟩))
            go_ret
            exact ⟨rfl, (HW.out.trans (HWR.out.mono HW.out.size)).trans ((Below.drewN HB7.out _).mono (Nat.le_trans HW.out.size HSZ.out))⟩
set_option maxRecDepth 100000 in
theorem bestlaw_big {w : World} {Ax : Option Addr} {n cx : Nat} {Az : Option Addr} {m cz : Nat} {Ay : Option Addr} {l cy : Nat} (h : ¬ (n ≤ 50 ∧ m ≤ 50 ∧ l ≤ 50)) :
    Calls Try.prog 5 #[.slice Ax n cx, .slice Az m cz, .slice Ay l cy] w fun e w' => e = .returned (.bool true) ∧ Below w.heap.size w w' := by
  have split_ : 50 < n ∨ (n ≤ 50 ∧ 50 < m) ∨ (n ≤ 50 ∧ m ≤ 50 ∧ 50 < l) := by omega
  clear h
  rcases split_ with h1 | ⟨h1, h2⟩ | ⟨h1, h2, h3⟩
  · have d1 : decide ((50 : Int) < (n : Int)) = true := by simp; omega
    clear h1
    go_enter Try.func5, Try.ntmps5
    go_wp2_with (first | (go_at_call 6; refine (speaks_any _).mono ?_; rintro e w1 ⟨rfl, HB⟩))
    go_ret
    exact ⟨rfl, HB.out⟩
  · have d1 : decide ((50 : Int) < (n : Int)) = false := by simp; omega
    have d2 : decide ((50 : Int) < (m : Int)) = true := by simp; omega
    clear h1 h2
    go_enter Try.func5, Try.ntmps5
    go_wp2_with (first | (go_at_call 6; refine (speaks_any _).mono ?_; rintro e w1 ⟨rfl, HB⟩))
    go_ret
    exact ⟨rfl, HB.out⟩
  · have d1 : decide ((50 : Int) < (n : Int)) = false := by simp; omega
    have d2 : decide ((50 : Int) < (m : Int)) = false := by simp; omega
    have d3 : decide ((50 : Int) < (l : Int)) = true := by simp; omega
    clear h1 h2 h3
    go_enter Try.func5, Try.ntmps5
    go_wp2_with (first | (go_at_call 6; refine (speaks_any _).mono ?_; rintro e w1 ⟨rfl, HB⟩))
    go_ret
    exact ⟨rfl, HB.out⟩
theorem bestlaw_all {w : World} {Ax : Option Addr} {xs : List Nat} {cx : Nat} {Az : Option Addr} {zs : List Int} {cz : Nat} {Ay : Option Addr} {ys : List Int} {cy : Nat}
    (hx : Ru w Ax xs) (hxs : ∀ x ∈ xs, x < 18446744073709551616) (hz : Rz w Az zs) (hnz : Az = none → zs.length = 0 ∧ cz = 0) (hy : Rz w Ay ys) (hny : Ay = none → ys.length = 0 ∧ cy = 0) :
    Calls Try.prog 5 #[.slice Ax xs.length cx, .slice Az zs.length cz, .slice Ay ys.length cy] w fun e w' => e = .returned (.bool true) ∧ Below w.heap.size w w' := by
  by_cases h : xs.length ≤ 50 ∧ zs.length ≤ 50 ∧ ys.length ≤ 50
  · exact bestlaw_any hx hxs hz hnz hy hny h.1 h.2.1 h.2.2
  · exact bestlaw_big h
end Go.Proofs.Ytpikbhcjgcbdfaa.sc
