/- The document's answer of layer 4: Word. -/
import Derived.Deep.RegionHeld
import Derived.Test.YtmnllioeaaimcaaDoorPx
namespace Go.Proofs.YtmnllioeaaimcaaDoor.tk
open Go.RowKit

theorem told_bad {k : Int} {T X : List UInt8} {q : Nat} (h : readL X = .error q) : told k T X = false := by unfold told; rw [h]
theorem told_many {k : Int} {T X : List UInt8} {D : List Tk} (h : readL X = .ok D) (hd : D.length ≠ 1) : told k T X = false := by
  unfold told
  rw [h]
  match D, hd with
  | [], _ => rfl
  | x :: y :: r, _ => rfl
theorem told_one {k : Int} {T X : List UInt8} {x : Tk} (h : readL X = .ok [x]) : told k T X = (decide ((x.kind : Int) = k) && (decide (x.text = T) && decide (x.at_ = 0))) := by unfold told; rw [h]
theorem spat0 {α : Type} {o : α} {t : List α} : (List.toArray (o :: t))[0]? = some o := rfl
theorem spat1 {α : Type} {a0 o : α} {t : List α} : (List.toArray (a0 :: o :: t))[1]? = some o := rfl
theorem spat2 {α : Type} {a0 a1 o : α} {t : List α} : (List.toArray (a0 :: a1 :: o :: t))[2]? = some o := rfl
theorem spat3 {α : Type} {a0 a1 a2 o : α} {t : List α} : (List.toArray (a0 :: a1 :: a2 :: o :: t))[3]? = some o := rfl
theorem spat4 {α : Type} {a0 a1 a2 a3 o : α} {t : List α} : (List.toArray (a0 :: a1 :: a2 :: a3 :: o :: t))[4]? = some o := rfl
theorem spat5 {α : Type} {a0 a1 a2 a3 a4 o : α} {t : List α} : (List.toArray (a0 :: a1 :: a2 :: a3 :: a4 :: o :: t))[5]? = some o := rfl
theorem spat6 {α : Type} {a0 a1 a2 a3 a4 a5 o : α} {t : List α} : (List.toArray (a0 :: a1 :: a2 :: a3 :: a4 :: a5 :: o :: t))[6]? = some o := rfl
theorem spat7 {α : Type} {a0 a1 a2 a3 a4 a5 a6 o : α} {t : List α} : (List.toArray (a0 :: a1 :: a2 :: a3 :: a4 :: a5 :: a6 :: o :: t))[7]? = some o := rfl
theorem spat8 {α : Type} {a0 a1 a2 a3 a4 a5 a6 a7 o : α} {t : List α} : (List.toArray (a0 :: a1 :: a2 :: a3 :: a4 :: a5 :: a6 :: a7 :: o :: t))[8]? = some o := rfl
theorem spat9 {α : Type} {a0 a1 a2 a3 a4 a5 a6 a7 a8 o : α} {t : List α} : (List.toArray (a0 :: a1 :: a2 :: a3 :: a4 :: a5 :: a6 :: a7 :: a8 :: o :: t))[9]? = some o := rfl
theorem spat10 {α : Type} {a0 a1 a2 a3 a4 a5 a6 a7 a8 a9 o : α} {t : List α} : (List.toArray (a0 :: a1 :: a2 :: a3 :: a4 :: a5 :: a6 :: a7 :: a8 :: a9 :: o :: t))[10]? = some o := rfl
theorem spat11 {α : Type} {a0 a1 a2 a3 a4 a5 a6 a7 a8 a9 a10 o : α} {t : List α} : (List.toArray (a0 :: a1 :: a2 :: a3 :: a4 :: a5 :: a6 :: a7 :: a8 :: a9 :: a10 :: o :: t))[11]? = some o := rfl
theorem spat12 {α : Type} {a0 a1 a2 a3 a4 a5 a6 a7 a8 a9 a10 a11 o : α} {t : List α} : (List.toArray (a0 :: a1 :: a2 :: a3 :: a4 :: a5 :: a6 :: a7 :: a8 :: a9 :: a10 :: a11 :: o :: t))[12]? = some o := rfl
theorem spat13 {α : Type} {a0 a1 a2 a3 a4 a5 a6 a7 a8 a9 a10 a11 a12 o : α} {t : List α} : (List.toArray (a0 :: a1 :: a2 :: a3 :: a4 :: a5 :: a6 :: a7 :: a8 :: a9 :: a10 :: a11 :: a12 :: o :: t))[13]? = some o := rfl
theorem spat14 {α : Type} {a0 a1 a2 a3 a4 a5 a6 a7 a8 a9 a10 a11 a12 a13 o : α} {t : List α} : (List.toArray (a0 :: a1 :: a2 :: a3 :: a4 :: a5 :: a6 :: a7 :: a8 :: a9 :: a10 :: a11 :: a12 :: a13 :: o :: t))[14]? = some o := rfl
theorem spat15 {α : Type} {a0 a1 a2 a3 a4 a5 a6 a7 a8 a9 a10 a11 a12 a13 a14 o : α} {t : List α} : (List.toArray (a0 :: a1 :: a2 :: a3 :: a4 :: a5 :: a6 :: a7 :: a8 :: a9 :: a10 :: a11 :: a12 :: a13 :: a14 :: o :: t))[15]? = some o := rfl
theorem spat16 {α : Type} {a0 a1 a2 a3 a4 a5 a6 a7 a8 a9 a10 a11 a12 a13 a14 a15 o : α} {t : List α} : (List.toArray (a0 :: a1 :: a2 :: a3 :: a4 :: a5 :: a6 :: a7 :: a8 :: a9 :: a10 :: a11 :: a12 :: a13 :: a14 :: a15 :: o :: t))[16]? = some o := rfl
theorem spat17 {α : Type} {a0 a1 a2 a3 a4 a5 a6 a7 a8 a9 a10 a11 a12 a13 a14 a15 a16 o : α} {t : List α} : (List.toArray (a0 :: a1 :: a2 :: a3 :: a4 :: a5 :: a6 :: a7 :: a8 :: a9 :: a10 :: a11 :: a12 :: a13 :: a14 :: a15 :: a16 :: o :: t))[17]? = some o := rfl
section
variable {p : List UInt8 → Bool} {l : List (List UInt8)} {K : Int} {k : Nat}
theorem wn1 (h : ∀ j (h : j < l.length), j < l.length → p l[j] = false) : (if K = 3 then l.find? p else (l.take 1).find? p) = none := by
  have h1 : ∀ x ∈ l, p x = false := fun x hx => by
    obtain ⟨j, hj, rfl⟩ := List.mem_iff_getElem.1 hx
    exact h j hj hj
  split
  · rw [List.find?_eq_none]
    intro x hx
    simp [h1 x hx]
  · rw [List.find?_eq_none]
    intro x hx
    simp [h1 x (List.mem_of_mem_take hx)]
theorem wn2 (h3 : K ≠ 3) (h0 : 0 < l.length) (h : p l[0] = false) : (if K = 3 then l.find? p else (l.take 1).find? p) = none := by
  rw [if_neg h3]
  cases l with
  | nil => simp at h0
  | cons x r =>
    simp only [List.getElem_cons_zero] at h
    simp [h]
theorem ws (hk : k < l.length) (h : ∀ j (h : j < l.length), j < k → p l[j] = false) (hp : p l[k] = true) (h3 : K = 3 ∨ k = 0) : (if K = 3 then l.find? p else (l.take 1).find? p) = some l[k] := by
  split
  · exact find_here hk h hp
  · rename_i hn
    obtain rfl := h3.resolve_left hn
    cases l with
    | nil => simp at hk
    | cons x r =>
      simp only [List.getElem_cons_zero] at hp ⊢
      simp [hp]
end
theorem gos_max (K : Int) (T : List UInt8) : ∀ x ∈ gos K T, x.length ≤ 2 * T.length + 2 := by
  have := esc_ub T
  unfold gos
  intro x hx
  split at hx
  · simp at hx; subst hx; (simp only [List.length_cons, List.length_append, List.length_nil]); omega
  split at hx
  · simp at hx; subst hx; (simp only [List.length_cons]); omega
  split at hx
  · simp at hx; subst hx; (simp only [List.length_cons]); omega
  split at hx
  · simp at hx; subst hx; (simp only [List.length_cons]); omega
  · simp at hx
    rcases hx with hx | hx
    · subst hx; omega
    · subst hx; (simp only [List.length_cons, List.length_append, List.length_nil]); omega

set_option maxRecDepth 100000 in
set_option maxHeartbeats 2000000 in
theorem refWord_any {w : World} {K P : Int} {S : ByteArray} (hS : S.size ≤ 20000000) :
    Calls Tryd.prog 24 #[.agg #[.int .i64 K, .string S, .int .i64 P]] w fun e w' => Hid (WordIs (wordW K S.data.toList) e) ∧ Hid (Below w.heap.size w w') := by
  go_enter Tryd.func24, Tryd.ntmps24
  go_upto_region 1 with fail
  generalize hW : w.alloc _ = W0
  have hB0 : Bk W0 w.heap.size 35 #[.int .i64 K, .string S, .int .i64 P] := hW ▸ Bk.new w _ _
  have hBl : Below w.heap.size w W0 := hW ▸ (Below.refl _ _).alloc (Nat.le_refl _) _
  have t1 : W0.cell? ⟨w.heap.size, 1, none⟩ = some (.string S) := hB0.cell 1
  clear hW
  go_upto_region 2 with fail
  clear t1
  generalize hW : World.alloc _ _ = W1
  have C0 := Lib.hid (Cd.new [S.data.toList, 124 :: (S.data.toList ++ [124])] 2 rfl (by simp [strV, cat_list]) hB0 hBl hW)
  clear hW hB0 hBl
  obtain ⟨l0, hl0⟩ : ∃ l0, [S.data.toList, 124 :: (S.data.toList ++ [124])] = l0 := ⟨_, rfl⟩
  have HL := Lib.hid hl0.symm
  have hsl : ([S.data.toList, 124 :: (S.data.toList ++ [124])] : List (List UInt8)).length = l0.length := by rw [hl0]
  rw [hl0] at C0
  clear hsl hl0
  have c0 := C0.out.t0
  go_upto_if 20 with fail
  clear c0
  go_cut [4] from 18 to 24 (fun sv wx => ∃ l, Hid (l = if K = 7 then [35 :: 120 :: S.data.toList] else ([S.data.toList, 124 :: (S.data.toList ++ [124])])) ∧ Hid (Cd w wx K P S sv l))
  case first =>
    by_cases hk : K = 7
    · have e : (K == 7) = true := by rw [hk]; rfl
      have c1 := C0.out.t1
      have HK := Lib.hid hk
      clear hk
      go_wp2_with fail
      generalize hW : World.alloc _ _ = W2
      have C2 := Lib.hid (Cd.new [35 :: 120 :: S.data.toList] 1 rfl (by simp [strV, cat_list]) C0.out.box C0.out.below hW)
      clear hW
      go_meet
      exact ⟨_, Lib.hid (by rw [if_pos HK.out]), C2⟩
    · have e : (K == 7) = false := by rw [beq_eq_false_iff_ne]; exact hk
      have HK := Lib.hid hk
      clear hk
      go_wp2_with fail
      go_meet
      exact ⟨_, Lib.hid (by rw [if_neg HK.out]; exact HL.out), C0⟩
  case rest =>
    clear C0 HL
    obtain ⟨l1, HL, C1⟩ := hcut
    have hsv := C1.out.list
    obtain ⟨g1, rfl, hg1⟩ := hsv
    clear hg1
    have c0 := C1.out.t0
    go_upto_if 27 with fail
    clear c0
    go_cut [4] from 25 to 31 (fun sv wx => ∃ l, Hid (l = if K = 8 then [35 :: 98 :: S.data.toList] else (if K = 7 then [35 :: 120 :: S.data.toList] else ([S.data.toList, 124 :: (S.data.toList ++ [124])]))) ∧ Hid (Cd w wx K P S sv l))
    case first =>
      by_cases hk : K = 8
      · have e : (K == 8) = true := by rw [hk]; rfl
        have c1 := C1.out.t1
        have HK := Lib.hid hk
        clear hk
        go_wp2_with fail
        generalize hW : World.alloc _ _ = W2
        have C2 := Lib.hid (Cd.new [35 :: 98 :: S.data.toList] 1 rfl (by simp [strV, cat_list]) C1.out.box C1.out.below hW)
        clear hW
        go_meet
        exact ⟨_, Lib.hid (by rw [if_pos HK.out]), C2⟩
      · have e : (K == 8) = false := by rw [beq_eq_false_iff_ne]; exact hk
        have HK := Lib.hid hk
        clear hk
        go_wp2_with fail
        go_meet
        exact ⟨_, Lib.hid (by rw [if_neg HK.out]; exact HL.out), C1⟩
    case rest =>
      clear C1 HL
      obtain ⟨l2, HL, C2⟩ := hcut
      have hsv := C2.out.list
      obtain ⟨g2, rfl, hg2⟩ := hsv
      clear hg2
      have c0 := C2.out.t0
      go_upto_if 34 with fail
      clear c0
      go_cut [4] from 32 to 38 (fun sv wx => ∃ l, Hid (l = if K = 10 then [58 :: S.data.toList] else (if K = 8 then [35 :: 98 :: S.data.toList] else (if K = 7 then [35 :: 120 :: S.data.toList] else ([S.data.toList, 124 :: (S.data.toList ++ [124])])))) ∧ Hid (Cd w wx K P S sv l))
      case first =>
        by_cases hk : K = 10
        · have e : (K == 10) = true := by rw [hk]; rfl
          have c1 := C2.out.t1
          have HK := Lib.hid hk
          clear hk
          go_wp2_with fail
          generalize hW : World.alloc _ _ = W2
          have C2 := Lib.hid (Cd.new [58 :: S.data.toList] 1 rfl (by simp [strV, cat_list]) C2.out.box C2.out.below hW)
          clear hW
          go_meet
          exact ⟨_, Lib.hid (by rw [if_pos HK.out]), C2⟩
        · have e : (K == 10) = false := by rw [beq_eq_false_iff_ne]; exact hk
          have HK := Lib.hid hk
          clear hk
          go_wp2_with fail
          go_meet
          exact ⟨_, Lib.hid (by rw [if_neg HK.out]; exact HL.out), C2⟩
      case rest =>
        clear C2 HL
        obtain ⟨l3, HL, C3⟩ := hcut
        have hsv := C3.out.list
        obtain ⟨g3, rfl, hg3⟩ := hsv
        clear hg3
        have c0 := C3.out.t0
        go_upto_if 41 with fail
        clear c0
        go_cut [4] from 39 to 66 (fun sv wx => ∃ l, Hid (l = gos K S.data.toList) ∧ Hid (Cd w wx K P S sv l))
        case first =>
          by_cases hk : K = 9
          · have e : (K == 9) = true := by rw [hk]; rfl
            have c1 := C3.out.t1
            have HK := Lib.hid hk
            clear hk
            go_wp2_with fail
            go_loop [5, 6] (fun xv iv => ∃ k : Nat, k ≤ S.size ∧ iv = .int .i64 (k : Int) ∧ xv = .string ⟨(34 :: esc (S.data.toList.take k)).toArray⟩) (fun _ iv => S.size - (intOf iv).toNat)
            case atStart => exact ⟨0, Nat.zero_le _, rfl, rfl⟩
            case round =>
              obtain ⟨k, hk, rfl, rfl⟩ := hrel
              by_cases hlt : k < S.size
              · obtain ⟨d, hd⟩ : ∃ d, S.data.toList[k]? = some d := ⟨S.data.toList[k]'(by simpa using hlt), List.getElem?_eq_getElem (by simpa using hlt)⟩
                have hsl := one_slice (w := wc) hd
                have hu := esc_ub (S.data.toList.take k)
                have hku : (S.data.toList.take k).length ≤ k := List.length_take_le _ _
                have HE := Lib.hid (esc_snoc hd)
                have hidx := one_index hd hlt
                cases h34 : ((d.toNat : Int) == 34)
                · have HX := Lib.hid (str_one (HE.out.trans (by rw [if_neg (by rw [beq_eq_false_iff_ne] at h34; omega)])))
                  go_upto_region 14 with fail
                  go_wp2_with fail
                  go_round
                  case rel => exact ⟨k + 1, by omega, by go_num, HX.out⟩
                  case measure => simp [intOf]; omega
                · have HX := Lib.hid (str_two' (d := d) (by rw [beq_iff_eq] at h34; omega) (HE.out.trans (by rw [if_pos (by rw [beq_iff_eq] at h34; omega)])))
                  go_upto_region 14 with fail
                  go_wp2_with fail
                  go_round
                  case rel => exact ⟨k + 1, by omega, by go_num, HX.out⟩
                  case measure => simp [intOf]; omega
              · obtain rfl : k = S.size := by omega
                have hu := esc_ub (S.data.toList.take S.size)
                have hku : (S.data.toList.take S.size).length ≤ S.size := List.length_take_le _ _
                have HTK : Hid (S.data.toList.take S.size = S.data.toList) := Lib.hid (List.take_of_length_le (by simp))
                go_wp2_with fail
                generalize hW : World.alloc _ _ = W2
                have C2 := Lib.hid (Cd.new [34 :: (esc S.data.toList ++ [34])] 1 rfl (by rw [HTK.out]; simp [strV, cat_list]) C3.out.box C3.out.below hW)
                clear hW
                go_meet
                exact ⟨_, Lib.hid (by unfold gos; rw [if_pos HK.out]), C2⟩
          · have e : (K == 9) = false := by rw [beq_eq_false_iff_ne]; exact hk
            have HK := Lib.hid hk
            clear hk
            go_wp2_with fail
            go_meet
            exact ⟨_, Lib.hid (by unfold gos; rw [if_neg HK.out]; exact HL.out), C3⟩
        case rest =>
          clear C3 HL
          obtain ⟨l, HL, C⟩ := hcut
          obtain ⟨g, rfl, hg⟩ := C.out.list
          have HG := Lib.hid hg
          clear hg
          have hl2 : l.length ≤ 2 ∧ 1 ≤ l.length := by rw [HL.out]; exact gos_two _ _
          have HLB : Hid (∀ x ∈ l, x.length ≤ 2 * S.size + 2) := Lib.hid (by rw [HL.out]; have h := gos_max K S.data.toList; rwa [show S.data.toList.length = S.size by simp] at h)
          go_wp2_with fail
          go_loopw [7] (fun iv wr => ∃ k : Nat, k ≤ l.length ∧ iv = .int .i64 (k : Int) ∧ Hid (∀ j (h : j < l.length), j < k → told K S.data.toList l[j] = false) ∧ Hid (Bk wr w.heap.size 35 #[.int .i64 K, .string S, .int .i64 P] ∧ Bk wr g 9 (l.map strV).toArray) ∧ Hid (Below w.heap.size w wr)) (fun iv _ => l.length - (intOf iv).toNat)
          case atStart => exact ⟨0, Nat.zero_le _, rfl, Lib.hid (fun j _ h => by omega), Lib.hid ⟨C.out.box, HG.out⟩, Lib.hid C.out.below⟩
          case round =>
            obtain ⟨k, hk, rfl, HF, HBB, HB⟩ := hrel
            by_cases hlt : k < l.length
            · have g0 : (k : Int) < (l.length : Int) := by omega
              have c0 : wr.cell? ⟨w.heap.size, 0, none⟩ = some (.int .i64 K) := HBB.out.1.cell 0
              have c1 : wr.cell? ⟨w.heap.size, 1, none⟩ = some (.string S) := HBB.out.1.cell 1
              by_cases hret : k = 1 ∧ K ≠ 3
              · obtain ⟨rfl, h3⟩ := hret
                have q2 : ((K != 3) : Bool) = true := by rw [bne_iff_ne]; exact h3
                have HN := Lib.hid (wn2 (p := told K S.data.toList) h3 (by omega) (HF.out 0 (by omega) (by omega)))
                clear h3
                go_wp2_with fail
                go_ret2
                refine ⟨Lib.hid ?_, HB⟩
                rw [gos_word, ← HL.out, HN.out]
                rfl
              · have hk3 : K = 3 ∨ k = 0 := by
                  by_cases h3 : K = 3
                  · exact Or.inl h3
                  · exact Or.inr (by have : k ≠ 1 := fun e => hret ⟨e, h3⟩; omega)
                clear hret
                obtain ⟨X, hX⟩ : ∃ X, l[k] = X := ⟨_, rfl⟩
                have cx : wr.cell? ⟨g, k, none⟩ = some (.string ⟨X.toArray⟩) := by
                  rw [HBB.out.2.cell k]; simp [hlt, hX, strV]
                have hXL : X.length ≤ 100000000 := by
                  have := HLB.out X (hX ▸ List.getElem_mem hlt)
                  omega
                have HX := Lib.hid hX
                clear hX
                have hg2 : g < wr.heap.size := HBB.out.2.lt
                have scx : Hid (∀ W : World, g < W.heap.size → W.cell? ⟨g, k, none⟩ = some (.string ⟨X.toArray⟩) → (strWorld W X).cell? ⟨g, k, none⟩ = some (.string ⟨X.toArray⟩)) := Lib.hid (fun W h h2 => by
                  unfold strWorld
                  rw [World.cell?_alloc_lt _ _ _ (by simpa using h)]
                  exact h2)
                have kcv := fun w9 => conv_str w9 X
                have hk01 : ((k : Int) == 1) = false ∨ (((k : Int) == 1) = true ∧ ((K != 3) : Bool) = false) := by
                  rcases hk3 with h | h
                  · by_cases h1 : k = 1
                    · exact Or.inr ⟨by rw [beq_iff_eq]; omega, by rw [h]; rfl⟩
                    · exact Or.inl (by rw [beq_eq_false_iff_ne]; omega)
                  · exact Or.inl (by rw [beq_eq_false_iff_ne]; omega)
                have HK3 := Lib.hid hk3
                clear hk3
                rcases hk01 with q1 | ⟨q1, q2⟩
                · go_upto_region 22 with fail
                  clear c0 c1
                  go_cut [8, 9] from 80 to 94 (fun lv kv wx => ∃ A2 n2 c2 kd, lv = .slice A2 n2 c2 ∧ kv = .int .i64 kd ∧ Hid (Out X A2 n2 kd wx) ∧ Hid (Below wr.heap.size wr wx))
                  case first =>
                    refine wp_region_held_drew (S := (fun W => W.cell? ⟨g, k, none⟩ = some (.string ⟨X.toArray⟩))) (by kernel_rfl) cx (fun hHeld => ?_)
                    have LO : Hid (Below wr.heap.size wr wr.drew) := Lib.hid (Below.drew (Below.refl _ _))
                    have hg0 : Hid (g < wr.drew.heap.size) := Lib.hid hg2
                    generalize wr.drew = V0 at *
                    refine wpAnyH_take (i := 0) (v := ?_) spat0 (by kernel_rfl) (by kernel_rfl) (by kernel_rfl) (fun _ _ _ h => h) (Or.inl ⟨by rfl, ?_⟩) (by assumption) ?_
                    rotate_left
                    · (intro w hSw; (try dsimp only at hSw); go_simp; (try with_reducible rfl))
                    (try simp only [Act.put, List.setIfInBounds_toArray, List.set_cons_zero, List.set_cons_succ])
                    refine wpAnyH_take (i := 1) (v := ?_) spat1 (by kernel_rfl) (by kernel_rfl) (by kernel_rfl) (fun _ _ _ h => h) (Or.inl ⟨by rfl, ?_⟩) (by assumption) ?_
                    rotate_left
                    · (intro w hSw; (try dsimp only at hSw); go_simp; (try with_reducible rfl))
                    (try simp only [Act.put, List.setIfInBounds_toArray, List.set_cons_zero, List.set_cons_succ])
                    refine wpAnyH_take (i := 2) (v := ?_) spat2 (by kernel_rfl) (by kernel_rfl) (by kernel_rfl) (fun _ _ _ h => h) (Or.inl ⟨by rfl, ?_⟩) (by assumption) ?_
                    rotate_left
                    · (intro w hSw; (try dsimp only at hSw); go_simp; (try with_reducible rfl))
                    (try simp only [Act.put, List.setIfInBounds_toArray, List.set_cons_zero, List.set_cons_succ])
                    refine wpAnyH_take (i := 3) (v := ?_) spat3 (by kernel_rfl) (by kernel_rfl) (by kernel_rfl) (fun _ _ _ h => h) (Or.inl ⟨by rfl, ?_⟩) (by assumption) ?_
                    rotate_left
                    · (intro w hSw; (try dsimp only at hSw); go_simp; (try with_reducible rfl))
                    (try simp only [Act.put, List.setIfInBounds_toArray, List.set_cons_zero, List.set_cons_succ])
                    refine wpAnyH_take (i := 5) (v := ?_) spat5 (by kernel_rfl) (by kernel_rfl) (by kernel_rfl) (fun _ _ _ h => h) (Or.inl ⟨by rfl, ?_⟩) (by assumption) ?_
                    rotate_left
                    · (intro w hSw; (try dsimp only at hSw); go_simp; (try with_reducible rfl))
                    (try simp only [Act.put, List.setIfInBounds_toArray, List.set_cons_zero, List.set_cons_succ])
                    refine wpAnyH_take (i := 6) (v := ?_) spat6 (by kernel_rfl) (by kernel_rfl) (by kernel_rfl) (fun _ _ _ h => h) (Or.inl ⟨by rfl, ?_⟩) (by assumption) ?_
                    rotate_left
                    · (intro w hSw; (try dsimp only at hSw); go_simp; (try with_reducible rfl))
                    (try simp only [Act.put, List.setIfInBounds_toArray, List.set_cons_zero, List.set_cons_succ])
                    refine wpAnyH_take (i := 7) (v := ?_) spat7 (by kernel_rfl) (by kernel_rfl) (by kernel_rfl) (fun _ _ _ h => h) (Or.inl ⟨by rfl, ?_⟩) (by assumption) ?_
                    rotate_left
                    · (intro w hSw; (try dsimp only at hSw); go_simp; (try with_reducible rfl))
                    (try simp only [Act.put, List.setIfInBounds_toArray, List.set_cons_zero, List.set_cons_succ])
                    refine wpAnyH_take (i := 8) (v := ?_) spat8 (by kernel_rfl) (by kernel_rfl) (by kernel_rfl) (fun _ _ _ h => h) (Or.inl ⟨by rfl, ?_⟩) (by assumption) ?_
                    rotate_left
                    · (intro w hSw; (try dsimp only at hSw); go_simp; (try with_reducible rfl))
                    (try simp only [Act.put, List.setIfInBounds_toArray, List.set_cons_zero, List.set_cons_succ])
                    refine wpAnyH_take (i := 9) (v := ?_) spat9 (by kernel_rfl) (by kernel_rfl) (by kernel_rfl) (fun _ _ _ h => h) (Or.inl ⟨by rfl, ?_⟩) (by assumption) ?_
                    rotate_left
                    · (intro w hSw; (try dsimp only at hSw); go_simp; (try with_reducible rfl))
                    (try simp only [Act.put, List.setIfInBounds_toArray, List.set_cons_zero, List.set_cons_succ])
                    refine wpAnyH_ready (rs := [4]) (by kernel_rfl) (by simp) ?_
                    refine AllReadyH.cons spat4 (fun K hK => ?_) AllReadyH.nil
                    go_simp
                    refine hK.out _ _ (scx.out _ hg0.out hHeld) (fun hHeld2 => ?_)
                    clear hK K hHeld
                    (try simp only [Act.put, List.setIfInBounds_toArray, List.set_cons_zero, List.set_cons_succ])
                    have RB1 := Lib.hid (strWorld_rb V0 X rfl)
                    have LO1 := Lib.hid (strWorld_below LO.out X)
                    have hg1 : Hid (g < (strWorld V0 X).heap.size) := Lib.hid (by unfold strWorld; have := hg0.out; simp; omega)
                    have HCP := Lib.hid (capOf_le V0 X)
                    clear scx kcv hg0 LO
                    generalize strWorld V0 X = V1 at *
                    generalize capOf V0 X = cp at *
                    generalize V0.heap.size = gv at *
                    refine wpAnyH_ready (rs := [10]) (by kernel_rfl) (by simp) ?_
                    refine AllReadyH.cons spat10 (fun K hK => ?_) AllReadyH.nil
                    go_simp
                    (go_at_call 33; refine (read_own (X := X) RB1 hXL HCP.out).mono ?_; rintro e V2 ⟨A2, n2, c2, kd, q2, rfl, HO, hb5⟩)
                    (try go_wp2_with fail)
                    refine hK.out _ _ ((hb5.out.cell (p := ⟨g, k, none⟩) hg1.out).trans hHeld2) (fun hHeld3 => ?_)
                    clear hK K hHeld2
                    (try simp only [Act.put, List.setIfInBounds_toArray, List.set_cons_zero, List.set_cons_succ])
                    have LO2 := Lib.hid (below_two LO1.out hb5.out)
                    clear hb5 LO1 RB1 HCP hg1
                    refine wpAnyH_take (i := 11) (v := ?_) spat11 (by kernel_rfl) (by kernel_rfl) (by kernel_rfl) (fun _ _ _ h => h) (Or.inl ⟨by rfl, ?_⟩) (by assumption) ?_
                    rotate_left
                    · (intro w hSw; (try dsimp only at hSw); go_simp; (try with_reducible rfl))
                    (try simp only [Act.put, List.setIfInBounds_toArray, List.set_cons_zero, List.set_cons_succ])
                    refine wpAnyH_take (i := 12) (v := ?_) spat12 (by kernel_rfl) (by kernel_rfl) (by kernel_rfl) (fun _ _ _ h => h) (Or.inl ⟨by rfl, ?_⟩) (by assumption) ?_
                    rotate_left
                    · (intro w hSw; (try dsimp only at hSw); go_simp; (try with_reducible rfl))
                    (try simp only [Act.put, List.setIfInBounds_toArray, List.set_cons_zero, List.set_cons_succ])
                    refine wpAnyH_take (i := 13) (v := ?_) spat13 (by kernel_rfl) (by kernel_rfl) (by kernel_rfl) (fun _ _ _ h => h) (Or.inl ⟨by rfl, ?_⟩) (by assumption) ?_
                    rotate_left
                    · (intro w hSw; (try dsimp only at hSw); go_simp; (try with_reducible rfl))
                    (try simp only [Act.put, List.setIfInBounds_toArray, List.set_cons_zero, List.set_cons_succ])
                    refine wpAnyH_take (i := 14) (v := ?_) spat14 (by kernel_rfl) (by kernel_rfl) (by kernel_rfl) (fun _ _ _ h => h) (Or.inl ⟨by rfl, ?_⟩) (by assumption) ?_
                    rotate_left
                    · (intro w hSw; (try dsimp only at hSw); go_simp; (try with_reducible rfl))
                    (try simp only [Act.put, List.setIfInBounds_toArray, List.set_cons_zero, List.set_cons_succ])
                    refine wpAnyH_take (i := 15) (v := ?_) spat15 (by kernel_rfl) (by kernel_rfl) (by kernel_rfl) (fun _ _ _ h => h) (Or.inl ⟨by rfl, ?_⟩) (by assumption) ?_
                    rotate_left
                    · (intro w hSw; (try dsimp only at hSw); go_simp; (try with_reducible rfl))
                    (try simp only [Act.put, List.setIfInBounds_toArray, List.set_cons_zero, List.set_cons_succ])
                    refine wpAnyH_take (i := 16) (v := ?_) spat16 (by kernel_rfl) (by kernel_rfl) (by kernel_rfl) (fun _ _ _ h => h) (Or.inl ⟨by rfl, ?_⟩) (by assumption) ?_
                    rotate_left
                    · (intro w hSw; (try dsimp only at hSw); go_simp; (try with_reducible rfl))
                    (try simp only [Act.put, List.setIfInBounds_toArray, List.set_cons_zero, List.set_cons_succ])
                    refine wpAnyH_take (i := 17) (v := ?_) spat17 (by kernel_rfl) (by kernel_rfl) (by kernel_rfl) (fun _ _ _ h => h) (Or.inl ⟨by rfl, ?_⟩) (by assumption) ?_
                    rotate_left
                    · (intro w hSw; (try dsimp only at hSw); go_simp; (try with_reducible rfl))
                    (try simp only [Act.put, List.setIfInBounds_toArray, List.set_cons_zero, List.set_cons_succ])
                    refine wpAnyH_done (by kernel_rfl) ?_ _
                    go_wp2_with fail
                    go_meet
                    exact ⟨A2, n2, c2, kd, rfl, rfl, HO, LO2⟩
                  case rest =>
                    obtain ⟨A2, n2, c2, kd, rfl, rfl, HO, HB2⟩ := hcut
                    clear cx scx kcv
                    have HBB5 : Hid (Bk wc w.heap.size 35 #[.int .i64 K, .string S, .int .i64 P] ∧ Bk wc g 9 (l.map strV).toArray) := Lib.hid ⟨HBB.out.1.below HB2.out HBB.out.1.lt, HBB.out.2.below HB2.out HBB.out.2.lt⟩
                    have HB5 : Hid (Below w.heap.size w wc) := Lib.hid (HB.out.trans (HB2.out.mono HB.out.size))
                    have c0 : wc.cell? ⟨w.heap.size, 0, none⟩ = some (.int .i64 K) := HBB5.out.1.cell 0
                    have c1 : wc.cell? ⟨w.heap.size, 1, none⟩ = some (.string S) := HBB5.out.1.cell 1
                    rcases HO.out with ⟨rfl, q, hq⟩ | ⟨rfl, D, hD, rfl, hDl, hT⟩
                    · have HN := Lib.hid (told_bad (k := K) (T := S.data.toList) hq)
                      clear hq HO
                      have HF5 : Hid (∀ j (h : j < l.length), j < k + 1 → told K S.data.toList l[j] = false) := Lib.hid (fun j hj hjk => by
                        rcases Nat.lt_or_ge j k with h | h
                        · exact HF.out j hj h
                        · obtain rfl : j = k := by omega
                          rw [HX.out]; exact HN.out)
                      go_upto_region 23 with fail
                      go_quiet (fail)
                      go_wp2_with fail
                      go_roundw
                      case rel => exact ⟨k + 1, by omega, by go_num, HF5, Lib.hid HBB5.out, Lib.hid (below_n HB5.out _)⟩
                      case measure => simp [intOf]; omega
                    · by_cases hd1 : D.length = 1
                      · obtain ⟨x, rfl⟩ : ∃ x, D = [x] := by
                          match D, hd1 with
                          | [x], _ => exact ⟨x, rfl⟩
                        have HTO := Lib.hid (told_one (k := K) (T := S.data.toList) hD)
                        obtain ⟨g9, rfl, hc9⟩ := hT (by simp)
                        obtain ⟨k0, k1, k2⟩ := hc9 0 (by simp)
                        simp only [Nat.zero_mul, Nat.zero_add, List.getElem_cons_zero] at k0 k1 k2
                        clear hc9 hT hD HO
                        obtain ⟨b1, hb1⟩ : ∃ b, decide ((x.kind : Int) = K) = b := ⟨_, rfl⟩
                        obtain ⟨b2, hb2⟩ : ∃ b, decide (x.text = S.data.toList) = b := ⟨_, rfl⟩
                        obtain ⟨b3, hb3⟩ : ∃ b, decide (x.at_ = 0) = b := ⟨_, rfl⟩
                        rw [hb1, hb2, hb3] at HTO
                        have m1 : (((x.kind : Int) == K) : Bool) = b1 := by rw [← hb1, Bool.eq_iff_iff]; simp
                        have m2 : ((x.text == S.toList) : Bool) = b2 := by rw [str_is2, hb2]
                        have m3 : (((x.at_ : Int) == 0) : Bool) = b3 := by rw [← hb3, Bool.eq_iff_iff]; simp
                        clear hb1 hb2 hb3
                        cases b1
                        · have HN : Hid (told K S.data.toList X = false) := HTO
                          clear HTO
                          have HF5 : Hid (∀ j (h : j < l.length), j < k + 1 → told K S.data.toList l[j] = false) := Lib.hid (fun j hj hjk => by
                            rcases Nat.lt_or_ge j k with h | h
                            · exact HF.out j hj h
                            · obtain rfl : j = k := by omega
                              rw [HX.out]; exact HN.out)
                          go_upto_region 23 with fail
                          go_quiet (fail)
                          go_wp2_with fail
                          go_roundw
                          case rel => exact ⟨k + 1, by omega, by go_num, HF5, Lib.hid HBB5.out, Lib.hid (below_n HB5.out _)⟩
                          case measure => simp [intOf]; omega
                        · cases b2
                          · have HN : Hid (told K S.data.toList X = false) := HTO
                            clear HTO
                            have HF5 : Hid (∀ j (h : j < l.length), j < k + 1 → told K S.data.toList l[j] = false) := Lib.hid (fun j hj hjk => by
                              rcases Nat.lt_or_ge j k with h | h
                              · exact HF.out j hj h
                              · obtain rfl : j = k := by omega
                                rw [HX.out]; exact HN.out)
                            go_upto_region 23 with fail
                            go_quiet (fail)
                            go_wp2_with fail
                            go_roundw
                            case rel => exact ⟨k + 1, by omega, by go_num, HF5, Lib.hid HBB5.out, Lib.hid (below_n HB5.out _)⟩
                            case measure => simp [intOf]; omega
                          · cases b3
                            · have HN : Hid (told K S.data.toList X = false) := HTO
                              clear HTO
                              have HF5 : Hid (∀ j (h : j < l.length), j < k + 1 → told K S.data.toList l[j] = false) := Lib.hid (fun j hj hjk => by
                                rcases Nat.lt_or_ge j k with h | h
                                · exact HF.out j hj h
                                · obtain rfl : j = k := by omega
                                  rw [HX.out]; exact HN.out)
                              go_upto_region 23 with fail
                              go_quiet (fail)
                              go_wp2_with fail
                              go_roundw
                              case rel => exact ⟨k + 1, by omega, by go_num, HF5, Lib.hid HBB5.out, Lib.hid (below_n HB5.out _)⟩
                              case measure => simp [intOf]; omega
                            · have HN : Hid (told K S.data.toList X = true) := HTO
                              have HWS := Lib.hid (ws (p := told K S.data.toList) hlt HF.out (by rw [HX.out]; exact HN.out) HK3.out)
                              have cx5 : wc.cell? ⟨g, k, none⟩ = some (.string ⟨X.toArray⟩) := by
                                rw [HBB5.out.2.cell k]; simp [hlt, HX.out, strV]
                              clear HTO
                              go_upto_region 23 with fail
                              go_quiet (fail)
                              go_wp2_with fail
                              go_ret2
                              refine ⟨Lib.hid ?_, Lib.hid (below_n HB5.out _)⟩
                              rw [gos_word, ← HL.out, HWS.out, HX.out]
                              rfl
                      · have HN := Lib.hid (told_many (k := K) (T := S.data.toList) hD hd1)
                        have m1 : (((D.length : Int) == 1) : Bool) = false := by rw [beq_eq_false_iff_ne]; omega
                        clear hD HO hT hd1
                        have HF5 : Hid (∀ j (h : j < l.length), j < k + 1 → told K S.data.toList l[j] = false) := Lib.hid (fun j hj hjk => by
                          rcases Nat.lt_or_ge j k with h | h
                          · exact HF.out j hj h
                          · obtain rfl : j = k := by omega
                            rw [HX.out]; exact HN.out)
                        go_upto_region 23 with fail
                        go_quiet (fail)
                        go_wp2_with fail
                        go_roundw
                        case rel => exact ⟨k + 1, by omega, by go_num, HF5, Lib.hid HBB5.out, Lib.hid (below_n HB5.out _)⟩
                        case measure => simp [intOf]; omega
                · go_upto_region 22 with fail
                  clear c0 c1
                  go_cut [8, 9] from 80 to 94 (fun lv kv wx => ∃ A2 n2 c2 kd, lv = .slice A2 n2 c2 ∧ kv = .int .i64 kd ∧ Hid (Out X A2 n2 kd wx) ∧ Hid (Below wr.heap.size wr wx))
                  case first =>
                    refine wp_region_held_drew (S := (fun W => W.cell? ⟨g, k, none⟩ = some (.string ⟨X.toArray⟩))) (by kernel_rfl) cx (fun hHeld => ?_)
                    have LO : Hid (Below wr.heap.size wr wr.drew) := Lib.hid (Below.drew (Below.refl _ _))
                    have hg0 : Hid (g < wr.drew.heap.size) := Lib.hid hg2
                    generalize wr.drew = V0 at *
                    refine wpAnyH_take (i := 0) (v := ?_) spat0 (by kernel_rfl) (by kernel_rfl) (by kernel_rfl) (fun _ _ _ h => h) (Or.inl ⟨by rfl, ?_⟩) (by assumption) ?_
                    rotate_left
                    · (intro w hSw; (try dsimp only at hSw); go_simp; (try with_reducible rfl))
                    (try simp only [Act.put, List.setIfInBounds_toArray, List.set_cons_zero, List.set_cons_succ])
                    refine wpAnyH_take (i := 1) (v := ?_) spat1 (by kernel_rfl) (by kernel_rfl) (by kernel_rfl) (fun _ _ _ h => h) (Or.inl ⟨by rfl, ?_⟩) (by assumption) ?_
                    rotate_left
                    · (intro w hSw; (try dsimp only at hSw); go_simp; (try with_reducible rfl))
                    (try simp only [Act.put, List.setIfInBounds_toArray, List.set_cons_zero, List.set_cons_succ])
                    refine wpAnyH_take (i := 2) (v := ?_) spat2 (by kernel_rfl) (by kernel_rfl) (by kernel_rfl) (fun _ _ _ h => h) (Or.inl ⟨by rfl, ?_⟩) (by assumption) ?_
                    rotate_left
                    · (intro w hSw; (try dsimp only at hSw); go_simp; (try with_reducible rfl))
                    (try simp only [Act.put, List.setIfInBounds_toArray, List.set_cons_zero, List.set_cons_succ])
                    refine wpAnyH_take (i := 3) (v := ?_) spat3 (by kernel_rfl) (by kernel_rfl) (by kernel_rfl) (fun _ _ _ h => h) (Or.inl ⟨by rfl, ?_⟩) (by assumption) ?_
                    rotate_left
                    · (intro w hSw; (try dsimp only at hSw); go_simp; (try with_reducible rfl))
                    (try simp only [Act.put, List.setIfInBounds_toArray, List.set_cons_zero, List.set_cons_succ])
                    refine wpAnyH_take (i := 5) (v := ?_) spat5 (by kernel_rfl) (by kernel_rfl) (by kernel_rfl) (fun _ _ _ h => h) (Or.inl ⟨by rfl, ?_⟩) (by assumption) ?_
                    rotate_left
                    · (intro w hSw; (try dsimp only at hSw); go_simp; (try with_reducible rfl))
                    (try simp only [Act.put, List.setIfInBounds_toArray, List.set_cons_zero, List.set_cons_succ])
                    refine wpAnyH_take (i := 6) (v := ?_) spat6 (by kernel_rfl) (by kernel_rfl) (by kernel_rfl) (fun _ _ _ h => h) (Or.inl ⟨by rfl, ?_⟩) (by assumption) ?_
                    rotate_left
                    · (intro w hSw; (try dsimp only at hSw); go_simp; (try with_reducible rfl))
                    (try simp only [Act.put, List.setIfInBounds_toArray, List.set_cons_zero, List.set_cons_succ])
                    refine wpAnyH_take (i := 7) (v := ?_) spat7 (by kernel_rfl) (by kernel_rfl) (by kernel_rfl) (fun _ _ _ h => h) (Or.inl ⟨by rfl, ?_⟩) (by assumption) ?_
                    rotate_left
                    · (intro w hSw; (try dsimp only at hSw); go_simp; (try with_reducible rfl))
                    (try simp only [Act.put, List.setIfInBounds_toArray, List.set_cons_zero, List.set_cons_succ])
                    refine wpAnyH_take (i := 8) (v := ?_) spat8 (by kernel_rfl) (by kernel_rfl) (by kernel_rfl) (fun _ _ _ h => h) (Or.inl ⟨by rfl, ?_⟩) (by assumption) ?_
                    rotate_left
                    · (intro w hSw; (try dsimp only at hSw); go_simp; (try with_reducible rfl))
                    (try simp only [Act.put, List.setIfInBounds_toArray, List.set_cons_zero, List.set_cons_succ])
                    refine wpAnyH_take (i := 9) (v := ?_) spat9 (by kernel_rfl) (by kernel_rfl) (by kernel_rfl) (fun _ _ _ h => h) (Or.inl ⟨by rfl, ?_⟩) (by assumption) ?_
                    rotate_left
                    · (intro w hSw; (try dsimp only at hSw); go_simp; (try with_reducible rfl))
                    (try simp only [Act.put, List.setIfInBounds_toArray, List.set_cons_zero, List.set_cons_succ])
                    refine wpAnyH_ready (rs := [4]) (by kernel_rfl) (by simp) ?_
                    refine AllReadyH.cons spat4 (fun K hK => ?_) AllReadyH.nil
                    go_simp
                    refine hK.out _ _ (scx.out _ hg0.out hHeld) (fun hHeld2 => ?_)
                    clear hK K hHeld
                    (try simp only [Act.put, List.setIfInBounds_toArray, List.set_cons_zero, List.set_cons_succ])
                    have RB1 := Lib.hid (strWorld_rb V0 X rfl)
                    have LO1 := Lib.hid (strWorld_below LO.out X)
                    have hg1 : Hid (g < (strWorld V0 X).heap.size) := Lib.hid (by unfold strWorld; have := hg0.out; simp; omega)
                    have HCP := Lib.hid (capOf_le V0 X)
                    clear scx kcv hg0 LO
                    generalize strWorld V0 X = V1 at *
                    generalize capOf V0 X = cp at *
                    generalize V0.heap.size = gv at *
                    refine wpAnyH_ready (rs := [10]) (by kernel_rfl) (by simp) ?_
                    refine AllReadyH.cons spat10 (fun K hK => ?_) AllReadyH.nil
                    go_simp
                    (go_at_call 33; refine (read_own (X := X) RB1 hXL HCP.out).mono ?_; rintro e V2 ⟨A2, n2, c2, kd, q2, rfl, HO, hb5⟩)
                    (try go_wp2_with fail)
                    refine hK.out _ _ ((hb5.out.cell (p := ⟨g, k, none⟩) hg1.out).trans hHeld2) (fun hHeld3 => ?_)
                    clear hK K hHeld2
                    (try simp only [Act.put, List.setIfInBounds_toArray, List.set_cons_zero, List.set_cons_succ])
                    have LO2 := Lib.hid (below_two LO1.out hb5.out)
                    clear hb5 LO1 RB1 HCP hg1
                    refine wpAnyH_take (i := 11) (v := ?_) spat11 (by kernel_rfl) (by kernel_rfl) (by kernel_rfl) (fun _ _ _ h => h) (Or.inl ⟨by rfl, ?_⟩) (by assumption) ?_
                    rotate_left
                    · (intro w hSw; (try dsimp only at hSw); go_simp; (try with_reducible rfl))
                    (try simp only [Act.put, List.setIfInBounds_toArray, List.set_cons_zero, List.set_cons_succ])
                    refine wpAnyH_take (i := 12) (v := ?_) spat12 (by kernel_rfl) (by kernel_rfl) (by kernel_rfl) (fun _ _ _ h => h) (Or.inl ⟨by rfl, ?_⟩) (by assumption) ?_
                    rotate_left
                    · (intro w hSw; (try dsimp only at hSw); go_simp; (try with_reducible rfl))
                    (try simp only [Act.put, List.setIfInBounds_toArray, List.set_cons_zero, List.set_cons_succ])
                    refine wpAnyH_take (i := 13) (v := ?_) spat13 (by kernel_rfl) (by kernel_rfl) (by kernel_rfl) (fun _ _ _ h => h) (Or.inl ⟨by rfl, ?_⟩) (by assumption) ?_
                    rotate_left
                    · (intro w hSw; (try dsimp only at hSw); go_simp; (try with_reducible rfl))
                    (try simp only [Act.put, List.setIfInBounds_toArray, List.set_cons_zero, List.set_cons_succ])
                    refine wpAnyH_take (i := 14) (v := ?_) spat14 (by kernel_rfl) (by kernel_rfl) (by kernel_rfl) (fun _ _ _ h => h) (Or.inl ⟨by rfl, ?_⟩) (by assumption) ?_
                    rotate_left
                    · (intro w hSw; (try dsimp only at hSw); go_simp; (try with_reducible rfl))
                    (try simp only [Act.put, List.setIfInBounds_toArray, List.set_cons_zero, List.set_cons_succ])
                    refine wpAnyH_take (i := 15) (v := ?_) spat15 (by kernel_rfl) (by kernel_rfl) (by kernel_rfl) (fun _ _ _ h => h) (Or.inl ⟨by rfl, ?_⟩) (by assumption) ?_
                    rotate_left
                    · (intro w hSw; (try dsimp only at hSw); go_simp; (try with_reducible rfl))
                    (try simp only [Act.put, List.setIfInBounds_toArray, List.set_cons_zero, List.set_cons_succ])
                    refine wpAnyH_take (i := 16) (v := ?_) spat16 (by kernel_rfl) (by kernel_rfl) (by kernel_rfl) (fun _ _ _ h => h) (Or.inl ⟨by rfl, ?_⟩) (by assumption) ?_
                    rotate_left
                    · (intro w hSw; (try dsimp only at hSw); go_simp; (try with_reducible rfl))
                    (try simp only [Act.put, List.setIfInBounds_toArray, List.set_cons_zero, List.set_cons_succ])
                    refine wpAnyH_take (i := 17) (v := ?_) spat17 (by kernel_rfl) (by kernel_rfl) (by kernel_rfl) (fun _ _ _ h => h) (Or.inl ⟨by rfl, ?_⟩) (by assumption) ?_
                    rotate_left
                    · (intro w hSw; (try dsimp only at hSw); go_simp; (try with_reducible rfl))
                    (try simp only [Act.put, List.setIfInBounds_toArray, List.set_cons_zero, List.set_cons_succ])
                    refine wpAnyH_done (by kernel_rfl) ?_ _
                    go_wp2_with fail
                    go_meet
                    exact ⟨A2, n2, c2, kd, rfl, rfl, HO, LO2⟩
                  case rest =>
                    obtain ⟨A2, n2, c2, kd, rfl, rfl, HO, HB2⟩ := hcut
                    clear cx scx kcv
                    have HBB5 : Hid (Bk wc w.heap.size 35 #[.int .i64 K, .string S, .int .i64 P] ∧ Bk wc g 9 (l.map strV).toArray) := Lib.hid ⟨HBB.out.1.below HB2.out HBB.out.1.lt, HBB.out.2.below HB2.out HBB.out.2.lt⟩
                    have HB5 : Hid (Below w.heap.size w wc) := Lib.hid (HB.out.trans (HB2.out.mono HB.out.size))
                    have c0 : wc.cell? ⟨w.heap.size, 0, none⟩ = some (.int .i64 K) := HBB5.out.1.cell 0
                    have c1 : wc.cell? ⟨w.heap.size, 1, none⟩ = some (.string S) := HBB5.out.1.cell 1
                    rcases HO.out with ⟨rfl, q, hq⟩ | ⟨rfl, D, hD, rfl, hDl, hT⟩
                    · have HN := Lib.hid (told_bad (k := K) (T := S.data.toList) hq)
                      clear hq HO
                      have HF5 : Hid (∀ j (h : j < l.length), j < k + 1 → told K S.data.toList l[j] = false) := Lib.hid (fun j hj hjk => by
                        rcases Nat.lt_or_ge j k with h | h
                        · exact HF.out j hj h
                        · obtain rfl : j = k := by omega
                          rw [HX.out]; exact HN.out)
                      go_upto_region 23 with fail
                      go_quiet (fail)
                      go_wp2_with fail
                      go_roundw
                      case rel => exact ⟨k + 1, by omega, by go_num, HF5, Lib.hid HBB5.out, Lib.hid (below_n HB5.out _)⟩
                      case measure => simp [intOf]; omega
                    · by_cases hd1 : D.length = 1
                      · obtain ⟨x, rfl⟩ : ∃ x, D = [x] := by
                          match D, hd1 with
                          | [x], _ => exact ⟨x, rfl⟩
                        have HTO := Lib.hid (told_one (k := K) (T := S.data.toList) hD)
                        obtain ⟨g9, rfl, hc9⟩ := hT (by simp)
                        obtain ⟨k0, k1, k2⟩ := hc9 0 (by simp)
                        simp only [Nat.zero_mul, Nat.zero_add, List.getElem_cons_zero] at k0 k1 k2
                        clear hc9 hT hD HO
                        obtain ⟨b1, hb1⟩ : ∃ b, decide ((x.kind : Int) = K) = b := ⟨_, rfl⟩
                        obtain ⟨b2, hb2⟩ : ∃ b, decide (x.text = S.data.toList) = b := ⟨_, rfl⟩
                        obtain ⟨b3, hb3⟩ : ∃ b, decide (x.at_ = 0) = b := ⟨_, rfl⟩
                        rw [hb1, hb2, hb3] at HTO
                        have m1 : (((x.kind : Int) == K) : Bool) = b1 := by rw [← hb1, Bool.eq_iff_iff]; simp
                        have m2 : ((x.text == S.toList) : Bool) = b2 := by rw [str_is2, hb2]
                        have m3 : (((x.at_ : Int) == 0) : Bool) = b3 := by rw [← hb3, Bool.eq_iff_iff]; simp
                        clear hb1 hb2 hb3
                        cases b1
                        · have HN : Hid (told K S.data.toList X = false) := HTO
                          clear HTO
                          have HF5 : Hid (∀ j (h : j < l.length), j < k + 1 → told K S.data.toList l[j] = false) := Lib.hid (fun j hj hjk => by
                            rcases Nat.lt_or_ge j k with h | h
                            · exact HF.out j hj h
                            · obtain rfl : j = k := by omega
                              rw [HX.out]; exact HN.out)
                          go_upto_region 23 with fail
                          go_quiet (fail)
                          go_wp2_with fail
                          go_roundw
                          case rel => exact ⟨k + 1, by omega, by go_num, HF5, Lib.hid HBB5.out, Lib.hid (below_n HB5.out _)⟩
                          case measure => simp [intOf]; omega
                        · cases b2
                          · have HN : Hid (told K S.data.toList X = false) := HTO
                            clear HTO
                            have HF5 : Hid (∀ j (h : j < l.length), j < k + 1 → told K S.data.toList l[j] = false) := Lib.hid (fun j hj hjk => by
                              rcases Nat.lt_or_ge j k with h | h
                              · exact HF.out j hj h
                              · obtain rfl : j = k := by omega
                                rw [HX.out]; exact HN.out)
                            go_upto_region 23 with fail
                            go_quiet (fail)
                            go_wp2_with fail
                            go_roundw
                            case rel => exact ⟨k + 1, by omega, by go_num, HF5, Lib.hid HBB5.out, Lib.hid (below_n HB5.out _)⟩
                            case measure => simp [intOf]; omega
                          · cases b3
                            · have HN : Hid (told K S.data.toList X = false) := HTO
                              clear HTO
                              have HF5 : Hid (∀ j (h : j < l.length), j < k + 1 → told K S.data.toList l[j] = false) := Lib.hid (fun j hj hjk => by
                                rcases Nat.lt_or_ge j k with h | h
                                · exact HF.out j hj h
                                · obtain rfl : j = k := by omega
                                  rw [HX.out]; exact HN.out)
                              go_upto_region 23 with fail
                              go_quiet (fail)
                              go_wp2_with fail
                              go_roundw
                              case rel => exact ⟨k + 1, by omega, by go_num, HF5, Lib.hid HBB5.out, Lib.hid (below_n HB5.out _)⟩
                              case measure => simp [intOf]; omega
                            · have HN : Hid (told K S.data.toList X = true) := HTO
                              have HWS := Lib.hid (ws (p := told K S.data.toList) hlt HF.out (by rw [HX.out]; exact HN.out) HK3.out)
                              have cx5 : wc.cell? ⟨g, k, none⟩ = some (.string ⟨X.toArray⟩) := by
                                rw [HBB5.out.2.cell k]; simp [hlt, HX.out, strV]
                              clear HTO
                              go_upto_region 23 with fail
                              go_quiet (fail)
                              go_wp2_with fail
                              go_ret2
                              refine ⟨Lib.hid ?_, Lib.hid (below_n HB5.out _)⟩
                              rw [gos_word, ← HL.out, HWS.out, HX.out]
                              rfl
                      · have HN := Lib.hid (told_many (k := K) (T := S.data.toList) hD hd1)
                        have m1 : (((D.length : Int) == 1) : Bool) = false := by rw [beq_eq_false_iff_ne]; omega
                        clear hD HO hT hd1
                        have HF5 : Hid (∀ j (h : j < l.length), j < k + 1 → told K S.data.toList l[j] = false) := Lib.hid (fun j hj hjk => by
                          rcases Nat.lt_or_ge j k with h | h
                          · exact HF.out j hj h
                          · obtain rfl : j = k := by omega
                            rw [HX.out]; exact HN.out)
                        go_upto_region 23 with fail
                        go_quiet (fail)
                        go_wp2_with fail
                        go_roundw
                        case rel => exact ⟨k + 1, by omega, by go_num, HF5, Lib.hid HBB5.out, Lib.hid (below_n HB5.out _)⟩
                        case measure => simp [intOf]; omega
            · obtain rfl : k = l.length := by omega
              have HN := Lib.hid (wn1 (p := told K S.data.toList) (K := K) HF.out)
              go_wp2_with fail
              go_ret2
              refine ⟨Lib.hid ?_, HB⟩
              rw [gos_word, ← HL.out, HN.out]
              rfl
end Go.Proofs.YtmnllioeaaimcaaDoor.tk
