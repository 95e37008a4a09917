/- The document's answer of layer 5: Read. -/
import Derived.RegionTactic
import Derived.Deep.LoopGhost
import Derived.Test.YtmnllioeaaimcaaDoorVj
namespace Go.Proofs.YtmnllioeaaimcaaDoor.tr
open Go Go.RowKit Go.Proofs.YtmnllioeaaimcaaDoor.tk

/-- what the document's Read comes to -/
def RefIs (deep : Int) (l : List Tok) (e : Ending) (w' : World) : Prop := match read deep l with
  | .error (code, p) => e = .returned (.tuple #[.slice none 0 0, .int .i64 (code : Int), .int .i64 p])
  | .ok ts => ∃ v, e = .returned (.tuple #[v, .int .i64 0, .int .i64 0]) ∧ Rw w' (fun _ => True) ts v
theorem spat18 {α : Type} {a0 a1 a2 a3 a4 a5 a6 a7 a8 a9 a10 a11 a12 a13 a14 a15 a16 a17 o : α} {t : List α} : (List.toArray (a0 :: a1 :: a2 :: a3 :: a4 :: a5 :: a6 :: a7 :: a8 :: a9 :: a10 :: a11 :: a12 :: a13 :: a14 :: a15 :: a16 :: a17 :: o :: t))[18]? = some o := rfl
theorem od_start {w : World} {n0 g : Nat} (hg : Bk w g 37 #[.bool true, .int .i64 0, .string ⟨#[]⟩, .int .i64 0, .slice none 0 0]) (h1 : n0 ≤ g) : Od w n0 [] g 1 (levs true [] []) [.slice none 0 0] :=
  ⟨⟨rfl, .inr ⟨g, 1, _, rfl, h1, hg, Nat.le_refl _, by decide, rfl, rfl⟩⟩, ⟨⟨[], World.ownsRow_nil _ _ _ _, rfl⟩, trivial⟩, by simp [own, List.filterMap_cons, Value.ownBlock], fun b hb => by simp at hb⟩
theorem levs_top (b0 : Bool) (ks : List Tree) (st : List (Tok × List Tree)) : ∃ y L, levs b0 ks st = y :: L ∧ y.ks = ks ∧ L.length = st.length ∧ ∀ r, levs b0 (ks ++ r) st = ⟨y.l, y.t, y.ks ++ r⟩ :: L := by
  have hl := levs_len b0 ks st
  cases st with
  | nil => exact ⟨_, _, rfl, rfl, rfl, fun _ => rfl⟩
  | cons q st => obtain ⟨a, b⟩ := q; exact ⟨_, _, rfl, rfl, by simpa [levs] using hl, fun _ => rfl⟩
theorem Od.slice {w : World} {n0 g c : Nat} {Z : List Nat} {x : Lv} {L : List Lv} {v : Value} {vs : List Value} (h : Od w n0 Z g c (x :: L) (v :: vs)) : ∃ A3 c3, v = .slice A3 x.ks.length c3 := by
  obtain ⟨xs, h1, _⟩ := h.kid.1
  rcases h1.2 with ⟨e1, e2⟩ | ⟨g', cap, _, e1, _⟩
  · exact ⟨none, 0, by rw [e1, e2]⟩
  · exact ⟨_, _, e1⟩
theorem Od.vals {w : World} {n0 g c : Nat} {Z : List Nat} {x : Lv} {L : List Lv} {vs : List Value} (h : Od w n0 Z g c (x :: L) vs) : ∃ v vs', vs = v :: vs' := by
  have := h.kid.len
  match vs, this with
  | v :: vs', _ => exact ⟨v, vs', rfl⟩

set_option maxRecDepth 100000 in
set_option maxHeartbeats 8000000 in
theorem refRead_any {w : World} {deep : Int} {A : Option Addr} {l : List Tok} {cb : Nat} (ht : Hid (Tm w w.heap.size A l)) (hl : l.length ≤ 80000000) :
    Calls Tryd.prog 8 #[.slice A l.length cb, .int .i64 deep] w fun e w' => Hid (RefIs deep l e w') ∧ Hid (Below w.heap.size w w') := by
  obtain ⟨i0, hi, hz0, hz1, hz2⟩ := info_parts infoT
  obtain ⟨N0, hNl⟩ : ∃ N, l.length = N := ⟨_, rfl⟩
  have HN0 := Lib.hid hNl
  rw [hNl] at hl ⊢
  clear hNl
  obtain ⟨n0, hn0⟩ : ∃ n0, w.heap.size = n0 := ⟨_, rfl⟩
  have HNW : Hid (n0 ≤ w.heap.size) := Lib.hid (by omega)
  have HNE := Lib.hid hn0
  rw [hn0] at ht ⊢
  clear hn0
  go_enter Tryd.func8, Tryd.ntmps8
  go_upto_region 2 with fail
  rw [HNE.out]
  generalize hW : World.alloc _ _ = W1
  have HO1 : Hid (Od W1 n0 [] n0 1 (levs true [] []) [.slice none 0 0]) := Lib.hid (by
    have := Bk.new w 37 #[.bool true, .int .i64 0, .string ⟨#[]⟩, .int .i64 0, .slice none 0 0]
    rw [hW, HNE.out] at this
    exact od_start this (Nat.le_refl _))
  have HB1 : Hid (Below n0 w W1) := Lib.hid (hW ▸ (Below.refl _ w).alloc HNW.out _)
  clear hW
  go_upto_region 3 with fail
  go_loopw [7, 8] (fun ov iv wr => ∃ (k K : Nat) (s : State) (g c : Nat) (vs : List Value), iv = .int .i64 (k : Int) ∧ ov = .slice (some ⟨g, 0, none⟩) (K + 1) c ∧ k ≤ N0 ∧ Hid (s.2.length = K) ∧ Hid (run deep (l.take k) ([], []) = .ok s) ∧ Hid (Od wr n0 [] g c (levs true s.1 s.2) vs) ∧ Hid (Below n0 w wr)) (fun _ iv _ => N0 - (intOf iv).toNat)
  case atStart => exact ⟨0, 0, ([], []), n0, 1, _, rfl, rfl, Nat.zero_le _, Lib.hid rfl, Lib.hid (by simp [run]), HO1, HB1⟩
  case round =>
    clear HO1 HB1
    obtain ⟨k, K, s, g, c, vsx, rfl, rfl, hk, HK, HRN, HO, HBL⟩ := hrel
    obtain ⟨ks, st⟩ := s
    dsimp only at HK HO
    have HSB : Hid (sizes ks + stackSize st ≤ 80000000) := Lib.hid (by
      have := run_size HRN.out
      simp [sizes, stackSize] at this
      have h2 := HN0.out
      omega)
    have hKb : K ≤ 80000000 := by have := HSB.out; have := stack_len st; have := HK.out; omega
    have hksb : ks.length ≤ 80000000 := by have := HSB.out; have := len_sizes ks; omega
    have HNR : Hid (n0 ≤ wr.heap.size) := Lib.hid (by have := HBL.out.size; have := HNW.out; omega)
    have e3 : (K : Int) + 1 - 1 = (K : Int) := by omega
    by_cases hlt : k < N0
    · have g7 : (k : Int) < (N0 : Int) := by omega
      have hk' : k < l.length := by rw [HN0.out]; exact hlt
      obtain ⟨b, off, eA, hbn, hbw, hc⟩ := (ht.out.below HBL.out) (by omega)
      obtain ⟨t, hte⟩ : ∃ t, l[k] = t := ⟨_, rfl⟩
      obtain ⟨q0, q1, q2⟩ := hc k hk'
      rw [hte] at q0 q1 q2
      have HTE := Lib.hid hte
      have HBN := Lib.hid hbn
      have HBW := Lib.hid hbw
      subst eA
      clear hc hte hbn hbw
      by_cases k1 : t.k = 1
      · have HK1 := Lib.hid k1
        have b1 : (t.k == 1) = true := by simpa using k1
        clear k1
        by_cases hd : deep ≤ (K : Int)
        · have HE : Hid (read deep l = .error (4, t.p)) := Lib.hid (run_bad hk' HRN.out (by rw [HTE.out]; unfold step; dsimp only; rw [if_pos HK1.out, if_pos (by rw [HK.out]; exact hd)]))
          go_upto_region 8 with fail
          go_quiet (fail)
          have HBF : Hid (Below n0 w (wr.drewN nq)) := Lib.hid ⟨HBL.out.os, HBL.out.tape, HBL.out.output, HBL.out.size, HBL.out.block⟩
          go_wp2
          refine bodyPost_ret (results_tmp3 rfl _ _ _) rfl ?_
          exact ⟨Lib.hid (by unfold RefIs; rw [HE.out]; rfl), HBF⟩
        · have HS : Hid (run deep (l.take (k + 1)) ([], []) = .ok ([], (t, ks) :: st)) := Lib.hid (run_next hk' HRN.out (by rw [HTE.out]; unfold step; dsimp only; rw [if_pos HK1.out, if_neg (by rw [HK.out]; exact hd)]))
          have HROW : Hid (wr.ownsRow n0 37 5 (.slice (some ⟨g, 0, none⟩) (K + 1) c) (K + 1) (rowOf (levs true ks st) vsx)) := Lib.hid (by have := HO.out.row; rw [levs_len, HK.out] at this; exact this)
          go_wp2_with (at_builtin; refine wpList_append_lies _ rfl _ _ 24 rfl n0 37 i0 _ 5 64 Tryd.underlying24 hi hz0 hz1 hz2 rfl (by decide) (.slice (some ⟨g, 0, none⟩) (K + 1) c) (K + 1) _ rfl (HROW.out.alloc _) ⟨wr.heap.size, 0, none⟩ 1 1 [.bool true, .int .i64 t.k, .string ⟨t.s.toArray⟩, .int .i64 t.p, .slice none 0 0] rfl rfl (new5 wr _ _ _ _ _ _) (fun q hq => five_one hq rfl rfl rfl rfl rfl) (by decide) (by unfold maxLen; omega) (by omega) (by have := HNR.out; simp; omega) _ rfl ?_)
          intro g' c' W3 hown hgrow hat hlt3
          have HEND : Hid (Od W3 n0 [] g' c' (levs true [] ((t, ks) :: st)) (.slice none 0 0 :: vsx) ∧ Below n0 w W3) := Lib.hid (by
            have s3 : Sft (fun b => b = g) wr W3 := (Sft.alloc _ wr _).trans (Sft.of_grown hgrow (fun r e => by simpa [Value.ownBlock] using e.symm)) (fun _ h => .inl h)
            have h := HO.out.open_ (t := t) (by rw [levs_len, HK.out]; exact hown) s3 (hat.imp (fun e => by simpa [Value.ownBlock] using e) (fun e => by rw [e]; simp))
            exact ⟨h.1, HBL.out.trans (s3.below HNR.out (fun b e => by rw [e]; exact (HO.out.lt g (by simp)).1))⟩)
          have HK2 : Hid (((t, ks) :: st).length = K + 1) := Lib.hid (by rw [List.length_cons, HK.out])
          clear hown hgrow hat hlt3 HO HBL HROW q0 q1 q2
          go_wp2
          go_roundw
          case rel => exact ⟨k + 1, K + 1, ([], (t, ks) :: st), g', c', _, by go_num, rfl, by omega, HK2, HS, Lib.hid HEND.out.1, Lib.hid HEND.out.2⟩
          case measure => simp [intOf]; omega
      · have b1 : (t.k == 1) = false := by simpa using k1
        have HK1 := Lib.hid k1
        by_cases k2 : t.k = 2
        · have b2 : (t.k == 2) = true := by simpa using k2
          have HK2 := Lib.hid k2
          clear k1 k2
          by_cases hK0 : K = 0
          · subst hK0
            obtain rfl : st = [] := List.eq_nil_of_length_eq_zero HK.out
            have HE : Hid (read deep l = .error (11, t.p)) := Lib.hid (run_bad hk' HRN.out (by rw [HTE.out]; unfold step; dsimp only; rw [if_neg HK1.out, if_pos HK2.out]))
            go_upto_region 12 with fail
            go_quiet (fail)
            have HBF : Hid (Below n0 w (wr.drewN nq)) := Lib.hid ⟨HBL.out.os, HBL.out.tape, HBL.out.output, HBL.out.size, HBL.out.block⟩
            go_wp2
            refine bodyPost_ret (results_tmp3 rfl _ _ _) rfl ?_
            exact ⟨Lib.hid (by unfold RefIs; rw [HE.out]; rfl), HBF⟩
          · obtain ⟨N, rfl⟩ : ∃ N, K = N + 1 := ⟨K - 1, by omega⟩
            have k0 : ¬ ((N : Int) + 1 = 0) := by omega
            cases st with
            | nil => exact absurd HK.out (by simp)
            | cons q st =>
              obtain ⟨u, pk⟩ := q
              have HS : Hid (run deep (l.take (k + 1)) ([], []) = .ok (pk ++ [.mk true u ks], st)) := Lib.hid (run_next hk' HRN.out (by rw [HTE.out]; unfold step; dsimp only; rw [if_neg HK1.out, if_pos HK2.out]))
              have hst : st.length = N := by have := HK.out; simpa using this
              obtain ⟨x, L, eL, ex, eN, eap⟩ := levs_top true pk st
              have HLV : Hid (levs true (pk ++ [.mk true u ks]) st = ⟨x.l, x.t, x.ks ++ [.mk true u ks]⟩ :: L) := Lib.hid (eap _)
              rw [show levs true ks ((u, pk) :: st) = ⟨true, u, ks⟩ :: levs true pk st from rfl, eL] at HO
              obtain ⟨v4, vs5, rfl⟩ := HO.out.vals
              obtain ⟨v, vs, rfl⟩ := HO.out.close.1.vals
              have HNL : Hid (L.length = N) := Lib.hid (by rw [eN, hst])
              have HNL2 : Hid (st.length = N) := Lib.hid hst
              have hxk : x.ks.length ≤ 80000000 := by rw [ex]; have h1 := HSB.out; have h2 := len_sizes pk; simp only [stackSize] at h1; omega
              obtain ⟨A4, c4, e4⟩ := HO.out.slice
              dsimp only at e4
              subst e4
              obtain ⟨M4, hM4⟩ : ∃ M4, ks.length = M4 := ⟨_, rfl⟩
              have HM4 := Lib.hid hM4
              obtain ⟨A3, c3, e8⟩ := HO.out.close.1.slice
              obtain ⟨M, hM⟩ : ∃ M, x.ks.length = M := ⟨_, rfl⟩
              rw [hM] at e8 hxk
              rw [hM4] at HO
              subst e8
              have HM := Lib.hid hM
              clear hM hM4 eL ex eN eap HSB hksb HK hst
              have hcap : N + 2 ≤ c := by
                rcases HO.out.row.2 with ⟨h2, _⟩ | ⟨_, _, _, e1, _, _, e4, _⟩
                · simp at h2
                · simp only [Value.slice.injEq, true_and] at e1
                  have := e4
                  simp only [List.length_cons, HNL.out] at this
                  omega
              have p1 : (0 : Int) ≤ (N : Int) := by omega
              have p2 : (N : Int) < (N : Int) + 1 := by omega
              have p3 : (0 : Int) ≤ (N : Int) + 1 := by omega
              have p4 : (N : Int) < (N : Int) + 1 + 1 := by omega
              have p5 : ¬ c = 0 := by omega
              have hwr : IntKind.i64.wrap (N : Int) = (N : Int) := IntWalk.i64_in _ (by omega)
              have p6 : N + 1 ≤ c := by omega
              go_upto_region 13 with fail
              clear q0 q1 q2
              go_region
              · generalize hWW : World.drew _ = W1
                have HO1 : Hid (Od W1 n0 [] g c (⟨true, u, ks⟩ :: x :: L) (.slice A4 M4 c4 :: .slice A3 M c3 :: vs)) := Lib.hid (hWW ▸ Od.stays (w' := (wr.alloc (.cells #[.bool false] 4)).drew) (Od.stays (w' := wr.alloc (.cells #[.bool false] 4)) HO.out (by simp) (fun b hl _ => Below.heap_alloc _ _ b hl)) (show (wr.alloc (.cells #[.bool false] 4)).heap.size ≤ ((wr.alloc (.cells #[.bool false] 4)).drew).heap.size from Nat.le_refl _) (fun _ _ _ => rfl))
                have HBLr : Hid (Below n0 w W1) := Lib.hid (hWW ▸ (HBL.out.alloc HNR.out _).drew)
                clear hWW HBL HO
                have HBL := HBLr
                clear HBLr
                have HOD : Hid (Od W1 n0 [] g c (x :: L) (.slice A3 M c3 :: vs)) := Lib.hid HO1.out.close.1
                have HTR : Hid (Vt W1 (fun b => b ∉ own [] g (.slice A3 M c3 :: vs)) (.mk true u ks) [.bool true, .int .i64 u.k, .string ⟨u.s.toArray⟩, .int .i64 u.p, .slice A4 M4 c4]) := Lib.hid (Vt.iff.2 ⟨_, rfl, HO1.out.close.2.2⟩)
                have Q0 : Hid (W1.cell? ⟨g, (N + 1) * 5, none⟩ = some (.bool true)) := Lib.hid (by have := HO1.out.cell 0 (by omega); simp only [List.length_cons, HNL.out] at this; exact this)
                have Q1 : Hid (W1.cell? ⟨g, (N + 1) * 5 + 1, none⟩ = some (.int .i64 u.k)) := Lib.hid (by have := HO1.out.cell 1 (by omega); simp only [List.length_cons, HNL.out] at this; exact this)
                have Q2 : Hid (W1.cell? ⟨g, (N + 1) * 5 + 2, none⟩ = some (.string ⟨u.s.toArray⟩)) := Lib.hid (by have := HO1.out.cell 2 (by omega); simp only [List.length_cons, HNL.out] at this; exact this)
                have Q3 : Hid (W1.cell? ⟨g, (N + 1) * 5 + 3, none⟩ = some (.int .i64 u.p)) := Lib.hid (by have := HO1.out.cell 3 (by omega); simp only [List.length_cons, HNL.out] at this; exact this)
                have Q4 : Hid (W1.cell? ⟨g, (N + 1) * 5 + 4, none⟩ = some (.slice A4 M4 c4)) := Lib.hid (by have := HO1.out.cell 4 (by omega); simp only [List.length_cons, HNL.out] at this; exact this)
                have HF1 : Hid (W1.cell? ⟨g, N * 5 + 4, none⟩ = some (.slice A3 M c3)) := Lib.hid (by have := HOD.out.cell 4 (by omega); rw [HNL.out] at this; exact this)
                obtain ⟨xs, hown, hav⟩ := HOD.out.kid.1
                rw [HM.out] at hown
                have HOWN := Lib.hid hown
                have HAV := Lib.hid hav
                clear hown hav
                have HBK : Hid (g < W1.heap.size ∧ ¬ (Value.slice A3 M c3).ownBlock = some g ∧ (g < n0 ∨ g = g)) := Lib.hid ⟨(HOD.out.lt g (by simp)).2, fun e => (HOD.out.vne g e).1 rfl, .inr rfl⟩
                go_upto_region 16 with fail
                obtain ⟨SS, hSS⟩ : ∃ SS : World → Prop, SS = fun W => W.cell? ⟨g, N * 5 + 4, none⟩ = some (.slice A3 M c3) ∧ W.cell? ⟨g, (N + 1) * 5, none⟩ = some (.bool true) ∧ W.cell? ⟨g, (N + 1) * 5 + 1, none⟩ = some (.int .i64 u.k) ∧ W.cell? ⟨g, (N + 1) * 5 + 2, none⟩ = some (.string ⟨u.s.toArray⟩) ∧ W.cell? ⟨g, (N + 1) * 5 + 3, none⟩ = some (.int .i64 u.p) ∧ W.cell? ⟨g, (N + 1) * 5 + 4, none⟩ = some (.slice A4 M4 c4) := ⟨_, rfl⟩
                have HSK : ∀ W W' : World, W'.heap[g]? = W.heap[g]? → W'.heap[g]? = W.heap[g]? → SS W → SS W' := by
                  rw [hSS]
                  rintro W W' h1 h2 ⟨hf, b0, b1, b2, b3, b4⟩
                  exact ⟨(World.cell?_of_block (a := ⟨g, N * 5 + 4, none⟩) h1).trans hf, (World.cell?_of_block (a := ⟨g, (N + 1) * 5, none⟩) h2).trans b0, (World.cell?_of_block (a := ⟨g, (N + 1) * 5 + 1, none⟩) h2).trans b1, (World.cell?_of_block (a := ⟨g, (N + 1) * 5 + 2, none⟩) h2).trans b2, (World.cell?_of_block (a := ⟨g, (N + 1) * 5 + 3, none⟩) h2).trans b3, (World.cell?_of_block (a := ⟨g, (N + 1) * 5 + 4, none⟩) h2).trans b4⟩
                have HSO : ∀ W : World, SS W → W.cell? ⟨g, N * 5 + 4, none⟩ = some (.slice A3 M c3) ∧ W.cell? ⟨g, (N + 1) * 5, none⟩ = some (.bool true) ∧ W.cell? ⟨g, (N + 1) * 5 + 1, none⟩ = some (.int .i64 u.k) ∧ W.cell? ⟨g, (N + 1) * 5 + 2, none⟩ = some (.string ⟨u.s.toArray⟩) ∧ W.cell? ⟨g, (N + 1) * 5 + 3, none⟩ = some (.int .i64 u.p) ∧ W.cell? ⟨g, (N + 1) * 5 + 4, none⟩ = some (.slice A4 M4 c4) := by rw [hSS]; exact fun _ h => h
                have HSI : ∀ W : World, (W.cell? ⟨g, N * 5 + 4, none⟩ = some (.slice A3 M c3) ∧ W.cell? ⟨g, (N + 1) * 5, none⟩ = some (.bool true) ∧ W.cell? ⟨g, (N + 1) * 5 + 1, none⟩ = some (.int .i64 u.k) ∧ W.cell? ⟨g, (N + 1) * 5 + 2, none⟩ = some (.string ⟨u.s.toArray⟩) ∧ W.cell? ⟨g, (N + 1) * 5 + 3, none⟩ = some (.int .i64 u.p) ∧ W.cell? ⟨g, (N + 1) * 5 + 4, none⟩ = some (.slice A4 M4 c4)) → SS W := by rw [hSS]; exact fun _ h => h
                clear hSS
                have HSS1 : Hid (SS W1) := Lib.hid (HSI _ ⟨HF1.out, Q0.out, Q1.out, Q2.out, Q3.out, Q4.out⟩)
                clear HSI
                obtain ⟨S, hSd⟩ : ∃ S : Bool → World → Prop, S = fun b W => b = true → SS W := ⟨_, rfl⟩
                have HMO : ∀ w, S true w → S false w := by rw [hSd]; intro w _ h; cases h
                have HSP : ∀ W : World, S true W → SS W := fun W h => by rw [hSd] at h; exact h rfl
                have HSM : ∀ W : World, SS W → S true W := fun W h => by rw [hSd]; exact fun _ => h
                have HSF : ∀ W : World, S false W := fun W => by rw [hSd]; intro h; cases h
                clear hSd
                refine wp_region_T S 17 (by kernel_rfl) (HSM _ (HSK W1 W1.drew rfl rfl HSS1.out)) (fun hH => ?_)
                have HR2 : Hid (Od W1.drew n0 [] g c (x :: L) (.slice A3 M c3 :: vs)) := Lib.hid (HOD.out.stays (Nat.le_refl _) (fun _ _ _ => rfl))
                have HSS2 : Hid (SS W1.drew) := Lib.hid (HSK W1 W1.drew rfl rfl HSS1.out)
                have HOWN2 : Hid (W1.drew.ownsRow n0 37 5 (.slice A3 M c3) M xs) := HOWN
                have HAV2 : Hid (Av W1.drew (fun b => b ∉ own [] g (.slice A3 M c3 :: vs)) x.ks xs) := Lib.hid (Av.stays (w := W1) (w' := W1.drew) (show W1.heap.size ≤ W1.drew.heap.size from Nat.le_refl _) (fun _ h _ => ⟨h, rfl⟩) HAV.out)
                have HTR2 : Hid (Vt W1.drew (fun b => b ∉ own [] g (.slice A3 M c3 :: vs)) (.mk true u ks) [.bool true, .int .i64 u.k, .string ⟨u.s.toArray⟩, .int .i64 u.p, .slice A4 M4 c4]) := Lib.hid (Vt.stays (w := W1) (w' := W1.drew) (show W1.heap.size ≤ W1.drew.heap.size from Nat.le_refl _) (fun _ h _ => ⟨h, rfl⟩) _ HTR.out)
                have HBL2 : Hid (Below n0 w W1.drew) := Lib.hid HBL.out.drew
                have HBK2 : Hid (g < W1.drew.heap.size ∧ ¬ (Value.slice A3 M c3).ownBlock = some g ∧ (g < n0 ∨ g = g)) := HBK
                clear HOD HSS1 HOWN HAV HBL HF1 HTR HBK Q0 Q1 Q2 Q3 Q4 HO1
                generalize W1.drew = W2 at *
                refine wpAnyT_take (i := 0) (v := ?_) spat0 (by kernel_rfl) (by kernel_rfl) (by kernel_rfl) (by decide) (fun _ _ _ h => h) (Or.inl ⟨by rfl, ?_⟩) HMO hH ?_
                rotate_left
                · (intro w hSw; clear hSw; go_simp; (try with_reducible rfl))
                (try simp only [Act.put, List.setIfInBounds_toArray, List.set_cons_zero, List.set_cons_succ])
                refine wpAnyT_take (i := 1) (v := ?_) spat1 (by kernel_rfl) (by kernel_rfl) (by kernel_rfl) (by decide) (fun _ _ _ h => h) (Or.inl ⟨by rfl, ?_⟩) HMO hH ?_
                rotate_left
                · (intro w hSw; clear hSw; go_simp; (try with_reducible rfl))
                (try simp only [Act.put, List.setIfInBounds_toArray, List.set_cons_zero, List.set_cons_succ])
                refine wpAnyT_take (i := 2) (v := ?_) spat2 (by kernel_rfl) (by kernel_rfl) (by kernel_rfl) (by decide) (fun _ _ _ h => h) (Or.inl ⟨by rfl, ?_⟩) HMO hH ?_
                rotate_left
                · (intro w hSw; clear hSw; go_simp; (try with_reducible rfl))
                (try simp only [Act.put, List.setIfInBounds_toArray, List.set_cons_zero, List.set_cons_succ])
                refine wpAnyT_take (i := 3) (v := ?_) spat3 (by kernel_rfl) (by kernel_rfl) (by kernel_rfl) (by decide) (fun _ _ _ h => h) (Or.inl ⟨by rfl, ?_⟩) HMO hH ?_
                rotate_left
                · (intro w hSw; clear hSw; go_simp; (try with_reducible rfl))
                (try simp only [Act.put, List.setIfInBounds_toArray, List.set_cons_zero, List.set_cons_succ])
                refine wpAnyT_take (i := 4) (v := ?_) spat4 (by kernel_rfl) (by kernel_rfl) (by kernel_rfl) (by decide) (fun _ _ _ h => h) (Or.inl ⟨by rfl, ?_⟩) HMO hH ?_
                rotate_left
                · (intro w hSw; clear hSw; go_simp; (try with_reducible rfl))
                (try simp only [Act.put, List.setIfInBounds_toArray, List.set_cons_zero, List.set_cons_succ])
                refine wpAnyT_take (i := 5) (v := ?_) spat5 (by kernel_rfl) (by kernel_rfl) (by kernel_rfl) (by decide) (fun _ _ _ h => h) (Or.inl ⟨by rfl, ?_⟩) HMO hH ?_
                rotate_left
                · (intro w hSw; clear hSw; go_simp; (try with_reducible rfl))
                (try simp only [Act.put, List.setIfInBounds_toArray, List.set_cons_zero, List.set_cons_succ])
                refine wpAnyT_take (i := 6) (v := ?_) spat6 (by kernel_rfl) (by kernel_rfl) (by kernel_rfl) (by decide) (fun _ _ _ h => h) (Or.inl ⟨by rfl, ?_⟩) HMO hH ?_
                rotate_left
                · (intro w hSw; clear hSw; go_simp; (try with_reducible rfl))
                (try simp only [Act.put, List.setIfInBounds_toArray, List.set_cons_zero, List.set_cons_succ])
                refine wpAnyT_take (i := 7) (v := ?_) spat7 (by kernel_rfl) (by kernel_rfl) (by kernel_rfl) (by decide) (fun _ _ _ h => h) (Or.inl ⟨by rfl, ?_⟩) HMO hH ?_
                rotate_left
                · (intro w hSw; clear hSw; go_simp; (try with_reducible rfl))
                (try simp only [Act.put, List.setIfInBounds_toArray, List.set_cons_zero, List.set_cons_succ])
                refine wpAnyT_read (i := 8) (v := ?_) [17] spat8 (by kernel_rfl) (by kernel_rfl) (by kernel_rfl) (by decide) (by kernel_rfl) (fun _ _ _ h => h) (Or.inl ⟨by rfl, ?_⟩) hH ?_
                rotate_left
                · (intro w hSw; obtain ⟨hf, b0, b1, b2, b3, b4⟩ := HSO _ (HSP _ hSw); clear hSw; go_simp; (try with_reducible rfl))
                (try simp only [Act.put, List.setIfInBounds_toArray, List.set_cons_zero, List.set_cons_succ])
                refine wpAnyT_take (i := 9) (v := ?_) spat9 (by kernel_rfl) (by kernel_rfl) (by kernel_rfl) (by decide) (fun _ _ _ h => h) (Or.inl ⟨by rfl, ?_⟩) HMO hH ?_
                rotate_left
                · (intro w hSw; clear hSw; go_simp; (try with_reducible rfl))
                (try simp only [Act.put, List.setIfInBounds_toArray, List.set_cons_zero, List.set_cons_succ])
                refine wpAnyT_take (i := 10) (v := ?_) spat10 (by kernel_rfl) (by kernel_rfl) (by kernel_rfl) (by decide) (fun _ _ _ h => h) (Or.inl ⟨by rfl, ?_⟩) HMO hH ?_
                rotate_left
                · (intro w hSw; clear hSw; go_simp; (try with_reducible rfl))
                (try simp only [Act.put, List.setIfInBounds_toArray, List.set_cons_zero, List.set_cons_succ])
                refine wpAnyT_take (i := 11) (v := ?_) spat11 (by kernel_rfl) (by kernel_rfl) (by kernel_rfl) (by decide) (fun _ _ _ h => h) (Or.inl ⟨by rfl, ?_⟩) HMO hH ?_
                rotate_left
                · (intro w hSw; clear hSw; go_simp; (try with_reducible rfl))
                (try simp only [Act.put, List.setIfInBounds_toArray, List.set_cons_zero, List.set_cons_succ])
                refine wpAnyT_read (i := 12) (v := ?_) [17] spat12 (by kernel_rfl) (by kernel_rfl) (by kernel_rfl) (by decide) (by kernel_rfl) (fun _ _ _ h => h) (Or.inl ⟨by rfl, ?_⟩) hH ?_
                rotate_left
                · (intro w hSw; obtain ⟨hf, b0, b1, b2, b3, b4⟩ := HSO _ (HSP _ hSw); clear hSw; go_simp; (try with_reducible rfl))
                (try simp only [Act.put, List.setIfInBounds_toArray, List.set_cons_zero, List.set_cons_succ])
                refine wpAnyT_ready (rs := [13]) (by kernel_rfl) (by simp) ?_
                refine AllReadyT.cons spat13 true (by kernel_rfl) (fun K hK => ?_) AllReadyT.nil
                go_simp
                refine hK.out _ _ (HSM _ (HSK W2 _ (Below.heap_alloc _ _ _ (HR2.out.lt g (by simp)).2) (Below.heap_alloc _ _ _ HBK2.out.1) HSS2.out)) (fun hH => ?_)
                clear hK K
                (try simp only [Act.put, List.setIfInBounds_toArray, List.set_cons_zero, List.set_cons_succ])
                refine wpAnyT_ready (rs := [14]) (by kernel_rfl) (by simp) ?_
                refine AllReadyT.cons spat14 true (by kernel_rfl) (fun K hK => ?_) AllReadyT.nil
                refine step_append_lies _ rfl _ _ 24 rfl n0 37 i0 _ 5 64 Tryd.underlying24 hi hz0 hz1 hz2 rfl (by decide) (.slice A3 M c3) M xs rfl (HOWN2.out.alloc _) ⟨W2.heap.size, 0, none⟩ 1 1 [.bool true, .int .i64 u.k, .string ⟨u.s.toArray⟩, .int .i64 u.p, .slice A4 M4 c4] rfl rfl ?c1 ?c2 (by decide) ?c3 ?c4 ?c5 _ rfl ?_
                case c1 => exact new5 W2 _ _ _ _ _ _
                case c2 => exact fun q hq => five_one hq rfl rfl rfl rfl rfl
                case c3 => unfold maxLen; omega
                case c4 => omega
                case c5 => have := (HR2.out.lt g (by simp)); simp; omega
                intro g' c' W3 hown hgrow hat hlt
                have HS3 : Hid (Sft (fun b => (Value.slice A3 M c3).ownBlock = some b) W2 W3) := Lib.hid ((Sft.alloc _ W2 _).trans (Sft.of_grown hgrow (fun r e => e)) (fun _ h => .inl h))
                have H3 : Hid ((Value.slice A3 M c3).ownBlock = some g' ∨ W2.heap.size ≤ g') := Lib.hid (hat.imp id (fun e => by rw [e]; simp))
                have HG : Hid (g ≠ g' ∧ g ≠ g') := Lib.hid (by
                  have h1 := (HR2.out.lt g (by simp)).2
                  have h2 := HBK2.out.1
                  rcases H3.out with h3 | h3
                  · exact ⟨fun e => (HR2.out.vne g' h3).1 e.symm, fun e => HBK2.out.2.1 (e ▸ h3)⟩
                  · exact ⟨by omega, by omega⟩)
                have HOWN3 := Lib.hid hown
                have hgv : ¬ (Value.slice A3 M c3).ownBlock = some g := fun e => (HR2.out.vne g e).1 rfl
                have HX3 : Hid (W3.heap[g]? = W2.heap[g]? ∧ W3.heap[g]? = W2.heap[g]?) := Lib.hid ⟨HS3.out.block g (HR2.out.lt g (by simp)).2 hgv, HS3.out.block g HBK2.out.1 HBK2.out.2.1⟩
                have HSS3 : Hid (SS W3) := Lib.hid (HSK W2 W3 HX3.out.1 HX3.out.2 HSS2.out)
                have HZ3 : Hid (W3.frozen? ⟨g, N * 5 + 4, none⟩ = false) := Lib.hid ((World.frozen?_of_block HX3.out.1).trans (HR2.out.frozen _))
                have HLT3 : Hid (g < W3.heap.size ∧ g' < W3.heap.size ∧ g < W3.heap.size) := Lib.hid ⟨Nat.lt_of_lt_of_le (HR2.out.lt g (by simp)).2 HS3.out.size, hlt, Nat.lt_of_lt_of_le HBK2.out.1 HS3.out.size⟩
                refine hK.out _ _ (HSM _ HSS3.out) (fun hH => ?_)
                clear hK K hgrow hat hown hgv hlt
                (try simp only [Act.put, List.setIfInBounds_toArray, List.set_cons_zero, List.set_cons_succ])
                have q3 : (M : Int) < (M : Int) + 1 := by omega
                have HPUT : Hid (Od (World.setCell W3 ⟨g, N * 5 + 4, none⟩ (.slice (some ⟨g', 0, none⟩) (M + 1) c')) n0 [] g c (⟨x.l, x.t, x.ks ++ [(.mk true u ks)]⟩ :: L) ((.slice (some ⟨g', 0, none⟩) (M + 1) c') :: vs) ∧ Sft (fun b => b ∈ own [] g (.slice A3 M c3 :: vs)) W2 (World.setCell W3 ⟨g, N * 5 + 4, none⟩ (.slice (some ⟨g', 0, none⟩) (M + 1) c'))) := Lib.hid (by
                  have h := HR2.out.put (w2 := World.setCell W3 ⟨g, L.length * 5 + 4, none⟩ (.slice (some ⟨g', 0, none⟩) (x.ks.length + 1) c')) (t := (.mk true u ks)) HAV2.out HTR2.out (by rw [HM.out]; exact HOWN3.out) HS3.out H3.out rfl
                  rw [HNL.out, HM.out] at h
                  exact ⟨h.1, h.2.1⟩)
                have HEND : Hid (∃ v', Od (World.setCell W3 ⟨g, N * 5 + 4, none⟩ (.slice (some ⟨g', 0, none⟩) (M + 1) c')) n0 [] g c (⟨x.l, x.t, x.ks ++ [(.mk true u ks)]⟩ :: L) (v' :: vs) ∧ Below n0 w (World.setCell W3 ⟨g, N * 5 + 4, none⟩ (.slice (some ⟨g', 0, none⟩) (M + 1) c'))) := Lib.hid ⟨_, HPUT.out.1, HBL2.out.trans (HPUT.out.2.below (by have := HBL2.out.size; have := HNW.out; omega) (fun b hb => (HR2.out.lt b hb).1))⟩
                refine wpAnyT_take (i := 15) (v := ?_) spat15 (by kernel_rfl) (by kernel_rfl) (by kernel_rfl) (by decide) (fun _ _ _ h => h) (Or.inl ⟨by rfl, ?_⟩) HMO hH ?_
                rotate_left
                · (intro w hSw; clear hSw; go_simp; (try with_reducible rfl))
                (try simp only [Act.put, List.setIfInBounds_toArray, List.set_cons_zero, List.set_cons_succ])
                refine wpAnyT_take (i := 16) (v := ?_) spat16 (by kernel_rfl) (by kernel_rfl) (by kernel_rfl) (by decide) (fun _ _ _ h => h) (Or.inl ⟨by rfl, ?_⟩) HMO hH ?_
                rotate_left
                · (intro w hSw; clear hSw; go_simp; (try with_reducible rfl))
                (try simp only [Act.put, List.setIfInBounds_toArray, List.set_cons_zero, List.set_cons_succ])
                clear HPUT HR2 HAV2 HTR2 HBL2 HOWN2 HS3 H3 HX3 HSS2 HBK2
                refine wpAnyT_ready (rs := [17]) (by kernel_rfl) (by simp) ?_
                refine AllReadyT.cons spat17 false (by kernel_rfl) (fun K hK => ?_) AllReadyT.nil
                have hF9 := (HSO _ HSS3.out).1
                have hZ9 := HZ3.out
                go_simp
                refine hK.out _ _ (HSF _) (fun hH => ?_)
                clear hK K hF9 hZ9
                (try simp only [Act.put, List.setIfInBounds_toArray, List.set_cons_zero, List.set_cons_succ])
                clear HSS3 HSK HSO HMO HSP HSM HSF hH
                revert HEND
                generalize World.setCell W3 _ _ = WF
                intro HEND
                refine wpAnyT_done (by kernel_rfl) ?_ _
                (try go_wp2)
                go_roundw
                case rel => obtain ⟨v', h1, h2⟩ := HEND.out; exact ⟨k + 1, N, (pk ++ [.mk true u ks], st), g, c, _, by go_num, rfl, by omega, HNL2, HS, Lib.hid (by show Od _ _ _ _ _ (levs true (pk ++ [.mk true u ks]) st) _; rw [HLV.out]; exact h1), Lib.hid h2⟩
                case measure => simp [intOf]; omega
              · generalize hWW : World.drew _ = W1
                have HO1 : Hid (Od W1 n0 [] g c (⟨true, u, ks⟩ :: x :: L) (.slice A4 M4 c4 :: .slice A3 M c3 :: vs)) := Lib.hid (hWW ▸ Od.stays (w' := (wr.alloc (.cells #[.bool true] 4)).drew) (Od.stays (w' := wr.alloc (.cells #[.bool true] 4)) HO.out (by simp) (fun b hl _ => Below.heap_alloc _ _ b hl)) (show (wr.alloc (.cells #[.bool true] 4)).heap.size ≤ ((wr.alloc (.cells #[.bool true] 4)).drew).heap.size from Nat.le_refl _) (fun _ _ _ => rfl))
                have HBLr : Hid (Below n0 w W1) := Lib.hid (hWW ▸ (HBL.out.alloc HNR.out _).drew)
                clear hWW HBL HO
                have HBL := HBLr
                clear HBLr
                have HOD : Hid (Od W1 n0 [] g c (x :: L) (.slice A3 M c3 :: vs)) := Lib.hid HO1.out.close.1
                have HTR : Hid (Vt W1 (fun b => b ∉ own [] g (.slice A3 M c3 :: vs)) (.mk true u ks) [.bool true, .int .i64 u.k, .string ⟨u.s.toArray⟩, .int .i64 u.p, .slice A4 M4 c4]) := Lib.hid (Vt.iff.2 ⟨_, rfl, HO1.out.close.2.2⟩)
                have Q0 : Hid (W1.cell? ⟨g, (N + 1) * 5, none⟩ = some (.bool true)) := Lib.hid (by have := HO1.out.cell 0 (by omega); simp only [List.length_cons, HNL.out] at this; exact this)
                have Q1 : Hid (W1.cell? ⟨g, (N + 1) * 5 + 1, none⟩ = some (.int .i64 u.k)) := Lib.hid (by have := HO1.out.cell 1 (by omega); simp only [List.length_cons, HNL.out] at this; exact this)
                have Q2 : Hid (W1.cell? ⟨g, (N + 1) * 5 + 2, none⟩ = some (.string ⟨u.s.toArray⟩)) := Lib.hid (by have := HO1.out.cell 2 (by omega); simp only [List.length_cons, HNL.out] at this; exact this)
                have Q3 : Hid (W1.cell? ⟨g, (N + 1) * 5 + 3, none⟩ = some (.int .i64 u.p)) := Lib.hid (by have := HO1.out.cell 3 (by omega); simp only [List.length_cons, HNL.out] at this; exact this)
                have Q4 : Hid (W1.cell? ⟨g, (N + 1) * 5 + 4, none⟩ = some (.slice A4 M4 c4)) := Lib.hid (by have := HO1.out.cell 4 (by omega); simp only [List.length_cons, HNL.out] at this; exact this)
                have HF1 : Hid (W1.cell? ⟨g, N * 5 + 4, none⟩ = some (.slice A3 M c3)) := Lib.hid (by have := HOD.out.cell 4 (by omega); rw [HNL.out] at this; exact this)
                obtain ⟨xs, hown, hav⟩ := HOD.out.kid.1
                rw [HM.out] at hown
                have HOWN := Lib.hid hown
                have HAV := Lib.hid hav
                clear hown hav
                have HBK : Hid (g < W1.heap.size ∧ ¬ (Value.slice A3 M c3).ownBlock = some g ∧ (g < n0 ∨ g = g)) := Lib.hid ⟨(HOD.out.lt g (by simp)).2, fun e => (HOD.out.vne g e).1 rfl, .inr rfl⟩
                go_upto_region 14 with fail
                obtain ⟨SS, hSS⟩ : ∃ SS : World → Prop, SS = fun W => W.cell? ⟨g, N * 5 + 4, none⟩ = some (.slice A3 M c3) ∧ W.cell? ⟨g, (N + 1) * 5, none⟩ = some (.bool true) ∧ W.cell? ⟨g, (N + 1) * 5 + 1, none⟩ = some (.int .i64 u.k) ∧ W.cell? ⟨g, (N + 1) * 5 + 2, none⟩ = some (.string ⟨u.s.toArray⟩) ∧ W.cell? ⟨g, (N + 1) * 5 + 3, none⟩ = some (.int .i64 u.p) ∧ W.cell? ⟨g, (N + 1) * 5 + 4, none⟩ = some (.slice A4 M4 c4) := ⟨_, rfl⟩
                have HSK : ∀ W W' : World, W'.heap[g]? = W.heap[g]? → W'.heap[g]? = W.heap[g]? → SS W → SS W' := by
                  rw [hSS]
                  rintro W W' h1 h2 ⟨hf, b0, b1, b2, b3, b4⟩
                  exact ⟨(World.cell?_of_block (a := ⟨g, N * 5 + 4, none⟩) h1).trans hf, (World.cell?_of_block (a := ⟨g, (N + 1) * 5, none⟩) h2).trans b0, (World.cell?_of_block (a := ⟨g, (N + 1) * 5 + 1, none⟩) h2).trans b1, (World.cell?_of_block (a := ⟨g, (N + 1) * 5 + 2, none⟩) h2).trans b2, (World.cell?_of_block (a := ⟨g, (N + 1) * 5 + 3, none⟩) h2).trans b3, (World.cell?_of_block (a := ⟨g, (N + 1) * 5 + 4, none⟩) h2).trans b4⟩
                have HSO : ∀ W : World, SS W → W.cell? ⟨g, N * 5 + 4, none⟩ = some (.slice A3 M c3) ∧ W.cell? ⟨g, (N + 1) * 5, none⟩ = some (.bool true) ∧ W.cell? ⟨g, (N + 1) * 5 + 1, none⟩ = some (.int .i64 u.k) ∧ W.cell? ⟨g, (N + 1) * 5 + 2, none⟩ = some (.string ⟨u.s.toArray⟩) ∧ W.cell? ⟨g, (N + 1) * 5 + 3, none⟩ = some (.int .i64 u.p) ∧ W.cell? ⟨g, (N + 1) * 5 + 4, none⟩ = some (.slice A4 M4 c4) := by rw [hSS]; exact fun _ h => h
                have HSI : ∀ W : World, (W.cell? ⟨g, N * 5 + 4, none⟩ = some (.slice A3 M c3) ∧ W.cell? ⟨g, (N + 1) * 5, none⟩ = some (.bool true) ∧ W.cell? ⟨g, (N + 1) * 5 + 1, none⟩ = some (.int .i64 u.k) ∧ W.cell? ⟨g, (N + 1) * 5 + 2, none⟩ = some (.string ⟨u.s.toArray⟩) ∧ W.cell? ⟨g, (N + 1) * 5 + 3, none⟩ = some (.int .i64 u.p) ∧ W.cell? ⟨g, (N + 1) * 5 + 4, none⟩ = some (.slice A4 M4 c4)) → SS W := by rw [hSS]; exact fun _ h => h
                clear hSS
                have HSS1 : Hid (SS W1) := Lib.hid (HSI _ ⟨HF1.out, Q0.out, Q1.out, Q2.out, Q3.out, Q4.out⟩)
                clear HSI
                obtain ⟨S, hSd⟩ : ∃ S : Bool → World → Prop, S = fun b W => b = true → SS W := ⟨_, rfl⟩
                have HMO : ∀ w, S true w → S false w := by rw [hSd]; intro w _ h; cases h
                have HSP : ∀ W : World, S true W → SS W := fun W h => by rw [hSd] at h; exact h rfl
                have HSM : ∀ W : World, SS W → S true W := fun W h => by rw [hSd]; exact fun _ => h
                have HSF : ∀ W : World, S false W := fun W => by rw [hSd]; intro h; cases h
                clear hSd
                refine wp_region_T S 18 (by kernel_rfl) (HSM _ (HSK W1 W1.drew rfl rfl HSS1.out)) (fun hH => ?_)
                have HR2 : Hid (Od W1.drew n0 [] g c (x :: L) (.slice A3 M c3 :: vs)) := Lib.hid (HOD.out.stays (Nat.le_refl _) (fun _ _ _ => rfl))
                have HSS2 : Hid (SS W1.drew) := Lib.hid (HSK W1 W1.drew rfl rfl HSS1.out)
                have HOWN2 : Hid (W1.drew.ownsRow n0 37 5 (.slice A3 M c3) M xs) := HOWN
                have HAV2 : Hid (Av W1.drew (fun b => b ∉ own [] g (.slice A3 M c3 :: vs)) x.ks xs) := Lib.hid (Av.stays (w := W1) (w' := W1.drew) (show W1.heap.size ≤ W1.drew.heap.size from Nat.le_refl _) (fun _ h _ => ⟨h, rfl⟩) HAV.out)
                have HTR2 : Hid (Vt W1.drew (fun b => b ∉ own [] g (.slice A3 M c3 :: vs)) (.mk true u ks) [.bool true, .int .i64 u.k, .string ⟨u.s.toArray⟩, .int .i64 u.p, .slice A4 M4 c4]) := Lib.hid (Vt.stays (w := W1) (w' := W1.drew) (show W1.heap.size ≤ W1.drew.heap.size from Nat.le_refl _) (fun _ h _ => ⟨h, rfl⟩) _ HTR.out)
                have HBL2 : Hid (Below n0 w W1.drew) := Lib.hid HBL.out.drew
                have HBK2 : Hid (g < W1.drew.heap.size ∧ ¬ (Value.slice A3 M c3).ownBlock = some g ∧ (g < n0 ∨ g = g)) := HBK
                clear HOD HSS1 HOWN HAV HBL HF1 HTR HBK Q0 Q1 Q2 Q3 Q4 HO1
                generalize W1.drew = W2 at *
                refine wpAnyT_take (i := 0) (v := ?_) spat0 (by kernel_rfl) (by kernel_rfl) (by kernel_rfl) (by decide) (fun _ _ _ h => h) (Or.inl ⟨by rfl, ?_⟩) HMO hH ?_
                rotate_left
                · (intro w hSw; clear hSw; go_simp; (try with_reducible rfl))
                (try simp only [Act.put, List.setIfInBounds_toArray, List.set_cons_zero, List.set_cons_succ])
                refine wpAnyT_take (i := 1) (v := ?_) spat1 (by kernel_rfl) (by kernel_rfl) (by kernel_rfl) (by decide) (fun _ _ _ h => h) (Or.inl ⟨by rfl, ?_⟩) HMO hH ?_
                rotate_left
                · (intro w hSw; clear hSw; go_simp; (try with_reducible rfl))
                (try simp only [Act.put, List.setIfInBounds_toArray, List.set_cons_zero, List.set_cons_succ])
                refine wpAnyT_take (i := 2) (v := ?_) spat2 (by kernel_rfl) (by kernel_rfl) (by kernel_rfl) (by decide) (fun _ _ _ h => h) (Or.inl ⟨by rfl, ?_⟩) HMO hH ?_
                rotate_left
                · (intro w hSw; clear hSw; go_simp; (try with_reducible rfl))
                (try simp only [Act.put, List.setIfInBounds_toArray, List.set_cons_zero, List.set_cons_succ])
                refine wpAnyT_take (i := 3) (v := ?_) spat3 (by kernel_rfl) (by kernel_rfl) (by kernel_rfl) (by decide) (fun _ _ _ h => h) (Or.inl ⟨by rfl, ?_⟩) HMO hH ?_
                rotate_left
                · (intro w hSw; clear hSw; go_simp; (try with_reducible rfl))
                (try simp only [Act.put, List.setIfInBounds_toArray, List.set_cons_zero, List.set_cons_succ])
                refine wpAnyT_take (i := 4) (v := ?_) spat4 (by kernel_rfl) (by kernel_rfl) (by kernel_rfl) (by decide) (fun _ _ _ h => h) (Or.inl ⟨by rfl, ?_⟩) HMO hH ?_
                rotate_left
                · (intro w hSw; clear hSw; go_simp; (try with_reducible rfl))
                (try simp only [Act.put, List.setIfInBounds_toArray, List.set_cons_zero, List.set_cons_succ])
                refine wpAnyT_take (i := 5) (v := ?_) spat5 (by kernel_rfl) (by kernel_rfl) (by kernel_rfl) (by decide) (fun _ _ _ h => h) (Or.inl ⟨by rfl, ?_⟩) HMO hH ?_
                rotate_left
                · (intro w hSw; clear hSw; go_simp; (try with_reducible rfl))
                (try simp only [Act.put, List.setIfInBounds_toArray, List.set_cons_zero, List.set_cons_succ])
                refine wpAnyT_take (i := 6) (v := ?_) spat6 (by kernel_rfl) (by kernel_rfl) (by kernel_rfl) (by decide) (fun _ _ _ h => h) (Or.inl ⟨by rfl, ?_⟩) HMO hH ?_
                rotate_left
                · (intro w hSw; clear hSw; go_simp; (try with_reducible rfl))
                (try simp only [Act.put, List.setIfInBounds_toArray, List.set_cons_zero, List.set_cons_succ])
                refine wpAnyT_take (i := 7) (v := ?_) spat7 (by kernel_rfl) (by kernel_rfl) (by kernel_rfl) (by decide) (fun _ _ _ h => h) (Or.inl ⟨by rfl, ?_⟩) HMO hH ?_
                rotate_left
                · (intro w hSw; clear hSw; go_simp; (try with_reducible rfl))
                (try simp only [Act.put, List.setIfInBounds_toArray, List.set_cons_zero, List.set_cons_succ])
                refine wpAnyT_read (i := 8) (v := ?_) [18] spat8 (by kernel_rfl) (by kernel_rfl) (by kernel_rfl) (by decide) (by kernel_rfl) (fun _ _ _ h => h) (Or.inl ⟨by rfl, ?_⟩) hH ?_
                rotate_left
                · (intro w hSw; obtain ⟨hf, b0, b1, b2, b3, b4⟩ := HSO _ (HSP _ hSw); clear hSw; go_simp; (try with_reducible rfl))
                (try simp only [Act.put, List.setIfInBounds_toArray, List.set_cons_zero, List.set_cons_succ])
                refine wpAnyT_take (i := 9) (v := ?_) spat9 (by kernel_rfl) (by kernel_rfl) (by kernel_rfl) (by decide) (fun _ _ _ h => h) (Or.inl ⟨by rfl, ?_⟩) HMO hH ?_
                rotate_left
                · (intro w hSw; clear hSw; go_simp; (try with_reducible rfl))
                (try simp only [Act.put, List.setIfInBounds_toArray, List.set_cons_zero, List.set_cons_succ])
                refine wpAnyT_take (i := 10) (v := ?_) spat10 (by kernel_rfl) (by kernel_rfl) (by kernel_rfl) (by decide) (fun _ _ _ h => h) (Or.inl ⟨by rfl, ?_⟩) HMO hH ?_
                rotate_left
                · (intro w hSw; clear hSw; go_simp; (try with_reducible rfl))
                (try simp only [Act.put, List.setIfInBounds_toArray, List.set_cons_zero, List.set_cons_succ])
                refine wpAnyT_take (i := 11) (v := ?_) spat11 (by kernel_rfl) (by kernel_rfl) (by kernel_rfl) (by decide) (fun _ _ _ h => h) (Or.inl ⟨by rfl, ?_⟩) HMO hH ?_
                rotate_left
                · (intro w hSw; clear hSw; go_simp; (try with_reducible rfl))
                (try simp only [Act.put, List.setIfInBounds_toArray, List.set_cons_zero, List.set_cons_succ])
                refine wpAnyT_read (i := 12) (v := ?_) [18] spat12 (by kernel_rfl) (by kernel_rfl) (by kernel_rfl) (by decide) (by kernel_rfl) (fun _ _ _ h => h) (Or.inl ⟨by rfl, ?_⟩) hH ?_
                rotate_left
                · (intro w hSw; obtain ⟨hf, b0, b1, b2, b3, b4⟩ := HSO _ (HSP _ hSw); clear hSw; go_simp; (try with_reducible rfl))
                (try simp only [Act.put, List.setIfInBounds_toArray, List.set_cons_zero, List.set_cons_succ])
                refine wpAnyT_take (i := 13) (v := ?_) spat13 (by kernel_rfl) (by kernel_rfl) (by kernel_rfl) (by decide) (fun _ _ _ h => h) (Or.inl ⟨by rfl, ?_⟩) HMO hH ?_
                rotate_left
                · (intro w hSw; clear hSw; go_simp; (try with_reducible rfl))
                (try simp only [Act.put, List.setIfInBounds_toArray, List.set_cons_zero, List.set_cons_succ])
                refine wpAnyT_ready (rs := [14]) (by kernel_rfl) (by simp) ?_
                refine AllReadyT.cons spat14 true (by kernel_rfl) (fun K hK => ?_) AllReadyT.nil
                go_simp
                refine hK.out _ _ (HSM _ (HSK W2 _ (Below.heap_alloc _ _ _ (HR2.out.lt g (by simp)).2) (Below.heap_alloc _ _ _ HBK2.out.1) HSS2.out)) (fun hH => ?_)
                clear hK K
                (try simp only [Act.put, List.setIfInBounds_toArray, List.set_cons_zero, List.set_cons_succ])
                refine wpAnyT_ready (rs := [15]) (by kernel_rfl) (by simp) ?_
                refine AllReadyT.cons spat15 true (by kernel_rfl) (fun K hK => ?_) AllReadyT.nil
                refine step_append_lies _ rfl _ _ 24 rfl n0 37 i0 _ 5 64 Tryd.underlying24 hi hz0 hz1 hz2 rfl (by decide) (.slice A3 M c3) M xs rfl (HOWN2.out.alloc _) ⟨W2.heap.size, 0, none⟩ 1 1 [.bool false, .int .i64 0, .string ⟨#[]⟩, .int .i64 0, .slice none 0 0] rfl rfl ?c1 ?c2 (by decide) ?c3 ?c4 ?c5 _ rfl ?_
                case c1 => exact new5 W2 _ _ _ _ _ _
                case c2 => exact fun q hq => five_one hq rfl rfl rfl rfl rfl
                case c3 => unfold maxLen; omega
                case c4 => omega
                case c5 => have := (HR2.out.lt g (by simp)); simp; omega
                intro g' c' W3 hown hgrow hat hlt
                have HS3 : Hid (Sft (fun b => (Value.slice A3 M c3).ownBlock = some b) W2 W3) := Lib.hid ((Sft.alloc _ W2 _).trans (Sft.of_grown hgrow (fun r e => e)) (fun _ h => .inl h))
                have H3 : Hid ((Value.slice A3 M c3).ownBlock = some g' ∨ W2.heap.size ≤ g') := Lib.hid (hat.imp id (fun e => by rw [e]; simp))
                have HG : Hid (g ≠ g' ∧ g ≠ g') := Lib.hid (by
                  have h1 := (HR2.out.lt g (by simp)).2
                  have h2 := HBK2.out.1
                  rcases H3.out with h3 | h3
                  · exact ⟨fun e => (HR2.out.vne g' h3).1 e.symm, fun e => HBK2.out.2.1 (e ▸ h3)⟩
                  · exact ⟨by omega, by omega⟩)
                have HOWN3 := Lib.hid hown
                have hgv : ¬ (Value.slice A3 M c3).ownBlock = some g := fun e => (HR2.out.vne g e).1 rfl
                have HX3 : Hid (W3.heap[g]? = W2.heap[g]? ∧ W3.heap[g]? = W2.heap[g]?) := Lib.hid ⟨HS3.out.block g (HR2.out.lt g (by simp)).2 hgv, HS3.out.block g HBK2.out.1 HBK2.out.2.1⟩
                have HSS3 : Hid (SS W3) := Lib.hid (HSK W2 W3 HX3.out.1 HX3.out.2 HSS2.out)
                have HZ3 : Hid (W3.frozen? ⟨g, N * 5 + 4, none⟩ = false) := Lib.hid ((World.frozen?_of_block HX3.out.1).trans (HR2.out.frozen _))
                have HLT3 : Hid (g < W3.heap.size ∧ g' < W3.heap.size ∧ g < W3.heap.size) := Lib.hid ⟨Nat.lt_of_lt_of_le (HR2.out.lt g (by simp)).2 HS3.out.size, hlt, Nat.lt_of_lt_of_le HBK2.out.1 HS3.out.size⟩
                refine hK.out _ _ (HSM _ HSS3.out) (fun hH => ?_)
                clear hK K hgrow hat hown hgv hlt
                (try simp only [Act.put, List.setIfInBounds_toArray, List.set_cons_zero, List.set_cons_succ])
                have q3 : (M : Int) < (M : Int) + 1 := by omega
                have HP5 := Lib.hid (own_put5 HOWN3.out (.bool true) (.int .i64 u.k) (.string ⟨u.s.toArray⟩) (.int .i64 u.p) (.slice A4 M4 c4))
                have HPUT : Hid (Od (World.setCell (put5 W3 g' (M * 5) (.bool true) (.int .i64 u.k) (.string ⟨u.s.toArray⟩) (.int .i64 u.p) (.slice A4 M4 c4)) ⟨g, N * 5 + 4, none⟩ (.slice (some ⟨g', 0, none⟩) (M + 1) c')) n0 [] g c (⟨x.l, x.t, x.ks ++ [(.mk true u ks)]⟩ :: L) ((.slice (some ⟨g', 0, none⟩) (M + 1) c') :: vs) ∧ Sft (fun b => b ∈ own [] g (.slice A3 M c3 :: vs)) W2 (World.setCell (put5 W3 g' (M * 5) (.bool true) (.int .i64 u.k) (.string ⟨u.s.toArray⟩) (.int .i64 u.p) (.slice A4 M4 c4)) ⟨g, N * 5 + 4, none⟩ (.slice (some ⟨g', 0, none⟩) (M + 1) c'))) := Lib.hid (by
                  have h := HR2.out.put (w2 := (put5 W3 g' (M * 5) (.bool true) (.int .i64 u.k) (.string ⟨u.s.toArray⟩) (.int .i64 u.p) (.slice A4 M4 c4)).setCell ⟨g, L.length * 5 + 4, none⟩ (.slice (some ⟨g', 0, none⟩) (x.ks.length + 1) c')) (t := (.mk true u ks)) HAV2.out HTR2.out (by rw [HM.out]; exact HP5.out.1) (psft HS3.out HOWN3.out H3.out) H3.out rfl
                  rw [HNL.out, HM.out] at h
                  exact ⟨h.1, h.2.1⟩)
                have HEND : Hid (∃ v', Od (World.setCell (put5 W3 g' (M * 5) (.bool true) (.int .i64 u.k) (.string ⟨u.s.toArray⟩) (.int .i64 u.p) (.slice A4 M4 c4)) ⟨g, N * 5 + 4, none⟩ (.slice (some ⟨g', 0, none⟩) (M + 1) c')) n0 [] g c (⟨x.l, x.t, x.ks ++ [(.mk true u ks)]⟩ :: L) (v' :: vs) ∧ Below n0 w (World.setCell (put5 W3 g' (M * 5) (.bool true) (.int .i64 u.k) (.string ⟨u.s.toArray⟩) (.int .i64 u.p) (.slice A4 M4 c4)) ⟨g, N * 5 + 4, none⟩ (.slice (some ⟨g', 0, none⟩) (M + 1) c'))) := Lib.hid ⟨_, HPUT.out.1, HBL2.out.trans (HPUT.out.2.below (by have := HBL2.out.size; have := HNW.out; omega) (fun b hb => (HR2.out.lt b hb).1))⟩
                refine wpAnyT_take (i := 16) (v := ?_) spat16 (by kernel_rfl) (by kernel_rfl) (by kernel_rfl) (by decide) (fun _ _ _ h => h) (Or.inl ⟨by rfl, ?_⟩) HMO hH ?_
                rotate_left
                · (intro w hSw; clear hSw; go_simp; (try with_reducible rfl))
                (try simp only [Act.put, List.setIfInBounds_toArray, List.set_cons_zero, List.set_cons_succ])
                refine wpAnyT_take (i := 17) (v := ?_) spat17 (by kernel_rfl) (by kernel_rfl) (by kernel_rfl) (by decide) (fun _ _ _ h => h) (Or.inl ⟨by rfl, ?_⟩) HMO hH ?_
                rotate_left
                · (intro w hSw; clear hSw; go_simp; (try with_reducible rfl))
                (try simp only [Act.put, List.setIfInBounds_toArray, List.set_cons_zero, List.set_cons_succ])
                clear HPUT HR2 HAV2 HTR2 HBL2 HOWN2 HS3 H3 HX3 HSS2 HBK2
                refine wpAnyT_ready (rs := [18]) (by kernel_rfl) (by simp) ?_
                refine AllReadyT.cons spat18 false (by kernel_rfl) (fun K hK => ?_) AllReadyT.nil
                have hF9 := (HSO _ HSS3.out).1
                have hZ9 := HZ3.out
                go_simp
                refine hK.out _ _ (HSF _) (fun hH => ?_)
                clear hK K hF9 hZ9
                (try simp only [Act.put, List.setIfInBounds_toArray, List.set_cons_zero, List.set_cons_succ])
                have ho := fun i (hi : i < 5) => (World.cell?_of_block (Below.heap_setCell W3 ⟨g, N * 5 + 4, none⟩ (.slice (some ⟨g', 0, none⟩) (M + 1) c') g' (Ne.symm HG.out.1))).trans (own_last HOWN3.out i hi)
                have hf := fun j => (World.frozen?_of_block (w := W3) (w' := W3.setCell ⟨g, N * 5 + 4, none⟩ (.slice (some ⟨g', 0, none⟩) (M + 1) c')) (a := ⟨g', j, none⟩) (Below.heap_setCell W3 ⟨g, N * 5 + 4, none⟩ (.slice (some ⟨g', 0, none⟩) (M + 1) c') g' (Ne.symm HG.out.1))).trans (HOWN3.out.frozenAt j)
                rw [← put5_swap _ HG.out.1] at HEND
                have h0 := ho 0 (by omega)
                have h1 := ho 1 (by omega)
                have h2 := ho 2 (by omega)
                have h3 := ho 3 (by omega)
                have h4 := ho 4 (by omega)
                simp only [List.getElem?_cons_zero, List.getElem?_cons_succ, Nat.add_zero] at h0 h1 h2 h3 h4
                clear ho HP5 HSS3 HSK HSO HMO HSP HSM HSF hH
                revert HEND h0 h1 h2 h3 h4 hf
                generalize World.setCell W3 _ _ = W9
                intro HEND h0 h1 h2 h3 h4 hf
                refine wpAnyT_done (by kernel_rfl) ?_ _
                go_wp2
                clear h0 h1 h2 h3 h4 hf
                revert HEND
                unfold put5
                generalize World.setCell (World.setCell (World.setCell (World.setCell (World.setCell W9 _ _) _ _) _ _) _ _) _ _ = WF
                intro HEND
                (try go_wp2)
                go_roundw
                case rel => obtain ⟨v', h1, h2⟩ := HEND.out; exact ⟨k + 1, N, (pk ++ [.mk true u ks], st), g, c, _, by go_num, rfl, by omega, HNL2, HS, Lib.hid (by show Od _ _ _ _ _ (levs true (pk ++ [.mk true u ks]) st) _; rw [HLV.out]; exact h1), Lib.hid h2⟩
                case measure => simp [intOf]; omega
        · have b2 : (t.k == 2) = false := by simpa using k2
          have HK2 := Lib.hid k2
          clear k1 k2
          have HS : Hid (run deep (l.take (k + 1)) ([], []) = .ok (ks ++ [.mk false t []], st)) := Lib.hid (run_next hk' HRN.out (by rw [HTE.out]; unfold step; dsimp only; rw [if_neg HK1.out, if_neg HK2.out]))
          obtain ⟨x, L, eL, ex, eN, eap⟩ := levs_top true ks st
          have HLV : Hid (levs true (ks ++ [.mk false t []]) st = ⟨x.l, x.t, x.ks ++ [.mk false t []]⟩ :: L) := Lib.hid (eap _)
          rw [eL] at HO
          obtain ⟨v, vs, rfl⟩ := HO.out.vals
          obtain ⟨N, hNK⟩ : ∃ N, N = K := ⟨K, rfl⟩
          subst hNK
          have HNL : Hid (L.length = N) := Lib.hid (by rw [eN, HK.out])
          have HNL2 : Hid (st.length = N) := HK
          have hxk : x.ks.length ≤ 80000000 := by rw [ex]; exact hksb
          clear eL ex eN eap HSB hksb HK
          obtain ⟨A3, c3, e8⟩ := HO.out.slice
          obtain ⟨M, hM⟩ : ∃ M, x.ks.length = M := ⟨_, rfl⟩
          rw [hM] at e8 hxk
          subst e8
          have HM := Lib.hid hM
          clear hM
          have p1 : (N : Int) < (N : Int) + 1 := by omega
          go_upto_region 18 with fail
          generalize hWW : wr = W1 at *
          have HOD := HO
          have HF1 : Hid (W1.cell? ⟨g, N * 5 + 4, none⟩ = some (.slice A3 M c3)) := Lib.hid (by have := HOD.out.cell 4 (by omega); rw [HNL.out] at this; exact this)
          obtain ⟨xs, hown, hav⟩ := HOD.out.kid.1
          rw [HM.out] at hown
          have HOWN := Lib.hid hown
          have HAV := Lib.hid hav
          clear hown hav
          have HTR : Hid (Vt W1 (fun b => b ∉ own [] g (.slice A3 M c3 :: vs)) (.mk false t []) [.bool false, .int .i64 t.k, .string ⟨t.s.toArray⟩, .int .i64 t.p, .slice none 0 0]) := Lib.hid (by unfold Vt; exact ⟨none, 0, rfl, Nat.le_refl _, fun h => absurd h (by simp)⟩)
          have HBK : Hid (b < W1.heap.size ∧ ¬ (Value.slice A3 M c3).ownBlock = some b ∧ (b < n0 ∨ b = g)) := Lib.hid ⟨HBW.out, fun e => by have := (HOD.out.lt b (HOD.out.vmem b e)).1; have := HBN.out; omega, .inl HBN.out⟩
          have Q0 := Lib.hid q0
          have Q1 := Lib.hid q1
          have Q2 := Lib.hid q2
          clear q0 q1 q2 hWW
          obtain ⟨SS, hSS⟩ : ∃ SS : World → Prop, SS = fun W => W.cell? ⟨g, N * 5 + 4, none⟩ = some (.slice A3 M c3) ∧ W.cell? ⟨b, off + k * 3, none⟩ = some (.int .i64 t.k) ∧ W.cell? ⟨b, off + k * 3 + 1, none⟩ = some (.string ⟨t.s.toArray⟩) ∧ W.cell? ⟨b, off + k * 3 + 2, none⟩ = some (.int .i64 t.p) := ⟨_, rfl⟩
          have HSK : ∀ W W' : World, W'.heap[g]? = W.heap[g]? → W'.heap[b]? = W.heap[b]? → SS W → SS W' := by
            rw [hSS]
            rintro W W' h1 h2 ⟨hf, b0, b1, b2⟩
            exact ⟨(World.cell?_of_block (a := ⟨g, N * 5 + 4, none⟩) h1).trans hf, (World.cell?_of_block (a := ⟨b, off + k * 3, none⟩) h2).trans b0, (World.cell?_of_block (a := ⟨b, off + k * 3 + 1, none⟩) h2).trans b1, (World.cell?_of_block (a := ⟨b, off + k * 3 + 2, none⟩) h2).trans b2⟩
          have HSO : ∀ W : World, SS W → W.cell? ⟨g, N * 5 + 4, none⟩ = some (.slice A3 M c3) ∧ W.cell? ⟨b, off + k * 3, none⟩ = some (.int .i64 t.k) ∧ W.cell? ⟨b, off + k * 3 + 1, none⟩ = some (.string ⟨t.s.toArray⟩) ∧ W.cell? ⟨b, off + k * 3 + 2, none⟩ = some (.int .i64 t.p) := by rw [hSS]; exact fun _ h => h
          have HSI : ∀ W : World, (W.cell? ⟨g, N * 5 + 4, none⟩ = some (.slice A3 M c3) ∧ W.cell? ⟨b, off + k * 3, none⟩ = some (.int .i64 t.k) ∧ W.cell? ⟨b, off + k * 3 + 1, none⟩ = some (.string ⟨t.s.toArray⟩) ∧ W.cell? ⟨b, off + k * 3 + 2, none⟩ = some (.int .i64 t.p)) → SS W := by rw [hSS]; exact fun _ h => h
          clear hSS
          have HSS1 : Hid (SS W1) := Lib.hid (HSI _ ⟨HF1.out, Q0.out, Q1.out, Q2.out⟩)
          clear HSI
          obtain ⟨S, hSd⟩ : ∃ S : Bool → World → Prop, S = fun b W => b = true → SS W := ⟨_, rfl⟩
          have HMO : ∀ w, S true w → S false w := by rw [hSd]; intro w _ h; cases h
          have HSP : ∀ W : World, S true W → SS W := fun W h => by rw [hSd] at h; exact h rfl
          have HSM : ∀ W : World, SS W → S true W := fun W h => by rw [hSd]; exact fun _ => h
          have HSF : ∀ W : World, S false W := fun W => by rw [hSd]; intro h; cases h
          clear hSd
          refine wp_region_T S 17 (by kernel_rfl) (HSM _ (HSK W1 W1.drew rfl rfl HSS1.out)) (fun hH => ?_)
          have HR2 : Hid (Od W1.drew n0 [] g c (x :: L) (.slice A3 M c3 :: vs)) := Lib.hid (HOD.out.stays (Nat.le_refl _) (fun _ _ _ => rfl))
          have HSS2 : Hid (SS W1.drew) := Lib.hid (HSK W1 W1.drew rfl rfl HSS1.out)
          have HOWN2 : Hid (W1.drew.ownsRow n0 37 5 (.slice A3 M c3) M xs) := HOWN
          have HAV2 : Hid (Av W1.drew (fun b => b ∉ own [] g (.slice A3 M c3 :: vs)) x.ks xs) := Lib.hid (Av.stays (w := W1) (w' := W1.drew) (show W1.heap.size ≤ W1.drew.heap.size from Nat.le_refl _) (fun _ h _ => ⟨h, rfl⟩) HAV.out)
          have HTR2 : Hid (Vt W1.drew (fun b => b ∉ own [] g (.slice A3 M c3 :: vs)) (.mk false t []) [.bool false, .int .i64 t.k, .string ⟨t.s.toArray⟩, .int .i64 t.p, .slice none 0 0]) := Lib.hid (Vt.stays (w := W1) (w' := W1.drew) (show W1.heap.size ≤ W1.drew.heap.size from Nat.le_refl _) (fun _ h _ => ⟨h, rfl⟩) _ HTR.out)
          have HBL2 : Hid (Below n0 w W1.drew) := Lib.hid HBL.out.drew
          have HBK2 : Hid (b < W1.drew.heap.size ∧ ¬ (Value.slice A3 M c3).ownBlock = some b ∧ (b < n0 ∨ b = g)) := HBK
          clear HOD HSS1 HOWN HAV HBL HF1 HTR HBK Q0 Q1 Q2 HO
          generalize W1.drew = W2 at *
          refine wpAnyT_take (i := 0) (v := ?_) spat0 (by kernel_rfl) (by kernel_rfl) (by kernel_rfl) (by decide) (fun _ _ _ h => h) (Or.inl ⟨by rfl, ?_⟩) HMO hH ?_
          rotate_left
          · (intro w hSw; clear hSw; go_simp; (try with_reducible rfl))
          (try simp only [Act.put, List.setIfInBounds_toArray, List.set_cons_zero, List.set_cons_succ])
          refine wpAnyT_take (i := 1) (v := ?_) spat1 (by kernel_rfl) (by kernel_rfl) (by kernel_rfl) (by decide) (fun _ _ _ h => h) (Or.inl ⟨by rfl, ?_⟩) HMO hH ?_
          rotate_left
          · (intro w hSw; clear hSw; go_simp; (try with_reducible rfl))
          (try simp only [Act.put, List.setIfInBounds_toArray, List.set_cons_zero, List.set_cons_succ])
          refine wpAnyT_take (i := 2) (v := ?_) spat2 (by kernel_rfl) (by kernel_rfl) (by kernel_rfl) (by decide) (fun _ _ _ h => h) (Or.inl ⟨by rfl, ?_⟩) HMO hH ?_
          rotate_left
          · (intro w hSw; clear hSw; go_simp; (try with_reducible rfl))
          (try simp only [Act.put, List.setIfInBounds_toArray, List.set_cons_zero, List.set_cons_succ])
          refine wpAnyT_take (i := 3) (v := ?_) spat3 (by kernel_rfl) (by kernel_rfl) (by kernel_rfl) (by decide) (fun _ _ _ h => h) (Or.inl ⟨by rfl, ?_⟩) HMO hH ?_
          rotate_left
          · (intro w hSw; clear hSw; go_simp; (try with_reducible rfl))
          (try simp only [Act.put, List.setIfInBounds_toArray, List.set_cons_zero, List.set_cons_succ])
          refine wpAnyT_read (i := 4) (v := ?_) [17] spat4 (by kernel_rfl) (by kernel_rfl) (by kernel_rfl) (by decide) (by kernel_rfl) (fun _ _ _ h => h) (Or.inl ⟨by rfl, ?_⟩) hH ?_
          rotate_left
          · (intro w hSw; obtain ⟨hf, b0, b1, b2⟩ := HSO _ (HSP _ hSw); clear hSw; go_simp; (try with_reducible rfl))
          (try simp only [Act.put, List.setIfInBounds_toArray, List.set_cons_zero, List.set_cons_succ])
          refine wpAnyT_take (i := 5) (v := ?_) spat5 (by kernel_rfl) (by kernel_rfl) (by kernel_rfl) (by decide) (fun _ _ _ h => h) (Or.inl ⟨by rfl, ?_⟩) HMO hH ?_
          rotate_left
          · (intro w hSw; clear hSw; go_simp; (try with_reducible rfl))
          (try simp only [Act.put, List.setIfInBounds_toArray, List.set_cons_zero, List.set_cons_succ])
          refine wpAnyT_take (i := 6) (v := ?_) spat6 (by kernel_rfl) (by kernel_rfl) (by kernel_rfl) (by decide) (fun _ _ _ h => h) (Or.inl ⟨by rfl, ?_⟩) HMO hH ?_
          rotate_left
          · (intro w hSw; clear hSw; go_simp; (try with_reducible rfl))
          (try simp only [Act.put, List.setIfInBounds_toArray, List.set_cons_zero, List.set_cons_succ])
          refine wpAnyT_take (i := 7) (v := ?_) spat7 (by kernel_rfl) (by kernel_rfl) (by kernel_rfl) (by decide) (fun _ _ _ h => h) (Or.inl ⟨by rfl, ?_⟩) HMO hH ?_
          rotate_left
          · (intro w hSw; clear hSw; go_simp; (try with_reducible rfl))
          (try simp only [Act.put, List.setIfInBounds_toArray, List.set_cons_zero, List.set_cons_succ])
          refine wpAnyT_read (i := 8) (v := ?_) [17] spat8 (by kernel_rfl) (by kernel_rfl) (by kernel_rfl) (by decide) (by kernel_rfl) (fun _ _ _ h => h) (Or.inl ⟨by rfl, ?_⟩) hH ?_
          rotate_left
          · (intro w hSw; obtain ⟨hf, b0, b1, b2⟩ := HSO _ (HSP _ hSw); clear hSw; go_simp; (try with_reducible rfl))
          (try simp only [Act.put, List.setIfInBounds_toArray, List.set_cons_zero, List.set_cons_succ])
          refine wpAnyT_take (i := 9) (v := ?_) spat9 (by kernel_rfl) (by kernel_rfl) (by kernel_rfl) (by decide) (fun _ _ _ h => h) (Or.inl ⟨by rfl, ?_⟩) HMO hH ?_
          rotate_left
          · (intro w hSw; clear hSw; go_simp; (try with_reducible rfl))
          (try simp only [Act.put, List.setIfInBounds_toArray, List.set_cons_zero, List.set_cons_succ])
          refine wpAnyT_take (i := 10) (v := ?_) spat10 (by kernel_rfl) (by kernel_rfl) (by kernel_rfl) (by decide) (fun _ _ _ h => h) (Or.inl ⟨by rfl, ?_⟩) HMO hH ?_
          rotate_left
          · (intro w hSw; clear hSw; go_simp; (try with_reducible rfl))
          (try simp only [Act.put, List.setIfInBounds_toArray, List.set_cons_zero, List.set_cons_succ])
          refine wpAnyT_ready (rs := [11]) (by kernel_rfl) (by simp) ?_
          refine AllReadyT.cons spat11 true (by kernel_rfl) (fun K hK => ?_) AllReadyT.nil
          go_simp
          refine hK.out _ _ (HSM _ (HSK W2 _ (Below.heap_alloc _ _ _ (HR2.out.lt g (by simp)).2) (Below.heap_alloc _ _ _ HBK2.out.1) HSS2.out)) (fun hH => ?_)
          clear hK K
          (try simp only [Act.put, List.setIfInBounds_toArray, List.set_cons_zero, List.set_cons_succ])
          refine wpAnyT_ready (rs := [12]) (by kernel_rfl) (by simp) ?_
          refine AllReadyT.cons spat12 true (by kernel_rfl) (fun K hK => ?_) AllReadyT.nil
          refine step_append_lies _ rfl _ _ 24 rfl n0 37 i0 _ 5 64 Tryd.underlying24 hi hz0 hz1 hz2 rfl (by decide) (.slice A3 M c3) M xs rfl (HOWN2.out.alloc _) ⟨W2.heap.size, 0, none⟩ 1 1 [.bool false, .int .i64 0, .string ⟨#[]⟩, .int .i64 0, .slice none 0 0] rfl rfl ?c1 ?c2 (by decide) ?c3 ?c4 ?c5 _ rfl ?_
          case c1 => exact new5 W2 _ _ _ _ _ _
          case c2 => exact fun q hq => five_one hq rfl rfl rfl rfl rfl
          case c3 => unfold maxLen; omega
          case c4 => omega
          case c5 => have := (HR2.out.lt g (by simp)); simp; omega
          intro g' c' W3 hown hgrow hat hlt
          have HS3 : Hid (Sft (fun b => (Value.slice A3 M c3).ownBlock = some b) W2 W3) := Lib.hid ((Sft.alloc _ W2 _).trans (Sft.of_grown hgrow (fun r e => e)) (fun _ h => .inl h))
          have H3 : Hid ((Value.slice A3 M c3).ownBlock = some g' ∨ W2.heap.size ≤ g') := Lib.hid (hat.imp id (fun e => by rw [e]; simp))
          have HG : Hid (g ≠ g' ∧ b ≠ g') := Lib.hid (by
            have h1 := (HR2.out.lt g (by simp)).2
            have h2 := HBK2.out.1
            rcases H3.out with h3 | h3
            · exact ⟨fun e => (HR2.out.vne g' h3).1 e.symm, fun e => HBK2.out.2.1 (e ▸ h3)⟩
            · exact ⟨by omega, by omega⟩)
          have HOWN3 := Lib.hid hown
          have hgv : ¬ (Value.slice A3 M c3).ownBlock = some g := fun e => (HR2.out.vne g e).1 rfl
          have HX3 : Hid (W3.heap[g]? = W2.heap[g]? ∧ W3.heap[b]? = W2.heap[b]?) := Lib.hid ⟨HS3.out.block g (HR2.out.lt g (by simp)).2 hgv, HS3.out.block b HBK2.out.1 HBK2.out.2.1⟩
          have HSS3 : Hid (SS W3) := Lib.hid (HSK W2 W3 HX3.out.1 HX3.out.2 HSS2.out)
          have HZ3 : Hid (W3.frozen? ⟨g, N * 5 + 4, none⟩ = false) := Lib.hid ((World.frozen?_of_block HX3.out.1).trans (HR2.out.frozen _))
          have HLT3 : Hid (g < W3.heap.size ∧ g' < W3.heap.size ∧ b < W3.heap.size) := Lib.hid ⟨Nat.lt_of_lt_of_le (HR2.out.lt g (by simp)).2 HS3.out.size, hlt, Nat.lt_of_lt_of_le HBK2.out.1 HS3.out.size⟩
          refine hK.out _ _ (HSM _ HSS3.out) (fun hH => ?_)
          clear hK K hgrow hat hown hgv hlt
          (try simp only [Act.put, List.setIfInBounds_toArray, List.set_cons_zero, List.set_cons_succ])
          have q3 : (M : Int) < (M : Int) + 1 := by omega
          have HP5 := Lib.hid (own_put5 HOWN3.out (.bool false) (.int .i64 t.k) (.string ⟨t.s.toArray⟩) (.int .i64 t.p) (.slice none 0 0))
          have HPUT : Hid (Od (World.setCell (put5 W3 g' (M * 5) (.bool false) (.int .i64 t.k) (.string ⟨t.s.toArray⟩) (.int .i64 t.p) (.slice none 0 0)) ⟨g, N * 5 + 4, none⟩ (.slice (some ⟨g', 0, none⟩) (M + 1) c')) n0 [] g c (⟨x.l, x.t, x.ks ++ [(.mk false t [])]⟩ :: L) ((.slice (some ⟨g', 0, none⟩) (M + 1) c') :: vs) ∧ Sft (fun b => b ∈ own [] g (.slice A3 M c3 :: vs)) W2 (World.setCell (put5 W3 g' (M * 5) (.bool false) (.int .i64 t.k) (.string ⟨t.s.toArray⟩) (.int .i64 t.p) (.slice none 0 0)) ⟨g, N * 5 + 4, none⟩ (.slice (some ⟨g', 0, none⟩) (M + 1) c'))) := Lib.hid (by
            have h := HR2.out.put (w2 := (put5 W3 g' (M * 5) (.bool false) (.int .i64 t.k) (.string ⟨t.s.toArray⟩) (.int .i64 t.p) (.slice none 0 0)).setCell ⟨g, L.length * 5 + 4, none⟩ (.slice (some ⟨g', 0, none⟩) (x.ks.length + 1) c')) (t := (.mk false t [])) HAV2.out HTR2.out (by rw [HM.out]; exact HP5.out.1) (psft HS3.out HOWN3.out H3.out) H3.out rfl
            rw [HNL.out, HM.out] at h
            exact ⟨h.1, h.2.1⟩)
          have HEND : Hid (∃ v', Od (World.setCell (put5 W3 g' (M * 5) (.bool false) (.int .i64 t.k) (.string ⟨t.s.toArray⟩) (.int .i64 t.p) (.slice none 0 0)) ⟨g, N * 5 + 4, none⟩ (.slice (some ⟨g', 0, none⟩) (M + 1) c')) n0 [] g c (⟨x.l, x.t, x.ks ++ [(.mk false t [])]⟩ :: L) (v' :: vs) ∧ Below n0 w (World.setCell (put5 W3 g' (M * 5) (.bool false) (.int .i64 t.k) (.string ⟨t.s.toArray⟩) (.int .i64 t.p) (.slice none 0 0)) ⟨g, N * 5 + 4, none⟩ (.slice (some ⟨g', 0, none⟩) (M + 1) c'))) := Lib.hid ⟨_, HPUT.out.1, HBL2.out.trans (HPUT.out.2.below (by have := HBL2.out.size; have := HNW.out; omega) (fun b hb => (HR2.out.lt b hb).1))⟩
          refine wpAnyT_take (i := 13) (v := ?_) spat13 (by kernel_rfl) (by kernel_rfl) (by kernel_rfl) (by decide) (fun _ _ _ h => h) (Or.inl ⟨by rfl, ?_⟩) HMO hH ?_
          rotate_left
          · (intro w hSw; clear hSw; go_simp; (try with_reducible rfl))
          (try simp only [Act.put, List.setIfInBounds_toArray, List.set_cons_zero, List.set_cons_succ])
          refine wpAnyT_take (i := 15) (v := ?_) spat15 (by kernel_rfl) (by kernel_rfl) (by kernel_rfl) (by decide) (fun _ _ _ h => h) (Or.inl ⟨by rfl, ?_⟩) HMO hH ?_
          rotate_left
          · (intro w hSw; clear hSw; go_simp; (try with_reducible rfl))
          (try simp only [Act.put, List.setIfInBounds_toArray, List.set_cons_zero, List.set_cons_succ])
          refine wpAnyT_take (i := 16) (v := ?_) spat16 (by kernel_rfl) (by kernel_rfl) (by kernel_rfl) (by decide) (fun _ _ _ h => h) (Or.inl ⟨by rfl, ?_⟩) HMO hH ?_
          rotate_left
          · (intro w hSw; clear hSw; go_simp; (try with_reducible rfl))
          (try simp only [Act.put, List.setIfInBounds_toArray, List.set_cons_zero, List.set_cons_succ])
          have HG9 : Hid ((put5 W3 g' (M * 5) (.bool false) (.int .i64 t.k) (.string ⟨t.s.toArray⟩) (.int .i64 t.p) (.slice none 0 0)).heap[g]? = W3.heap[g]?) := Lib.hid (HP5.out.2.block g HLT3.out.1 HG.out.1)
          have HG8 : Hid ((put5 W3 g' (M * 5) (.bool false) (.int .i64 t.k) (.string ⟨t.s.toArray⟩) (.int .i64 t.p) (.slice none 0 0)).heap[b]? = W3.heap[b]?) := Lib.hid (HP5.out.2.block b HLT3.out.2.2 HG.out.2)
          have HZ9 : Hid ((put5 W3 g' (M * 5) (.bool false) (.int .i64 t.k) (.string ⟨t.s.toArray⟩) (.int .i64 t.p) (.slice none 0 0)).frozen? ⟨g, N * 5 + 4, none⟩ = false) := Lib.hid ((World.frozen?_of_block (a := ⟨g, N * 5 + 4, none⟩) HG9.out).trans HZ3.out)
          have HS9 : Hid (SS (put5 W3 g' (M * 5) (.bool false) (.int .i64 t.k) (.string ⟨t.s.toArray⟩) (.int .i64 t.p) (.slice none 0 0))) := Lib.hid (HSK W3 _ HG9.out HG8.out HSS3.out)
          clear HPUT HR2 HAV2 HTR2 HBL2 HOWN2 HS3 H3 HX3 HSS2 HBK2
          refine wpAnyT_ready (rs := [14, 17]) (by kernel_rfl) (by simp) ?_
          refine AllReadyT.cons spat14 true (by kernel_rfl) (fun K hK => ?_) ?_
          · have e0 : W3.cell? ⟨g', M * 5, none⟩ = some (.bool false) := own_last HOWN3.out 0 (by omega)
            have e1 : W3.cell? ⟨g', M * 5 + 1, none⟩ = some (.int .i64 0) := own_last HOWN3.out 1 (by omega)
            have e2 : W3.cell? ⟨g', M * 5 + 2, none⟩ = some (.string ⟨#[]⟩) := own_last HOWN3.out 2 (by omega)
            have e3 : W3.cell? ⟨g', M * 5 + 3, none⟩ = some (.int .i64 0) := own_last HOWN3.out 3 (by omega)
            have e4 : W3.cell? ⟨g', M * 5 + 4, none⟩ = some (.slice none 0 0) := own_last HOWN3.out 4 (by omega)
            have ef := fun j => HOWN3.out.frozenAt j
            go_simp
            clear e0 e1 e2 e3 e4 ef HP5 HG9 HG8 hH HSS3
            revert HEND HZ9 HS9
            unfold put5
            generalize World.setCell (World.setCell (World.setCell (World.setCell (World.setCell W3 _ _) _ _) _ _) _ _) _ _ = W9
            intro HEND HZ9 HS9
            refine hK.out _ _ (HSM _ HS9.out) (fun hH => ?_)
            clear hK K
            (try simp only [Act.put, List.setIfInBounds_toArray, List.set_cons_zero, List.set_cons_succ])
            have hF9 := (HSO _ HS9.out).1
            have hZ9 := HZ9.out
            refine wpAnyT_ready (rs := [17]) (by kernel_rfl) (by simp) ?_
            refine AllReadyT.cons spat17 false (by kernel_rfl) (fun K hK => ?_) AllReadyT.nil
            go_simp
            refine hK.out _ _ (HSF _) (fun hH => ?_)
            clear hK K hF9 hZ9 HSK HSO HMO HSP HSM HSF hH HS9 HZ9
            (try simp only [Act.put, List.setIfInBounds_toArray, List.set_cons_zero, List.set_cons_succ])
            revert HEND
            generalize World.setCell W9 _ _ = WF
            intro HEND
            refine wpAnyT_done (by kernel_rfl) ?_ _
            (try go_wp2)
            go_roundw
            case rel => obtain ⟨v', h1, h2⟩ := HEND.out; exact ⟨k + 1, N, (ks ++ [.mk false t []], st), g, c, _, by go_num, rfl, by omega, HNL2, HS, Lib.hid (by show Od _ _ _ _ _ (levs true (ks ++ [.mk false t []]) st) _; rw [HLV.out]; exact h1), Lib.hid h2⟩
            case measure => simp [intOf]; omega
          refine AllReadyT.cons spat17 false (by kernel_rfl) (fun K hK => ?_) AllReadyT.nil
          have hF9 := (HSO _ HSS3.out).1
          have hZ9 := HZ3.out
          go_simp
          refine hK.out _ _ (HSF _) (fun hH => ?_)
          clear hK K hF9 hZ9
          (try simp only [Act.put, List.setIfInBounds_toArray, List.set_cons_zero, List.set_cons_succ])
          have ho := fun i (hi : i < 5) => (World.cell?_of_block (Below.heap_setCell W3 ⟨g, N * 5 + 4, none⟩ (.slice (some ⟨g', 0, none⟩) (M + 1) c') g' (Ne.symm HG.out.1))).trans (own_last HOWN3.out i hi)
          have hf := fun j => (World.frozen?_of_block (w := W3) (w' := W3.setCell ⟨g, N * 5 + 4, none⟩ (.slice (some ⟨g', 0, none⟩) (M + 1) c')) (a := ⟨g', j, none⟩) (Below.heap_setCell W3 ⟨g, N * 5 + 4, none⟩ (.slice (some ⟨g', 0, none⟩) (M + 1) c') g' (Ne.symm HG.out.1))).trans (HOWN3.out.frozenAt j)
          rw [← put5_swap _ HG.out.1] at HEND
          have h0 := ho 0 (by omega)
          have h1 := ho 1 (by omega)
          have h2 := ho 2 (by omega)
          have h3 := ho 3 (by omega)
          have h4 := ho 4 (by omega)
          simp only [List.getElem?_cons_zero, List.getElem?_cons_succ, Nat.add_zero] at h0 h1 h2 h3 h4
          clear ho HP5 HG9 HG8 HZ9 HS9 HSS3
          revert HEND h0 h1 h2 h3 h4 hf
          generalize World.setCell W3 _ _ = W9
          intro HEND h0 h1 h2 h3 h4 hf
          refine wpAnyT_ready (rs := [14]) (by kernel_rfl) (by simp) ?_
          refine AllReadyT.cons spat14 false (by kernel_rfl) (fun K hK => ?_) AllReadyT.nil
          go_simp
          refine hK.out _ _ (HSF _) (fun hH => ?_)
          clear hK K h0 h1 h2 h3 h4 hf HSK HSO HMO HSP HSM HSF hH
          (try simp only [Act.put, List.setIfInBounds_toArray, List.set_cons_zero, List.set_cons_succ])
          revert HEND
          unfold put5
          generalize World.setCell (World.setCell (World.setCell (World.setCell (World.setCell W9 _ _) _ _) _ _) _ _) _ _ = WF
          intro HEND
          refine wpAnyT_done (by kernel_rfl) ?_ _
          (try go_wp2)
          go_roundw
          case rel => obtain ⟨v', h1, h2⟩ := HEND.out; exact ⟨k + 1, N, (ks ++ [.mk false t []], st), g, c, _, by go_num, rfl, by omega, HNL2, HS, Lib.hid (by show Od _ _ _ _ _ (levs true (ks ++ [.mk false t []]) st) _; rw [HLV.out]; exact h1), Lib.hid h2⟩
          case measure => simp [intOf]; omega
    · obtain rfl : k = N0 := by omega
      have HRE : Hid (run deep l ([], []) = .ok (ks, st)) := Lib.hid (by
        have := HRN.out
        rw [← HN0.out, List.take_length] at this
        exact this)
      have g7 : ¬ ((k : Int) < (k : Int)) := by omega
      by_cases hK0 : K = 0
      · subst hK0
        obtain rfl : st = [] := List.eq_nil_of_length_eq_zero HK.out
        have HE : Hid (read deep l = .ok ks) := Lib.hid (read_ok.2 HRE.out)
        rw [show levs true ks [] = [⟨true, ⟨0, [], 0⟩, ks⟩] from rfl] at HO
        obtain ⟨v, vs, rfl⟩ := HO.out.vals
        obtain ⟨A4, c4, e4⟩ := HO.out.slice
        dsimp only at e4
        obtain ⟨M4, hM4⟩ : ∃ M4, ks.length = M4 := ⟨_, rfl⟩
        rw [hM4] at e4
        subst e4
        have d4 : wr.cell? ⟨g, 4, none⟩ = some (.slice A4 M4 c4) := by have := HO.out.cell 4 (by omega); simpa [cells5] using this
        have HRW : Hid (Rw wr (fun _ => True) ks (.slice A4 M4 c4)) := Lib.hid (HO.out.kid.1.rw (F' := fun _ => True) (fun _ _ => trivial) (fun _ _ => trivial))
        clear hM4
        go_wp2
        refine bodyPost_ret (results_tmp3 rfl _ _ _) rfl ?_
        exact ⟨Lib.hid (by unfold RefIs; rw [HE.out]; exact ⟨_, rfl, HRW.out⟩), HBL⟩
      · obtain ⟨N, rfl⟩ : ∃ N, K = N + 1 := ⟨K - 1, by omega⟩
        cases st with
        | nil => exact absurd HK.out (by simp)
        | cons q st =>
          obtain ⟨t, pk⟩ := q
          have hst : st.length = N := by have := HK.out; simpa using this
          have HE : Hid (read deep l = .error (11, t.p)) := Lib.hid (by unfold read; rw [HRE.out])
          rw [show levs true ks ((t, pk) :: st) = ⟨true, t, ks⟩ :: levs true pk st from rfl] at HO
          obtain ⟨v, vs, rfl⟩ := HO.out.vals
          have d3 : wr.cell? ⟨g, (N + 1) * 5 + 3, none⟩ = some (.int .i64 t.p) := by have := HO.out.cell 3 (by omega); rw [levs_len, hst] at this; exact this
          have hwr : IntKind.i64.wrap (N : Int) = (N : Int) := IntWalk.i64_in _ (by omega)
          have hwr1 : IntKind.i64.wrap ((N : Int) + 1) = (N : Int) + 1 := IntWalk.i64_in _ (by omega)
          have p1 : (0 : Int) ≤ (N : Int) + 1 := by omega
          have p2 : (N : Int) < (N : Int) + 1 := by omega
          have p3 : (0 : Int) < (N : Int) + 1 := by omega
          go_upto_region 20 with fail
          go_quiet (fail)
          have HBF : Hid (Below n0 w (wr.drewN nq)) := Lib.hid ⟨HBL.out.os, HBL.out.tape, HBL.out.output, HBL.out.size, HBL.out.block⟩
          go_wp2
          refine bodyPost_ret (results_tmp3 rfl _ _ _) rfl ?_
          exact ⟨Lib.hid (by unfold RefIs; rw [HE.out]; rfl), HBF⟩
end Go.Proofs.YtmnllioeaaimcaaDoor.tr
