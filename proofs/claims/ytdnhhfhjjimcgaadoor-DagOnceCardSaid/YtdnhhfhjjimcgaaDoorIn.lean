/- The statement DagOnce. -/
import Derived.Test.YtdnhhfhjjimcgaaDoorIm
namespace Go.Proofs.YtdnhhfhjjimcgaaDoor.dg
open Go Go.RowKit
set_option linter.unusedVariables false
set_option linter.unusedSimpArgs false

set_option maxRecDepth 100000 in
set_option maxHeartbeats 16000000 in
theorem dagOnce_any {w : World} (HTAB : Hid (Tab w)) {l1 l2 : List Ac} {A1 A2 : Option Addr} {c1 c2 n : Nat} (h1 : Hid (Acs w n l1 A1 c1)) (h2 : Hid (Acs w n l2 A2 c2)) (hA1 : Hid (A1 = none → c1 = 0)) (hA2 : Hid (A2 = none → c2 = 0)) (hn : n ≤ w.heap.size) :
    Calls Tryd.prog 5 #[.slice A1 l1.length c1, .slice A2 l2.length c2] w fun e w' => e = .returned (.bool true) ∧ Hid (Below w.heap.size w w') := by
  cases hgr : greatB l1 with
  | true =>
    have HGR := Lib.hid hgr
    clear hgr
    go_enter Tryd.func5, Tryd.ntmps5
    go_upto_region 3 with (go_at_call 8; refine (speaks_any HTAB).mono ?_; rintro e W1 ⟨rfl, HB1⟩)
    go_wp2_with (go_at_call 9; refine (great_any (Lib.hid (h1.out.below hn (HB1.out.mono hn))) (Nat.le_trans hn HB1.out.size)).mono ?_; rw [HGR.out]; rintro e W2 ⟨rfl, HB2⟩)
    go_ret
    exact ⟨rfl, Lib.hid (HB1.out.trans (HB2.out.mono HB1.out.size))⟩
  | false =>
    have HGR := Lib.hid hgr
    have HNG1 := Lib.hid (great_no hgr)
    clear hgr
    cases hgr : greatB l2 with
    | true =>
      have HGR2 := Lib.hid hgr
      clear hgr
      go_enter Tryd.func5, Tryd.ntmps5
      go_upto_region 3 with (go_at_call 8; refine (speaks_any HTAB).mono ?_; rintro e W1 ⟨rfl, HB1⟩)
      go_wp2_with (first | (go_at_call 9; (have hpre := HGR; clear hpre); refine (great_any (Lib.hid (h1.out.below hn (HB1.out.mono hn))) (Nat.le_trans hn HB1.out.size)).mono ?_; rw [HGR.out]; rintro e W2 ⟨rfl, HB2⟩; clear HGR; have HB3 := Lib.hid (HB1.out.trans (HB2.out.mono HB1.out.size)); clear HB2) | (go_at_call 9; refine (great_any (Lib.hid (h2.out.below hn (HB3.out.mono hn))) (Nat.le_trans hn HB3.out.size)).mono ?_; rw [HGR2.out]; rintro e W3 ⟨rfl, HB4⟩))
      go_ret
      exact ⟨rfl, Lib.hid (HB3.out.trans (HB4.out.mono HB3.out.size))⟩
    | false =>
      have HGR2 := Lib.hid hgr
      have HNG2 := Lib.hid (great_no hgr)
      clear hgr
      have hlen1 := HNG1.out.1
      have hlen2 := HNG2.out.1
      obtain ⟨M, hM⟩ : ∃ M, l1.length + l2.length = M := ⟨_, rfl⟩
      have hmm := @run_makeMap Tryd.prog
      go_enter Tryd.func5, Tryd.ntmps5
      go_upto_region 3 with (go_at_call 8; refine (speaks_any HTAB).mono ?_; rintro e W1 ⟨rfl, HB1⟩)
      go_upto_region 5 with (first | (go_at_call 9; (have hpre := HGR; clear hpre); refine (great_any (Lib.hid (h1.out.below hn (HB1.out.mono hn))) (Nat.le_trans hn HB1.out.size)).mono ?_; rw [HGR.out]; rintro e W2 ⟨rfl, HB2⟩; clear HGR; have HB3 := Lib.hid (HB1.out.trans (HB2.out.mono HB1.out.size)); clear HB2) | (go_at_call 9; refine (great_any (Lib.hid (h2.out.below hn (HB3.out.mono hn))) (Nat.le_trans hn HB3.out.size)).mono ?_; rw [HGR2.out]; rintro e W3 ⟨rfl, HB4⟩))
      have HBB : Hid (Below w.heap.size w W3) := Lib.hid (HB3.out.trans (HB4.out.mono HB3.out.size))
      clear HB1 HB3 HB4 HGR2
      go_upto_region 6 with (go_at_call 26; refine (new_any (Lib.hid (HTAB.out.below HBB.out)) 1000).mono ?_; rintro e V3 ⟨a, F3, rfl, HM3⟩)
      have HM3' : Hid (Mine w V3 F3 a (St.new 1000)) := Lib.hid ⟨HM3.out.1, HBB.out.trans (HM3.out.2.1.mono HBB.out.size), fun g hg => Nat.le_trans HBB.out.size (HM3.out.2.2 g hg)⟩
      clear HM3 HBB
      go_upto_region 7 with fail
      generalize hW : World.alloc V3 _ = V4
      have HM4 : Hid (Mine w V4 F3 a (St.new 1000)) := Lib.hid (hW ▸ HM3'.out.below ((Below.refl _ _).alloc (Nat.le_refl _) _))
      have HP4 : Hid (Pm V4 n V3.heap.size []) := Lib.hid (hW ▸ Pm.made V3 n)
      have HF4 : Hid (¬ F3 V3.heap.size ∧ w.heap.size ≤ V3.heap.size) := Lib.hid ⟨fun hf => by have := HM3'.out.1.lt _ hf; omega, HM3'.out.2.1.size⟩
      have HFV : Hid (∀ g, F3 g → g < V4.heap.size) := Lib.hid HM4.out.1.lt
      obtain ⟨pb, hpb⟩ : ∃ pb, V3.heap.size = pb := ⟨_, rfl⟩
      rw [hpb] at HP4 HF4 ⊢
      clear hW hpb HM3' hmm
      obtain ⟨i0, hi, hz0, hz1, hz2⟩ := info_parts infoAct
      have hb4 := HM4.out.2.1.size
      have HB5 : Hid (Below V4.heap.size V4 (V4.alloc (.cells #[] 49))) := Lib.hid ((Below.refl _ _).alloc (Nat.le_refl _) _)
      have HA5 := h1.out.below hn ((HM4.out.2.1.trans (HB5.out.mono hb4)).mono hn)
      obtain ⟨news1, hch1, hnl1, hnn1⟩ := HA5.news
      have HO5 : Hid ((V4.alloc (.cells #[] 49)).ownsRow w.heap.size 49 8 (.slice (some ⟨V4.heap.size, 0, none⟩) 0 0) 0 []) := Lib.hid (World.ownsRow_made V4 #[] 0 hb4 (by unfold maxLen; omega) rfl)
      have HCH1 := Lib.hid hch1
      have HNN1 := Lib.hid hnn1
      have HN1 : Hid (A1 = none → l1.length = 0 ∧ c1 = 0) := Lib.hid fun e => by
        refine ⟨?_, hA1.out e⟩
        rcases Nat.eq_zero_or_pos l1.length with h0 | h0
        · exact h0
        · obtain ⟨g, off, e2, _⟩ := h1.out.2 h0
          rw [e] at e2
          cases e2
      have HN2 : Hid (A2 = none → l2.length = 0 ∧ c2 = 0) := Lib.hid fun e => by
        refine ⟨?_, hA2.out e⟩
        rcases Nat.eq_zero_or_pos l2.length with h0 | h0
        · exact h0
        · obtain ⟨g, off, e2, _⟩ := h2.out.2 h0
          rw [e] at e2
          cases e2
      have HKEY := Lib.hid trivial
      clear HA5 hch1 hnn1
      go_upto_region 8 with (first | (at_builtin; (have hpre := HKEY; clear hpre); refine wpList_append_both rfl _ _ 22 rfl w.heap.size 49 i0 _ 8 112 Tryd.underlying22 hi hz0 hz1 hz2 rfl (by decide) V4.heap.size 0 0 [] rfl HO5.out A1 l1.length c1 news1 HN1.out rfl hnl1 HNN1.out (HCH1.out.one AcC.one) (by unfold maxLen; omega) (by omega) (by simp; omega) ?_; intro g6 c6 V6 hown6 hgrow6 hat6; rw [Nat.zero_add, List.nil_append] at hown6; rw [Nat.zero_add]; clear HKEY; (have HB6 : Hid (Below V4.heap.size V4 V6) := Lib.hid (HB5.out.grown hgrow6 (by simp) (fun g hg => by simp only [Option.some.injEq] at hg; omega))); (have HS6 := Lib.hid hgrow6.size); (have HG6 : Hid (V4.heap.size ≤ g6) := Lib.hid (by simp at hat6; omega)); (have HA6 := h2.out.below hn ((HM4.out.2.1.trans (HB6.out.mono hb4)).mono hn)); obtain ⟨news2, hch2, hnl2, hnn2⟩ := HA6.news; (have HO6 := Lib.hid hown6); (have HCH2 := Lib.hid hch2); (have HNN2 := Lib.hid hnn2); (have hb6 : w.heap.size ≤ V6.heap.size := Nat.le_trans hb4 HB6.out.size); clear HA6 hch2 hnn2 hown6 hgrow6 hat6) | (at_builtin; refine wpList_append_both rfl _ _ 22 rfl w.heap.size 49 i0 _ 8 112 Tryd.underlying22 hi hz0 hz1 hz2 rfl (by decide) g6 l1.length c6 news1 rfl HO6.out A2 l2.length c2 news2 HN2.out rfl hnl2 HNN2.out (HCH2.out.one AcC.one) (by unfold maxLen; omega) (by omega) hb6 ?_; intro g7 c7 V7 hown7 hgrow7 hat7; rw [hM] at hown7 ⊢))
      have HRY : Hid (Ry w V7 F3 a (St.new 1000) n (.slice (some ⟨g7, 0, none⟩) M c7) (l1 ++ l2) pb ((St.new 1000).terms.map (·.t))) := Lib.hid (by
        have hg6 := HG6.out
        have hB7 : Below V4.heap.size V4 V7 := HB6.out.grown hgrow7 HB6.out.size (fun g hg => by simp only [Option.some.injEq] at hg; omega)
        have h67 : V6.heap.size ≤ V7.heap.size := hgrow7.size
        have hn4 : n ≤ V4.heap.size := Nat.le_trans hn hb4
        have l5 : ∀ g, g < n → g < (V4.alloc (.cells #[] 49)).heap.size → V7.heap[g]? = (V4.alloc (.cells #[] 49)).heap[g]? := fun g hg _ => (hB7.block g (by omega)).trans (HB5.out.block g (by omega)).symm
        have l6 : ∀ g, g < n → g < V6.heap.size → V7.heap[g]? = V6.heap[g]? := fun g hg _ => (hB7.block g (by omega)).trans (HB6.out.block g (by omega)).symm
        refine ⟨HM4.out.below hB7, ⟨_, by rw [List.length_append, hM]; exact hown7, (HCH1.out.mono fun x _ => AcC.stays (Nat.le_trans HS6.out h67) l5 x).app (HCH2.out.mono fun x _ => AcC.stays h67 l6 x)⟩, fun g hg hf => ?_, HP4.out.stays hB7.size fun g _ hl => hB7.block g hl, HF4.out.1, HF4.out.2⟩
        simp only [Value.ownBlock, Option.some.injEq] at hg
        have := HFV.out g hf
        have := HB6.out.size
        omega)
      obtain ⟨L, hL⟩ : ∃ L, l1 ++ l2 = L := ⟨_, rfl⟩
      have HLM : Hid (L.length = M) := Lib.hid (by rw [← hL, List.length_append, hM])
      have HNG : Hid (∀ x ∈ L, x.name.size ≤ 60 ∧ x.args.length ≤ 12 ∧ x.tm.kids.length ≤ 12 ∧ x.tm.num.size ≤ 60) := Lib.hid fun x hx => by
        rw [← hL] at hx
        rcases List.mem_append.1 hx with hx | hx
        · exact HNG1.out.2 x hx
        · exact HNG2.out.2 x hx
      rw [hL] at HRY
      have hm160 : M ≤ 160 := by omega
      obtain ⟨Ax, hAx⟩ : ∃ Ax, some (⟨g7, 0, none⟩ : Addr) = Ax := ⟨_, rfl⟩
      rw [hAx] at HRY ⊢
      clear hL hM hAx hown7 hgrow7 hat7 HB6 HG6 HS6 HO6 HCH2 HNN2 hb6 HB5 HO5 HCH1 HNN1 HN1 HN2 HM4 HP4 HF4 HFV hb4 hnl1 hnl2 HNG1 HNG2 hi hz0 hz1 hz2
      go_loopw [36] (fun iv wr => ∃ k : Nat, k ≤ M ∧ iv = .int .i64 (k : Int) ∧ Hid (∃ S F, Gk k S ∧ Tk S ∧ Ry w wr F a S n (.slice Ax M c7) L pb (S.terms.map (·.t)))) (fun iv _ => M - (intOf iv).toNat)
      case atStart => exact ⟨0, Nat.zero_le _, rfl, Lib.hid ⟨_, _, Gk.new 1000, Tk.new 1000, HRY.out⟩⟩
      case round =>
        clear HRY
        obtain ⟨k, hk, rfl, HK⟩ := hrel
        obtain ⟨S, F7, hgk, htk, hry⟩ := HK.out
        have HRY := Lib.hid hry
        have HGK := Lib.hid hgk
        have HTK := Lib.hid htk
        have hk160 : k ≤ 160 := by omega
        have HK9 : Hid (k + 1 ≤ 1000) := Lib.hid (by omega)
        clear HK hry hgk htk
        by_cases hlt : k < M
        · have g7 : (k : Int) < (M : Int) := by omega
          obtain ⟨g, cc, A2, c2, B, d, hav, hg, ra, rk, m0, m1, m2, m3, m4, m5, m6, m7⟩ := HRY.out.get (k := k) (by rw [HLM.out]; exact hlt)
          injection hav with hav hav2 hav3
          clear hav2 hav3
          subst hav
          obtain ⟨x, hx⟩ : ∃ x, L[k]'(by rw [HLM.out]; exact hlt) = x := ⟨_, rfl⟩
          have HSM : Hid (x.name.size ≤ 1000000 ∧ x.args.length ≤ 1000000 ∧ x.tm.kids.length ≤ 1000000 ∧ x.tm.num.size ≤ 1000000) := Lib.hid (by have := HNG.out x (hx ▸ List.getElem_mem _); omega)
          have HSM2 : Hid (x.args.length ≤ 12 ∧ x.tm.kids.length ≤ 12) := Lib.hid (by have := HNG.out x (hx ▸ List.getElem_mem _); omega)
          rw [hx] at ra rk m0 m1 m2 m3 m4 m5 m6 m7
          clear hx
          go_upto_region 10 with fail
          generalize hW : World.alloc wr _ = W1
          have HR1 : Hid (Rz w W1 F7 a wr.heap.size S n x A2 c2 B d (.slice (some ⟨g, 0, none⟩) M c7) L pb (S.terms.map (·.t))) := Lib.hid (Rz.new HRY.out ra rk hW)
          obtain ⟨xb, hxb⟩ : ∃ xb, wr.heap.size = xb := ⟨_, rfl⟩
          rw [hxb] at HR1 ⊢
          clear hW hxb m0 m1 m2 m3 m4 m5 m6 m7 ra rk HRY
          have x0 := HR1.out.box.cell 0
          have x1 := HR1.out.box.cell 1
          have x2 := HR1.out.box.cell 2
          have x3 := HR1.out.box.cell 3
          have x4 := HR1.out.box.cell 4
          have x5 := HR1.out.box.cell 5
          have x6 := HR1.out.box.cell 6
          have x7 := HR1.out.box.cell 7
          have xl := HR1.out.box.lt
          by_cases w0 : x.what = 0
          · rcases hz : S.sort x.name x.args with ⟨z, er, S'⟩
            obtain ⟨hs1, hs2⟩ := HTK.out.sort hz
            have HZ := Lib.hid hz
            have HTK2 := Lib.hid hs1
            have HTT := Lib.hid hs2
            have HG2 : Hid (Gk (k + 1) S') := Lib.hid (HGK.out.sort HSM2.out.1 hz)
            have hw0 : (x.what == 0) = true := by simpa using w0
            clear hz w0 hs1 hs2
            go_wp2_with (go_at_call 27; refine (sort_any (Lib.hid HR1.out.r.m.1) (Lib.hid (HTAB.out.below HR1.out.r.m.2.1)) HSM.out.1 (Lib.hid HR1.out.ra) HSM.out.2.1 (Lib.hid (HGK.out.sz (by have := HK9.out; omega))) HZ.out).mono ?_; rintro e W2 ⟨rfl, HE⟩; obtain ⟨F8, hr9⟩ := HR1.out.step hn HE.out; have HR2 := Lib.hid hr9; clear hr9 HE)
            go_roundw
            case rel => exact ⟨k + 1, by omega, by go_num, Lib.hid ⟨S', _, HG2.out, HTK2.out, by rw [HTT.out]; exact HR2.out.r⟩⟩
            case measure => simp [intOf]; omega
          · have hw0 : (x.what == 0) = false := by simpa using w0
            clear w0
            by_cases w1 : x.what = 1
            · rcases hz : S.fun_ x.fn with ⟨z, er, S'⟩
              obtain ⟨hs1, hs2⟩ := HTK.out.fun_ hz
              have HZ := Lib.hid hz
              have HTK2 := Lib.hid hs1
              have HTT := Lib.hid hs2
              have HG2 : Hid (Gk (k + 1) S') := Lib.hid (HGK.out.fun_ HSM2.out.1 hz)
              have hw1 : (x.what == 1) = true := by simpa using w1
              clear hz w1 hs1 hs2
              go_wp2_with (go_at_call 28; refine (fun_any (f := x.fn) (Lib.hid HR1.out.r.m.1) HSM.out.1 (Lib.hid HR1.out.ra) HSM.out.2.1 (Lib.hid (HGK.out.sz (by have := HK9.out; omega))) HZ.out).mono ?_; rintro e W2 ⟨rfl, HE⟩; obtain ⟨F8, hr9⟩ := HR1.out.step hn HE.out; have HR2 := Lib.hid hr9; clear hr9 HE)
              go_roundw
              case rel => exact ⟨k + 1, by omega, by go_num, Lib.hid ⟨S', _, HG2.out, HTK2.out, by rw [HTT.out]; exact HR2.out.r⟩⟩
              case measure => simp [intOf]; omega
            · have hw1 : (x.what == 1) = false := by simpa using w1
              rcases hz : S.term x.tm with ⟨z, er, S'⟩
              have HZ := Lib.hid hz
              have HG2 : Hid (Gk (k + 1) S') := Lib.hid (HGK.out.term HSM2.out.2 hz)
              have HTL : Hid (∀ e ∈ S.terms, e.t.kids.length ≤ 1000000) := Lib.hid fun e he => Nat.le_trans (HGK.out.tk e he) (by omega)
              obtain ⟨N, hN⟩ : ∃ N, S.terms.length = N := ⟨_, rfl⟩
              have HN := Lib.hid hN
              have hn160 : N ≤ 160 := by have := HGK.out.t; omega
              clear w1 hz hN
              go_upto_region 15 with (go_at_call 11; refine (len_any (Lib.hid HR1.out.r.m.1)).mono ?_; rw [HN.out]; rintro e W9 ⟨rfl, rfl⟩)
              go_upto_region 16 with (go_at_call 29; refine (term_any (Lib.hid HR1.out.r.m.1) (Lib.hid HR1.out.rk) HSM.out.2.2.1 HSM.out.2.2.2 (Lib.hid (HGK.out.sz (by have := HK9.out; omega))) HTL HZ.out).mono ?_; rintro e W2 ⟨rfl, HE⟩; obtain ⟨F8, hr9⟩ := HR1.out.step hn HE.out; have HR2 := Lib.hid hr9; clear hr9 HE)
              clear x0 x1 x2 x3 x4 x5 x6 x7 xl HR1
              by_cases he : er = 0
              · subst he
                obtain ⟨htk2, q, hzq, hkq, hcase⟩ := HTK.out.term HZ.out
                subst hzq
                have HTK2 := Lib.hid htk2
                have HKQ := Lib.hid hkq
                clear HZ htk2 hkq
                rcases hcase with ⟨hq1, hq2, hq3⟩ | ⟨hq1, hq2⟩
                · rw [HN.out] at hq1
                  replace hq2 := hq2.symm
                  subst hq2
                  have HQ3 := Lib.hid hq3
                  clear hq3
                  have x6 := HR2.out.box.cell 6
                  have xl := HR2.out.box.lt
                  go_upto_region 20 with fail
                  clear x6 xl
                  go_loopw [81] (fun iv wr => ∃ j : Nat, j ≤ x.tm.kids.length ∧ iv = .int .i64 (j : Int) ∧ Hid (Rz w wr F8 a xb S n x A2 c2 B d (.slice (some ⟨g, 0, none⟩) M c7) L pb (S.terms.map (·.t)))) (fun iv _ => x.tm.kids.length - (intOf iv).toNat)
                  case atStart => exact ⟨0, Nat.zero_le _, rfl, HR2⟩
                  case round =>
                    clear HR2
                    obtain ⟨j, hj, rfl, HR2⟩ := hrel
                    have hal9 := HSM2.out.2
                    by_cases hlt2 : j < x.tm.kids.length
                    · have g8 : (j : Int) < (x.tm.kids.length : Int) := by omega
                      obtain ⟨gA, oA, hB2, _, hgA, hcA⟩ := HR2.out.rk.get hlt2
                      obtain ⟨u, hu⟩ : ∃ u, x.tm.kids[j]'hlt2 = u := ⟨_, rfl⟩
                      rw [hu] at hcA
                      have g10 : decide ((q : Int) ≤ u) = false := decide_eq_false (by have := HKQ.out u (hu ▸ List.getElem_mem hlt2); omega)
                      subst hB2
                      clear hu
                      go_wp2_with fail
                      go_roundw
                      case rel => exact ⟨j + 1, by omega, by go_num, HR2⟩
                      case measure => simp [intOf]; omega
                    · obtain rfl : j = x.tm.kids.length := by omega
                      have g8 : ¬ ((x.tm.kids.length : Int) < (x.tm.kids.length : Int)) := by omega
                      have x4 := HR2.out.box.cell 4
                      have x5 := HR2.out.box.cell 5
                      have x6 := HR2.out.box.cell 6
                      have x7 := HR2.out.box.cell 7
                      have xl := HR2.out.box.lt
                      have hq1m : q ≤ 1000000 := by omega
                      obtain ⟨v9, hlook, hv1, hv2⟩ := HR2.out.r.map.look hq1m
                      rw [List.length_map, HN.out, decide_eq_true hq1] at hlook
                      obtain ⟨A9, c9, hv9, hr9⟩ := hv1 _ HQ3.out
                      subst hv9
                      have HR9 := Lib.hid hr9
                      have g11 : (q : Int) < (N : Int) := by omega
                      have g12 : decide (q < N) = true := decide_eq_true hq1
                      have hmax : max (N : Int) ((q : Int) + 1) = (N : Int) := by omega
                      have hself : (((N : Int) != (N : Int)) : Bool) = false := by simp
                      have hsame : sameT x.tm x.tm = true := sameT_iff.2 rfl
                      clear hv1 hv2 hr9
                      go_upto_region 26 with fail
                      generalize hW : World.alloc wr _ = W3
                      have HR3 : Hid (Rz w W3 F8 a xb S n x A2 c2 B d (.slice (some ⟨g, 0, none⟩) M c7) L pb (S.terms.map (·.t))) := Lib.hid (HR2.out.below (hW ▸ (Below.refl _ _).alloc (Nat.le_refl _) _))
                      have HBX : Hid (Bk W3 wr.heap.size 41 #[.int .i64 x.tm.op, .int .i64 x.tm.fn, .slice A9 x.tm.kids.length c9, .string x.tm.num]) := Lib.hid (hW ▸ Bk.new wr _ _)
                      have HRI9 : Hid (Ri W3 (fun q => q < n) x.tm.kids A9 c9) := Lib.hid (HR9.out.below (hW ▸ (Below.refl _ _).alloc (Nat.le_refl _) _))
                      obtain ⟨zb, hzb⟩ : ∃ zb, wr.heap.size = zb := ⟨_, rfl⟩
                      rw [hzb] at HBX ⊢
                      clear hW hzb hlook x4 x5 x6 x7 xl HR2 HR9
                      have z0 := HBX.out.cell 0
                      have z1 := HBX.out.cell 1
                      have z2 := HBX.out.cell 2
                      have z3 := HBX.out.cell 3
                      have zl := HBX.out.lt
                      have x4 := HR3.out.box.cell 4
                      have x5 := HR3.out.box.cell 5
                      have x6 := HR3.out.box.cell 6
                      have x7 := HR3.out.box.cell 7
                      have xl := HR3.out.box.lt
                      go_upto_region 28 with (first | (go_at_call 19; refine (refSame_any (s := x.tm) (t := x.tm) HRI9 (Lib.hid HR3.out.rk) HSM.out.2.2.1).mono ?_; rw [hsame]; rintro e W4 ⟨rfl, HB4⟩; have HR4 := Lib.hid (HR3.out.below HB4.out)) | (go_at_call 11; refine (len_any (Lib.hid HR4.out.r.m.1)).mono ?_; rw [HN.out]; rintro e W9 ⟨rfl, rfl⟩))
                      clear z0 z1 z2 z3 zl x4 x5 x6 x7 xl HBX HRI9 HR3 HB4
                      have x4 := HR4.out.box.cell 4
                      have x5 := HR4.out.box.cell 5
                      have x6 := HR4.out.box.cell 6
                      have x7 := HR4.out.box.cell 7
                      have xl := HR4.out.box.lt
                      obtain ⟨W5, hput, hpm, htu⟩ := HR4.out.r.map.put (p := q) (T' := S.terms.map (·.t)) (t := x.tm) (v := .agg #[.int .i64 x.tm.op, .int .i64 x.tm.fn, .slice B x.tm.kids.length d, .string x.tm.num]) ⟨B, d, rfl, HR4.out.rk⟩ (by rw [List.length_map, HN.out]; omega) (Nat.le_trans hn HR4.out.r.pw) (.inl ⟨by rw [List.length_map, HN.out]; exact hq1, rfl, HQ3.out⟩)
                      have HR5 := Lib.hid (HR4.out.r.put hn htu hpm)
                      clear hpm htu HR4
                      go_upto_region 29 with fail
                      clear x4 x5 x6 x7 xl hput HQ3
                      cases h3 : (((k : Int) % 3) == 0) with
                      | false =>
                        go_wp2_with fail
                        go_roundw
                        case rel => exact ⟨k + 1, by omega, by go_num, Lib.hid ⟨S, _, HG2.out, HTK2.out, HR5.out⟩⟩
                        case measure => simp [intOf]; omega
                      | true =>
                        obtain ⟨T9, hT9⟩ : ∃ T9, S.terms.map (·.t) = T9 := ⟨_, rfl⟩
                        have HT9 := Lib.hid hT9
                        rw [hT9] at HR5
                        clear hT9
                        obtain ⟨D, hown, hsz9, hD1, hD2⟩ := HR5.out.map
                        have HDM : Hid (Dm W5 n T9 D) := Lib.hid ⟨hD1, hD2⟩
                        clear hD1 hD2 hsz9
                        go_wp2_with (first | (at_range; refine wpList_range_own _ rfl _ 57 rfl 3 41 intKeyed Tryd.underlying57 heldR pb T9.length D rfl hown ?_; intro W6 hrg0 hgr0 hsz0) | go_in)
                        go_frame
                        have HB6 : Hid (Below W5.heap.size W5 W6) := Lib.hid ((Below.refl _ _).grown hgr0 (Nat.le_refl _) (fun g hg => by cases hg))
                        have HRF : Hid (w.heap.size ≤ W5.heap.size ∧ ¬ F8 W5.heap.size ∧ W5.heap.size ≠ pb ∧ ∀ q, (Value.slice (some ⟨g, 0, none⟩) M c7).ownBlock = some q → q ≠ W5.heap.size) := Lib.hid ⟨HR5.out.m.2.1.size, fun hf => by have := HR5.out.m.1.lt _ hf; omega, fun e => by have := HR5.out.map.lt; omega, fun q hq e => by
                          obtain ⟨xs, k1, _⟩ := HR5.out.acts
                          have := (k1.lt q hq).2
                          omega⟩
                        have HRG0 := Lib.hid hrg0
                        have HR6 := Lib.hid (HR5.out.below HB6.out)
                        have HDM6 : Hid (Dm W6 n T9 D) := Lib.hid (HDM.out.stays HB6.out.size fun q _ hl => HB6.out.block q hl)
                        obtain ⟨r, hr⟩ : ∃ r, W5.heap.size = r := ⟨_, rfl⟩
                        rw [hr] at HRG0 HRF ⊢
                        clear hr hrg0 hgr0 hsz0 hown HB6 HDM HR5
                        go_loopw [16] (fun _ wr => Hid (∃ F left cnt, wr.ranges Tryd.prog 3 heldR pb r T9.length D left cnt ∧ Ry w wr F a S n (.slice (some ⟨g, 0, none⟩) M c7) L pb T9 ∧ ¬ F r ∧ Dm wr n T9 D)) (fun _ wr => wr.rangeLeft pb r)
                        case atStart => exact Lib.hid ⟨F8, _, _, HRG0.out, HR6.out, HRF.out.2.1, HDM6.out⟩
                        case round =>
                          clear HRG0 HR6 HDM6
                          obtain ⟨F9, left, cnt, hrg, hry, hfr, hdm⟩ := hrel.out
                          have HRG := Lib.hid hrg
                          have HRY := Lib.hid hry
                          have HFR := Lib.hid hfr
                          have HDM := Lib.hid hdm
                          clear hrel hry hfr hdm
                          go_wp2_with (first | (at_next; refine wpList_next_ranges (α := Int) (β := Value) _ rfl _ rfl 3 intKeyed heldR (Value.int .i64) (fun v => v) (fun key kl hkey => by obtain ⟨x, rfl, _⟩ := Maps.keyOf_int_inv Tryd.underlying3 hkey; exact ⟨x, rfl⟩) (fun v y hv => ⟨v, rfl⟩) pb r T9.length D left cnt rfl hrg ?_ ?_) | go_in)
                          · intro hc0 hl0
                            clear hrg hc0 hl0
                            go_wp2_with fail
                            go_roundw
                            case rel => exact ⟨k + 1, by omega, by go_num, Lib.hid ⟨S, _, HG2.out, HTK2.out, by rw [HT9.out]; exact HRY.out⟩⟩
                            case measure => simp [intOf]; omega
                          · intro X cv kl y1 y2 W7 cnt7 hkey hlk hv hv2 hat hrg7 hlt7 hgr7 hsz7 hen
                            obtain ⟨X2, eX, rfl, _⟩ := Maps.keyOf_int_inv Tryd.underlying3 hkey
                            injection eX with _ eX
                            subst eX
                            subst hv hv2
                            have HR7 := Lib.hid (HRY.out.turn hn hgr7 HRF.out.1 HFR.out HRF.out.2.2.1 HRF.out.2.2.2)
                            have HDM7 : Hid (Dm W7 n T9 D) := Lib.hid (HDM.out.stays hgr7.size fun q hq hl => hgr7.block q hl (by simp; have := HRF.out.1; omega))
                            obtain ⟨p, t, hX, hTp, A9, c9, hcv, hri⟩ := HDM7.out.entry hat
                            subst hX hcv
                            have HRI := Lib.hid hri
                            have HAG := Lib.hid (HTK2.out.again (by rw [HT9.out]; exact hTp))
                            have HSZ : Hid (t.kids.length ≤ 1000000 ∧ t.num.size ≤ 1000000) := Lib.hid (HTK2.out.small (fun e he => Nat.le_trans (HG2.out.tk e he) (by omega)) (by rw [HT9.out]; exact hTp))
                            have HTL : Hid (∀ e ∈ S.terms, e.t.kids.length ≤ 1000000) := Lib.hid fun e he => Nat.le_trans (HG2.out.tk e he) (by omega)
                            have HRG7 := Lib.hid hrg7
                            have hzz : (((p : Int) != (p : Int)) : Bool) = false := by simp
                            clear hri hTp hrg hrg7 hgr7 hsz7 hkey hlk hat HRY
                            go_upto_region 33 with fail
                            generalize hW : World.alloc W7 _ = W8
                            have hB8 : Below W7.heap.size W7 W8 := hW ▸ (Below.refl _ _).alloc (Nat.le_refl _) _
                            have HR8 := Lib.hid (HR7.out.below hB8)
                            have HDM8 : Hid (Dm W8 n T9 D) := Lib.hid (HDM7.out.stays hB8.size fun q _ hl => hB8.block q hl)
                            have HRG8 := Lib.hid (ranges_stays HRG7.out (hB8.block pb HR7.out.map.lt) (hB8.block r HRG7.out.lt))
                            have HBX : Hid (Bk W8 W7.heap.size 41 #[.int .i64 t.op, .int .i64 t.fn, .slice A9 t.kids.length c9, .string t.num]) := Lib.hid (hW ▸ Bk.new W7 _ _)
                            have HRI8 := Lib.hid (HRI.out.below hB8)
                            obtain ⟨zb, hzb⟩ : ∃ zb, W7.heap.size = zb := ⟨_, rfl⟩
                            rw [hzb] at HBX ⊢
                            clear hW hzb hB8 hen HR7 HDM7 HRG7 HRI
                            have z0 := HBX.out.cell 0
                            have z1 := HBX.out.cell 1
                            have z2 := HBX.out.cell 2
                            have z3 := HBX.out.cell 3
                            have zl := HBX.out.lt
                            go_upto_region 34 with (go_at_call 29; refine (term_any (t := t) (Lib.hid HR8.out.m.1) HRI8 HSZ.out.1 HSZ.out.2 (Lib.hid (HG2.out.sz (by have := HK9.out; omega))) HTL HAG.out).mono ?_; rintro e W9 ⟨rfl, HE⟩)
                            obtain ⟨F10, hr10, hno⟩ := HR8.out.step hn HE.out
                            have HR10 := Lib.hid hr10
                            have HRG10 : Hid (W9.ranges Tryd.prog 3 heldR pb r T9.length D (fun z => left z && !z.sameKey (.int .i64 (p : Int))) cnt7 ∧ ¬ F10 r ∧ Dm W9 n T9 D) := Lib.hid (by
                              obtain ⟨_, _, s, _⟩ := HE.out
                              refine ⟨ranges_stays HRG8.out (s.block pb HR8.out.map.lt HR8.out.pf) (s.block r HRG8.out.lt HFR.out), hno r HRG8.out.lt HFR.out, HDM8.out.stays s.size fun q hq hl => s.block q hl fun hf => ?_⟩
                              have := HR8.out.m.2.2 q hf
                              omega)
                            clear hr10 hno HE z0 z1 z2 z3 zl HBX
                            go_wp2_with fail
                            go_roundw
                            case rel => exact Lib.hid ⟨F10, _, _, HRG10.out.1, HR10.out, HRG10.out.2.1, HRG10.out.2.2⟩
                            case measure =>
                              rw [HRG10.out.1.left_eq, HRG.out.left_eq]
                              exact hlt7
                · rw [HN.out] at hq1
                  subst hq1
                  have HQ2 := Lib.hid hq2
                  clear hq2
                  have x6 := HR2.out.box.cell 6
                  have xl := HR2.out.box.lt
                  go_upto_region 20 with fail
                  clear x6 xl
                  go_loopw [81] (fun iv wr => ∃ j : Nat, j ≤ x.tm.kids.length ∧ iv = .int .i64 (j : Int) ∧ Hid (Rz w wr F8 a xb S' n x A2 c2 B d (.slice (some ⟨g, 0, none⟩) M c7) L pb (S.terms.map (·.t)))) (fun iv _ => x.tm.kids.length - (intOf iv).toNat)
                  case atStart => exact ⟨0, Nat.zero_le _, rfl, HR2⟩
                  case round =>
                    clear HR2
                    obtain ⟨j, hj, rfl, HR2⟩ := hrel
                    have hal9 := HSM2.out.2
                    by_cases hlt2 : j < x.tm.kids.length
                    · have g8 : (j : Int) < (x.tm.kids.length : Int) := by omega
                      obtain ⟨gA, oA, hB2, _, hgA, hcA⟩ := HR2.out.rk.get hlt2
                      obtain ⟨u, hu⟩ : ∃ u, x.tm.kids[j]'hlt2 = u := ⟨_, rfl⟩
                      rw [hu] at hcA
                      have g10 : decide ((q : Int) ≤ u) = false := decide_eq_false (by have := HKQ.out u (hu ▸ List.getElem_mem hlt2); omega)
                      subst hB2
                      clear hu
                      go_wp2_with fail
                      go_roundw
                      case rel => exact ⟨j + 1, by omega, by go_num, HR2⟩
                      case measure => simp [intOf]; omega
                    · obtain rfl : j = x.tm.kids.length := by omega
                      have g8 : ¬ ((x.tm.kids.length : Int) < (x.tm.kids.length : Int)) := by omega
                      have x4 := HR2.out.box.cell 4
                      have x5 := HR2.out.box.cell 5
                      have x6 := HR2.out.box.cell 6
                      have x7 := HR2.out.box.cell 7
                      have xl := HR2.out.box.lt
                      have hq1m : q ≤ 1000000 := by omega
                      obtain ⟨v9, hlook, hv1, hv2⟩ := HR2.out.r.map.look hq1m
                      rw [List.length_map, HN.out, decide_eq_false (show ¬ q < q by omega)] at hlook
                      have hv9 := hv2 (by rw [List.getElem?_eq_none_iff, List.length_map, HN.out]; exact Nat.le_refl _)
                      subst hv9
                      unfold zeroTm at hlook
                      have g11 : ¬ ((q : Int) < (q : Int)) := by omega
                      have g12 : decide (q < q) = false := decide_eq_false (by omega)
                      have hmax : max (q : Int) ((q : Int) + 1) = (q : Int) + 1 := by omega
                      have HN2 : Hid (S'.terms.length = q + 1) := Lib.hid (by
                        have := congrArg List.length HQ2.out
                        rw [List.length_map, List.length_append, List.length_map, HN.out] at this
                        exact this)
                      have hself : ((((q + 1 : Nat) : Int) != (q : Int) + 1) : Bool) = false := by simp
                      clear hv1 hv2
                      go_upto_region 26 with fail
                      generalize hW : World.alloc wr _ = W3
                      have HR3 : Hid (Rz w W3 F8 a xb S' n x A2 c2 B d (.slice (some ⟨g, 0, none⟩) M c7) L pb (S.terms.map (·.t))) := Lib.hid (HR2.out.below (hW ▸ (Below.refl _ _).alloc (Nat.le_refl _) _))
                      clear hW hlook x4 x5 x6 x7 xl HR2
                      go_upto_region 28 with (go_at_call 11; refine (len_any (Lib.hid HR3.out.r.m.1)).mono ?_; rw [HN2.out]; rintro e W9 ⟨rfl, rfl⟩)
                      have x4 := HR3.out.box.cell 4
                      have x5 := HR3.out.box.cell 5
                      have x6 := HR3.out.box.cell 6
                      have x7 := HR3.out.box.cell 7
                      have xl := HR3.out.box.lt
                      obtain ⟨W5, hput, hpm, htu⟩ := HR3.out.r.map.put (p := q) (T' := S'.terms.map (·.t)) (t := x.tm) (v := .agg #[.int .i64 x.tm.op, .int .i64 x.tm.fn, .slice B x.tm.kids.length d, .string x.tm.num]) ⟨B, d, rfl, HR3.out.rk⟩ (by rw [List.length_map, HN.out]; omega) (Nat.le_trans hn HR3.out.r.pw) (.inr ⟨by rw [List.length_map, HN.out], HQ2.out⟩)
                      have HR5 := Lib.hid (HR3.out.r.put hn htu hpm)
                      clear hpm htu HR3
                      go_upto_region 29 with fail
                      clear x4 x5 x6 x7 xl hput HQ2 HN2
                      cases h3 : (((k : Int) % 3) == 0) with
                      | false =>
                        go_wp2_with fail
                        go_roundw
                        case rel => exact ⟨k + 1, by omega, by go_num, Lib.hid ⟨S', _, HG2.out, HTK2.out, HR5.out⟩⟩
                        case measure => simp [intOf]; omega
                      | true =>
                        obtain ⟨T9, hT9⟩ : ∃ T9, S'.terms.map (·.t) = T9 := ⟨_, rfl⟩
                        have HT9 := Lib.hid hT9
                        rw [hT9] at HR5
                        clear hT9
                        obtain ⟨D, hown, hsz9, hD1, hD2⟩ := HR5.out.map
                        have HDM : Hid (Dm W5 n T9 D) := Lib.hid ⟨hD1, hD2⟩
                        clear hD1 hD2 hsz9
                        go_wp2_with (first | (at_range; refine wpList_range_own _ rfl _ 57 rfl 3 41 intKeyed Tryd.underlying57 heldR pb T9.length D rfl hown ?_; intro W6 hrg0 hgr0 hsz0) | go_in)
                        go_frame
                        have HB6 : Hid (Below W5.heap.size W5 W6) := Lib.hid ((Below.refl _ _).grown hgr0 (Nat.le_refl _) (fun g hg => by cases hg))
                        have HRF : Hid (w.heap.size ≤ W5.heap.size ∧ ¬ F8 W5.heap.size ∧ W5.heap.size ≠ pb ∧ ∀ q, (Value.slice (some ⟨g, 0, none⟩) M c7).ownBlock = some q → q ≠ W5.heap.size) := Lib.hid ⟨HR5.out.m.2.1.size, fun hf => by have := HR5.out.m.1.lt _ hf; omega, fun e => by have := HR5.out.map.lt; omega, fun q hq e => by
                          obtain ⟨xs, k1, _⟩ := HR5.out.acts
                          have := (k1.lt q hq).2
                          omega⟩
                        have HRG0 := Lib.hid hrg0
                        have HR6 := Lib.hid (HR5.out.below HB6.out)
                        have HDM6 : Hid (Dm W6 n T9 D) := Lib.hid (HDM.out.stays HB6.out.size fun q _ hl => HB6.out.block q hl)
                        obtain ⟨r, hr⟩ : ∃ r, W5.heap.size = r := ⟨_, rfl⟩
                        rw [hr] at HRG0 HRF ⊢
                        clear hr hrg0 hgr0 hsz0 hown HB6 HDM HR5
                        go_loopw [16] (fun _ wr => Hid (∃ F left cnt, wr.ranges Tryd.prog 3 heldR pb r T9.length D left cnt ∧ Ry w wr F a S' n (.slice (some ⟨g, 0, none⟩) M c7) L pb T9 ∧ ¬ F r ∧ Dm wr n T9 D)) (fun _ wr => wr.rangeLeft pb r)
                        case atStart => exact Lib.hid ⟨F8, _, _, HRG0.out, HR6.out, HRF.out.2.1, HDM6.out⟩
                        case round =>
                          clear HRG0 HR6 HDM6
                          obtain ⟨F9, left, cnt, hrg, hry, hfr, hdm⟩ := hrel.out
                          have HRG := Lib.hid hrg
                          have HRY := Lib.hid hry
                          have HFR := Lib.hid hfr
                          have HDM := Lib.hid hdm
                          clear hrel hry hfr hdm
                          go_wp2_with (first | (at_next; refine wpList_next_ranges (α := Int) (β := Value) _ rfl _ rfl 3 intKeyed heldR (Value.int .i64) (fun v => v) (fun key kl hkey => by obtain ⟨x, rfl, _⟩ := Maps.keyOf_int_inv Tryd.underlying3 hkey; exact ⟨x, rfl⟩) (fun v y hv => ⟨v, rfl⟩) pb r T9.length D left cnt rfl hrg ?_ ?_) | go_in)
                          · intro hc0 hl0
                            clear hrg hc0 hl0
                            go_wp2_with fail
                            go_roundw
                            case rel => exact ⟨k + 1, by omega, by go_num, Lib.hid ⟨S', _, HG2.out, HTK2.out, by rw [HT9.out]; exact HRY.out⟩⟩
                            case measure => simp [intOf]; omega
                          · intro X cv kl y1 y2 W7 cnt7 hkey hlk hv hv2 hat hrg7 hlt7 hgr7 hsz7 hen
                            obtain ⟨X2, eX, rfl, _⟩ := Maps.keyOf_int_inv Tryd.underlying3 hkey
                            injection eX with _ eX
                            subst eX
                            subst hv hv2
                            have HR7 := Lib.hid (HRY.out.turn hn hgr7 HRF.out.1 HFR.out HRF.out.2.2.1 HRF.out.2.2.2)
                            have HDM7 : Hid (Dm W7 n T9 D) := Lib.hid (HDM.out.stays hgr7.size fun q hq hl => hgr7.block q hl (by simp; have := HRF.out.1; omega))
                            obtain ⟨p, t, hX, hTp, A9, c9, hcv, hri⟩ := HDM7.out.entry hat
                            subst hX hcv
                            have HRI := Lib.hid hri
                            have HAG := Lib.hid (HTK2.out.again (by rw [HT9.out]; exact hTp))
                            have HSZ : Hid (t.kids.length ≤ 1000000 ∧ t.num.size ≤ 1000000) := Lib.hid (HTK2.out.small (fun e he => Nat.le_trans (HG2.out.tk e he) (by omega)) (by rw [HT9.out]; exact hTp))
                            have HTL : Hid (∀ e ∈ S'.terms, e.t.kids.length ≤ 1000000) := Lib.hid fun e he => Nat.le_trans (HG2.out.tk e he) (by omega)
                            have HRG7 := Lib.hid hrg7
                            have hzz : (((p : Int) != (p : Int)) : Bool) = false := by simp
                            clear hri hTp hrg hrg7 hgr7 hsz7 hkey hlk hat HRY
                            go_upto_region 33 with fail
                            generalize hW : World.alloc W7 _ = W8
                            have hB8 : Below W7.heap.size W7 W8 := hW ▸ (Below.refl _ _).alloc (Nat.le_refl _) _
                            have HR8 := Lib.hid (HR7.out.below hB8)
                            have HDM8 : Hid (Dm W8 n T9 D) := Lib.hid (HDM7.out.stays hB8.size fun q _ hl => hB8.block q hl)
                            have HRG8 := Lib.hid (ranges_stays HRG7.out (hB8.block pb HR7.out.map.lt) (hB8.block r HRG7.out.lt))
                            have HBX : Hid (Bk W8 W7.heap.size 41 #[.int .i64 t.op, .int .i64 t.fn, .slice A9 t.kids.length c9, .string t.num]) := Lib.hid (hW ▸ Bk.new W7 _ _)
                            have HRI8 := Lib.hid (HRI.out.below hB8)
                            obtain ⟨zb, hzb⟩ : ∃ zb, W7.heap.size = zb := ⟨_, rfl⟩
                            rw [hzb] at HBX ⊢
                            clear hW hzb hB8 hen HR7 HDM7 HRG7 HRI
                            have z0 := HBX.out.cell 0
                            have z1 := HBX.out.cell 1
                            have z2 := HBX.out.cell 2
                            have z3 := HBX.out.cell 3
                            have zl := HBX.out.lt
                            go_upto_region 34 with (go_at_call 29; refine (term_any (t := t) (Lib.hid HR8.out.m.1) HRI8 HSZ.out.1 HSZ.out.2 (Lib.hid (HG2.out.sz (by have := HK9.out; omega))) HTL HAG.out).mono ?_; rintro e W9 ⟨rfl, HE⟩)
                            obtain ⟨F10, hr10, hno⟩ := HR8.out.step hn HE.out
                            have HR10 := Lib.hid hr10
                            have HRG10 : Hid (W9.ranges Tryd.prog 3 heldR pb r T9.length D (fun z => left z && !z.sameKey (.int .i64 (p : Int))) cnt7 ∧ ¬ F10 r ∧ Dm W9 n T9 D) := Lib.hid (by
                              obtain ⟨_, _, s, _⟩ := HE.out
                              refine ⟨ranges_stays HRG8.out (s.block pb HR8.out.map.lt HR8.out.pf) (s.block r HRG8.out.lt HFR.out), hno r HRG8.out.lt HFR.out, HDM8.out.stays s.size fun q hq hl => s.block q hl fun hf => ?_⟩
                              have := HR8.out.m.2.2 q hf
                              omega)
                            clear hr10 hno HE z0 z1 z2 z3 zl HBX
                            go_wp2_with fail
                            go_roundw
                            case rel => exact Lib.hid ⟨F10, _, _, HRG10.out.1, HR10.out, HRG10.out.2.1, HRG10.out.2.2⟩
                            case measure =>
                              rw [HRG10.out.1.left_eq, HRG.out.left_eq]
                              exact hlt7
              · have he2 : ((er != 0) : Bool) = true := by simpa using he
                have HSS : Hid (S' = S) := Lib.hid (act_same HZ.out he)
                have hself : (((N : Int) != (N : Int)) : Bool) = false := by simp
                clear he
                go_wp2_with (go_at_call 11; refine (len_any (Lib.hid HR2.out.r.m.1)).mono ?_; rw [HSS.out, HN.out]; rintro e W9 ⟨rfl, rfl⟩)
                go_roundw
                case rel => exact ⟨k + 1, by omega, by go_num, Lib.hid ⟨S', _, HG2.out, by rw [HSS.out]; exact HTK.out, by
                  have h9 := HR2.out.r
                  rw [HSS.out] at h9 ⊢
                  exact h9⟩⟩
                case measure => simp [intOf]; omega
        · obtain rfl : k = M := by omega
          have g7 : ¬ ((k : Int) < (k : Int)) := by omega
          have hlen9 := HRY.out.map.len 3
          rw [List.length_map] at hlen9
          obtain ⟨N, hN⟩ : ∃ N, S.terms.length = N := ⟨_, rfl⟩
          have HN := Lib.hid hN
          rw [hN] at hlen9
          clear hN
          go_wp2_with (go_at_call 11; refine (len_any (Lib.hid HRY.out.m.1)).mono ?_; rw [HN.out]; rintro e W9 ⟨rfl, rfl⟩)
          go_ret
          exact ⟨rfl, Lib.hid HRY.out.m.2.1⟩
end Go.Proofs.YtdnhhfhjjimcgaaDoor.dg
