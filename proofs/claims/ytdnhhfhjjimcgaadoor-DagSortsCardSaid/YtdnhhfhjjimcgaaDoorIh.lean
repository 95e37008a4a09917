/- The statement DagSorts. -/
import Derived.Test.YtdnhhfhjjimcgaaDoorIg
namespace Go.Proofs.YtdnhhfhjjimcgaaDoor.dg
open Go Go.RowKit
set_option linter.unusedVariables false
set_option linter.unusedSimpArgs false

set_option maxRecDepth 100000 in
set_option maxHeartbeats 16000000 in
theorem dagSorts_any {w : World} (HTAB : Hid (Tab w)) {l : List Ac} {A : Option Addr} {c n : Nat} (hl : Hid (Acs w n l A c)) (hn : n ≤ w.heap.size) :
    Calls Tryd.prog 6 #[.slice A l.length c] w fun e w' => e = .returned (.bool true) ∧ Hid (Below w.heap.size w w') := by
  cases hgr : greatB l with
  | true =>
    have HGR := Lib.hid hgr
    clear hgr
    go_enter Tryd.func6, Tryd.ntmps6
    go_upto_region 3 with (go_at_call 8; refine (speaks_any HTAB).mono ?_; rintro e W1 ⟨rfl, HB1⟩)
    go_wp2_with (go_at_call 9; refine (great_any (Lib.hid (hl.out.below hn (HB1.out.mono hn))) (Nat.le_trans hn HB1.out.size)).mono ?_; rw [HGR.out]; rintro e W2 ⟨rfl, HB2⟩)
    go_ret
    exact ⟨rfl, Lib.hid (HB1.out.trans (HB2.out.mono HB1.out.size))⟩
  | false =>
    have HGR := Lib.hid hgr
    have HNG := Lib.hid (great_no hgr)
    clear hgr
    have hlen := HNG.out.1
    go_enter Tryd.func6, Tryd.ntmps6
    go_upto_region 3 with (go_at_call 8; refine (speaks_any HTAB).mono ?_; rintro e W1 ⟨rfl, HB1⟩)
    go_upto_region 5 with (go_at_call 9; refine (great_any (Lib.hid (hl.out.below hn (HB1.out.mono hn))) (Nat.le_trans hn HB1.out.size)).mono ?_; rw [HGR.out]; rintro e W2 ⟨rfl, HB2⟩)
    have HBB : Hid (Below w.heap.size w W2) := Lib.hid (HB1.out.trans (HB2.out.mono HB1.out.size))
    clear HB1 HB2
    go_upto_region 6 with (go_at_call 26; refine (new_any (Lib.hid (HTAB.out.below HBB.out)) 10).mono ?_; rintro e V3 ⟨a, F3, rfl, HM3⟩)
    have HM3' : Hid (Mine w V3 F3 a (St.new 10)) := Lib.hid ⟨HM3.out.1, HBB.out.trans (HM3.out.2.1.mono HBB.out.size), fun g hg => Nat.le_trans HBB.out.size (HM3.out.2.2 g hg)⟩
    clear HM3 HBB
    go_upto_region 7 with fail
    have HK0 : Hid (Rk w (V3.alloc (.cells #[] 63)) F3 a (St.new 10) n (.slice (some ⟨V3.heap.size, 0, none⟩) 0 0) (St.new 10).funs) := Lib.hid ⟨HM3'.out.below ((Below.refl _ _).alloc (Nat.le_refl _) _), ⟨[], World.ownsRow_made V3 #[] 0 HM3'.out.2.1.size (by unfold maxLen; omega) rfl, rfl⟩, fun g hg hf => by
      simp only [Value.ownBlock, Option.some.injEq] at hg
      have := HM3'.out.1.lt g hf
      omega⟩
    clear HM3'
    go_upto_region 8 with fail
    generalize World.alloc V3 _ = V4 at *
    go_loopw [4, 27] (fun kv iv wr => ∃ k : Nat, k ≤ l.length ∧ iv = .int .i64 (k : Int) ∧ Hid (∃ S F, Gk k S ∧ Sk S ∧ Rk w wr F a S n kv S.funs)) (fun _ iv _ => l.length - (intOf iv).toNat)
    case atStart => exact ⟨0, Nat.zero_le _, rfl, Lib.hid ⟨_, _, Gk.new 10, Sk.new 10, HK0.out⟩⟩
    case round =>
      clear HK0
      obtain ⟨k, hk, rfl, HK⟩ := hrel
      obtain ⟨S, F7, hgk, hsk, hrk⟩ := HK.out
      have HRK := Lib.hid hrk
      have HGK := Lib.hid hgk
      have HSK := Lib.hid hsk
      have hk80 : k ≤ 80 := by omega
      have HK9 : Hid (k ≤ 1000) := Lib.hid (by omega)
      clear HK hrk hgk hsk
      by_cases hlt : k < l.length
      · have g7 : (k : Int) < (l.length : Int) := by omega
        obtain ⟨g, off, A2, c2, B, d, rfl, hg, ra, rk, m0, m1, m2, m3, m4, m5, m6, m7⟩ := (hl.out.below hn (HRK.out.m.2.1.mono hn)).get hlt
        obtain ⟨x, hx⟩ : ∃ x, l[k]'hlt = x := ⟨_, rfl⟩
        have HSM1 : Hid (x.name.size ≤ 1000000 ∧ x.args.length ≤ 1000000) := Lib.hid (by have := HNG.out.2 x (hx ▸ List.getElem_mem hlt); omega)
        have HSM2 : Hid (x.args.length ≤ 12) := Lib.hid (by have := HNG.out.2 x (hx ▸ List.getElem_mem hlt); omega)
        rw [hx] at ra rk m0 m1 m2 m3 m4 m5 m6 m7
        clear hx
        go_upto_region 10 with fail
        generalize hW : World.alloc wr _ = W1
        have HR1 : Hid (Rs w W1 F7 a wr.heap.size S n x A2 c2 B d u4 S.funs) := Lib.hid (Rs.new HRK.out ra hW)
        obtain ⟨xb, hxb⟩ : ∃ xb, wr.heap.size = xb := ⟨_, rfl⟩
        rw [hxb] at HR1 ⊢
        clear hW hxb m0 m1 m2 m3 m4 m5 m6 m7 ra rk HRK
        have x0 := HR1.out.box.cell 0
        have x1 := HR1.out.box.cell 1
        have x2 := HR1.out.box.cell 2
        have x3 := HR1.out.box.cell 3
        have xl := HR1.out.box.lt
        by_cases w0 : x.what = 0
        · rcases hz : S.sort x.name x.args with ⟨z, er, S'⟩
          obtain ⟨hs1, hs2, hs3, hs4⟩ := HSK.out.sort hz
          have HZ := Lib.hid hz
          have HZ2 := Lib.hid hs2
          have HSK2 := Lib.hid hs1
          have HFU := Lib.hid hs3
          have HS4 := Lib.hid hs4
          have HG2 : Hid (Gk (k + 1) S') := Lib.hid (HGK.out.sort HSM2.out hz)
          have hw0 : (x.what == 0) = true := by simpa using w0
          have hw1 : (x.what == 1) = false := by rw [w0]; rfl
          clear hz w0 hs1 hs2 hs3 hs4
          go_upto_region 12 with (go_at_call 27; refine (sort_any (Lib.hid HR1.out.r.m.1) (Lib.hid (HTAB.out.below HR1.out.r.m.2.1)) HSM1.out.1 (Lib.hid HR1.out.ra) HSM1.out.2 (Lib.hid (HGK.out.sz HK9.out)) HZ.out).mono ?_; rintro e W2 ⟨rfl, HE⟩; obtain ⟨F8, hr9⟩ := HR1.out.step hn HE.out; have HR2 := Lib.hid hr9; clear hr9 HE; (have y1 := HR2.out.box.cell 1); (have y2 := HR2.out.box.cell 2); (have yl := HR2.out.box.lt))
          clear x0 x1 x2 x3 xl HR1
          go_upto_region 13 with (go_at_call 27; refine (sort_any (Lib.hid HR2.out.r.m.1) (Lib.hid (HTAB.out.below HR2.out.r.m.2.1)) HSM1.out.1 (Lib.hid HR2.out.ra) HSM1.out.2 (Lib.hid (HG2.out.sz (by have := HK9.out; omega))) HZ2.out).mono ?_; rintro e W3 ⟨rfl, HE⟩; obtain ⟨F9, hr9⟩ := HR2.out.step hn HE.out; have HR3 := Lib.hid hr9; clear hr9 HE)
          clear y1 y2 yl HR2 HZ HZ2
          by_cases he : er = 0
          · subst he
            obtain ⟨p, hzp, hp1, hp2⟩ := HS4.out rfl
            subst hzp
            have HP1 := Lib.hid hp1
            have HP2 : Hid (S'.sorts[p]'HP1.out = ⟨x.name, x.args⟩) := Lib.hid hp2
            have HLOW : Hid (∀ u ∈ x.args, u < (p : Int)) := Lib.hid fun u hu => HSK2.out.low p hp1 u (by rw [hp2]; exact hu)
            clear hp1 hp2 HS4
            obtain ⟨M, hM⟩ : ∃ M, S'.sorts.length = M := ⟨_, rfl⟩
            have HM := Lib.hid hM
            have hpM : p < M := hM ▸ HP1.out
            have hpMi : (p : Int) < (M : Int) := by omega
            have g9 : decide (M ≤ p) = false := decide_eq_false (by omega)
            have hself : (x.args == x.args) = true := by simp
            have hsn : (x.name.toList != x.name.toList) = false := by simp
            have hzz : (((p : Int) != (p : Int)) : Bool) = false := by simp
            clear hM
            obtain ⟨S9, hSd⟩ : ∃ S9 : Bool → World → Prop, S9 = fun _ W => W.cell? ⟨xb, 1, none⟩ = some (.string x.name) ∧ W.cell? ⟨xb, 2, none⟩ = some (.slice A2 x.args.length c2) := ⟨_, rfl⟩
            have HMO : ∀ w, S9 true w → S9 false w := by rw [hSd]; exact fun _ h => h
            have HSP : ∀ W : World, S9 false W → W.cell? ⟨xb, 1, none⟩ = some (.string x.name) ∧ W.cell? ⟨xb, 2, none⟩ = some (.slice A2 x.args.length c2) := fun W h => by rw [hSd] at h; exact h
            have HSM : ∀ (b : Bool) (W : World), W.cell? ⟨xb, 1, none⟩ = some (.string x.name) ∧ W.cell? ⟨xb, 2, none⟩ = some (.slice A2 x.args.length c2) → S9 b W := fun b W h => by rw [hSd]; exact h
            clear hSd
            refine wp_region_T S9 41 (by kernel_rfl) (HSM _ _ ⟨HR3.out.box.cell 1, HR3.out.box.cell 2⟩) (fun hH => ?_)
            have HR4 : Hid (Rs w W3.drew F9 a xb S' n x A2 c2 B d u4 S.funs) := Lib.hid (HR3.out.below (Below.refl _ _).drew)
            clear HR3
            generalize W3.drew = W4 at *
            refine wpAnyT_take (i := 0) (v := ?_) spat0 (by kernel_rfl) (by kernel_rfl) (by kernel_rfl) (by decide) (fun _ _ _ h => h) (Or.inl ⟨by rfl, ?_⟩) HMO hH ?_
            rotate_left
            · (intro w hSw; clear hSw; go_simp; (try with_reducible rfl))
            (try simp only [Act.put, List.setIfInBounds_toArray, List.set_cons_zero, List.set_cons_succ])
            refine wpAnyT_take (i := 1) (v := ?_) spat1 (by kernel_rfl) (by kernel_rfl) (by kernel_rfl) (by decide) (fun _ _ _ h => h) (Or.inl ⟨by rfl, ?_⟩) HMO hH ?_
            rotate_left
            · (intro w hSw; clear hSw; go_simp; (try with_reducible rfl))
            (try simp only [Act.put, List.setIfInBounds_toArray, List.set_cons_zero, List.set_cons_succ])
            refine wpAnyT_take (i := 2) (v := ?_) spat2 (by kernel_rfl) (by kernel_rfl) (by kernel_rfl) (by decide) (fun _ _ _ h => h) (Or.inl ⟨by rfl, ?_⟩) HMO hH ?_
            rotate_left
            · (intro w hSw; clear hSw; go_simp; (try with_reducible rfl))
            (try simp only [Act.put, List.setIfInBounds_toArray, List.set_cons_zero, List.set_cons_succ])
            refine wpAnyT_take (i := 3) (v := ?_) spat3 (by kernel_rfl) (by kernel_rfl) (by kernel_rfl) (by decide) (fun _ _ _ h => h) (Or.inl ⟨by rfl, ?_⟩) HMO hH ?_
            rotate_left
            · (intro w hSw; clear hSw; go_simp; (try with_reducible rfl))
            (try simp only [Act.put, List.setIfInBounds_toArray, List.set_cons_zero, List.set_cons_succ])
            refine wpAnyT_take (i := 4) (v := ?_) spat4 (by kernel_rfl) (by kernel_rfl) (by kernel_rfl) (by decide) (fun _ _ _ h => h) (Or.inl ⟨by rfl, ?_⟩) HMO hH ?_
            rotate_left
            · (intro w hSw; clear hSw; go_simp; (try with_reducible rfl))
            (try simp only [Act.put, List.setIfInBounds_toArray, List.set_cons_zero, List.set_cons_succ])
            refine wpAnyT_take (i := 5) (v := ?_) spat5 (by kernel_rfl) (by kernel_rfl) (by kernel_rfl) (by decide) (fun _ _ _ h => h) (Or.inl ⟨by rfl, ?_⟩) HMO hH ?_
            rotate_left
            · (intro w hSw; clear hSw; go_simp; (try with_reducible rfl))
            (try simp only [Act.put, List.setIfInBounds_toArray, List.set_cons_zero, List.set_cons_succ])
            refine wpAnyT_take (i := 6) (v := ?_) spat6 (by kernel_rfl) (by kernel_rfl) (by kernel_rfl) (by decide) (fun _ _ _ h => h) (Or.inl ⟨by rfl, ?_⟩) HMO hH ?_
            rotate_left
            · (intro w hSw; clear hSw; go_simp; (try with_reducible rfl))
            (try simp only [Act.put, List.setIfInBounds_toArray, List.set_cons_zero, List.set_cons_succ])
            refine wpAnyT_take (i := 7) (v := ?_) spat7 (by kernel_rfl) (by kernel_rfl) (by kernel_rfl) (by decide) (fun _ _ _ h => h) (Or.inl ⟨by rfl, ?_⟩) HMO hH ?_
            rotate_left
            · (intro w hSw; clear hSw; go_simp; (try with_reducible rfl))
            (try simp only [Act.put, List.setIfInBounds_toArray, List.set_cons_zero, List.set_cons_succ])
            refine wpAnyT_take (i := 8) (v := ?_) spat8 (by kernel_rfl) (by kernel_rfl) (by kernel_rfl) (by decide) (fun _ _ _ h => h) (Or.inl ⟨by rfl, ?_⟩) HMO hH ?_
            rotate_left
            · (intro w hSw; clear hSw; go_simp; (try with_reducible rfl))
            (try simp only [Act.put, List.setIfInBounds_toArray, List.set_cons_zero, List.set_cons_succ])
            refine wpAnyT_take (i := 9) (v := ?_) spat9 (by kernel_rfl) (by kernel_rfl) (by kernel_rfl) (by decide) (fun _ _ _ h => h) (Or.inl ⟨by rfl, ?_⟩) HMO hH ?_
            rotate_left
            · (intro w hSw; clear hSw; go_simp; (try with_reducible rfl))
            (try simp only [Act.put, List.setIfInBounds_toArray, List.set_cons_zero, List.set_cons_succ])
            refine wpAnyT_take (i := 10) (v := ?_) spat10 (by kernel_rfl) (by kernel_rfl) (by kernel_rfl) (by decide) (fun _ _ _ h => h) (Or.inl ⟨by rfl, ?_⟩) HMO hH ?_
            rotate_left
            · (intro w hSw; clear hSw; go_simp; (try with_reducible rfl))
            (try simp only [Act.put, List.setIfInBounds_toArray, List.set_cons_zero, List.set_cons_succ])
            refine wpAnyT_take (i := 11) (v := ?_) spat11 (by kernel_rfl) (by kernel_rfl) (by kernel_rfl) (by decide) (fun _ _ _ h => h) (Or.inl ⟨by rfl, ?_⟩) HMO hH ?_
            rotate_left
            · (intro w hSw; clear hSw; go_simp; (try with_reducible rfl))
            (try simp only [Act.put, List.setIfInBounds_toArray, List.set_cons_zero, List.set_cons_succ])
            refine wpAnyT_take (i := 12) (v := ?_) spat12 (by kernel_rfl) (by kernel_rfl) (by kernel_rfl) (by decide) (fun _ _ _ h => h) (Or.inl ⟨by rfl, ?_⟩) HMO hH ?_
            rotate_left
            · (intro w hSw; clear hSw; go_simp; (try with_reducible rfl))
            (try simp only [Act.put, List.setIfInBounds_toArray, List.set_cons_zero, List.set_cons_succ])
            refine wpAnyT_take (i := 13) (v := ?_) spat13 (by kernel_rfl) (by kernel_rfl) (by kernel_rfl) (by decide) (fun _ _ _ h => h) (Or.inl ⟨by rfl, ?_⟩) HMO hH ?_
            rotate_left
            · (intro w hSw; clear hSw; go_simp; (try with_reducible rfl))
            (try simp only [Act.put, List.setIfInBounds_toArray, List.set_cons_zero, List.set_cons_succ])
            refine wpAnyT_ready (rs := [14]) (by kernel_rfl) (by simp) ?_
            refine AllReadyT.cons spat14 true (by kernel_rfl) (fun K' hK' => ?_) AllReadyT.nil
            go_simp
            refine (sorts_any (Lib.hid HR4.out.r.m.1) (Lib.hid (HG2.out.sz (by have := HK9.out; omega))) (Lib.hid (fun q hq => Nat.le_trans (HG2.out.sa q hq) (by omega)))).mono ?_
            rintro e W5 ⟨v5, rfl, HV5, HB5⟩
            have HR5 := Lib.hid (HR4.out.below HB5.out)
            obtain ⟨g5, e5, ds5, hv5, hg5, ⟨Ak5, ck5, hd5, ri5⟩, hc5⟩ := HV5.out.get SrtC.len HP1.out
            subst hv5 hd5
            rw [HP2.out] at ri5 hc5
            have n5 := hc5 0 (by omega)
            have s5 := hc5 1 (by omega)
            skip
            simp only [List.getElem?_cons_zero, List.getElem?_cons_succ, Nat.add_zero] at n5 s5
            have HRI5 := Lib.hid ri5
            rw [HM.out]
            refine hK'.out _ _ (HSM _ _ ⟨HR5.out.box.cell 1, HR5.out.box.cell 2⟩) (fun hH => ?_)
            clear hK' K' HV5 HB5 hc5 ri5 HR4
            (try simp only [Act.put, List.setIfInBounds_toArray, List.set_cons_zero, List.set_cons_succ])
            clear n5 s5 HRI5
            refine wpAnyT_take (i := 15) (v := ?_) spat15 (by kernel_rfl) (by kernel_rfl) (by kernel_rfl) (by decide) (fun _ _ _ h => h) (Or.inl ⟨by rfl, ?_⟩) HMO hH ?_
            rotate_left
            · (intro w hSw; clear hSw; go_simp; (try with_reducible rfl))
            (try simp only [Act.put, List.setIfInBounds_toArray, List.set_cons_zero, List.set_cons_succ])
            refine wpAnyT_take (i := 16) (v := ?_) spat16 (by kernel_rfl) (by kernel_rfl) (by kernel_rfl) (by decide) (fun _ _ _ h => h) (Or.inl ⟨by rfl, ?_⟩) HMO hH ?_
            rotate_left
            · (intro w hSw; clear hSw; go_simp; (try with_reducible rfl))
            (try simp only [Act.put, List.setIfInBounds_toArray, List.set_cons_zero, List.set_cons_succ])
            refine wpAnyT_take (i := 17) (v := ?_) spat17 (by kernel_rfl) (by kernel_rfl) (by kernel_rfl) (by decide) (fun _ _ _ h => h) (Or.inl ⟨by rfl, ?_⟩) HMO hH ?_
            rotate_left
            · (intro w hSw; clear hSw; go_simp; (try with_reducible rfl))
            (try simp only [Act.put, List.setIfInBounds_toArray, List.set_cons_zero, List.set_cons_succ])
            refine wpAnyT_take (i := 18) (v := ?_) spat18 (by kernel_rfl) (by kernel_rfl) (by kernel_rfl) (by decide) (fun _ _ _ h => h) (Or.inl ⟨by rfl, ?_⟩) HMO hH ?_
            rotate_left
            · (intro w hSw; clear hSw; go_simp; (try with_reducible rfl))
            (try simp only [Act.put, List.setIfInBounds_toArray, List.set_cons_zero, List.set_cons_succ])
            refine wpAnyT_take (i := 20) (v := ?_) spat20 (by kernel_rfl) (by kernel_rfl) (by kernel_rfl) (by decide) (fun _ _ _ h => h) (Or.inl ⟨by rfl, ?_⟩) HMO hH ?_
            rotate_left
            · (intro w hSw; clear hSw; go_simp; (try with_reducible rfl))
            (try simp only [Act.put, List.setIfInBounds_toArray, List.set_cons_zero, List.set_cons_succ])
            refine wpAnyT_take (i := 24) (v := ?_) spat24 (by kernel_rfl) (by kernel_rfl) (by kernel_rfl) (by decide) (fun _ _ _ h => h) (Or.inl ⟨by rfl, ?_⟩) HMO hH ?_
            rotate_left
            · (intro w hSw; clear hSw; go_simp; (try with_reducible rfl))
            (try simp only [Act.put, List.setIfInBounds_toArray, List.set_cons_zero, List.set_cons_succ])
            refine wpAnyT_take (i := 25) (v := ?_) spat25 (by kernel_rfl) (by kernel_rfl) (by kernel_rfl) (by decide) (fun _ _ _ h => h) (Or.inl ⟨by rfl, ?_⟩) HMO hH ?_
            rotate_left
            · (intro w hSw; have b1 := (HSP _ hSw).1; have b2 := (HSP _ hSw).2; clear hSw; go_simp; (try with_reducible rfl))
            (try simp only [Act.put, List.setIfInBounds_toArray, List.set_cons_zero, List.set_cons_succ])
            refine wpAnyT_ready (rs := [19]) (by kernel_rfl) (by simp) ?_
            refine AllReadyT.cons spat19 true (by kernel_rfl) (fun K' hK' => ?_) AllReadyT.nil
            go_simp
            refine (sorts_any (Lib.hid HR5.out.r.m.1) (Lib.hid (HG2.out.sz (by have := HK9.out; omega))) (Lib.hid (fun q hq => Nat.le_trans (HG2.out.sa q hq) (by omega)))).mono ?_
            rintro e W6 ⟨v6, rfl, HV6, HB6⟩
            have HR6 := Lib.hid (HR5.out.below HB6.out)
            obtain ⟨g6, e6, ds6, hv6, hg6, ⟨Ak6, ck6, hd6, ri6⟩, hc6⟩ := HV6.out.get SrtC.len HP1.out
            subst hv6 hd6
            rw [HP2.out] at ri6 hc6
            have n6 := hc6 0 (by omega)
            have s6 := hc6 1 (by omega)
            skip
            simp only [List.getElem?_cons_zero, List.getElem?_cons_succ, Nat.add_zero] at n6 s6
            have HRI6 := Lib.hid ri6
            rw [HM.out]
            refine hK'.out _ _ (HSM _ _ ⟨HR6.out.box.cell 1, HR6.out.box.cell 2⟩) (fun hH => ?_)
            clear hK' K' HV6 HB6 hc6 ri6 HR5
            (try simp only [Act.put, List.setIfInBounds_toArray, List.set_cons_zero, List.set_cons_succ])
            refine wpAnyT_take (i := 21) (v := ?_) spat21 (by kernel_rfl) (by kernel_rfl) (by kernel_rfl) (by decide) (fun _ _ _ h => h) (Or.inl ⟨by rfl, ?_⟩) HMO hH ?_
            rotate_left
            · (intro w hSw; clear hSw; go_simp; (try with_reducible rfl))
            (try simp only [Act.put, List.setIfInBounds_toArray, List.set_cons_zero, List.set_cons_succ])
            refine wpAnyT_take (i := 22) (v := ?_) spat22 (by kernel_rfl) (by kernel_rfl) (by kernel_rfl) (by decide) (fun _ _ _ h => h) (Or.inl ⟨by rfl, ?_⟩) HMO hH ?_
            rotate_left
            · (intro w hSw; clear hSw; go_simp; (try with_reducible rfl))
            (try simp only [Act.put, List.setIfInBounds_toArray, List.set_cons_zero, List.set_cons_succ])
            refine wpAnyT_ready (rs := [23]) (by kernel_rfl) (by simp) ?_
            refine AllReadyT.cons spat23 true (by kernel_rfl) (fun K' hK' => ?_) AllReadyT.nil
            go_simp
            refine hK'.out _ _ (HSM _ _ ⟨HR6.out.box.cell 1, HR6.out.box.cell 2⟩) (fun hH => ?_)
            clear hK' K' n6 s6 HRI6
            (try simp only [Act.put, List.setIfInBounds_toArray, List.set_cons_zero, List.set_cons_succ])
            refine wpAnyT_take (i := 26) (v := ?_) spat26 (by kernel_rfl) (by kernel_rfl) (by kernel_rfl) (by decide) (fun _ _ _ h => h) (Or.inl ⟨by rfl, ?_⟩) HMO hH ?_
            rotate_left
            · (intro w hSw; clear hSw; go_simp; (try with_reducible rfl))
            (try simp only [Act.put, List.setIfInBounds_toArray, List.set_cons_zero, List.set_cons_succ])
            refine wpAnyT_take (i := 27) (v := ?_) spat27 (by kernel_rfl) (by kernel_rfl) (by kernel_rfl) (by decide) (fun _ _ _ h => h) (Or.inl ⟨by rfl, ?_⟩) HMO hH ?_
            rotate_left
            · (intro w hSw; clear hSw; go_simp; (try with_reducible rfl))
            (try simp only [Act.put, List.setIfInBounds_toArray, List.set_cons_zero, List.set_cons_succ])
            refine wpAnyT_take (i := 28) (v := ?_) spat28 (by kernel_rfl) (by kernel_rfl) (by kernel_rfl) (by decide) (fun _ _ _ h => h) (Or.inl ⟨by rfl, ?_⟩) HMO hH ?_
            rotate_left
            · (intro w hSw; clear hSw; go_simp; (try with_reducible rfl))
            (try simp only [Act.put, List.setIfInBounds_toArray, List.set_cons_zero, List.set_cons_succ])
            refine wpAnyT_take (i := 29) (v := ?_) spat29 (by kernel_rfl) (by kernel_rfl) (by kernel_rfl) (by decide) (fun _ _ _ h => h) (Or.inl ⟨by rfl, ?_⟩) HMO hH ?_
            rotate_left
            · (intro w hSw; clear hSw; go_simp; (try with_reducible rfl))
            (try simp only [Act.put, List.setIfInBounds_toArray, List.set_cons_zero, List.set_cons_succ])
            refine wpAnyT_take (i := 31) (v := ?_) spat31 (by kernel_rfl) (by kernel_rfl) (by kernel_rfl) (by decide) (fun _ _ _ h => h) (Or.inl ⟨by rfl, ?_⟩) HMO hH ?_
            rotate_left
            · (intro w hSw; clear hSw; go_simp; (try with_reducible rfl))
            (try simp only [Act.put, List.setIfInBounds_toArray, List.set_cons_zero, List.set_cons_succ])
            refine wpAnyT_take (i := 35) (v := ?_) spat35 (by kernel_rfl) (by kernel_rfl) (by kernel_rfl) (by decide) (fun _ _ _ h => h) (Or.inl ⟨by rfl, ?_⟩) HMO hH ?_
            rotate_left
            · (intro w hSw; clear hSw; go_simp; (try with_reducible rfl))
            (try simp only [Act.put, List.setIfInBounds_toArray, List.set_cons_zero, List.set_cons_succ])
            refine wpAnyT_take (i := 36) (v := ?_) spat36 (by kernel_rfl) (by kernel_rfl) (by kernel_rfl) (by decide) (fun _ _ _ h => h) (Or.inl ⟨by rfl, ?_⟩) HMO hH ?_
            rotate_left
            · (intro w hSw; have b1 := (HSP _ hSw).1; have b2 := (HSP _ hSw).2; clear hSw; go_simp; (try with_reducible rfl))
            (try simp only [Act.put, List.setIfInBounds_toArray, List.set_cons_zero, List.set_cons_succ])
            refine wpAnyT_ready (rs := [30]) (by kernel_rfl) (by simp) ?_
            refine AllReadyT.cons spat30 true (by kernel_rfl) (fun K' hK' => ?_) AllReadyT.nil
            go_simp
            refine (sorts_any (Lib.hid HR6.out.r.m.1) (Lib.hid (HG2.out.sz (by have := HK9.out; omega))) (Lib.hid (fun q hq => Nat.le_trans (HG2.out.sa q hq) (by omega)))).mono ?_
            rintro e W7 ⟨v7, rfl, HV7, HB7⟩
            have HR7 := Lib.hid (HR6.out.below HB7.out)
            obtain ⟨g7, e7, ds7, hv7, hg7, ⟨Ak7, ck7, hd7, ri7⟩, hc7⟩ := HV7.out.get SrtC.len HP1.out
            subst hv7 hd7
            rw [HP2.out] at ri7 hc7
            have n7 := hc7 0 (by omega)
            have s7 := hc7 1 (by omega)
            skip
            simp only [List.getElem?_cons_zero, List.getElem?_cons_succ, Nat.add_zero] at n7 s7
            have HRI7 := Lib.hid ri7
            rw [HM.out]
            refine hK'.out _ _ (HSM _ _ ⟨HR7.out.box.cell 1, HR7.out.box.cell 2⟩) (fun hH => ?_)
            clear hK' K' HV7 HB7 hc7 ri7 HR6
            (try simp only [Act.put, List.setIfInBounds_toArray, List.set_cons_zero, List.set_cons_succ])
            refine wpAnyT_take (i := 32) (v := ?_) spat32 (by kernel_rfl) (by kernel_rfl) (by kernel_rfl) (by decide) (fun _ _ _ h => h) (Or.inl ⟨by rfl, ?_⟩) HMO hH ?_
            rotate_left
            · (intro w hSw; clear hSw; go_simp; (try with_reducible rfl))
            (try simp only [Act.put, List.setIfInBounds_toArray, List.set_cons_zero, List.set_cons_succ])
            refine wpAnyT_take (i := 33) (v := ?_) spat33 (by kernel_rfl) (by kernel_rfl) (by kernel_rfl) (by decide) (fun _ _ _ h => h) (Or.inl ⟨by rfl, ?_⟩) HMO hH ?_
            rotate_left
            · (intro w hSw; clear hSw; go_simp; (try with_reducible rfl))
            (try simp only [Act.put, List.setIfInBounds_toArray, List.set_cons_zero, List.set_cons_succ])
            refine wpAnyT_ready (rs := [34]) (by kernel_rfl) (by simp) ?_
            refine AllReadyT.cons spat34 true (by kernel_rfl) (fun K' hK' => ?_) AllReadyT.nil
            go_simp
            refine hK'.out _ _ (HSM _ _ ⟨HR7.out.box.cell 1, HR7.out.box.cell 2⟩) (fun hH => ?_)
            clear hK' K' n7 s7
            (try simp only [Act.put, List.setIfInBounds_toArray, List.set_cons_zero, List.set_cons_succ])
            refine wpAnyT_ready (rs := [37]) (by kernel_rfl) (by simp) ?_
            refine AllReadyT.cons spat37 true (by kernel_rfl) (fun K' hK' => ?_) AllReadyT.nil
            go_simp
            refine (sameInts_any (ys := x.args) HRI7 (Lib.hid HR7.out.ra) HSM1.out.2).mono ?_
            rintro e W8 ⟨rfl, HQ8⟩
            have HR8 : Hid (Rs w W8 F9 a xb S' n x A2 c2 B d u4 S.funs) := Lib.hid (by obtain ⟨q, rfl⟩ := HQ8; exact HR7.out.below (below_drewN (Below.refl _ _) q))
            rw [hself]
            refine hK'.out _ _ (HSM _ _ ⟨HR8.out.box.cell 1, HR8.out.box.cell 2⟩) (fun hH => ?_)
            clear hK' K' HRI7 HR7 HQ8
            (try simp only [Act.put, List.setIfInBounds_toArray, List.set_cons_zero, List.set_cons_succ])
            refine wpAnyT_take (i := 38) (v := ?_) spat38 (by kernel_rfl) (by kernel_rfl) (by kernel_rfl) (by decide) (fun _ _ _ h => h) (Or.inl ⟨by rfl, ?_⟩) HMO hH ?_
            rotate_left
            · (intro w hSw; clear hSw; go_simp; (try with_reducible rfl))
            (try simp only [Act.put, List.setIfInBounds_toArray, List.set_cons_zero, List.set_cons_succ])
            refine wpAnyT_take (i := 39) (v := ?_) spat39 (by kernel_rfl) (by kernel_rfl) (by kernel_rfl) (by decide) (fun _ _ _ h => h) (Or.inl ⟨by rfl, ?_⟩) HMO hH ?_
            rotate_left
            · (intro w hSw; clear hSw; go_simp; (try with_reducible rfl))
            (try simp only [Act.put, List.setIfInBounds_toArray, List.set_cons_zero, List.set_cons_succ])
            refine wpAnyT_take (i := 40) (v := ?_) spat40 (by kernel_rfl) (by kernel_rfl) (by kernel_rfl) (by decide) (fun _ _ _ h => h) (Or.inl ⟨by rfl, ?_⟩) HMO hH ?_
            rotate_left
            · (intro w hSw; clear hSw; go_simp; (try with_reducible rfl))
            (try simp only [Act.put, List.setIfInBounds_toArray, List.set_cons_zero, List.set_cons_succ])
            refine wpAnyT_ready (rs := [41]) (by kernel_rfl) (by simp) ?_
            refine AllReadyT.cons spat41 false (by kernel_rfl) (fun K' hK' => ?_) AllReadyT.nil
            go_simp
            refine hK'.out _ _ (HSM _ _ ⟨HR8.out.box.cell 1, HR8.out.box.cell 2⟩) (fun hH => ?_)
            clear hK' K'
            (try simp only [Act.put, List.setIfInBounds_toArray, List.set_cons_zero, List.set_cons_succ])
            refine wpAnyT_done (by kernel_rfl) ?_ _
            clear HMO HSP HSM hH
            have x0 := HR8.out.box.cell 0
            have x2 := HR8.out.box.cell 2
            have xl := HR8.out.box.lt
            go_upto_region 16 with fail
            clear x0 x2 xl
            go_loopw [97] (fun iv wr => ∃ j : Nat, j ≤ x.args.length ∧ iv = .int .i64 (j : Int) ∧ Hid (Rs w wr F9 a xb S' n x A2 c2 B d u4 S.funs)) (fun iv _ => x.args.length - (intOf iv).toNat)
            case atStart => exact ⟨0, Nat.zero_le _, rfl, HR8⟩
            case round =>
              clear HR8
              obtain ⟨j, hj, rfl, HR8⟩ := hrel
              have hal9 := HSM1.out.2
              by_cases hlt2 : j < x.args.length
              · have g8 : (j : Int) < (x.args.length : Int) := by omega
                obtain ⟨gA, oA, hA2, _, hgA, hcA⟩ := HR8.out.ra.get hlt2
                obtain ⟨u, hu⟩ : ∃ u, x.args[j]'hlt2 = u := ⟨_, rfl⟩
                rw [hu] at hcA
                have g10 : decide ((p : Int) ≤ u) = false := decide_eq_false (by have := HLOW.out u (hu ▸ List.getElem_mem hlt2); omega)
                subst hA2
                clear hu
                go_wp2_with fail
                go_roundw
                case rel => exact ⟨j + 1, by omega, by go_num, HR8⟩
                case measure => simp [intOf]; omega
              · obtain rfl : j = x.args.length := by omega
                have g8 : ¬ ((x.args.length : Int) < (x.args.length : Int)) := by omega
                have x0 := HR8.out.box.cell 0
                have xl := HR8.out.box.lt
                go_wp2_with fail
                go_roundw
                case rel => exact ⟨k + 1, by omega, by go_num, Lib.hid ⟨S', _, HG2.out, HSK2.out, by rw [HFU.out]; exact HR8.out.r⟩⟩
                case measure => simp [intOf]; omega
          · have he1 : ((er == 0) : Bool) = false := by simpa using he
            have hee : ((er != er) : Bool) = false := by simp
            have hzz : ((z != z) : Bool) = false := by simp
            clear he HS4
            go_quiet (fail)
            have HR8 : Hid (Rs w (W3.drewN nq) F9 a xb S' n x A2 c2 B d u4 S.funs) := Lib.hid (HR3.out.below (below_drewN (Below.refl _ _) nq))
            clear HR3
            generalize W3.drewN nq = W8 at *
            have x0 := HR8.out.box.cell 0
            have x2 := HR8.out.box.cell 2
            have xl := HR8.out.box.lt
            go_upto_region 16 with fail
            clear x0 x2 xl
            go_loopw [97] (fun iv wr => ∃ j : Nat, j ≤ x.args.length ∧ iv = .int .i64 (j : Int) ∧ Hid (Rs w wr F9 a xb S' n x A2 c2 B d u4 S.funs)) (fun iv _ => x.args.length - (intOf iv).toNat)
            case atStart => exact ⟨0, Nat.zero_le _, rfl, HR8⟩
            case round =>
              clear HR8
              obtain ⟨j, hj, rfl, HR8⟩ := hrel
              have hal9 := HSM1.out.2
              by_cases hlt2 : j < x.args.length
              · have g8 : (j : Int) < (x.args.length : Int) := by omega
                obtain ⟨gA, oA, hA2, _, hgA, hcA⟩ := HR8.out.ra.get hlt2
                obtain ⟨u, hu⟩ : ∃ u, x.args[j]'hlt2 = u := ⟨_, rfl⟩
                rw [hu] at hcA
                subst hA2
                clear hu
                go_wp2_with fail
                go_roundw
                case rel => exact ⟨j + 1, by omega, by go_num, HR8⟩
                case measure => simp [intOf]; omega
              · obtain rfl : j = x.args.length := by omega
                have g8 : ¬ ((x.args.length : Int) < (x.args.length : Int)) := by omega
                have x0 := HR8.out.box.cell 0
                have xl := HR8.out.box.lt
                go_wp2_with fail
                go_roundw
                case rel => exact ⟨k + 1, by omega, by go_num, Lib.hid ⟨S', _, HG2.out, HSK2.out, by rw [HFU.out]; exact HR8.out.r⟩⟩
                case measure => simp [intOf]; omega
        · have hw0 : (x.what == 0) = false := by simpa using w0
          clear w0
          by_cases w1 : x.what = 1
          · rcases hz : S.fun_ x.fn with ⟨z, er, S'⟩
            obtain ⟨hs1, hs2, hs3⟩ := HSK.out.fun_ hz
            have HZ := Lib.hid hz
            have HSK2 := Lib.hid hs1
            have HF1 := Lib.hid hs2
            have HF2 := Lib.hid hs3
            have HG2 : Hid (Gk (k + 1) S') := Lib.hid (HGK.out.fun_ HSM2.out hz)
            have hw1 : (x.what == 1) = true := by simpa using w1
            clear hz w1 hs1 hs2 hs3
            go_upto_region 23 with fail
            generalize hW : World.alloc W1 _ = W2
            have HR2 : Hid (Rs w W2 F7 a xb S n x A2 c2 B d u4 S.funs) := Lib.hid (HR1.out.below (hW ▸ (Below.refl _ _).alloc (Nat.le_refl _) _))
            have HFB : Hid (Bk W2 W1.heap.size 63 #[.string x.name, .slice A2 x.args.length c2, .int .i64 x.res]) := Lib.hid (hW ▸ Bk.new W1 _ _)
            have HNF : Hid (¬ F7 W1.heap.size) := Lib.hid fun h => by have := HR1.out.r.m.1.lt _ h; omega
            obtain ⟨fb, hfb⟩ : ∃ fb, W1.heap.size = fb := ⟨_, rfl⟩
            rw [hfb] at HFB HNF ⊢
            clear hW hfb x0 x1 x2 x3 xl HR1
            have f0 := HFB.out.cell 0
            have f1 := HFB.out.cell 1
            have f2 := HFB.out.cell 2
            go_upto_region 24 with (go_at_call 28; refine (fun_any (f := x.fn) (Lib.hid HR2.out.r.m.1) HSM1.out.1 (Lib.hid HR2.out.ra) HSM1.out.2 (Lib.hid (HGK.out.sz HK9.out)) HZ.out).mono ?_; rintro e W3 ⟨rfl, HE⟩; obtain ⟨F9, hr9⟩ := HR2.out.step hn HE.out; have HR3 := Lib.hid hr9; have HFB3 : Hid (Bk W3 fb 63 #[.string x.name, .slice A2 x.args.length c2, .int .i64 x.res]) := Lib.hid (by obtain ⟨_, _, s, _⟩ := HE.out; exact (s.block fb HFB.out.lt HNF.out).trans HFB.out); clear hr9 HE)
            clear f0 f1 f2 HFB HNF HR2 HZ
            by_cases he : er = 0
            · subst he
              obtain ⟨hz1, hf1⟩ := HF1.out rfl
              subst hz1
              have HFN := Lib.hid hf1
              clear hf1 HF1 HF2
              obtain ⟨N, hN⟩ : ∃ N, S.funs.length = N := ⟨_, rfl⟩
              have HN := Lib.hid hN
              have HN3 : Hid (N ≤ 1000) := Lib.hid (by have := HGK.out.f; omega)
              obtain ⟨Ak, ck, hkv⟩ := HR3.out.r.slice
              subst hkv
              rw [hN]
              obtain ⟨xs, hto, hch⟩ := HR3.out.r.kept
              rw [hN] at hto
              have HTO := Lib.hid hto
              have HCH := Lib.hid hch
              have hn3 := HN3.out
              have hsf : (((N : Int) != (N : Int)) : Bool) = false := by simp
              have h0 := HFB3.out.cell 0
              have h1 := HFB3.out.cell 1
              have h2 := HFB3.out.cell 2
              have hl3 := HFB3.out.lt
              have hbs := HR3.out.r.m.2.1.size
              clear hN hto hch
              go_upto_region 27 with fail
              obtain ⟨i0, hi, hz0, hz1, hz2⟩ := info_parts infoFun
              go_wp2_with (at_builtin; refine wpList_append_lies _ rfl _ _ 31 rfl w.heap.size 63 i0 _ 3 48 Tryd.underlying31 hi hz0 hz1 hz2 rfl (by decide) (.slice Ak N ck) N xs rfl (HTO.out.alloc _) ⟨W3.heap.size, 0, none⟩ 1 1 [.string x.name, .slice A2 x.args.length c2, .int .i64 x.res] rfl rfl ?c1 ?c2 (by decide) ?c3 ?c4 ?c5 (W3.heap.size + 1) (by simp) ?_)
              case c1 => exact new3 _ _ _ _ _
              case c2 => exact fun u hu => by simp only [List.mem_cons, List.not_mem_nil, or_false] at hu; rcases hu with rfl | rfl | rfl <;> rfl
              case c3 => unfold maxLen; omega
              case c4 => omega
              case c5 => simp; omega
              intro g' c9 W8 hown hgrow hat hlt3
              have HPU : Hid (Rk w W8 F9 a S' n (.slice (some ⟨g', 0, none⟩) (N + 1) c9) (S.funs ++ [x.fn])) := Lib.hid (by
                have h9 := HR3.out.r
                rw [HN.out] at h9
                rw [← HN.out] at hown ⊢
                rw [← HN.out] at hgrow hat h9
                exact h9.push (f := x.fn) HR3.out.ra hn HCH.out hown hgrow hat)
              clear hown hgrow hat hlt3 h0 h1 h2 hl3 HR3 HTO HCH
              go_wp2_with fail
              go_roundw
              case rel => exact ⟨k + 1, by omega, by go_num, Lib.hid ⟨S', _, HG2.out, HSK2.out, by rw [HFN.out]; exact HPU.out⟩⟩
              case measure => simp [intOf]; omega
            · have he1 : ((er == 0) : Bool) = false := by simpa using he
              have HFN := Lib.hid (HF2.out he)
              clear he
              go_wp2_with fail
              go_roundw
              case rel => exact ⟨k + 1, by omega, by go_num, Lib.hid ⟨S', _, HG2.out, HSK2.out, by rw [HFN.out]; exact HR3.out.r⟩⟩
              case measure => simp [intOf]; omega
          · have hw1 : (x.what == 1) = false := by simpa using w1
            clear w1
            go_wp2_with fail
            go_roundw
            case rel => exact ⟨k + 1, by omega, by go_num, Lib.hid ⟨S, _, HGK.out.up, HSK.out, HR1.out.r⟩⟩
            case measure => simp [intOf]; omega
      · obtain rfl : k = l.length := by omega
        have g7 : ¬ ((l.length : Int) < (l.length : Int)) := by omega
        go_upto_region 30 with (go_at_call 13; refine (sorts_any (Lib.hid HRK.out.m.1) (Lib.hid (HGK.out.sz HK9.out)) (Lib.hid (fun q hq => Nat.le_trans (HGK.out.sa q hq) (by omega)))).mono ?_; rintro e W4 ⟨v4, rfl, HV4, HB4⟩)
        obtain ⟨A4, c4, hv, _, _⟩ := HV4.out.slice
        subst hv
        have HR4 := Lib.hid (HRK.out.below HB4.out)
        clear HRK HB4
        obtain ⟨M, hM⟩ : ∃ M, S.sorts.length = M := ⟨_, rfl⟩
        have HM := Lib.hid hM
        have HM3 : Hid (M ≤ 1000) := Lib.hid (by have := HGK.out.s; omega)
        have hm3 := HM3.out
        rw [hM] at HV4 ⊢
        clear hM
        go_upto_region 31 with fail
        go_loopw [140] (fun iv wr => ∃ i : Nat, i ≤ M ∧ iv = .int .i64 (i : Int) ∧ Hid (∃ q, wr = W4.drewN q)) (fun iv _ => M - (intOf iv).toNat)
        case atStart => exact ⟨0, Nat.zero_le _, rfl, Lib.hid ⟨0, rfl⟩⟩
        case round =>
          obtain ⟨i, hi, rfl, HQ⟩ := hrel
          by_cases hlt2 : i < M
          · have g8 : (i : Int) < (M : Int) := by omega
            have g8d : decide ((M : Int) ≤ (i : Int)) = false := decide_eq_false (by omega)
            go_upto_region 34 with fail
            go_loopw [18] (fun jv wr => ∃ j : Nat, j ≤ i ∧ jv = .int .i64 (j : Int) ∧ Hid (∃ q, wr = W4.drewN q)) (fun jv _ => i - (intOf jv).toNat)
            case atStart => exact ⟨0, Nat.zero_le _, rfl, HQ⟩
            case round =>
              clear HQ
              obtain ⟨j, hj, rfl, HQ⟩ := hrel
              by_cases hlt3 : j < i
              · have g11 : (j : Int) < (i : Int) := by omega
                have g12 : (j : Int) < (M : Int) := by omega
                have g12d : decide ((M : Int) ≤ (j : Int)) = false := decide_eq_false (by omega)
                have HVR : Hid (Vw wr 67 2 (SrtC wr (It W4)) S.sorts (.slice A4 M c4)) := Lib.hid (by
                  obtain ⟨q, rfl⟩ := HQ.out
                  exact HV4.out.drewN q (SrtC.drewN q))
                obtain ⟨g4, e4, ds4, q4, _, ⟨A5, c5, rfl, ri4⟩, h4⟩ := HVR.out.get SrtC.len (j := i) (by rw [HM.out]; exact hlt2)
                obtain ⟨g5, e5, ds5, q5, _, ⟨A6, c6, rfl, ri5⟩, h5⟩ := HVR.out.get SrtC.len (j := j) (by rw [HM.out]; omega)
                rw [HM.out] at q4 q5
                injection q4 with q4 _ q4'
                injection q5 with q5 _ q5'
                rw [q4] at q5
                injection q5 with q5
                injection q5 with q5 _ _
                subst q4 q5
                have HNE := HSK.out.one j i (by rw [HM.out]; omega) (by rw [HM.out]; exact hlt2) hlt3
                have HXL : ∀ q (h : q < S.sorts.length), (S.sorts[q]).args.length ≤ 1000000 := fun q h => Nat.le_trans (HGK.out.sa _ (List.getElem_mem h)) (by omega)
                have hxl := HXL i (by rw [HM.out]; exact hlt2)
                obtain ⟨x, hx⟩ : ∃ x, S.sorts[i]'(by rw [HM.out]; exact hlt2) = x := ⟨_, rfl⟩
                obtain ⟨y, hy⟩ : ∃ y, S.sorts[j]'(by rw [HM.out]; omega) = y := ⟨_, rfl⟩
                rw [hx] at ri4 h4 HNE hxl
                rw [hy] at ri5 h5 HNE
                have HNE := Lib.hid HNE
                have a0 := h4 0 (by omega)
                have a1 := h4 1 (by omega)
                have b0 := h5 0 (by omega)
                have b1 := h5 1 (by omega)
                rw [Nat.add_zero] at a0 b0
                simp only [List.getElem?_cons_zero, List.getElem?_cons_succ] at a0 a1 b0 b1
                have R4 := Lib.hid ri4
                have R5 := Lib.hid ri5
                clear h4 h5 ri4 ri5 hx hy HXL
                go_upto_region 36 with fail
                cases hnm : (x.name.toList == y.name.toList) with
                | true =>
                  have hab : (x.args == y.args) = false := by
                    cases e : (x.args == y.args) with
                    | false => rfl
                    | true =>
                      exfalso
                      apply HNE.out
                      obtain ⟨x1, x2⟩ := x
                      obtain ⟨y1, y2⟩ := y
                      have e1 : x1 = y1 := sameB_iff.1 hnm
                      have e2 : x2 = y2 := by simpa using e
                      rw [e1, e2]
                  have PQ : ∀ q, Calls Tryd.prog 25 #[.slice A5 x.args.length c5, .slice A6 y.args.length c6] (wr.drewN q) fun e w'' => e = .returned (.bool false) ∧ ∃ p, w'' = wr.drewN p := fun q =>
                    (sameInts_any (w := wr.drewN q) (Lib.hid (R4.out.drewN q)) (Lib.hid (R5.out.drewN q)) hxl).mono fun _ _ hx => ⟨by rw [hx.1, hab], by obtain ⟨p, hp⟩ := hx.2; exact ⟨q + p, by rw [hp]; exact World.drewN_drewN ..⟩⟩
                  go_quiet (exact PQ _)
                  have HQ2 : Hid (∃ q, wr.drewN nq = W4.drewN q) := Lib.hid (by obtain ⟨q, rfl⟩ := HQ.out; exact ⟨q + nq, World.drewN_drewN ..⟩)
                  clear PQ a0 a1 b0 b1 HVR HQ R4 R5
                  generalize wr.drewN nq = W6 at *
                  go_wp2_with fail
                  go_roundw
                  case rel => exact ⟨j + 1, by omega, by go_num, HQ2⟩
                  case measure => simp [intOf]; omega
                | false =>
                  go_quiet (fail)
                  have HQ2 : Hid (∃ q, wr.drewN nq = W4.drewN q) := Lib.hid (by obtain ⟨q, rfl⟩ := HQ.out; exact ⟨q + nq, World.drewN_drewN ..⟩)
                  clear a0 a1 b0 b1 HVR HQ R4 R5
                  generalize wr.drewN nq = W6 at *
                  go_wp2_with fail
                  go_roundw
                  case rel => exact ⟨j + 1, by omega, by go_num, HQ2⟩
                  case measure => simp [intOf]; omega
              · obtain rfl : j = i := by omega
                have g11 : ¬ ((j : Int) < (j : Int)) := by omega
                go_wp2_with fail
                go_roundw
                case rel => exact ⟨j + 1, by omega, by go_num, HQ⟩
                case measure => simp [intOf]; omega
          · obtain rfl : i = M := by omega
            have g8 : ¬ ((i : Int) < (i : Int)) := by omega
            have HR5 : Hid (Rk w wr F7 a S n u4 S.funs) := Lib.hid (by obtain ⟨q, rfl⟩ := HQ.out; exact HR4.out.below (below_drewN (Below.refl _ _) q))
            have HNO : Hid (S.terms.length = 0) := Lib.hid (by rw [HSK.out.no]; rfl)
            clear HQ HR4 HV4
            go_wp2_with (first | (go_at_call 15; refine (funs_any (Lib.hid HR5.out.m.1) (Lib.hid (HGK.out.sz HK9.out)) (Lib.hid (fun q hq => Nat.le_trans (HGK.out.fa q hq) (by omega)))).mono ?_; rintro e W6 ⟨v6, rfl, HV6, HB6⟩; have HR6 := Lib.hid (HR5.out.below HB6.out); clear HR5) | (go_at_call 30; refine (alike_any HV6 (Lib.hid (by obtain ⟨xs, q1, q2⟩ := HR6.out.kept; exact ⟨xs, own_mono q1 (Nat.zero_le _), q2⟩)) (by have := HGK.out.f; have := HK9.out; omega) (Lib.hid (fun q hq => Nat.le_trans (HGK.out.fa q hq) (by omega)))).mono ?_; rintro e W7 ⟨rfl, HQ7⟩; have HR7 : Hid (Rk w W7 F7 a S n u4 S.funs) := Lib.hid (by obtain ⟨q, rfl⟩ := HQ7; exact HR6.out.below (below_drewN (Below.refl _ _) q)); clear HR6 HQ7 HV6 HB6) | (go_at_call 11; refine (len_any (Lib.hid HR7.out.m.1)).mono ?_; rw [HNO.out]; rintro e W9 ⟨rfl, rfl⟩))
            go_ret
            exact ⟨rfl, Lib.hid HR7.out.m.2.1⟩
end Go.Proofs.YtdnhhfhjjimcgaaDoor.dg
