/- The statement DagSame. -/
import Derived.Test.YtdnhhfhjjimcgaaDoorIb
namespace Go.Proofs.YtdnhhfhjjimcgaaDoor.dg
open Go Go.RowKit

/-- how many there are in the first m buckets -/
def tot (hs : List Int) (n k : Nat) : Nat → Nat
  | 0 => 0
  | m + 1 => tot hs n k m + (bucket hs n m k).length
theorem tot_zero (hs : List Int) (n : Nat) : ∀ m, tot hs n 0 m = 0
  | 0 => rfl
  | m + 1 => by unfold tot; rw [tot_zero hs n m, bucket_zero]; rfl
theorem tot_succ (hs : List Int) (n k : Nat) : ∀ m, tot hs n (k + 1) m = tot hs n k m + if slot (hs.getD k 0) n < m then 1 else 0
  | 0 => by simp [tot]
  | m + 1 => by
    unfold tot
    rw [tot_succ hs n k m, bucket_succ]
    by_cases h : slot (hs.getD k 0) n = m
    · rw [if_pos h, if_neg (show ¬ slot (hs.getD k 0) n < m by omega), if_pos (show slot (hs.getD k 0) n < m + 1 by omega), List.length_append]
      simp
      omega
    · rw [if_neg h]
      by_cases h2 : slot (hs.getD k 0) n < m
      · rw [if_pos h2, if_pos (show slot (hs.getD k 0) n < m + 1 by omega)]; omega
      · rw [if_neg h2, if_neg (show ¬ slot (hs.getD k 0) n < m + 1 by omega)]; omega
theorem tot_all (hs : List Int) {n : Nat} (hn : 0 < n) : ∀ k, tot hs n k n = k
  | 0 => tot_zero hs n n
  | k + 1 => by rw [tot_succ, tot_all hs hn k, if_pos (slot_lt _ hn)]
theorem tot_le (hs : List Int) (n k : Nat) {m : Nat} : ∀ p, m ≤ p → tot hs n k m ≤ tot hs n k p
  | 0, h => by obtain rfl : m = 0 := by omega
               exact Nat.le_refl _
  | p + 1, h => by
    rcases Nat.eq_or_lt_of_le h with rfl | h
    · exact Nat.le_refl _
    · have := tot_le hs n k (m := m) p (by omega)
      have h3 : tot hs n k (p + 1) = tot hs n k p + (bucket hs n p k).length := rfl
      omega
theorem bkts_at {S : St} {n j : Nat} (h : j < (bkts S n).length) : (bkts S n)[j] = bucket (hashes S) n j S.terms.length := by simp [bkts]
theorem act_same {S S' : St} {z er : Int} {t : Tm} (h : S.term t = (z, er, S')) (he : er ≠ 0) : S' = S := by
  unfold St.term at h
  split at h
  · simp only [Prod.mk.injEq] at h; exact h.2.2.symm
  · split at h
    · simp only [Prod.mk.injEq] at h; exact absurd h.2.1.symm he
    · split at h
      · simp only [Prod.mk.injEq] at h; exact h.2.2.symm
      · simp only [Prod.mk.injEq] at h; exact absurd h.2.1.symm he
theorem Vw.below {α : Type} {w w' : World} {e : TypeId} {size : Nat} {ok ok' : α → List Value → Prop} {l : List α} {v : Value} (h : Vw w e size ok l v) (hb : Below w.heap.size w w') (hk : ∀ x cs, ok x cs → ok' x cs) : Vw w' e size ok' l v := by
  obtain ⟨xs, h1, h2⟩ := h
  exact ⟨xs, own_stays h1 fun g hg => hb.block g (h1.lt g hg).2, h2.mono fun x _ cs => hk x cs⟩
theorem BkC.below {w w' : World} (hb : Below w.heap.size w w') (x : List Int) (cs : List Value) (h : BkC w (It w) x cs) : BkC w' (It w') x cs := h.stays hb.size fun g hg hl => ⟨Ty.stays hg (hb.block g hl), hb.block g hl⟩
theorem SrtC.below {w w' : World} (hb : Below w.heap.size w w') (x : Srt) (cs : List Value) (h : SrtC w (It w) x cs) : SrtC w' (It w') x cs := h.stays hb.size fun g hg hl => ⟨Ty.stays hg (hb.block g hl), hb.block g hl⟩
theorem FnnC.below {w w' : World} (hb : Below w.heap.size w w') (x : Fnn) (cs : List Value) (h : FnnC w (It w) x cs) : FnnC w' (It w') x cs := h.stays hb.size fun g hg hl => ⟨Ty.stays hg (hb.block g hl), hb.block g hl⟩
theorem Tab.below {w w' : World} (h : Tab w) (hb : Below w.heap.size w w') : Tab w' := (Lib.tabBelow_of_tabIs h) w' hb

/-- the two arenas, the act's box at block xb, and all that came in -/
structure Rn (w W : World) (F G : Nat → Prop) (a b xb : Nat) (S T : St) (n : Nat) (x : Ac) (A2 : Option Addr) (c2 : Nat) (B : Option Addr) (d : Nat) : Prop where
  two : Two w W F G a b S T
  box : Bk W xb 49 #[.int .i64 x.what, .string x.name, .slice A2 x.args.length c2, .int .i64 x.res, .int .i64 x.tm.op, .int .i64 x.tm.fn, .slice B x.tm.kids.length d, .string x.tm.num]
  fx : ¬ F xb
  gx : ¬ G xb
  ra : Ri W (fun q => q < n) x.args A2 c2
  rk : Ri W (fun q => q < n) x.tm.kids B d
section
variable {w W W' : World} {F G : Nat → Prop} {a b xb n : Nat} {S S' T : St} {x : Ac} {A2 B : Option Addr} {c2 d : Nat}
theorem Rn.stepA (hn : n ≤ w.heap.size) (h : Rn w W F G a b xb S T n x A2 c2 B d) (e : ArEnd W W' F a S') : ∃ F', Rn w W' F' G a b xb S' T n x A2 c2 B d := by
  have e0 := e
  obtain ⟨F1, _, h4, h5⟩ := e0
  obtain ⟨F', h1⟩ : ∃ F', Two w W' F' G a b S' T ∧ ¬ F' xb := by
    obtain ⟨F', h3, h4, h5⟩ := e
    have hB : Below w.heap.size w W' := h.two.a.2.1.trans (h4.below h.two.a.2.1.size h.two.a.2.2)
    refine ⟨F', ⟨⟨h3, hB, fun g hg => (h5 g hg).elim (h.two.a.2.2 g) fun h6 => Nat.le_trans h.two.a.2.1.size h6⟩, ⟨h.two.b.1.sft h4 fun g hg hf => h.two.d g hf hg, hB, h.two.b.2.2⟩, fun g hg hG => ?_⟩, fun hx => ?_⟩
    · rcases h5 g hg with h6 | h6
      · exact h.two.d g h6 hG
      · have := h.two.b.1.lt g hG; omega
    · rcases h5 xb hx with h6 | h6
      · exact h.fx h6
      · have := h.box.lt; omega
  have hlow : ∀ g, g < n → ¬ F g := fun g hg hF => by have := h.two.a.2.2 g hF; omega
  have hst : ∀ {xs : List Int} {A : Option Addr} {c : Nat}, Ri W (fun q => q < n) xs A c → Ri W' (fun q => q < n) xs A c := fun hr => hr.stays h4.size fun g hg hl => ⟨hg, h4.block g hl (hlow g hg)⟩
  refine ⟨F', h1.1, (h4.block xb h.box.lt h.fx).trans h.box, h1.2, h.gx, hst h.ra, hst h.rk⟩
theorem Rn.swap (h : Rn w W F G a b xb S T n x A2 c2 B d) : Rn w W G F b a xb T S n x A2 c2 B d := ⟨h.two.swap, h.box, h.gx, h.fx, h.ra, h.rk⟩
theorem Rn.stepB (hn : n ≤ w.heap.size) (h : Rn w W F G a b xb S T n x A2 c2 B d) (e : ArEnd W W' G b S') : ∃ G', Rn w W' F G' a b xb S S' n x A2 c2 B d := by
  obtain ⟨G', h1⟩ := h.swap.stepA hn e
  exact ⟨G', h1.swap⟩
theorem Rn.below (h : Rn w W F G a b xb S T n x A2 c2 B d) (hb : Below W.heap.size W W') : Rn w W' F G a b xb S T n x A2 c2 B d := ⟨h.two.below hb, h.box.below hb h.box.lt, h.fx, h.gx, h.ra.below hb, h.rk.below hb⟩
end

set_option maxRecDepth 100000 in
set_option maxHeartbeats 16000000 in
theorem dagSame_any {w : World} (HTAB : Hid (Tab w)) {l : List Ac} {A : Option Addr} {c n : Nat} (hl : Hid (Acs w n l A c)) (hn : n ≤ w.heap.size) :
    Calls Tryd.prog 7 #[.slice A l.length c] w fun e w' => e = .returned (.bool true) ∧ Hid (Below w.heap.size w w') := by
  cases hgr : greatB l with
  | true =>
    have HGR := Lib.hid hgr
    clear hgr
    go_enter Tryd.func7, Tryd.ntmps7
    go_upto_region 3 with (go_at_call 8; refine (speaks_any HTAB).mono ?_; rintro e W1 ⟨rfl, HB1⟩)
    go_wp2_with (go_at_call 9; refine (great_any (Lib.hid (hl.out.below hn (HB1.out.mono hn))) (Nat.le_trans hn HB1.out.size)).mono ?_; rw [HGR.out]; rintro e W2 ⟨rfl, HB2⟩)
    go_ret
    exact ⟨rfl, Lib.hid (HB1.out.trans (HB2.out.mono HB1.out.size))⟩
  | false =>
    have HGR := Lib.hid hgr
    have HNG := Lib.hid (great_no hgr)
    clear hgr
    have hlen := HNG.out.1
    go_enter Tryd.func7, Tryd.ntmps7
    go_upto_region 3 with (go_at_call 8; refine (speaks_any HTAB).mono ?_; rintro e W1 ⟨rfl, HB1⟩)
    go_upto_region 5 with (go_at_call 9; refine (great_any (Lib.hid (hl.out.below hn (HB1.out.mono hn))) (Nat.le_trans hn HB1.out.size)).mono ?_; rw [HGR.out]; rintro e W2 ⟨rfl, HB2⟩)
    have HBB : Hid (Below w.heap.size w W2) := Lib.hid (HB1.out.trans (HB2.out.mono HB1.out.size))
    clear HB1 HB2
    go_upto_region 6 with (first | ((have hpre := HBB; clear hpre); go_at_call 26; refine (new_any (Lib.hid (HTAB.out.below HBB.out)) 500).mono ?_; rintro e W3 ⟨a, F3, rfl, HM3⟩; have HM3' := Lib.hid (show Mine w W3 F3 a (St.new 500) from ⟨HM3.out.1, HBB.out.trans (HM3.out.2.1.mono HBB.out.size), fun g hg => Nat.le_trans HBB.out.size (HM3.out.2.2 g hg)⟩); clear HM3 HBB) | (go_at_call 26; refine (new_any (Lib.hid (HTAB.out.below HM3'.out.2.1)) 500).mono ?_; rintro e W4 ⟨b, F4, rfl, HM4⟩))
    have HT0 : Hid (Two w W4 F3 F4 a b (St.new 500) (St.new 500)) := Lib.hid ⟨HM3'.out.below HM4.out.2.1, ⟨HM4.out.1, HM3'.out.2.1.trans (HM4.out.2.1.mono HM3'.out.2.1.size), fun g hg => Nat.le_trans HM3'.out.2.1.size (HM4.out.2.2 g hg)⟩, fun g hg hG => by have := HM3'.out.1.lt g hg; have := HM4.out.2.2 g hG; omega⟩
    clear HM3' HM4
    go_upto_region 7 with fail
    go_loopw [27] (fun iv wr => ∃ k : Nat, k ≤ l.length ∧ iv = .int .i64 (k : Int) ∧ Hid (∃ S F G, Two w wr F G a b S S ∧ Gk k S)) (fun iv _ => l.length - (intOf iv).toNat)
    case atStart => exact ⟨0, Nat.zero_le _, rfl, Lib.hid ⟨_, _, _, HT0.out, Gk.new 500⟩⟩
    case round =>
      clear HT0
      obtain ⟨k, hk, rfl, HK⟩ := hrel
      obtain ⟨S, F, G, htw, hgk⟩ := HK.out
      have HTW := Lib.hid htw
      have HGK := Lib.hid hgk
      have hk80 : k ≤ 80 := by omega
      have HK9 : Hid (k ≤ 1000) := Lib.hid (by omega)
      clear HK htw hgk
      by_cases hlt : k < l.length
      · have g7 : (k : Int) < (l.length : Int) := by omega
        obtain ⟨g, off, A2, c2, B, d, rfl, hg, ra, rk, m0, m1, m2, m3, m4, m5, m6, m7⟩ := (hl.out.below hn (HTW.out.a.2.1.mono hn)).get hlt
        obtain ⟨x, hx⟩ : ∃ x, l[k]'hlt = x := ⟨_, rfl⟩
        have HSM : Hid (x.name.size ≤ 1000000 ∧ x.args.length ≤ 1000000 ∧ x.tm.kids.length ≤ 1000000 ∧ x.tm.num.size ≤ 1000000) := Lib.hid (by have := HNG.out.2 x (hx ▸ List.getElem_mem hlt); omega)
        have HSM2 : Hid (x.args.length ≤ 12 ∧ x.tm.kids.length ≤ 12) := Lib.hid (by have := HNG.out.2 x (hx ▸ List.getElem_mem hlt); omega)
        rw [hx] at ra rk m0 m1 m2 m3 m4 m5 m6 m7
        clear hx
        go_upto_region 9 with fail
        generalize hW : World.alloc wr _ = W1
        have HR1 : Hid (Rn w W1 F G a b wr.heap.size S S n x A2 c2 B d) := Lib.hid (by
          have hb : Below wr.heap.size wr W1 := hW ▸ (Below.refl _ _).alloc (Nat.le_refl _) _
          exact ⟨HTW.out.below hb, hW ▸ Bk.new wr _ _, fun h => by have := HTW.out.a.1.lt _ h; omega, fun h => by have := HTW.out.b.1.lt _ h; omega, ra.below hb, rk.below hb⟩)
        obtain ⟨xb, hxb⟩ : ∃ xb, wr.heap.size = xb := ⟨_, rfl⟩
        rw [hxb] at HR1 ⊢
        clear hW hxb m0 m1 m2 m3 m4 m5 m6 m7 ra rk HTW
        have x0 := HR1.out.box.cell 0
        have x1 := HR1.out.box.cell 1
        have x2 := HR1.out.box.cell 2
        have x3 := HR1.out.box.cell 3
        have x4 := HR1.out.box.cell 4
        have x5 := HR1.out.box.cell 5
        have x6 := HR1.out.box.cell 6
        have x7 := HR1.out.box.cell 7
        have xl := HR1.out.box.lt
        by_cases w0 : x.what = 0
        · rcases hz : S.sort x.name x.args with ⟨z, er, S'⟩
          have HZ := Lib.hid hz
          have HG2 : Hid (Gk (k + 1) S') := Lib.hid (HGK.out.sort HSM2.out.1 hz)
          have hw0 : (x.what == 0) = true := by simpa using w0
          clear hz w0
          go_upto_region 17 with (go_at_call 27; refine (sort_any (Lib.hid HR1.out.two.a.1) (Lib.hid (HTAB.out.below HR1.out.two.a.2.1)) HSM.out.1 (Lib.hid HR1.out.ra) HSM.out.2.1 (Lib.hid (HGK.out.sz HK9.out)) HZ.out).mono ?_; rintro e W2 ⟨rfl, HE⟩; obtain ⟨F9, hr9⟩ := HR1.out.stepA hn HE.out; have HR2 := Lib.hid hr9; clear hr9 HE; (have y0 := HR2.out.box.cell 0); (have y1 := HR2.out.box.cell 1); (have y2 := HR2.out.box.cell 2); (have y3 := HR2.out.box.cell 3); (have y4 := HR2.out.box.cell 4); (have y5 := HR2.out.box.cell 5); (have y6 := HR2.out.box.cell 6); (have y7 := HR2.out.box.cell 7))
          clear x0 x1 x2 x3 x4 x5 x6 x7
          go_upto_region 18 with (go_at_call 27; refine (sort_any (Lib.hid HR2.out.two.b.1) (Lib.hid (HTAB.out.below HR2.out.two.a.2.1)) HSM.out.1 (Lib.hid HR2.out.ra) HSM.out.2.1 (Lib.hid (HGK.out.sz HK9.out)) HZ.out).mono ?_; rintro e W3 ⟨rfl, HE⟩; obtain ⟨F9, hr9⟩ := HR2.out.stepB hn HE.out; have HR3 := Lib.hid hr9; clear hr9 HE; (have z0 := HR3.out.box.cell 0); (have z1 := HR3.out.box.cell 1); (have z2 := HR3.out.box.cell 2); (have z3 := HR3.out.box.cell 3); (have z4 := HR3.out.box.cell 4); (have z5 := HR3.out.box.cell 5); (have z6 := HR3.out.box.cell 6); (have z7 := HR3.out.box.cell 7))
          clear y0 y1 y2 y3 y4 y5 y6 y7
          have HSA := sorts_any (Lib.hid HR3.out.two.a.1) (Lib.hid (HG2.out.sz (by have := HK9.out; omega))) (Lib.hid (fun q hq => Nat.le_trans (HG2.out.sa q hq) (by omega)))
          have HSAH := Lib.hid HSA
          clear HSA
          by_cases he : er = 0
          · have he2 : ((er != 0) : Bool) = false := by simpa using he
            clear he
            go_wp2_with fail
            go_roundw
            case rel => exact ⟨k + 1, by omega, by go_num, Lib.hid ⟨S', _, _, HR3.out.two, HG2.out⟩⟩
            case measure => simp [intOf]; omega
          · have he2 : ((er != 0) : Bool) = true := by simpa using he
            clear he
            go_wp2_with (first | ((have hpre := HSAH; clear hpre); go_at_call 13; refine HSAH.out.mono ?_; rintro e W4 ⟨v4, rfl, HV4, HB4⟩; obtain ⟨Av, cv, hv, _, _⟩ := HV4.out.slice; subst hv; have HR4 := Lib.hid (HR3.out.below HB4.out); clear HSAH HV4) | (go_at_call 13; refine (sorts_any (Lib.hid HR4.out.two.b.1) (Lib.hid (HG2.out.sz (by have := HK9.out; omega))) (Lib.hid (fun q hq => Nat.le_trans (HG2.out.sa q hq) (by omega)))).mono ?_; rintro e W5 ⟨v5, rfl, HV5, HB5⟩; obtain ⟨Av5, cv5, hv, _, _⟩ := HV5.out.slice; subst hv; have HR5 := Lib.hid (HR4.out.below HB5.out); clear HV5))
            go_roundw
            case rel => exact ⟨k + 1, by omega, by go_num, Lib.hid ⟨S', _, _, HR5.out.two, HG2.out⟩⟩
            case measure => simp [intOf]; omega
        · have hw0 : (x.what == 0) = false := by simpa using w0
          clear w0
          by_cases w1 : x.what = 1
          · rcases hz : S.fun_ x.fn with ⟨z, er, S'⟩
            have HZ := Lib.hid hz
            have HG2 : Hid (Gk (k + 1) S') := Lib.hid (HGK.out.fun_ HSM2.out.1 hz)
            have hw1 : (x.what == 1) = true := by simpa using w1
            clear hz w1
            go_upto_region 22 with fail
            generalize hW : World.alloc W1 _ = W2
            have HR2 : Hid (Rn w W2 F G a b xb S S n x A2 c2 B d) := Lib.hid (HR1.out.below (hW ▸ (Below.refl _ _).alloc (Nat.le_refl _) _))
            have HFB : Hid (Bk W2 W1.heap.size 63 #[.string x.name, .slice A2 x.args.length c2, .int .i64 x.res]) := Lib.hid (hW ▸ Bk.new W1 _ _)
            have HNF : Hid (¬ F W1.heap.size ∧ ¬ G W1.heap.size) := Lib.hid ⟨fun h => by have := HR1.out.two.a.1.lt _ h; omega, fun h => by have := HR1.out.two.b.1.lt _ h; omega⟩
            obtain ⟨fb, hfb⟩ : ∃ fb, W1.heap.size = fb := ⟨_, rfl⟩
            rw [hfb] at HFB HNF ⊢
            clear hW hfb x0 x1 x2 x3 x4 x5 x6 x7 xl HR1
            have f0 := HFB.out.cell 0
            have f1 := HFB.out.cell 1
            have f2 := HFB.out.cell 2
            go_upto_region 23 with (go_at_call 28; refine (fun_any (f := x.fn) (Lib.hid HR2.out.two.a.1) HSM.out.1 (Lib.hid HR2.out.ra) HSM.out.2.1 (Lib.hid (HGK.out.sz HK9.out)) HZ.out).mono ?_; rintro e W3 ⟨rfl, HE⟩; obtain ⟨F9, hr9⟩ := HR2.out.stepA hn HE.out; have HR3 := Lib.hid hr9; have HFB3 : Hid (Bk W3 fb 63 #[.string x.name, .slice A2 x.args.length c2, .int .i64 x.res]) := Lib.hid (by obtain ⟨_, _, s, _⟩ := HE.out; exact (s.block fb HFB.out.lt HNF.out.1).trans HFB.out); clear hr9 HE; (have h0 := HFB3.out.cell 0); (have h1 := HFB3.out.cell 1); (have h2 := HFB3.out.cell 2))
            clear f0 f1 f2
            go_wp2_with (go_at_call 28; refine (fun_any (f := x.fn) (Lib.hid HR3.out.two.b.1) HSM.out.1 (Lib.hid HR3.out.ra) HSM.out.2.1 (Lib.hid (HGK.out.sz HK9.out)) HZ.out).mono ?_; rintro e W4 ⟨rfl, HE⟩; obtain ⟨F9, hr9⟩ := HR3.out.stepB hn HE.out; have HR4 := Lib.hid hr9; clear hr9 HE)
            go_roundw
            case rel => exact ⟨k + 1, by omega, by go_num, Lib.hid ⟨S', _, _, HR4.out.two, HG2.out⟩⟩
            case measure => simp [intOf]; omega
          · have hw1 : (x.what == 1) = false := by simpa using w1
            rcases hz : S.term x.tm with ⟨z, er, S'⟩
            have HZ := Lib.hid hz
            have HG2 : Hid (Gk (k + 1) S') := Lib.hid (HGK.out.term HSM2.out.2 hz)
            have HTK : Hid (∀ e ∈ S.terms, e.t.kids.length ≤ 1000000) := Lib.hid fun e he => Nat.le_trans (HGK.out.tk e he) (by omega)
            clear w1 hz
            go_upto_region 11 with (go_at_call 11; refine (len_any (Lib.hid HR1.out.two.a.1)).mono ?_; rintro e W9 ⟨rfl, rfl⟩)
            go_upto_region 12 with (go_at_call 29; refine (term_any (Lib.hid HR1.out.two.a.1) (Lib.hid HR1.out.rk) HSM.out.2.2.1 HSM.out.2.2.2 (Lib.hid (HGK.out.sz HK9.out)) HTK HZ.out).mono ?_; rintro e W2 ⟨rfl, HE⟩; obtain ⟨F9, hr9⟩ := HR1.out.stepA hn HE.out; have HR2 := Lib.hid hr9; clear hr9 HE; (have y0 := HR2.out.box.cell 0); (have y1 := HR2.out.box.cell 1); (have y2 := HR2.out.box.cell 2); (have y3 := HR2.out.box.cell 3); (have y4 := HR2.out.box.cell 4); (have y5 := HR2.out.box.cell 5); (have y6 := HR2.out.box.cell 6); (have y7 := HR2.out.box.cell 7))
            clear x0 x1 x2 x3 x4 x5 x6 x7
            go_upto_region 13 with (go_at_call 29; refine (term_any (Lib.hid HR2.out.two.b.1) (Lib.hid HR2.out.rk) HSM.out.2.2.1 HSM.out.2.2.2 (Lib.hid (HGK.out.sz HK9.out)) HTK HZ.out).mono ?_; rintro e W3 ⟨rfl, HE⟩; obtain ⟨F8, hr9⟩ := HR2.out.stepB hn HE.out; have HR3 := Lib.hid hr9; clear hr9 HE)
            clear y0 y1 y2 y3 y4 y5 y6 y7
            by_cases he : er = 0
            · have he2 : ((er != 0) : Bool) = false := by simpa using he
              clear he
              go_wp2_with fail
              go_roundw
              case rel => exact ⟨k + 1, by omega, by go_num, Lib.hid ⟨S', _, _, HR3.out.two, HG2.out⟩⟩
              case measure => simp [intOf]; omega
            · have he2 : ((er != 0) : Bool) = true := by simpa using he
              have HSS : Hid (S' = S) := Lib.hid (act_same HZ.out he)
              clear he
              go_wp2_with (go_at_call 11; refine (len_any (Lib.hid HR3.out.two.a.1)).mono ?_; rw [HSS.out]; rintro e W9 ⟨rfl, rfl⟩)
              go_roundw
              case rel => exact ⟨k + 1, by omega, by go_num, Lib.hid ⟨S', _, _, HR3.out.two, HG2.out⟩⟩
              case measure => simp [intOf]; omega
      · obtain rfl : k = l.length := by omega
        have g7 : ¬ ((l.length : Int) < (l.length : Int)) := by omega
        have HSZ := Lib.hid (HGK.out.sz HK9.out)
        obtain ⟨nb, hnb⟩ : ∃ nb, Nb nb S.terms.length := by
          obtain ⟨_, _, nb, _, _, h, _⟩ := HTW.out.a.1.table
          exact ⟨nb, h⟩
        have HNB := Lib.hid hnb
        have hnp := hnb.pos
        have hnl := hnb.le HSZ.out.t
        clear hnb
        go_upto_region 26 with (first | ((have hpre := HTW; clear hpre); go_at_call 21; refine (buckets_any (Lib.hid HTW.out.a.1) HSZ HNB).mono ?_; rintro e W2 ⟨v2, rfl, HV2, HB2⟩; have HT2 := Lib.hid (HTW.out.below HB2.out); clear HTW) | (go_at_call 21; refine (buckets_any (Lib.hid HT2.out.b.1) HSZ HNB).mono ?_; rintro e W3 ⟨v3, rfl, HV3, HB3⟩))
        have HT3 := Lib.hid (HT2.out.below HB3.out)
        have HV2' : Hid (Vw W3 33 1 (BkC W3 (It W3)) (bkts S nb) v2) := Lib.hid (HV2.out.below HB3.out (BkC.below HB3.out))
        obtain ⟨A4, c4, hv, _, _⟩ := HV2.out.slice
        subst hv
        obtain ⟨A5, c5, hv, _, _⟩ := HV3.out.slice
        subst hv
        rw [bkts_len] at HV2' HV3 ⊢
        obtain ⟨N, hN⟩ : ∃ N, S.terms.length = N := ⟨_, rfl⟩
        have HNN := Lib.hid hN
        have HNK : Hid (N ≤ 1000000) := Lib.hid (hN ▸ HSZ.out.t)
        have hnk := HNK.out
        clear hN HV2 HB2 HB3 HT2
        go_upto_region 28 with fail
        go_loopw [17, 117] (fun cv iv wr => ∃ k m : Nat, k ≤ nb ∧ m ≤ 1000000 ∧ iv = .int .i64 (k : Int) ∧ cv = .int .i64 (m : Int) ∧ Hid (m = tot (hashes S) nb N k) ∧ Hid (∃ q, wr = W3.drewN q)) (fun _ iv _ => nb - (intOf iv).toNat)
        case atStart => exact ⟨0, 0, Nat.zero_le _, by omega, rfl, rfl, Lib.hid rfl, Lib.hid ⟨0, rfl⟩⟩
        case round =>
          obtain ⟨j, m, hj, hm, rfl, rfl, HM, HQ⟩ := hrel
          by_cases hlt2 : j < nb
          · have g8 : (j : Int) < (nb : Int) := by omega
            have g9 : decide ((nb : Int) ≤ (j : Int)) = false := decide_eq_false (by omega)
            have HVR : Hid (Vw wr 33 1 (BkC wr (It wr)) (bkts S nb) (.slice A4 nb c4) ∧ Vw wr 33 1 (BkC wr (It wr)) (bkts S nb) (.slice A5 nb c5)) := Lib.hid (by
              obtain ⟨q, rfl⟩ := HQ.out
              have hb := below_drewN (Below.refl W3.heap.size W3) q
              exact ⟨HV2'.out.below hb (BkC.below hb), HV3.out.below hb (BkC.below hb)⟩)
            obtain ⟨g4, e4, ds4, q4, _, ⟨B4, d4, rfl, ri4⟩, h4⟩ := HVR.out.1.get BkC.len (j := j) (by rw [bkts_len]; exact hlt2)
            obtain ⟨g5, e5, ds5, q5, _, ⟨B5, d5, rfl, ri5⟩, h5⟩ := HVR.out.2.get BkC.len (j := j) (by rw [bkts_len]; exact hlt2)
            rw [bkts_len] at q4 q5
            injection q4 with q4 _ q4'
            injection q5 with q5 _ q5'
            subst q4 q4' q5 q5'
            obtain ⟨bj, hbj⟩ : ∃ bj, (bkts S nb)[j]'(by rw [bkts_len]; exact hlt2) = bj := ⟨_, rfl⟩
            have HBJ : Hid (bucket (hashes S) nb j N = bj) := Lib.hid (by rw [← hbj, bkts_at, HNN.out])
            have h40 := h4 0 (by omega)
            have h50 := h5 0 (by omega)
            rw [hbj] at ri4 ri5 h40 h50
            rw [Nat.mul_one, Nat.add_zero] at h40 h50
            have R4 := Lib.hid ri4
            have R5 := Lib.hid ri5
            have hbl : bj.length ≤ 1000000 := by rw [← HBJ.out]; exact Nat.le_trans bucket_len hnk
            have HM2 : Hid (m + bj.length ≤ 1000000) := Lib.hid (by
              have h1 := HM.out
              have h2 := tot_le (hashes S) nb N (m := j + 1) nb (by omega)
              rw [tot_all _ (by omega)] at h2
              have h3 : tot (hashes S) nb N (j + 1) = tot (hashes S) nb N j + (bucket (hashes S) nb j N).length := rfl
              rw [HBJ.out] at h3
              omega)
            have hm2 := HM2.out
            have hself : (bj == bj) = true := by simp
            have PQ : ∀ q, Calls Tryd.prog 25 #[.slice B4 bj.length d4, .slice B5 bj.length d5] (wr.drewN q) fun e w'' => e = .returned (.bool true) ∧ ∃ p, w'' = wr.drewN p := fun q =>
              (sameInts_any (w := wr.drewN q) (Lib.hid (R4.out.drewN q)) (Lib.hid (R5.out.drewN q)) hbl).mono fun _ _ hx => ⟨by rw [hx.1, hself], by obtain ⟨p, hp⟩ := hx.2; exact ⟨q + p, by rw [hp]; exact World.drewN_drewN ..⟩⟩
            clear h4 h5 ri4 ri5 hbj
            go_upto_region 30 with fail
            go_quiet (exact PQ _)
            have HQ2 : Hid (∃ q, wr.drewN nq = W3.drewN q) := Lib.hid (by obtain ⟨q, rfl⟩ := HQ.out; exact ⟨q + nq, World.drewN_drewN ..⟩)
            have h42 : (wr.drewN nq).cell? ⟨g4, j, none⟩ = some (.slice B4 bj.length d4) := h40
            clear PQ h40 h50 HVR HQ R4 R5
            generalize wr.drewN nq = W6 at *
            go_wp2_with fail
            go_roundw
            case rel => exact ⟨j + 1, m + bj.length, by omega, by omega, by go_num, by go_num, Lib.hid (by
              have h3 : tot (hashes S) nb N (j + 1) = tot (hashes S) nb N j + (bucket (hashes S) nb j N).length := rfl
              rw [h3, ← HM.out, HBJ.out]), HQ2⟩
            case measure => simp [intOf]; omega
          · obtain rfl : j = nb := by omega
            have g8 : ¬ ((j : Int) < (j : Int)) := by omega
            obtain rfl : m = N := by rw [HM.out, tot_all _ (by omega)]
            have HA6 : Hid (Ar wr F a S ∧ Below w.heap.size w wr) := Lib.hid (by
              obtain ⟨q, rfl⟩ := HQ.out
              exact ⟨HT3.out.a.1.drewN q, below_drewN HT3.out.a.2.1 q⟩)
            go_wp2_with (go_at_call 11; refine (len_any (Lib.hid HA6.out.1)).mono ?_; rw [HNN.out]; rintro e W9 ⟨rfl, rfl⟩)
            go_ret
            exact ⟨rfl, Lib.hid HA6.out.2⟩
end Go.Proofs.YtdnhhfhjjimcgaaDoor.dg
