/- Package dag: all sorts, all functions, all buckets. -/
import Derived.Test.YtdnhhfhjjimcgaaDoorHh
namespace Go.Proofs.YtdnhhfhjjimcgaaDoor.dg
open Go Go.RowKit

theorem Ch.setAt {α : Type} {ok : α → List Value → Prop} {n i : Nat} {u : Value} (hn : ∀ x cs, ok x cs → cs.length = n) (hi : i < n) : ∀ {l : List α} {xs : List Value}, Ch ok l xs → ∀ j (h : j < l.length), (∀ cs, ok l[j] cs → ok l[j] (cs.set i u)) → Ch ok l (xs.set (j * n + i) u)
  | [], _, _, j, h, _ => absurd h (by simp)
  | x :: r, _, ⟨cs, zs, e, h1, h2⟩, 0, _, hk => ⟨cs.set i u, zs, by rw [e, Nat.zero_mul, Nat.zero_add, List.set_append_left _ _ (by rw [hn x cs h1]; exact hi)], hk cs h1, h2⟩
  | x :: r, _, ⟨cs, zs, e, h1, h2⟩, j + 1, h, hk => by
    have hl := hn x cs h1
    refine ⟨cs, zs.set (j * n + i) u, ?_, h1, h2.setAt hn hi j (by simpa using h) hk⟩
    rw [e, List.set_append_right _ _ (by rw [hl, Nat.add_mul]; omega), hl, show (j + 1) * n + i - n = j * n + i by rw [Nat.add_mul]; omega]
/-- blocks of integers -/
def It (w : World) (g : Nat) : Prop := Ty w g 3
def BkC (w : World) (I : Nat → Prop) (b : List Int) (cs : List Value) : Prop := ∃ A c, cs = [.slice A b.length c] ∧ Ri w I b A c
theorem BkC.len {w : World} {I : Nat → Prop} (s : List Int) (cs : List Value) (h : BkC w I s cs) : cs.length = 1 := by obtain ⟨_, _, rfl, _⟩ := h; rfl
theorem BkC.stays {w w' : World} {I I' : Nat → Prop} (hs : w.heap.size ≤ w'.heap.size) (hb : ∀ g, I g → g < w.heap.size → I' g ∧ w'.heap[g]? = w.heap[g]?) {s : List Int} {cs : List Value} (h : BkC w I s cs) : BkC w' I' s cs := by
  obtain ⟨A, c, e, h⟩ := h; exact ⟨A, c, e, h.stays hs hb⟩
theorem SrtC.one {w : World} {I : Nat → Prop} (s : Srt) (cs : List Value) (h : SrtC w I s cs) : ∀ u ∈ cs, u.oneCell' = true := by
  obtain ⟨_, _, rfl, _⟩ := h
  intro u hu
  simp only [List.mem_cons, List.not_mem_nil, or_false] at hu
  rcases hu with rfl | rfl <;> rfl
theorem FnnC.one {w : World} {I : Nat → Prop} (s : Fnn) (cs : List Value) (h : FnnC w I s cs) : ∀ u ∈ cs, u.oneCell' = true := by
  obtain ⟨_, _, rfl, _⟩ := h
  intro u hu
  simp only [List.mem_cons, List.not_mem_nil, or_false] at hu
  rcases hu with rfl | rfl | rfl <;> rfl
theorem BkC.one {w : World} {I : Nat → Prop} (s : List Int) (cs : List Value) (h : BkC w I s cs) : ∀ u ∈ cs, u.oneCell' = true := by
  obtain ⟨_, _, rfl, _⟩ := h
  intro u hu
  simp only [List.mem_cons, List.not_mem_nil, or_false] at hu
  subst hu; rfl
/-- a row that reads as a list, of whatever blocks -/
def Vw {α : Type} (w : World) (e : TypeId) (size : Nat) (ok : α → List Value → Prop) (l : List α) (v : Value) : Prop := ∃ xs, w.ownsRow 0 e size v l.length xs ∧ Ch ok l xs
theorem Vw.get {α : Type} {w : World} {e : TypeId} {size : Nat} {ok : α → List Value → Prop} {l : List α} {v : Value} (h : Vw w e size ok l v) (hn : ∀ x cs, ok x cs → cs.length = size) {j : Nat} (hj : j < l.length) :
    ∃ g c cs, v = .slice (some ⟨g, 0, none⟩) l.length c ∧ g < w.heap.size ∧ ok l[j] cs ∧ ∀ i, i < size → w.cell? ⟨g, j * size + i, none⟩ = cs[i]? := by
  obtain ⟨xs, h1, h2⟩ := h
  obtain ⟨g, c, cs, e1, _, e2, e3, e4⟩ := Ro.get (F := fun _ => True) ⟨xs, h1, h2, fun _ _ => trivial⟩ hn hj
  exact ⟨g, c, cs, e1, e2, e3, e4⟩
theorem Vw.slice {α : Type} {w : World} {e : TypeId} {size : Nat} {ok : α → List Value → Prop} {l : List α} {v : Value} (h : Vw w e size ok l v) : ∃ A c, v = .slice A l.length c ∧ (A = none → l.length = 0) ∧ l.length ≤ c := by
  obtain ⟨xs, h1, _⟩ := h
  exact own_slice h1
theorem own_mono {w : World} {base base' size n : Nat} {e : TypeId} {v : Value} {xs : List Value} (h : w.ownsRow base e size v n xs) (hb : base' ≤ base) : w.ownsRow base' e size v n xs := by
  refine ⟨h.1, h.2.imp id ?_⟩
  rintro ⟨g, cap, cur, e1, e2, q⟩
  exact ⟨g, cap, cur, e1, Nat.le_trans hb e2, q⟩
theorem ro_news {α : Type} {w : World} {F : Nat → Prop} {e : TypeId} {size : Nat} {ok : α → List Value → Prop} {l : List α} {A : Option Addr} {n c : Nat} (h : Ro w F e size ok l (.slice A n c)) (hn : n = l.length) :
    ∃ xs, Ch ok l xs ∧ xs.length = n * size ∧ ∀ ad, A = some ad → ∀ j u, xs[j]? = some u → w.cell? (ad.add j) = some u := by
  obtain ⟨xs, h1, h2, _⟩ := h
  subst hn
  refine ⟨xs, h2, h1.1, fun ad hA j u hu => ?_⟩
  have hj := (List.getElem?_eq_some_iff.1 hu).1
  rw [h1.1] at hj
  rcases Nat.eq_zero_or_pos l.length with h0 | h0
  · rw [h0] at hj; simp at hj
  · obtain ⟨g, c2, e1, _, _, hc, _⟩ := own_pos h1 h0
    injection e1 with e1 _ _
    rw [hA] at e1
    injection e1 with e1
    subst e1
    rw [Go.WideShapes.add_plain, Nat.zero_add, hc j hj, hu]
theorem Ch.ones {ok : List Int → List Value → Prop} : ∀ {l : List (List Int)} {xs : List Value}, xs.length = l.length → (∀ j (h : j < l.length), ∃ v, xs[j]? = some v ∧ ok l[j] [v]) → Ch ok l xs
  | [], xs, hl, _ => List.eq_nil_of_length_eq_zero hl
  | x :: r, [], hl, _ => by simp at hl
  | x :: r, v :: vs, hl, h => by
    obtain ⟨v', e, h1⟩ := h 0 (by simp)
    simp only [List.getElem?_cons_zero, Option.some.injEq] at e
    subst e
    exact ⟨[v], vs, rfl, h1, Ch.ones (by simpa using hl) fun j hj => by
      have := h (j + 1) (by simpa using hj)
      simpa using this⟩
/-- all buckets -/
def bkts (S : St) (n : Nat) : List (List Int) := (List.range n).map fun b => bucket (hashes S) n b S.terms.length
theorem bkts_len (S : St) (n : Nat) : (bkts S n).length = n := by simp [bkts]
theorem bkts_small {S : St} (HS : Sz S) (n : Nat) : ∀ x ∈ bkts S n, x.length ≤ 1000000 := by
  intro x hx
  unfold bkts at hx
  rw [List.mem_map] at hx
  obtain ⟨b, _, rfl⟩ := hx
  exact Nat.le_trans bucket_len HS.t
theorem Tb.ro {w : World} {F J : Nat → Prop} {ib : Nat} {S : St} {n : Nat} (h : Tb w F J ib (hashes S) n S.terms.length) : ∃ hv bv, Bk w ib 86 #[hv, bv] ∧ Ro w F 33 1 (BkC w (It w)) (bkts S n) bv := by
  obtain ⟨hv, bv, bs, h1, h2, h3, h4, h5, h6, h7, h8⟩ := h
  refine ⟨hv, bv, h1, bs, by rw [bkts_len]; exact h5, Ch.ones (by rw [bkts_len]; have := h5.1; simpa using this) fun j hj => ?_, h6⟩
  have hj' : j < n := by rw [bkts_len] at hj; exact hj
  obtain ⟨v, e1, e2, e3⟩ := h7 j hj'
  obtain ⟨A, c, rfl, _, _⟩ := own_slice e2
  have e : (bkts S n)[j] = bucket (hashes S) n j S.terms.length := by simp [bkts]
  rw [e]
  exact ⟨_, e1, A, c, rfl, (Ri.of_own e2 fun g hg => own_ty e2 g hg).2⟩
set_option maxRecDepth 100000 in
set_option maxHeartbeats 4000000 in
theorem sorts_any {w : World} {F : Nat → Prop} {a : Nat} {S : St} (H : Hid (Ar w F a S)) (HS : Hid (Sz S)) (hal : Hid (∀ x ∈ S.sorts, x.args.length ≤ 1000000)) :
    Calls Tryd.prog 13 #[.pointer (some ⟨a, 0, none⟩)] w fun e w' => ∃ v, e = .returned v ∧ Hid (Vw w' 67 2 (SrtC w' (It w')) (S.sorts) v) ∧ Hid (Below w.heap.size w w') := by
  obtain ⟨I, J, sv, fv, tv, mb, ib, nb, hax⟩ := H.out
  have hro : Ro w F 67 2 (SrtC w (It w)) S.sorts sv := hax.srt.stays (fun g hg => ⟨(hax.srt.ty g hg).2, rfl⟩) fun _ _ _ => SrtC.stays (Nat.le_refl _) fun g hg _ => ⟨(hax.ii g hg).2, rfl⟩
  have hlen : S.sorts.length ≤ 4000000 := by have := HS.out.s; omega
  have HBX := Lib.hid hax.box
  clear hax
  obtain ⟨As, cs, hsl, hA0, _⟩ := hro.slice
  subst hsl
  obtain ⟨N, hN⟩ : ∃ N, (S.sorts).length = N := ⟨_, rfl⟩
  have HN := Lib.hid hN
  rw [hN] at hA0
  have HN2 : Hid (N ≤ 4000000) := Lib.hid (by rw [← hN]; exact hlen)
  obtain ⟨news, hch, hnl, hnews⟩ := ro_news hro rfl
  rw [hN] at hnl
  have HCH : Hid (Ch (SrtC w (It w)) (S.sorts) news) := Lib.hid hch
  have CL := cloneSort (w := w) (A := As) (n := N) (c := cs) (news := news) hA0 hnl (Lib.hid hnews) (Lib.hid (hch.one SrtC.one)) HN2.out
  have HCL := Lib.hid CL
  have b1 := HBX.out.cell 1
  have hla := HBX.out.lt
  rw [hN] at b1
  clear CL hch hnl hnews hN hro hA0
  go_enter Tryd.func13, Tryd.ntmps13
  go_upto_region 2 with (go_at_call 35; refine HCL.out.mono ?_; rintro e W1 ⟨v, rfl, HO1, HB1⟩)
  obtain ⟨A, c, hv, hA1, _⟩ := own_slice HO1.out
  subst hv
  clear hA1
  have hn2 := HN2.out
  go_upto_region 3 with fail
  go_loopw [12] (fun iv wr => ∃ k : Nat, k ≤ N ∧ iv = .int .i64 (k : Int) ∧ Hid (∃ xs, wr.ownsRow w.heap.size 67 2 (.slice A N c) N xs ∧ Ch (SrtC wr (It wr)) (S.sorts) xs) ∧ Hid (Below w.heap.size w wr)) (fun iv _ => N - (intOf iv).toNat)
  case atStart => exact ⟨0, Nat.zero_le _, rfl, Lib.hid ⟨_, HO1.out, HCH.out.mono fun _ _ _ => SrtC.stays HB1.out.size fun g hg hl => ⟨Ty.stays hg (HB1.out.block g hl), HB1.out.block g hl⟩⟩, HB1⟩
  case round =>
    clear HO1 HB1
    obtain ⟨k, hk, rfl, HK, HB⟩ := hrel
    by_cases hlt : k < N
    · have g7 : (k : Int) < (N : Int) := by omega
      obtain ⟨xs, how, hchk⟩ := HK.out
      have HOW := Lib.hid how
      have HCK := Lib.hid hchk
      obtain ⟨g, cc, eA, hg, _, hcell, hfr⟩ := own_pos how (by omega)
      obtain ⟨ds, hok, hds⟩ := hchk.at_ SrtC.len k (by rw [HN.out]; exact hlt)
      injection eA with eA _ eC
      subst eA eC
      obtain ⟨x, hx⟩ : ∃ x, (S.sorts)[k]'(by rw [HN.out]; exact hlt) = x := ⟨_, rfl⟩
      have HX := Lib.hid hx
      rw [hx] at hok
      obtain ⟨A2, c2, hds2, hri⟩ := hok
      have hxl : x.args.length ≤ 1000000 := hal.out x (hx ▸ List.getElem_mem _)
      have HRI := Lib.hid hri
      have hcl : wr.cell? ⟨g, k * 2 + 1, none⟩ = some (.slice A2 x.args.length c2) := by
        have h1 := hds 1 (by omega)
        rw [hds2] at h1
        rw [hcell _ (by omega)]
        exact h1
      have HGB : Hid (w.heap.size ≤ g) := Lib.hid (how.lt g rfl).1
      have HFR : Hid (wr.frozen? ⟨g, k * 2 + 1, none⟩ = false) := Lib.hid (hfr _)
      clear hx hri hds hds2 how hchk hcell hfr
      go_wp2_with (go_at_call 36; refine (clone_any HRI hxl).mono ?_; rintro e W7 ⟨A3, c3, rfl, HR3, HB7⟩; have HC7 : W7.cell? ⟨g, k * 2 + 1, none⟩ = some (.slice A2 x.args.length c2) := ((HB7.out.cell (p := ⟨g, k * 2 + 1, none⟩) hg).trans hcl); have HF7 : W7.frozen? ⟨g, k * 2 + 1, none⟩ = false := ((HB7.out.frozen (p := ⟨g, k * 2 + 1, none⟩) hg).trans HFR.out); have hg7 : g < W7.heap.size := Nat.lt_of_lt_of_le hg HB7.out.size)
      go_roundw
      case rel =>
        refine ⟨k + 1, by omega, by go_num, Lib.hid ?_, Lib.hid ((HB.out.trans (HB7.out.mono HB.out.size)).setCell HGB.out _)⟩
        have how7 : W7.ownsRow w.heap.size 67 2 (.slice (some ⟨g, 0, none⟩) N c) N xs := own_stays HOW.out fun q hq => by
          simp only [Value.ownBlock, Option.some.injEq] at hq
          rw [← hq]
          exact HB7.out.block g hg
        have hs := (how7.stored (k * 2 + 1) (.slice A3 x.args.length c3)).1
        have hty : Ty W7 g 67 := own_ty how7 g rfl
        have kset : ∀ q, It W7 q → It (W7.setCell ⟨g, k * 2 + 1, none⟩ (.slice A3 x.args.length c3)) q ∧ (W7.setCell ⟨g, k * 2 + 1, none⟩ (.slice A3 x.args.length c3)).heap[q]? = W7.heap[q]? := fun q hq => by
          have e := Below.heap_setCell W7 ⟨g, k * 2 + 1, none⟩ (.slice A3 x.args.length c3) q (hq.ne hty (by decide))
          exact ⟨Ty.stays hq e, e⟩
        have hsz : W7.heap.size ≤ (W7.setCell ⟨g, k * 2 + 1, none⟩ (.slice A3 x.args.length c3)).heap.size := by simp [World.setCell]
        refine ⟨_, hs, ?_⟩
        have hc8 : Ch (SrtC (W7.setCell ⟨g, k * 2 + 1, none⟩ (.slice A3 x.args.length c3)) (It (W7.setCell ⟨g, k * 2 + 1, none⟩ (.slice A3 x.args.length c3)))) (S.sorts) xs := HCK.out.mono fun _ _ _ => SrtC.stays (Nat.le_trans HB7.out.size hsz) fun q hq hl => by
          have e7 : It W7 q := Ty.stays hq (HB7.out.block q hl)
          exact ⟨(kset q e7).1, (kset q e7).2.trans (HB7.out.block q hl)⟩
        have := hc8.setAt (i := 1) (u := .slice A3 x.args.length c3) SrtC.len (by omega) k (by rw [HN.out]; exact hlt) (fun ds hd => by
          rw [HX.out] at hd ⊢
          obtain ⟨A4, c4, rfl, _⟩ := hd
          exact ⟨A3, c3, rfl, HR3.out.stays hsz fun q hq _ => kset q hq.2.2⟩)
        exact this
      case measure => simp [intOf]; omega
    · obtain rfl : k = N := by omega
      have g7 : ¬ ((k : Int) < (k : Int)) := by omega
      go_wp2_with fail
      go_ret
      obtain ⟨xs, how, hchk⟩ := HK.out
      exact ⟨_, rfl, Lib.hid ⟨xs, by rw [HN.out]; exact own_mono how (Nat.zero_le _), hchk⟩, HB⟩
set_option maxRecDepth 100000 in
set_option maxHeartbeats 4000000 in
theorem funs_any {w : World} {F : Nat → Prop} {a : Nat} {S : St} (H : Hid (Ar w F a S)) (HS : Hid (Sz S)) (hal : Hid (∀ x ∈ S.funs, x.args.length ≤ 1000000)) :
    Calls Tryd.prog 15 #[.pointer (some ⟨a, 0, none⟩)] w fun e w' => ∃ v, e = .returned v ∧ Hid (Vw w' 63 3 (FnnC w' (It w')) (S.funs) v) ∧ Hid (Below w.heap.size w w') := by
  obtain ⟨I, J, sv, fv, tv, mb, ib, nb, hax⟩ := H.out
  have hro : Ro w F 63 3 (FnnC w (It w)) S.funs fv := hax.fns.stays (fun g hg => ⟨(hax.fns.ty g hg).2, rfl⟩) fun _ _ _ => FnnC.stays (Nat.le_refl _) fun g hg _ => ⟨(hax.ii g hg).2, rfl⟩
  have hlen : S.funs.length ≤ 4000000 := by have := HS.out.f; omega
  have HBX := Lib.hid hax.box
  clear hax
  obtain ⟨As, cs, hsl, hA0, _⟩ := hro.slice
  subst hsl
  obtain ⟨N, hN⟩ : ∃ N, (S.funs).length = N := ⟨_, rfl⟩
  have HN := Lib.hid hN
  rw [hN] at hA0
  have HN2 : Hid (N ≤ 4000000) := Lib.hid (by rw [← hN]; exact hlen)
  obtain ⟨news, hch, hnl, hnews⟩ := ro_news hro rfl
  rw [hN] at hnl
  have HCH : Hid (Ch (FnnC w (It w)) (S.funs) news) := Lib.hid hch
  have CL := cloneFun (w := w) (A := As) (n := N) (c := cs) (news := news) hA0 hnl (Lib.hid hnews) (Lib.hid (hch.one FnnC.one)) HN2.out
  have HCL := Lib.hid CL
  have b3 := HBX.out.cell 3
  have hla := HBX.out.lt
  rw [hN] at b3
  clear CL hch hnl hnews hN hro hA0
  go_enter Tryd.func15, Tryd.ntmps15
  go_upto_region 2 with (go_at_call 37; refine HCL.out.mono ?_; rintro e W1 ⟨v, rfl, HO1, HB1⟩)
  obtain ⟨A, c, hv, hA1, _⟩ := own_slice HO1.out
  subst hv
  clear hA1
  have hn2 := HN2.out
  go_upto_region 3 with fail
  go_loopw [12] (fun iv wr => ∃ k : Nat, k ≤ N ∧ iv = .int .i64 (k : Int) ∧ Hid (∃ xs, wr.ownsRow w.heap.size 63 3 (.slice A N c) N xs ∧ Ch (FnnC wr (It wr)) (S.funs) xs) ∧ Hid (Below w.heap.size w wr)) (fun iv _ => N - (intOf iv).toNat)
  case atStart => exact ⟨0, Nat.zero_le _, rfl, Lib.hid ⟨_, HO1.out, HCH.out.mono fun _ _ _ => FnnC.stays HB1.out.size fun g hg hl => ⟨Ty.stays hg (HB1.out.block g hl), HB1.out.block g hl⟩⟩, HB1⟩
  case round =>
    clear HO1 HB1
    obtain ⟨k, hk, rfl, HK, HB⟩ := hrel
    by_cases hlt : k < N
    · have g7 : (k : Int) < (N : Int) := by omega
      obtain ⟨xs, how, hchk⟩ := HK.out
      have HOW := Lib.hid how
      have HCK := Lib.hid hchk
      obtain ⟨g, cc, eA, hg, _, hcell, hfr⟩ := own_pos how (by omega)
      obtain ⟨ds, hok, hds⟩ := hchk.at_ FnnC.len k (by rw [HN.out]; exact hlt)
      injection eA with eA _ eC
      subst eA eC
      obtain ⟨x, hx⟩ : ∃ x, (S.funs)[k]'(by rw [HN.out]; exact hlt) = x := ⟨_, rfl⟩
      have HX := Lib.hid hx
      rw [hx] at hok
      obtain ⟨A2, c2, hds2, hri⟩ := hok
      have hxl : x.args.length ≤ 1000000 := hal.out x (hx ▸ List.getElem_mem _)
      have HRI := Lib.hid hri
      have hcl : wr.cell? ⟨g, k * 3 + 1, none⟩ = some (.slice A2 x.args.length c2) := by
        have h1 := hds 1 (by omega)
        rw [hds2] at h1
        rw [hcell _ (by omega)]
        exact h1
      have HGB : Hid (w.heap.size ≤ g) := Lib.hid (how.lt g rfl).1
      have HFR : Hid (wr.frozen? ⟨g, k * 3 + 1, none⟩ = false) := Lib.hid (hfr _)
      clear hx hri hds hds2 how hchk hcell hfr
      go_wp2_with (go_at_call 36; refine (clone_any HRI hxl).mono ?_; rintro e W7 ⟨A3, c3, rfl, HR3, HB7⟩; have HC7 : W7.cell? ⟨g, k * 3 + 1, none⟩ = some (.slice A2 x.args.length c2) := ((HB7.out.cell (p := ⟨g, k * 3 + 1, none⟩) hg).trans hcl); have HF7 : W7.frozen? ⟨g, k * 3 + 1, none⟩ = false := ((HB7.out.frozen (p := ⟨g, k * 3 + 1, none⟩) hg).trans HFR.out); have hg7 : g < W7.heap.size := Nat.lt_of_lt_of_le hg HB7.out.size)
      go_roundw
      case rel =>
        refine ⟨k + 1, by omega, by go_num, Lib.hid ?_, Lib.hid ((HB.out.trans (HB7.out.mono HB.out.size)).setCell HGB.out _)⟩
        have how7 : W7.ownsRow w.heap.size 63 3 (.slice (some ⟨g, 0, none⟩) N c) N xs := own_stays HOW.out fun q hq => by
          simp only [Value.ownBlock, Option.some.injEq] at hq
          rw [← hq]
          exact HB7.out.block g hg
        have hs := (how7.stored (k * 3 + 1) (.slice A3 x.args.length c3)).1
        have hty : Ty W7 g 63 := own_ty how7 g rfl
        have kset : ∀ q, It W7 q → It (W7.setCell ⟨g, k * 3 + 1, none⟩ (.slice A3 x.args.length c3)) q ∧ (W7.setCell ⟨g, k * 3 + 1, none⟩ (.slice A3 x.args.length c3)).heap[q]? = W7.heap[q]? := fun q hq => by
          have e := Below.heap_setCell W7 ⟨g, k * 3 + 1, none⟩ (.slice A3 x.args.length c3) q (hq.ne hty (by decide))
          exact ⟨Ty.stays hq e, e⟩
        have hsz : W7.heap.size ≤ (W7.setCell ⟨g, k * 3 + 1, none⟩ (.slice A3 x.args.length c3)).heap.size := by simp [World.setCell]
        refine ⟨_, hs, ?_⟩
        have hc8 : Ch (FnnC (W7.setCell ⟨g, k * 3 + 1, none⟩ (.slice A3 x.args.length c3)) (It (W7.setCell ⟨g, k * 3 + 1, none⟩ (.slice A3 x.args.length c3)))) (S.funs) xs := HCK.out.mono fun _ _ _ => FnnC.stays (Nat.le_trans HB7.out.size hsz) fun q hq hl => by
          have e7 : It W7 q := Ty.stays hq (HB7.out.block q hl)
          exact ⟨(kset q e7).1, (kset q e7).2.trans (HB7.out.block q hl)⟩
        have := hc8.setAt (i := 1) (u := .slice A3 x.args.length c3) FnnC.len (by omega) k (by rw [HN.out]; exact hlt) (fun ds hd => by
          rw [HX.out] at hd ⊢
          obtain ⟨A4, c4, rfl, _⟩ := hd
          exact ⟨A3, c3, rfl, HR3.out.stays hsz fun q hq _ => kset q hq.2.2⟩)
        exact this
      case measure => simp [intOf]; omega
    · obtain rfl : k = N := by omega
      have g7 : ¬ ((k : Int) < (k : Int)) := by omega
      go_wp2_with fail
      go_ret
      obtain ⟨xs, how, hchk⟩ := HK.out
      exact ⟨_, rfl, Lib.hid ⟨xs, by rw [HN.out]; exact own_mono how (Nat.zero_le _), hchk⟩, HB⟩
set_option maxRecDepth 100000 in
set_option maxHeartbeats 4000000 in
theorem buckets_any {w : World} {F : Nat → Prop} {a : Nat} {S : St} (H : Hid (Ar w F a S)) (HS : Hid (Sz S)) {n : Nat} (hnb : Hid (Nb n S.terms.length)) :
    Calls Tryd.prog 21 #[.pointer (some ⟨a, 0, none⟩)] w fun e w' => ∃ v, e = .returned v ∧ Hid (Vw w' 33 1 (BkC w' (It w')) (bkts S n) v) ∧ Hid (Below w.heap.size w w') := by
  obtain ⟨I, J, sv, fv, tv, mb, ib, nb, hax⟩ := H.out
  obtain rfl := hax.nb.unique hnb.out
  have hal := Lib.hid (bkts_small HS.out nb)
  obtain ⟨hv, bv, hbt, hro⟩ := hax.tab.ro
  have hlen : (bkts S nb).length ≤ 4000000 := by rw [bkts_len]; exact hax.nb.le HS.out.t
  have HBX := Lib.hid hax.box
  have HBT := Lib.hid hbt
  clear hax hbt
  obtain ⟨As, cs, hsl, hA0, _⟩ := hro.slice
  subst hsl
  obtain ⟨N, hN⟩ : ∃ N, (bkts S nb).length = N := ⟨_, rfl⟩
  have HN := Lib.hid hN
  rw [hN] at hA0
  have HN2 : Hid (N ≤ 4000000) := Lib.hid (by rw [← hN]; exact hlen)
  obtain ⟨news, hch, hnl, hnews⟩ := ro_news hro rfl
  rw [hN] at hnl
  have HCH : Hid (Ch (BkC w (It w)) (bkts S nb) news) := Lib.hid hch
  have CL := cloneInts (w := w) (A := As) (n := N) (c := cs) (news := news) hA0 hnl (Lib.hid hnews) (Lib.hid (hch.one BkC.one)) HN2.out
  have HCL := Lib.hid CL
  have b5 := HBX.out.cell 5
  have hla := HBX.out.lt
  have d1 := HBT.out.cell 1
  have hlb := HBT.out.lt
  rw [hN] at d1
  clear CL hch hnl hnews hN hro hA0
  go_enter Tryd.func21, Tryd.ntmps21
  go_upto_region 2 with (go_at_call 39; refine HCL.out.mono ?_; rintro e W1 ⟨v, rfl, HO1, HB1⟩)
  obtain ⟨A, c, hv, hA1, _⟩ := own_slice HO1.out
  subst hv
  clear hA1
  have hn2 := HN2.out
  go_upto_region 3 with fail
  go_loopw [15] (fun iv wr => ∃ k : Nat, k ≤ N ∧ iv = .int .i64 (k : Int) ∧ Hid (∃ xs, wr.ownsRow w.heap.size 33 1 (.slice A N c) N xs ∧ Ch (BkC wr (It wr)) (bkts S nb) xs) ∧ Hid (Below w.heap.size w wr)) (fun iv _ => N - (intOf iv).toNat)
  case atStart => exact ⟨0, Nat.zero_le _, rfl, Lib.hid ⟨_, HO1.out, HCH.out.mono fun _ _ _ => BkC.stays HB1.out.size fun g hg hl => ⟨Ty.stays hg (HB1.out.block g hl), HB1.out.block g hl⟩⟩, HB1⟩
  case round =>
    clear HO1 HB1
    obtain ⟨k, hk, rfl, HK, HB⟩ := hrel
    by_cases hlt : k < N
    · have g7 : (k : Int) < (N : Int) := by omega
      obtain ⟨xs, how, hchk⟩ := HK.out
      have HOW := Lib.hid how
      have HCK := Lib.hid hchk
      obtain ⟨g, cc, eA, hg, _, hcell, hfr⟩ := own_pos how (by omega)
      obtain ⟨ds, hok, hds⟩ := hchk.at_ BkC.len k (by rw [HN.out]; exact hlt)
      injection eA with eA _ eC
      subst eA eC
      obtain ⟨x, hx⟩ : ∃ x, (bkts S nb)[k]'(by rw [HN.out]; exact hlt) = x := ⟨_, rfl⟩
      have HX := Lib.hid hx
      rw [hx] at hok
      obtain ⟨A2, c2, hds2, hri⟩ := hok
      have hxl : x.length ≤ 1000000 := hal.out x (hx ▸ List.getElem_mem _)
      have HRI := Lib.hid hri
      have hcl : wr.cell? ⟨g, k, none⟩ = some (.slice A2 x.length c2) := by
        have h1 := hds 0 (by omega)
        rw [hds2] at h1
        rw [show k = k * 1 + 0 by omega, hcell _ (by omega)]
        exact h1
      have HGB : Hid (w.heap.size ≤ g) := Lib.hid (how.lt g rfl).1
      have HFR : Hid (wr.frozen? ⟨g, k, none⟩ = false) := Lib.hid (hfr _)
      clear hx hri hds hds2 how hchk hcell hfr
      go_wp2_with (go_at_call 36; refine (clone_any HRI hxl).mono ?_; rintro e W7 ⟨A3, c3, rfl, HR3, HB7⟩; have HC7 : W7.cell? ⟨g, k, none⟩ = some (.slice A2 x.length c2) := ((HB7.out.cell (p := ⟨g, k, none⟩) hg).trans hcl); have HF7 : W7.frozen? ⟨g, k, none⟩ = false := ((HB7.out.frozen (p := ⟨g, k, none⟩) hg).trans HFR.out); have hg7 : g < W7.heap.size := Nat.lt_of_lt_of_le hg HB7.out.size)
      go_roundw
      case rel =>
        refine ⟨k + 1, by omega, by go_num, Lib.hid ?_, Lib.hid ((HB.out.trans (HB7.out.mono HB.out.size)).setCell HGB.out _)⟩
        have how7 : W7.ownsRow w.heap.size 33 1 (.slice (some ⟨g, 0, none⟩) N c) N xs := own_stays HOW.out fun q hq => by
          simp only [Value.ownBlock, Option.some.injEq] at hq
          rw [← hq]
          exact HB7.out.block g hg
        have hs := (how7.stored (k) (.slice A3 x.length c3)).1
        have hty : Ty W7 g 33 := own_ty how7 g rfl
        have kset : ∀ q, It W7 q → It (W7.setCell ⟨g, k, none⟩ (.slice A3 x.length c3)) q ∧ (W7.setCell ⟨g, k, none⟩ (.slice A3 x.length c3)).heap[q]? = W7.heap[q]? := fun q hq => by
          have e := Below.heap_setCell W7 ⟨g, k, none⟩ (.slice A3 x.length c3) q (hq.ne hty (by decide))
          exact ⟨Ty.stays hq e, e⟩
        have hsz : W7.heap.size ≤ (W7.setCell ⟨g, k, none⟩ (.slice A3 x.length c3)).heap.size := by simp [World.setCell]
        refine ⟨_, hs, ?_⟩
        have hc8 : Ch (BkC (W7.setCell ⟨g, k, none⟩ (.slice A3 x.length c3)) (It (W7.setCell ⟨g, k, none⟩ (.slice A3 x.length c3)))) (bkts S nb) xs := HCK.out.mono fun _ _ _ => BkC.stays (Nat.le_trans HB7.out.size hsz) fun q hq hl => by
          have e7 : It W7 q := Ty.stays hq (HB7.out.block q hl)
          exact ⟨(kset q e7).1, (kset q e7).2.trans (HB7.out.block q hl)⟩
        have := hc8.setAt (i := 0) (u := .slice A3 x.length c3) BkC.len (by omega) k (by rw [HN.out]; exact hlt) (fun ds hd => by
          rw [HX.out] at hd ⊢
          obtain ⟨A4, c4, rfl, _⟩ := hd
          exact ⟨A3, c3, rfl, HR3.out.stays hsz fun q hq _ => kset q hq.2.2⟩)
        rw [Nat.mul_one, Nat.add_zero] at this
        exact this
      case measure => simp [intOf]; omega
    · obtain rfl : k = N := by omega
      have g7 : ¬ ((k : Int) < (k : Int)) := by omega
      go_wp2_with fail
      go_ret
      obtain ⟨xs, how, hchk⟩ := HK.out
      exact ⟨_, rfl, Lib.hid ⟨xs, by rw [HN.out]; exact own_mono how (Nat.zero_le _), hchk⟩, HB⟩
end Go.Proofs.YtdnhhfhjjimcgaaDoor.dg
