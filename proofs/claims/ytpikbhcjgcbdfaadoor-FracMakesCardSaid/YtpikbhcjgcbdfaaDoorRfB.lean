/- The document's answer Neg. The document's answer cmp, of decimal digits. The document's answer Cmp. The document's answer add, of decimal digits. The document's answer sub, of decimal digits. The document's answer Add. The document's answer Of. -/
import Derived.Test.YtpikbhcjgcbdfaaDoorRfA
/- The document's answer Neg. -/
namespace Go.Proofs.YtpikbhcjgcbdfaaDoor.wh
open Go.RowKit

theorem tz_not {neg : Bool} {ds : List Nat} {z : Int} (h : tz neg ds = z) : tz (!neg) ds = -z := by
  subst h
  cases neg <;> simp [tz]

set_option maxRecDepth 100000 in
set_option maxHeartbeats 1000000 in
theorem refNeg_any {v : Value} {m : Nat} {z : Int} {w : World} (hm : m ≤ 1000) (hv : IsNum w w.heap.size m v z) :
    Calls Tryd.prog 23 #[v] w fun e w' => GivesNum w m (-z) e w' := by
  obtain ⟨neg, A, n, c, ds, rfl, hl, hr, hnm, hnc, hd, ht, hn0, hz⟩ := hv
  have HB : Hid (Below w.heap.size w ((w.alloc (.cells #[.bool neg, .slice A n c] 29)).alloc (.cells #[.bool false, .slice none 0 0] 29))) := ((Below.refl _ _).alloc (Nat.le_refl _) _).alloc (by simp) _
  have HX : Hid (BoxN ((w.alloc (.cells #[.bool neg, .slice A n c] 29)).alloc (.cells #[.bool false, .slice none 0 0] 29)) (w.heap.size + 1) false none 0 0) := by
    have h := BoxN.new (w.alloc (.cells #[.bool neg, .slice A n c] 29)) false none 0 0
    rwa [World.size_alloc] at h
  have HL := Lib.hid hl
  have HR := Lib.hid hr
  have HD := Lib.hid hd
  have HZ := Lib.hid (tz_not hz)
  clear hl hr hd ht hn0 hz
  go_enter Tryd.func23, Tryd.ntmps23
  go_wp2_with fail
  refine (make1_any (!neg) A n c ds _ HL.out (by omega) hnc (HR.out.over HB.out) HD.out).mono ?_
  rintro e w2 ⟨neg2, A2, n2, c2, rfl, hi2, hb2⟩
  have hx2 := HX.out.over hb2.out
  have c0 := hx2.c0
  have c1 := hx2.c1
  have f0 := hx2.f0
  have f1 := hx2.f1
  have d0 := (hx2.put neg2 A2 n2 c2).c0
  have d1 := (hx2.put neg2 A2 n2 c2).c1
  have HI := Lib.hid (hi2.out.put hx2 neg2 A2 n2 c2)
  have HBL : Hid (Below w.heap.size w (put2 w2 (w.heap.size + 1) neg2 A2 n2 c2)) := below_put (HB.out.trans (hb2.out.mono HB.out.size)) (by omega) _ _ _ _
  have HSZ := Lib.hid (put2_size w2 (w.heap.size + 1) neg2 A2 n2 c2)
  clear hx2
  go_wp2
  refine bodyPost_ret (v := .agg #[.bool neg2, .slice A2 n2 c2]) (by simp [results, Tryd.results23, go_sem, d0, d1]) rfl ⟨neg2, A2, n2, c2, rfl, ?_, HBL⟩
  have h : IsNum (put2 w2 (w.heap.size + 1) neg2 A2 n2 c2) (put2 w2 (w.heap.size + 1) neg2 A2 n2 c2).heap.size m _ _ := HI.out.more (by rw [HSZ.out]; exact Nat.le_refl _) hnm
  rw [HZ.out] at h
  exact h
end Go.Proofs.YtpikbhcjgcbdfaaDoor.wh

/- The document's answer cmp, of decimal digits. -/
namespace Go.Proofs.YtpikbhcjgcbdfaaDoor.wh
open Go.RowKit

/-- decimal digits without noughts last, in memory -/
structure Tens (w : World) (n c : Nat) (A : Option Addr) (ds : List Nat) : Prop where
  len : ds.length = n
  rd : Rn w w.heap.size A ds
  cap : n ≤ c
  ten : Ten ds
  top : Top ds
theorem Tens.over {w w' : World} {n c : Nat} {A : Option Addr} {ds : List Nat} (h : Tens w n c A ds) (hb : Below w.heap.size w w') : Tens w' n c A ds := ⟨h.len, h.rd.over hb, h.cap, h.ten, h.top⟩

theorem ttop_len {a : List Nat} (h : Top a) {m : Nat} (hm : tval a < 10 ^ m) : a.length ≤ m := by
  rcases Nat.lt_or_ge m a.length with hlt | hge
  · have hn : a ≠ [] := fun e => by subst e; simp at hlt
    have h1 := ttop_ge h hn
    have h2 : 10 ^ m ≤ 10 ^ (a.length - 1) := Nat.pow_le_pow_right (by omega) (by omega)
    omega
  · exact hge
theorem ttop_short {a b : List Nat} (ha : Ten a) (tb : Top b) (hl : a.length < b.length) : tval a < tval b := by
  have hn : b ≠ [] := fun e => by subst e; simp at hl
  have h1 := tval_lt ha
  have h2 := ttop_ge tb hn
  have h3 : 10 ^ a.length ≤ 10 ^ (b.length - 1) := Nat.pow_le_pow_right (by omega) (by omega)
  omega
/-- where all digits behind k are one, digit k tells which is less -/
theorem tval_at {a b : List Nat} (ha : Ten a) (k : Nat) (hka : k < a.length) (hkb : k < b.length) (hd : a.drop (k + 1) = b.drop (k + 1)) (h : a[k] < b[k]) : tval a < tval b := by
  have e1 := tval_split a k (by omega)
  have e2 := tval_split b k (by omega)
  rw [tval_drop hka, hd] at e1
  rw [tval_drop hkb] at e2
  have l1 := tval_lt (ha.take k)
  rw [List.length_take, Nat.min_eq_left (by omega)] at l1
  have h1 : 10 ^ k * (a[k] + 1 + 10 * tval (b.drop (k + 1))) ≤ 10 ^ k * (b[k] + 10 * tval (b.drop (k + 1))) := Nat.mul_le_mul_left _ (by omega)
  have h2 : 10 ^ k * (a[k] + 1 + 10 * tval (b.drop (k + 1))) = 10 ^ k * (a[k] + 10 * tval (b.drop (k + 1))) + 10 ^ k := by
    rw [show a[k] + 1 + 10 * tval (b.drop (k + 1)) = (a[k] + 10 * tval (b.drop (k + 1))) + 1 by omega, Nat.mul_add, Nat.mul_one]
  omega

set_option maxRecDepth 100000 in
set_option maxHeartbeats 1000000 in
theorem refcmp_any {A B : Option Addr} {n c m d : Nat} {xs ys : List Nat} {w : World} (hx : Tens w n c A xs) (hy : Tens w m d B ys) (hn : n ≤ 100000) :
    Calls Tryd.prog 68 #[.slice A n c, .slice B m d] w fun e w' => e = .returned (.int .i64 (cmpN (tval xs) (tval ys))) ∧ Hid (Below w.heap.size w w') := by
  have HX := Lib.hid hx
  have HY := Lib.hid hy
  clear hx hy
  by_cases hnm : n = m
  · subst hnm
    have wn : IntKind.i64.wrap ((n : Int) - 1) = (n : Int) - 1 := IntWalk.i64_in _ (by omega)
    go_enter Tryd.func68, Tryd.ntmps68
    go_wp2
    go_loopw [5] (fun iv wr => (∃ (k : Nat) (z : Int), k ≤ n ∧ iv = .int .i64 z ∧ Hid (z = (k : Int) - 1) ∧ Hid (xs.drop k = ys.drop k)) ∧ Hid (Below w.heap.size w wr)) (fun iv _ => (intOf iv + 1).toNat)
    case atStart => exact ⟨⟨n, _, Nat.le_refl _, rfl, rfl, by show _ = _; rw [List.drop_eq_nil_of_le (by rw [HX.out.len]; exact Nat.le_refl _), List.drop_eq_nil_of_le (by rw [HY.out.len]; exact Nat.le_refl _)]⟩, Below.refl _ _⟩
    case round =>
      obtain ⟨⟨k, z, hk, rfl, hz, hdr⟩, hb⟩ := hrel
      cases k with
      | zero =>
        obtain rfl : z = -1 := by have := hz.out; omega
        have HE : Hid (cmpN (tval xs) (tval ys) = 0) := by
          have h := hdr.out
          rw [List.drop_zero, List.drop_zero] at h
          show _ = _
          rw [h]
          simp [cmpN]
        go_wp2
        (try simp only [Exit.inBlock, Exit.then])
        go_ret
        exact ⟨by rw [HE.out]; rfl, hb⟩
      | succ k =>
        obtain rfl : z = (k : Int) := by have := hz.out; omega
        have hkx : k < xs.length := by rw [HX.out.len]; omega
        have hky : k < ys.length := by rw [HY.out.len]; omega
        obtain ⟨b1, o1, rfl, _, cx⟩ := (HX.out.over hb.out).rd.at_ hkx
        obtain ⟨b2, o2, rfl, _, cy⟩ := (HY.out.over hb.out).rd.at_ hky
        obtain ⟨x, hxx⟩ : ∃ x, x = xs[k] := ⟨_, rfl⟩
        obtain ⟨y, hyy⟩ : ∃ y, y = ys[k] := ⟨_, rfl⟩
        rw [← hxx] at cx
        rw [← hyy] at cy
        have kb : (k : Int) < (n : Int) := by omega
        have k0 : (0 : Int) ≤ (k : Int) := by omega
        have HXX : Hid (∀ h : k < xs.length, x = xs[k]'h) := fun _ => hxx
        have HYY : Hid (∀ h : k < ys.length, y = ys[k]'h) := fun _ => hyy
        clear hxx hyy
        by_cases hxy : x = y
        · subst hxy
          have HDR : Hid (xs.drop k = ys.drop k) := by
            show _ = _
            rw [List.drop_eq_getElem_cons hkx, List.drop_eq_getElem_cons hky, ← HXX.out hkx, ← HYY.out hky, hdr.out]
          go_wp2
          go_region_held3 (fun w' => w'.cell? ⟨b1, o1 + k, none⟩ = some (.int .i64 (x : Int)) ∧ w'.cell? ⟨b2, o2 + k, none⟩ = some (.int .i64 (x : Int))) (first | (exact ⟨cx, cy⟩) | assumption) (fail)
          go_wp2
          go_roundw
          case rel => exact ⟨⟨k, _, by omega, rfl, rfl, HDR⟩, hb.out.drew⟩
          case measure => simp [intOf]
        have hne : ((x : Int) == (y : Int)) = false := by rw [beq_eq_false_iff_ne]; omega
        by_cases hc : x < y
        · skip
          have hlt : (x : Int) < (y : Int) := by omega
          have HE : Hid (cmpN (tval xs) (tval ys) = -1) := by
            have h := tval_at HX.out.ten k hkx hky hdr.out (by rw [← HXX.out hkx, ← HYY.out hky]; omega)
            show _ = _
            unfold cmpN
            rw [if_pos h]
          clear hxy hc
          go_wp2
          go_region_held3 (fun w' => w'.cell? ⟨b1, o1 + k, none⟩ = some (.int .i64 (x : Int)) ∧ w'.cell? ⟨b2, o2 + k, none⟩ = some (.int .i64 (y : Int))) (first | (exact ⟨cx, cy⟩) | assumption) (fail)
          go_wp2
          go_region_held3 (fun w' => w'.cell? ⟨b1, o1 + k, none⟩ = some (.int .i64 (x : Int)) ∧ w'.cell? ⟨b2, o2 + k, none⟩ = some (.int .i64 (y : Int))) (first | (exact ⟨cx, cy⟩) | assumption) (fail)
          go_wp2
          (try simp only [Exit.inBlock, Exit.then])
          go_ret
          exact ⟨by rw [HE.out]; rfl, by show Below _ _ _; exact hb.out.drew.drew⟩
        · skip
          have hlt : ¬ (x : Int) < (y : Int) := by omega
          have HE : Hid (cmpN (tval xs) (tval ys) = 1) := by
            have h := tval_at HY.out.ten k hky hkx hdr.out.symm (by rw [← HXX.out hkx, ← HYY.out hky]; omega)
            show _ = _
            unfold cmpN
            rw [if_neg (by omega), if_pos h]
          clear hxy hc
          go_wp2
          go_region_held3 (fun w' => w'.cell? ⟨b1, o1 + k, none⟩ = some (.int .i64 (x : Int)) ∧ w'.cell? ⟨b2, o2 + k, none⟩ = some (.int .i64 (y : Int))) (first | (exact ⟨cx, cy⟩) | assumption) (fail)
          go_wp2
          go_region_held3 (fun w' => w'.cell? ⟨b1, o1 + k, none⟩ = some (.int .i64 (x : Int)) ∧ w'.cell? ⟨b2, o2 + k, none⟩ = some (.int .i64 (y : Int))) (first | (exact ⟨cx, cy⟩) | assumption) (fail)
          go_wp2
          (try simp only [Exit.inBlock, Exit.then])
          go_ret
          exact ⟨by rw [HE.out]; rfl, by show Below _ _ _; exact hb.out.drew.drew⟩
  · have hne : ((n : Int) == (m : Int)) = false := by rw [beq_eq_false_iff_ne]; omega
    by_cases hc : n < m
    · have hlt : (n : Int) < (m : Int) := by omega
      have HE : Hid (cmpN (tval xs) (tval ys) = -1) := cmpN_lt (ttop_short HX.out.ten HY.out.top (by rw [HX.out.len, HY.out.len]; exact hc))
      clear hnm hc
      go_enter Tryd.func68, Tryd.ntmps68
      go_wp2
      go_ret
      exact ⟨by rw [HE.out]; rfl, Below.refl _ _⟩
    · have hlt : ¬ (n : Int) < (m : Int) := by omega
      have HE : Hid (cmpN (tval xs) (tval ys) = 1) := by
        have h := ttop_short HY.out.ten HX.out.top (by rw [HX.out.len, HY.out.len]; omega)
        show _ = _
        unfold cmpN
        rw [if_neg (by omega), if_pos h]
      clear hnm hc
      go_enter Tryd.func68, Tryd.ntmps68
      go_wp2
      go_ret
      exact ⟨by rw [HE.out]; rfl, Below.refl _ _⟩
end Go.Proofs.YtpikbhcjgcbdfaaDoor.wh

/- The document's answer Cmp. -/
namespace Go.Proofs.YtpikbhcjgcbdfaaDoor.wh
open Go.RowKit

theorem ttop_pos {ds : List Nat} (h : Top ds) (hn : ds ≠ []) : 0 < tval ds := by
  have h1 := ttop_ge h hn
  have h2 : 0 < 10 ^ (ds.length - 1) := Nat.pow_pos (by omega)
  omega
theorem IsNum.tens {w : World} {m : Nat} {v : Value} {z : Int} (h : IsNum w w.heap.size m v z) : ∃ neg A n c ds, v = .agg #[.bool neg, .slice A n c] ∧ n ≤ m ∧ Hid (Tens w n c A ds) ∧ Hid (tz neg ds = z) ∧ Hid (neg = true → 0 < tval ds) := by
  obtain ⟨neg, A, n, c, ds, h1, h2, h3, h4, h5, h6, h7, h8, h9⟩ := h
  refine ⟨neg, A, n, c, ds, h1, h4, ⟨h2, h3, h5, h6, h7⟩, h9, fun h => ttop_pos h7 fun e => ?_⟩
  rw [h8 e] at h
  cases h
theorem cmp_tz {nx ny : Bool} {xs ys : List Nat} (hx : nx = true → 0 < tval xs) (hy : ny = true → 0 < tval ys) :
    cmpZ (tz nx xs) (tz ny ys) = (if nx && ny then cmpN (tval ys) (tval xs) else if nx then -1 else if ny then 1 else cmpN (tval xs) (tval ys)) := by
  cases nx <;> cases ny <;> simp only [tz, cmpZ, cmpN, Bool.and_self, Bool.and_true, Bool.and_false, Bool.false_eq_true, if_true, if_false]
  · have e1 : ((tval xs : Int) < (tval ys : Int)) = (tval xs < tval ys) := by simp
    have e2 : ((tval ys : Int) < (tval xs : Int)) = (tval ys < tval xs) := by simp
    simp only [e1, e2]
  · have := hy rfl
    rw [if_neg (by omega), if_pos (by omega)]
  · have := hx rfl
    rw [if_pos (by omega)]
  · have e1 : (-(tval xs : Int) < -(tval ys : Int)) = (tval ys < tval xs) := by simp
    have e2 : (-(tval ys : Int) < -(tval xs : Int)) = (tval xs < tval ys) := by simp
    simp only [e1, e2]

set_option maxRecDepth 100000 in
set_option maxHeartbeats 1000000 in
theorem refCmp_any {v u : Value} {p q : Nat} {a b : Int} {w : World} (hp : p ≤ 1000) (hq : q ≤ 1000) (hx : IsNum w w.heap.size p v a) (hy : IsNum w w.heap.size q u b) :
    Calls Tryd.prog 27 #[v, u] w fun e w' => e = .returned (.int .i64 (cmpZ a b)) ∧ Hid (Below w.heap.size w w') := by
  obtain ⟨nx, A, n, c, xs, rfl, hnp, TX, ZX, PX⟩ := hx.tens
  obtain ⟨ny, B, m, d, ys, rfl, hmq, TY, ZY, PY⟩ := hy.tens
  clear hx hy
  have HZ : Hid (cmpZ a b = (if nx && ny then cmpN (tval ys) (tval xs) else if nx then -1 else if ny then 1 else cmpN (tval xs) (tval ys))) := by
    show _ = _
    rw [← ZX.out, ← ZY.out]
    exact cmp_tz PX.out PY.out
  have HB : Hid (Below w.heap.size w ((w.alloc (.cells #[.bool nx, .slice A n c] 29)).alloc (.cells #[.bool ny, .slice B m d] 29))) := ((Below.refl _ _).alloc (Nat.le_refl _) _).alloc (by simp) _
  clear ZX ZY PX PY
  cases nx with
  | true =>
    cases ny with
    | true =>
      go_enter Tryd.func27, Tryd.ntmps27
      go_wp2_with fail
      refine (refcmp_any (TY.out.over HB.out) (TX.out.over HB.out) (by omega)).mono ?_
      rintro e w2 ⟨rfl, hb2⟩
      go_wp2
      go_ret
      exact ⟨by rw [HZ.out]; rfl, HB.out.trans (hb2.out.mono HB.out.size)⟩
    | false =>
      go_enter Tryd.func27, Tryd.ntmps27
      go_wp2
      go_ret
      exact ⟨by rw [HZ.out]; rfl, HB⟩
  | false =>
    cases ny with
    | true =>
      go_enter Tryd.func27, Tryd.ntmps27
      go_wp2
      go_ret
      exact ⟨by rw [HZ.out]; rfl, HB⟩
    | false =>
      go_enter Tryd.func27, Tryd.ntmps27
      go_wp2_with fail
      refine (refcmp_any (TX.out.over HB.out) (TY.out.over HB.out) (by omega)).mono ?_
      rintro e w2 ⟨rfl, hb2⟩
      go_wp2
      go_ret
      exact ⟨by rw [HZ.out]; rfl, HB.out.trans (hb2.out.mono HB.out.size)⟩
end Go.Proofs.YtpikbhcjgcbdfaaDoor.wh

/- The document's answer add, of decimal digits. -/
namespace Go.Proofs.YtpikbhcjgcbdfaaDoor.wh
open Go.RowKit

/-- the digit at k, 0 behind the last one -/
def at0 (ds : List Nat) (k : Nat) : Nat := ds.getD k 0
theorem at0_in {ds : List Nat} {k : Nat} (h : k < ds.length) : at0 ds k = ds[k] := by
  unfold at0
  rw [List.getD_eq_getElem?_getD, List.getElem?_eq_getElem h, Option.getD_some]
theorem at0_out {ds : List Nat} {k : Nat} (h : ds.length ≤ k) : at0 ds k = 0 := by
  unfold at0
  rw [List.getD_eq_getElem?_getD, List.getElem?_eq_none h, Option.getD_none]
theorem at0_lt {ds : List Nat} (h : Ten ds) (k : Nat) : at0 ds k < 10 := by
  rcases Nat.lt_or_ge k ds.length with hk | hk
  · rw [at0_in hk]; exact h.get k hk
  · rw [at0_out hk]; omega
theorem tval_take_at (ds : List Nat) (k : Nat) : tval (ds.take (k + 1)) = tval (ds.take k) + 10 ^ k * at0 ds k := by
  rcases Nat.lt_or_ge k ds.length with hk | hk
  · rw [List.take_succ_eq_append_getElem hk, tval_snoc, List.length_take, Nat.min_eq_left (by omega), at0_in hk]
  · rw [List.take_of_length_le (by omega), List.take_of_length_le hk, at0_out hk, Nat.mul_zero, Nat.add_zero]
/-- after k digits of a sum -/
def TAdd (xs ys : List Nat) (k : Nat) (res : List Nat) (q : Nat) : Prop := res.length = k ∧ Ten res ∧ q ≤ 1 ∧ tval res + 10 ^ k * q = tval (xs.take k) + tval (ys.take k)
theorem tadd_step {xs ys res : List Nat} {k q s r q' : Nat} (hx : Ten xs) (hy : Ten ys) (h : TAdd xs ys k res q) (hs : s = q + at0 xs k + at0 ys k) (hr : r = s % 10) (hq : q' = s / 10) : TAdd xs ys (k + 1) (res ++ [r]) q' := by
  obtain ⟨h1, h2, h3, h4⟩ := h
  have a1 := at0_lt hx k
  have a2 := at0_lt hy k
  refine ⟨by simp [h1], h2.append (Ten.cons (by omega) Ten.nil), by omega, ?_⟩
  rw [tval_snoc, h1, tval_take_at, tval_take_at, Nat.pow_succ]
  have e1 : s = r + 10 * q' := by omega
  have e2 : 10 ^ k * s = 10 ^ k * r + 10 ^ k * 10 * q' := by rw [e1, Nat.mul_add, Nat.mul_assoc]
  have e3 : 10 ^ k * s = 10 ^ k * q + 10 ^ k * at0 xs k + 10 ^ k * at0 ys k := by rw [hs, Nat.mul_add, Nat.mul_add]
  omega
def RowN (w : World) (A : Option Addr) (n c v : Nat) : Prop := ∃ ds, ds.length = n ∧ n ≤ c ∧ Rn w w.heap.size A ds ∧ Ten ds ∧ tval ds = v

set_option maxRecDepth 100000 in
set_option maxHeartbeats 2000000 in
theorem refadd_any {A B : Option Addr} {n c m d : Nat} {xs ys : List Nat} {w : World} (hx : Tens w n c A xs) (hy : Tens w m d B ys) (hn : n ≤ 2000) (hm : m ≤ 2000) :
    Calls Tryd.prog 71 #[.slice A n c, .slice B m d] w fun e w' => ∃ A2 n2 c2, e = .returned (.slice A2 n2 c2) ∧ n2 ≤ max n m + 1 ∧ Hid (RowN w' A2 n2 c2 (tval xs + tval ys)) ∧ Hid (Below w.heap.size w w') := by
  obtain ⟨i0, hi, hz0, hz1, hz2⟩ := info_parts info_int
  have HX := Lib.hid hx
  have HY := Lib.hid hy
  clear hx hy
  have HB : Hid (Below w.heap.size w (w.alloc (.cells #[] 3))) := (Below.refl _ _).alloc (Nat.le_refl _) _
  have HOWN : Hid ((w.alloc (.cells #[] 3)).ownsRow w.heap.size 3 1 (.slice (some ⟨w.heap.size, 0, none⟩) 0 0) 0 (i64s [])) :=
    World.ownsRow_made w (base := w.heap.size) (e := 3) (size := 1) #[] 0 (by simp) (by unfold maxLen; omega) rfl
  go_enter Tryd.func71, Tryd.ntmps71
  go_wp2
  go_loopw [5, 6, 7] (fun ov cv iv wr => (∃ (k q : Nat) (res : List Nat) (A3 : Option Addr) (c3 : Nat), k ≤ max n m + 1 ∧ (max n m < k → q = 0) ∧ cv = .int .i64 (q : Int) ∧ iv = .int .i64 (k : Int) ∧ q ≤ 1 ∧ ov = .slice A3 k c3 ∧ Hid (TAdd xs ys k res q) ∧ Hid (wr.ownsRow w.heap.size 3 1 (.slice A3 k c3) k (i64s res))) ∧ Hid (Below w.heap.size w wr)) (fun _ _ iv _ => max n m + 1 - (intOf iv).toNat)
  case atStart => exact ⟨⟨0, 0, [], _, _, by omega, fun _ => rfl, rfl, rfl, by omega, rfl, ⟨rfl, Ten.nil, by omega, by simp [tval]⟩, HOWN.out⟩, HB⟩
  case round =>
    obtain ⟨⟨k, q, res, A3, c3, hk, hkq, rfl, rfl, hq, rfl, hat, hown⟩, hb⟩ := hrel
    have hk4 : (k : Int) ≤ 2001 := by omega
    have HM : Hid (k + 1 ≤ maxLen ∧ (k + 1) * 8 ≤ 140737488355328) := by constructor <;> (try unfold maxLen) <;> omega
    by_cases hxk : k < n
    · have gx : (k : Int) < (n : Int) := by omega
      have hxl : k < xs.length := by rw [HX.out.len]; exact hxk
      obtain ⟨b1, o1, rfl, _, cx⟩ := (HX.out.over hb.out).rd.at_ hxl
      rw [← at0_in hxl] at cx
      obtain ⟨x, hxx⟩ : ∃ x, x = at0 xs k := ⟨_, rfl⟩
      rw [← hxx] at cx
      have hx9 : x < 10 := by rw [hxx]; exact at0_lt HX.out.ten k
      have HXX := Lib.hid hxx
      clear hxx
      by_cases hyk : k < m
      · have gy : (k : Int) < (m : Int) := by omega
        have hyl : k < ys.length := by rw [HY.out.len]; exact hyk
        obtain ⟨b2, o2, rfl, _, cy⟩ := (HY.out.over hb.out).rd.at_ hyl
        rw [← at0_in hyl] at cy
        obtain ⟨y, hyy⟩ : ∃ y, y = at0 ys k := ⟨_, rfl⟩
        rw [← hyy] at cy
        have hy9 : y < 10 := by rw [hyy]; exact at0_lt HY.out.ten k
        have HYY := Lib.hid hyy
        clear hyy
        obtain ⟨s, hs⟩ : ∃ s, s = q + x + y := ⟨_, rfl⟩
        have e1 : (q : Int) + (x : Int) + (y : Int) = (s : Int) := by omega
        have s9 : s ≤ 19 := by omega
        obtain ⟨r, hr⟩ : ∃ r, r = s % 10 := ⟨_, rfl⟩
        obtain ⟨q', hq'⟩ : ∃ q', q' = s / 10 := ⟨_, rfl⟩
        have r1 : (s : Int) % 10 = (r : Int) := by omega
        have r2 : (s : Int) / 10 = (q' : Int) := by omega
        have HST := Lib.hid (tadd_step (s := s) (r := r) (q' := q') HX.out.ten HY.out.ten hat.out (by rw [← HXX.out, ← HYY.out]; omega) hr hq')
        have hqn : max n m < k + 1 → q' = 0 := fun h => by omega
        have q1 : q' ≤ 1 := by omega
        have hkm : k ≤ max n m := by omega
        clear hs hr hq'
        go_wp2_with (at_builtin; refine wpList_append_own _ rfl _ _ 27 rfl w.heap.size 3 i0 (.int .i64 0) 1 8 Tryd.underlying27 hi hz0 hz1 hz2 rfl (by decide) _ _ _ rfl (hown.out.alloc _) ⟨wr.heap.size, 0, none⟩ 1 1 [.int .i64 (r : Int)] rfl rfl (one_cell _ _ _) (one_one _ _) HM.out.1 HM.out.2 (by have := hb.out.size; simp at this ⊢; try omega) ?_)
        intro v' w3 hown' hgrow _
        obtain ⟨A4, c4, rfl, hc4⟩ := own_row hown'
        have HB3 : Hid (Below w.heap.size w w3) := (hb.out.alloc hb.out.size _).grown hgrow (by have := hb.out.size; simp; omega) (fun g hg => by have := (hown.out.lt g hg).1; omega)
        have HO3 : Hid (w3.ownsRow w.heap.size 3 1 (.slice A4 (k + 1) c4) (k + 1) (i64s (res ++ [r]))) := by
          show World.ownsRow _ _ _ _ _ _ _
          rw [i64s_append]
          exact hown'
        clear hgrow hown'
        go_wp2
        go_roundw
        case rel => exact ⟨⟨k + 1, q', res ++ [r], A4, c4, by omega, hqn, rfl, by go_num, q1, rfl, HST, HO3⟩, HB3⟩
        case measure => simp [intOf]; omega
      · have gy : ¬ (k : Int) < (m : Int) := by omega
        have HYY : Hid (0 = at0 ys k) := (at0_out (by rw [HY.out.len]; omega)).symm
        obtain ⟨s, hs⟩ : ∃ s, s = q + x := ⟨_, rfl⟩
        have e1 : (q : Int) + (x : Int) = (s : Int) := by omega
        have s9 : s ≤ 19 := by omega
        obtain ⟨r, hr⟩ : ∃ r, r = s % 10 := ⟨_, rfl⟩
        obtain ⟨q', hq'⟩ : ∃ q', q' = s / 10 := ⟨_, rfl⟩
        have r1 : (s : Int) % 10 = (r : Int) := by omega
        have r2 : (s : Int) / 10 = (q' : Int) := by omega
        have HST := Lib.hid (tadd_step (s := s) (r := r) (q' := q') HX.out.ten HY.out.ten hat.out (by rw [← HXX.out, ← HYY.out]; omega) hr hq')
        have hqn : max n m < k + 1 → q' = 0 := fun h => by omega
        have q1 : q' ≤ 1 := by omega
        have hkm : k ≤ max n m := by omega
        clear hs hr hq'
        go_wp2_with (at_builtin; refine wpList_append_own _ rfl _ _ 27 rfl w.heap.size 3 i0 (.int .i64 0) 1 8 Tryd.underlying27 hi hz0 hz1 hz2 rfl (by decide) _ _ _ rfl (hown.out.alloc _) ⟨wr.heap.size, 0, none⟩ 1 1 [.int .i64 (r : Int)] rfl rfl (one_cell _ _ _) (one_one _ _) HM.out.1 HM.out.2 (by have := hb.out.size; simp at this ⊢; try omega) ?_)
        intro v' w3 hown' hgrow _
        obtain ⟨A4, c4, rfl, hc4⟩ := own_row hown'
        have HB3 : Hid (Below w.heap.size w w3) := (hb.out.alloc hb.out.size _).grown hgrow (by have := hb.out.size; simp; omega) (fun g hg => by have := (hown.out.lt g hg).1; omega)
        have HO3 : Hid (w3.ownsRow w.heap.size 3 1 (.slice A4 (k + 1) c4) (k + 1) (i64s (res ++ [r]))) := by
          show World.ownsRow _ _ _ _ _ _ _
          rw [i64s_append]
          exact hown'
        clear hgrow hown'
        go_wp2
        go_roundw
        case rel => exact ⟨⟨k + 1, q', res ++ [r], A4, c4, by omega, hqn, rfl, by go_num, q1, rfl, HST, HO3⟩, HB3⟩
        case measure => simp [intOf]; omega
    · have gx : ¬ (k : Int) < (n : Int) := by omega
      have HXX : Hid (0 = at0 xs k) := (at0_out (by rw [HX.out.len]; omega)).symm
      by_cases hyk : k < m
      · have gy : (k : Int) < (m : Int) := by omega
        have hyl : k < ys.length := by rw [HY.out.len]; exact hyk
        obtain ⟨b2, o2, rfl, _, cy⟩ := (HY.out.over hb.out).rd.at_ hyl
        rw [← at0_in hyl] at cy
        obtain ⟨y, hyy⟩ : ∃ y, y = at0 ys k := ⟨_, rfl⟩
        rw [← hyy] at cy
        have hy9 : y < 10 := by rw [hyy]; exact at0_lt HY.out.ten k
        have HYY := Lib.hid hyy
        clear hyy
        obtain ⟨s, hs⟩ : ∃ s, s = q + y := ⟨_, rfl⟩
        have e1 : (q : Int) + (y : Int) = (s : Int) := by omega
        have s9 : s ≤ 19 := by omega
        obtain ⟨r, hr⟩ : ∃ r, r = s % 10 := ⟨_, rfl⟩
        obtain ⟨q', hq'⟩ : ∃ q', q' = s / 10 := ⟨_, rfl⟩
        have r1 : (s : Int) % 10 = (r : Int) := by omega
        have r2 : (s : Int) / 10 = (q' : Int) := by omega
        have HST := Lib.hid (tadd_step (s := s) (r := r) (q' := q') HX.out.ten HY.out.ten hat.out (by rw [← HXX.out, ← HYY.out]; omega) hr hq')
        have hqn : max n m < k + 1 → q' = 0 := fun h => by omega
        have q1 : q' ≤ 1 := by omega
        have hkm : k ≤ max n m := by omega
        clear hs hr hq'
        go_wp2_with (at_builtin; refine wpList_append_own _ rfl _ _ 27 rfl w.heap.size 3 i0 (.int .i64 0) 1 8 Tryd.underlying27 hi hz0 hz1 hz2 rfl (by decide) _ _ _ rfl (hown.out.alloc _) ⟨wr.heap.size, 0, none⟩ 1 1 [.int .i64 (r : Int)] rfl rfl (one_cell _ _ _) (one_one _ _) HM.out.1 HM.out.2 (by have := hb.out.size; simp at this ⊢; try omega) ?_)
        intro v' w3 hown' hgrow _
        obtain ⟨A4, c4, rfl, hc4⟩ := own_row hown'
        have HB3 : Hid (Below w.heap.size w w3) := (hb.out.alloc hb.out.size _).grown hgrow (by have := hb.out.size; simp; omega) (fun g hg => by have := (hown.out.lt g hg).1; omega)
        have HO3 : Hid (w3.ownsRow w.heap.size 3 1 (.slice A4 (k + 1) c4) (k + 1) (i64s (res ++ [r]))) := by
          show World.ownsRow _ _ _ _ _ _ _
          rw [i64s_append]
          exact hown'
        clear hgrow hown'
        go_wp2
        go_roundw
        case rel => exact ⟨⟨k + 1, q', res ++ [r], A4, c4, by omega, hqn, rfl, by go_num, q1, rfl, HST, HO3⟩, HB3⟩
        case measure => simp [intOf]; omega
      · have gy : ¬ (k : Int) < (m : Int) := by omega
        have HYY : Hid (0 = at0 ys k) := (at0_out (by rw [HY.out.len]; omega)).symm
        by_cases hq0 : q = 0
        · subst hq0
          have HE : Hid (RowN wr A3 k c3 (tval xs + tval ys)) := by
            obtain ⟨h1, h2, _, h4⟩ := hat.out
            obtain ⟨A', c', e', hc'⟩ := own_row hown.out
            have hc3 : k ≤ c3 := by injection e' with _ _ e3; omega
            rw [List.take_of_length_le (by rw [HX.out.len]; omega), List.take_of_length_le (by rw [HY.out.len]; omega), Nat.mul_zero, Nat.add_zero] at h4
            exact ⟨res, h1, hc3, Rn.of_own hown.out, h2, h4⟩
          go_wp2
          (try simp only [Exit.inBlock, Exit.then])
          go_ret
          exact ⟨A3, k, c3, rfl, hk, HE, hb⟩
        · have gq : (0 : Int) < (q : Int) := by omega
          obtain ⟨s, hs⟩ : ∃ s, s = q := ⟨_, rfl⟩
          have s9 : s ≤ 19 := by omega
          have hsq : s = q := hs
          obtain ⟨r, hr⟩ : ∃ r, r = s % 10 := ⟨_, rfl⟩
          obtain ⟨q', hq'⟩ : ∃ q', q' = s / 10 := ⟨_, rfl⟩
          have r1 : (q : Int) % 10 = (r : Int) := by omega
          have r2 : (q : Int) / 10 = (q' : Int) := by omega
          have HST := Lib.hid (tadd_step (s := s) (r := r) (q' := q') HX.out.ten HY.out.ten hat.out (by rw [← HXX.out, ← HYY.out]; omega) hr hq')
          have hqn : max n m < k + 1 → q' = 0 := fun h => by omega
          have q1 : q' ≤ 1 := by omega
          have hkm : k ≤ max n m := by omega
          clear hs hr hq' hsq
          go_wp2_with (at_builtin; refine wpList_append_own _ rfl _ _ 27 rfl w.heap.size 3 i0 (.int .i64 0) 1 8 Tryd.underlying27 hi hz0 hz1 hz2 rfl (by decide) _ _ _ rfl (hown.out.alloc _) ⟨wr.heap.size, 0, none⟩ 1 1 [.int .i64 (r : Int)] rfl rfl (one_cell _ _ _) (one_one _ _) HM.out.1 HM.out.2 (by have := hb.out.size; simp at this ⊢; try omega) ?_)
          intro v' w3 hown' hgrow _
          obtain ⟨A4, c4, rfl, hc4⟩ := own_row hown'
          have HB3 : Hid (Below w.heap.size w w3) := (hb.out.alloc hb.out.size _).grown hgrow (by have := hb.out.size; simp; omega) (fun g hg => by have := (hown.out.lt g hg).1; omega)
          have HO3 : Hid (w3.ownsRow w.heap.size 3 1 (.slice A4 (k + 1) c4) (k + 1) (i64s (res ++ [r]))) := by
            show World.ownsRow _ _ _ _ _ _ _
            rw [i64s_append]
            exact hown'
          clear hgrow hown'
          go_wp2
          go_roundw
          case rel => exact ⟨⟨k + 1, q', res ++ [r], A4, c4, by omega, hqn, rfl, by go_num, q1, rfl, HST, HO3⟩, HB3⟩
          case measure => simp [intOf]; omega
end Go.Proofs.YtpikbhcjgcbdfaaDoor.wh

/- The document's answer sub, of decimal digits. -/
namespace Go.Proofs.YtpikbhcjgcbdfaaDoor.wh
open Go.RowKit

/-- after k digits of a difference -/
def TSub (xs ys : List Nat) (k : Nat) (res : List Nat) (q : Nat) : Prop := res.length = k ∧ Ten res ∧ q ≤ 1 ∧ tval res + tval (ys.take k) = tval (xs.take k) + 10 ^ k * q
theorem tsub_step {xs ys res : List Nat} {k q r q' : Nat} (h : TSub xs ys k res q) (hr : r < 10) (hq : q' ≤ 1) (he : at0 xs k + 10 * q' = r + q + at0 ys k) : TSub xs ys (k + 1) (res ++ [r]) q' := by
  obtain ⟨h1, h2, h3, h4⟩ := h
  refine ⟨by simp [h1], h2.append (Ten.cons hr Ten.nil), hq, ?_⟩
  rw [tval_snoc, h1, tval_take_at, tval_take_at, Nat.pow_succ]
  have e1 : 10 ^ k * (at0 xs k + 10 * q') = 10 ^ k * (r + q + at0 ys k) := by rw [he]
  rw [Nat.mul_add, Nat.mul_add, Nat.mul_add, ← Nat.mul_assoc] at e1
  omega
theorem tsub_end {xs ys res : List Nat} {n q : Nat} (h : TSub xs ys n res q) (hx : xs.length = n) (hy : ys.length ≤ n) (hle : tval ys ≤ tval xs) : tval res = tval xs - tval ys := by
  obtain ⟨h1, h2, h3, h4⟩ := h
  rw [List.take_of_length_le (by omega), List.take_of_length_le (by omega)] at h4
  have h5 := tval_lt h2
  rw [h1] at h5
  have hq : q = 0 := by
    rcases Nat.eq_zero_or_pos q with h | h
    · exact h
    · obtain rfl : q = 1 := by omega
      omega
  subst hq
  omega

/-- where there are digits, they lie in a block from g on -/
def From (A : Option Addr) (n g : Nat) : Prop := 0 < n → ∀ ad, A = some ad → g ≤ ad.block
/-- decimal digits without noughts last, of the number v, in a block from g on -/
def RowT (w : World) (A : Option Addr) (n c v g : Nat) : Prop := ∃ ds, Tens w n c A ds ∧ tval ds = v ∧ From A n g ∧ ∃ ad, A = some ad
theorem RowT.row {w : World} {A : Option Addr} {n c v g : Nat} (h : RowT w A n c v g) : RowN w A n c v := by
  obtain ⟨ds, h1, h2, _⟩ := h
  exact ⟨ds, h1.len, h1.cap, h1.rd, h1.ten, h2⟩
theorem RowT.over {w w' : World} {A : Option Addr} {n c v g : Nat} (h : RowT w A n c v g) (hb : Below w.heap.size w w') : RowT w' A n c v g := by
  obtain ⟨ds, h1, h2, h3⟩ := h
  exact ⟨ds, h1.over hb, h2, h3⟩
theorem RowT.from_ {w : World} {A : Option Addr} {n c v g g' : Nat} (h : RowT w A n c v g) (hg : g' ≤ g) : RowT w A n c v g' := by
  obtain ⟨ds, h1, h2, h3, h4⟩ := h
  exact ⟨ds, h1, h2, fun hn ad e => Nat.le_trans hg (h3 hn ad e), h4⟩
theorem RowT.store {w : World} {A : Option Addr} {n c v g : Nat} (h : RowT w A n c v g) {b : Nat} (hb : b < g) (i : Nat) (u : Value) : RowT (w.setCell ⟨b, i, none⟩ u) A n c v g := by
  obtain ⟨ds, h1, h2, h3, h4⟩ := h
  refine ⟨ds, ⟨h1.len, fun hn => ?_, h1.cap, h1.ten, h1.top⟩, h2, h3, h4⟩
  obtain ⟨b', off, e, hlt, hc⟩ := h1.rd hn
  have hge := h3 (by rw [← h1.len]; exact hn) _ e
  refine ⟨b', off, e, by simpa [World.setCell] using hlt, fun j hj => ?_⟩
  rw [World.cell?_setCell_other w _ _ u (fun e2 => by have := congrArg Addr.block e2; simp only at this hge; omega)]
  exact hc j hj
theorem own_from {w : World} {base e n c k : Nat} {A : Option Addr} {xs : List Value} (h : w.ownsRow base e 1 (.slice A n c) n xs) (hk : k ≤ n) : From A k base := fun hn ad e' => by
  obtain ⟨g, cap, hv, hge, hlt⟩ := h.form (by omega)
  injection hv with hA
  rw [hA] at e'
  injection e' with e'
  subst e'
  exact hge
theorem own_some {w : World} {base e n c : Nat} {A : Option Addr} {xs : List Value} (h : w.ownsRow base e 1 (.slice A n c) n xs) (hk : 0 < n) : ∃ ad, A = some ad := by
  obtain ⟨g, cap, hv, _, _⟩ := h.form hk
  injection hv with hA
  exact ⟨_, hA⟩

set_option maxRecDepth 100000 in
set_option maxHeartbeats 2000000 in
theorem refsub_any {A B : Option Addr} {n c m d : Nat} {xs ys : List Nat} {w : World} (hx : Tens w n c A xs) (hy : Tens w m d B ys) (hn : n ≤ 2000) (hmn : m ≤ n) (hle : tval ys ≤ tval xs) :
    Calls Tryd.prog 69 #[.slice A n c, .slice B m d] w fun e w' => ∃ A2 n2 c2, e = .returned (.slice A2 n2 c2) ∧ n2 ≤ n ∧ Hid (RowT w' A2 n2 c2 (tval xs - tval ys) w.heap.size) ∧ Hid (Below w.heap.size w w') := by
  obtain ⟨i0, hi, hz0, hz1, hz2⟩ := info_parts info_int
  have HX := Lib.hid hx
  have HY := Lib.hid hy
  have HLE := Lib.hid hle
  clear hx hy hle
  have HB : Hid (Below w.heap.size w (w.alloc (.cells #[] 3))) := (Below.refl _ _).alloc (Nat.le_refl _) _
  have HOWN : Hid ((w.alloc (.cells #[] 3)).ownsRow w.heap.size 3 1 (.slice (some ⟨w.heap.size, 0, none⟩) 0 0) 0 (i64s [])) :=
    World.ownsRow_made w (base := w.heap.size) (e := 3) (size := 1) #[] 0 (by simp) (by unfold maxLen; omega) rfl
  go_enter Tryd.func69, Tryd.ntmps69
  go_wp2
  go_loopw [5, 6, 7] (fun ov cv iv wr => (∃ (k q : Nat) (res : List Nat) (A3 : Option Addr) (c3 : Nat), k ≤ n ∧ cv = .int .i64 (q : Int) ∧ iv = .int .i64 (k : Int) ∧ q ≤ 1 ∧ ov = .slice A3 k c3 ∧ Hid (TSub xs ys k res q) ∧ Hid (wr.ownsRow w.heap.size 3 1 (.slice A3 k c3) k (i64s res)) ∧ Hid (∃ ad, A3 = some ad)) ∧ Hid (Below w.heap.size w wr)) (fun _ _ iv _ => n - (intOf iv).toNat)
  case atStart => exact ⟨⟨0, 0, [], _, _, by omega, rfl, rfl, by omega, rfl, ⟨rfl, Ten.nil, by omega, by simp [tval]⟩, HOWN.out, ⟨_, rfl⟩⟩, HB⟩
  case round =>
    obtain ⟨⟨k, q, res, A3, c3, hk, rfl, rfl, hq, rfl, hat, hown, hsm⟩, hb⟩ := hrel
    have hk4 : (k : Int) ≤ 2001 := by omega
    have HM : Hid (k + 1 ≤ maxLen ∧ (k + 1) * 8 ≤ 140737488355328) := by constructor <;> (try unfold maxLen) <;> omega
    by_cases hxk : k < n
    · have gx : (k : Int) < (n : Int) := by omega
      have hxl : k < xs.length := by rw [HX.out.len]; exact hxk
      obtain ⟨b1, o1, rfl, _, cx⟩ := (HX.out.over hb.out).rd.at_ hxl
      rw [← at0_in hxl] at cx
      obtain ⟨x, hxx⟩ : ∃ x, x = at0 xs k := ⟨_, rfl⟩
      rw [← hxx] at cx
      have hx9 : x < 10 := by rw [hxx]; exact at0_lt HX.out.ten k
      have HXX := Lib.hid hxx
      clear hxx
      by_cases hyk : k < m
      · have gy : (k : Int) < (m : Int) := by omega
        have hyl : k < ys.length := by rw [HY.out.len]; exact hyk
        obtain ⟨b2, o2, rfl, _, cy⟩ := (HY.out.over hb.out).rd.at_ hyl
        rw [← at0_in hyl] at cy
        obtain ⟨y, hyy⟩ : ∃ y, y = at0 ys k := ⟨_, rfl⟩
        rw [← hyy] at cy
        have hy9 : y < 10 := by rw [hyy]; exact at0_lt HY.out.ten k
        have HYY := Lib.hid hyy
        clear hyy
        have w1 : IntKind.i64.wrap ((x : Int) - (q : Int)) = (x : Int) - (q : Int) := IntWalk.i64_in _ (by omega)
        have w2 : IntKind.i64.wrap ((x : Int) - (q : Int) - (y : Int)) = (x : Int) - (q : Int) - (y : Int) := IntWalk.i64_in _ (by omega)
        by_cases hneg : x < q + y
        · obtain ⟨r, hr⟩ : ∃ r, r = x + 10 - q - y := ⟨_, rfl⟩
          obtain ⟨t, ht⟩ : ∃ t : Int, (x : Int) - (q : Int) - (y : Int) = t := ⟨_, rfl⟩
          have t0 : t < 0 := by omega
          have t1 : t + 10 = (r : Int) := by omega
          have w3 : IntKind.i64.wrap (r : Int) = (r : Int) := IntWalk.i64_in _ (by omega)
          have HST := Lib.hid (tsub_step (r := r) (q' := 1) hat.out (by omega) (by omega) (by rw [← HXX.out, ← HYY.out]; omega))
          clear hr hneg
          go_wp2_with (at_builtin; refine wpList_append_own _ rfl _ _ 27 rfl w.heap.size 3 i0 (.int .i64 0) 1 8 Tryd.underlying27 hi hz0 hz1 hz2 rfl (by decide) _ _ _ rfl (hown.out.alloc _) ⟨wr.heap.size, 0, none⟩ 1 1 [.int .i64 (r : Int)] rfl rfl (one_cell _ _ _) (one_one _ _) HM.out.1 HM.out.2 (by have := hb.out.size; simp at this ⊢; try omega) ?_)
          intro v' w3 hown' hgrow _
          obtain ⟨A4, c4, rfl, hc4⟩ := own_row hown'
          have HB3 : Hid (Below w.heap.size w w3) := (hb.out.alloc hb.out.size _).grown hgrow (by have := hb.out.size; simp; omega) (fun g hg => by have := (hown.out.lt g hg).1; omega)
          have HO3 : Hid (w3.ownsRow w.heap.size 3 1 (.slice A4 (k + 1) c4) (k + 1) (i64s (res ++ [r]))) := by
            show World.ownsRow _ _ _ _ _ _ _
            rw [i64s_append]
            exact hown'
          clear hgrow hown'
          go_wp2
          go_roundw
          case rel => exact ⟨⟨k + 1, 1, res ++ [r], A4, c4, by omega, rfl, by go_num, by omega, rfl, HST, HO3, own_some HO3.out (by omega)⟩, HB3⟩
          case measure => simp [intOf]; omega
        · obtain ⟨r, hr⟩ : ∃ r, r = x - q - y := ⟨_, rfl⟩
          have ht : (x : Int) - (q : Int) - (y : Int) = (r : Int) := by omega
          have HST := Lib.hid (tsub_step (r := r) (q' := 0) hat.out (by omega) (by omega) (by rw [← HXX.out, ← HYY.out]; omega))
          clear hr hneg
          go_wp2_with (at_builtin; refine wpList_append_own _ rfl _ _ 27 rfl w.heap.size 3 i0 (.int .i64 0) 1 8 Tryd.underlying27 hi hz0 hz1 hz2 rfl (by decide) _ _ _ rfl (hown.out.alloc _) ⟨wr.heap.size, 0, none⟩ 1 1 [.int .i64 (r : Int)] rfl rfl (one_cell _ _ _) (one_one _ _) HM.out.1 HM.out.2 (by have := hb.out.size; simp at this ⊢; try omega) ?_)
          intro v' w3 hown' hgrow _
          obtain ⟨A4, c4, rfl, hc4⟩ := own_row hown'
          have HB3 : Hid (Below w.heap.size w w3) := (hb.out.alloc hb.out.size _).grown hgrow (by have := hb.out.size; simp; omega) (fun g hg => by have := (hown.out.lt g hg).1; omega)
          have HO3 : Hid (w3.ownsRow w.heap.size 3 1 (.slice A4 (k + 1) c4) (k + 1) (i64s (res ++ [r]))) := by
            show World.ownsRow _ _ _ _ _ _ _
            rw [i64s_append]
            exact hown'
          clear hgrow hown'
          go_wp2
          go_roundw
          case rel => exact ⟨⟨k + 1, 0, res ++ [r], A4, c4, by omega, rfl, by go_num, by omega, rfl, HST, HO3, own_some HO3.out (by omega)⟩, HB3⟩
          case measure => simp [intOf]; omega
      · have gy : ¬ (k : Int) < (m : Int) := by omega
        have HYY : Hid (0 = at0 ys k) := (at0_out (by rw [HY.out.len]; omega)).symm
        have w1 : IntKind.i64.wrap ((x : Int) - (q : Int)) = (x : Int) - (q : Int) := IntWalk.i64_in _ (by omega)
        by_cases hneg : x < q + 0
        · obtain ⟨r, hr⟩ : ∃ r, r = x + 10 - q - 0 := ⟨_, rfl⟩
          obtain ⟨t, ht⟩ : ∃ t : Int, (x : Int) - (q : Int) = t := ⟨_, rfl⟩
          have t0 : t < 0 := by omega
          have t1 : t + 10 = (r : Int) := by omega
          have w3 : IntKind.i64.wrap (r : Int) = (r : Int) := IntWalk.i64_in _ (by omega)
          have HST := Lib.hid (tsub_step (r := r) (q' := 1) hat.out (by omega) (by omega) (by rw [← HXX.out, ← HYY.out]; omega))
          clear hr hneg
          go_wp2_with (at_builtin; refine wpList_append_own _ rfl _ _ 27 rfl w.heap.size 3 i0 (.int .i64 0) 1 8 Tryd.underlying27 hi hz0 hz1 hz2 rfl (by decide) _ _ _ rfl (hown.out.alloc _) ⟨wr.heap.size, 0, none⟩ 1 1 [.int .i64 (r : Int)] rfl rfl (one_cell _ _ _) (one_one _ _) HM.out.1 HM.out.2 (by have := hb.out.size; simp at this ⊢; try omega) ?_)
          intro v' w3 hown' hgrow _
          obtain ⟨A4, c4, rfl, hc4⟩ := own_row hown'
          have HB3 : Hid (Below w.heap.size w w3) := (hb.out.alloc hb.out.size _).grown hgrow (by have := hb.out.size; simp; omega) (fun g hg => by have := (hown.out.lt g hg).1; omega)
          have HO3 : Hid (w3.ownsRow w.heap.size 3 1 (.slice A4 (k + 1) c4) (k + 1) (i64s (res ++ [r]))) := by
            show World.ownsRow _ _ _ _ _ _ _
            rw [i64s_append]
            exact hown'
          clear hgrow hown'
          go_wp2
          go_roundw
          case rel => exact ⟨⟨k + 1, 1, res ++ [r], A4, c4, by omega, rfl, by go_num, by omega, rfl, HST, HO3, own_some HO3.out (by omega)⟩, HB3⟩
          case measure => simp [intOf]; omega
        · obtain ⟨r, hr⟩ : ∃ r, r = x - q - 0 := ⟨_, rfl⟩
          have ht : (x : Int) - (q : Int) = (r : Int) := by omega
          have HST := Lib.hid (tsub_step (r := r) (q' := 0) hat.out (by omega) (by omega) (by rw [← HXX.out, ← HYY.out]; omega))
          clear hr hneg
          go_wp2_with (at_builtin; refine wpList_append_own _ rfl _ _ 27 rfl w.heap.size 3 i0 (.int .i64 0) 1 8 Tryd.underlying27 hi hz0 hz1 hz2 rfl (by decide) _ _ _ rfl (hown.out.alloc _) ⟨wr.heap.size, 0, none⟩ 1 1 [.int .i64 (r : Int)] rfl rfl (one_cell _ _ _) (one_one _ _) HM.out.1 HM.out.2 (by have := hb.out.size; simp at this ⊢; try omega) ?_)
          intro v' w3 hown' hgrow _
          obtain ⟨A4, c4, rfl, hc4⟩ := own_row hown'
          have HB3 : Hid (Below w.heap.size w w3) := (hb.out.alloc hb.out.size _).grown hgrow (by have := hb.out.size; simp; omega) (fun g hg => by have := (hown.out.lt g hg).1; omega)
          have HO3 : Hid (w3.ownsRow w.heap.size 3 1 (.slice A4 (k + 1) c4) (k + 1) (i64s (res ++ [r]))) := by
            show World.ownsRow _ _ _ _ _ _ _
            rw [i64s_append]
            exact hown'
          clear hgrow hown'
          go_wp2
          go_roundw
          case rel => exact ⟨⟨k + 1, 0, res ++ [r], A4, c4, by omega, rfl, by go_num, by omega, rfl, HST, HO3, own_some HO3.out (by omega)⟩, HB3⟩
          case measure => simp [intOf]; omega
    · have gx : ¬ (k : Int) < (n : Int) := by omega
      obtain rfl : k = n := by omega
      have HL : Hid (res.length = k) := hat.out.1
      have HT : Hid (Ten res) := hat.out.2.1
      have HV := Lib.hid (tsub_end hat.out HX.out.len (by rw [HY.out.len]; exact hmn) HLE.out)
      obtain ⟨A', c', e', hc'⟩ := own_row hown.out
      have hc3 : k ≤ c3 := by injection e' with _ _ e3; omega
      have HR : Hid (Rn wr wr.heap.size A3 res) := Rn.of_own hown.out
      clear e'
      go_wp2_with fail
      refine (cut_any A3 k c3 res wr HL.out (by rw [HL.out]; unfold maxLen; omega) (by rw [HL.out]; exact hc3) HR.out).mono ?_
      rintro e w2 ⟨⟨j, rfl, hcut⟩, rfl⟩
      have HE : Hid (RowT wr A3 j c3 (tval xs - tval ys) w.heap.size) := ⟨res.take j, ⟨by rw [List.length_take]; have := hcut.1; omega, HR.out.take j, by have := hcut.1; have := HL.out; omega, HT.out.take j, hcut.2.1⟩, by rw [hcut.2.2, HV.out], own_from hown.out (by have := hcut.1; have := HL.out; omega), hsm.out⟩
      have hj : j ≤ k := by have := hcut.1; have := HL.out; omega
      clear hcut
      go_wp2
      (try simp only [Exit.inBlock, Exit.then])
      go_ret
      exact ⟨A3, j, c3, rfl, hj, HE, hb⟩
end Go.Proofs.YtpikbhcjgcbdfaaDoor.wh

/- The document's answer Add. -/
namespace Go.Proofs.YtpikbhcjgcbdfaaDoor.wh
open Go.RowKit

theorem BoxN.drew {w : World} {g n c : Nat} {x : Bool} {a : Option Addr} (h : BoxN w g x a n c) : BoxN w.drew g x a n c := h
theorem cellOf_boxN {w : World} {r : Nat} {y : Bool} {b : Option Addr} {m d : Nat} (h : BoxN w r y b m d) : w.cell? ⟨r, 0, none⟩ = some (cellOf w r 0) ∧ w.cell? ⟨r, 1, none⟩ = some (cellOf w r 1) := by
  unfold cellOf
  rw [h.c0, h.c1]
  exact ⟨rfl, rfl⟩
/-- two variables that are known, and a third one that is there -/
structure TreN (w : World) (g : Nat) (x : Bool) (a : Option Addr) (n c : Nat) (g' : Nat) (x' : Bool) (a' : Option Addr) (n' c' : Nat) (r : Nat) (w' : World) : Prop where
  below : Below w.heap.size w w'
  one : BoxN w' g x a n c
  two : BoxN w' g' x' a' n' c'
  res : ∃ y b m d, BoxN w' r y b m d
  le : w.heap.size ≤ g ∧ w.heap.size ≤ g' ∧ w.heap.size ≤ r ∧ g ≠ g' ∧ g ≠ r ∧ g' ≠ r
section
variable {w w' w1 : World} {g g' n n' c c' r : Nat} {x x' : Bool} {a a' : Option Addr}
theorem TreN.all (h : TreN w g x a n c g' x' a' n' c' r w') : (w'.cell? ⟨g, 0, none⟩ = some (.bool x) ∧ w'.cell? ⟨g, 1, none⟩ = some (.slice a n c) ∧ w'.cell? ⟨g', 0, none⟩ = some (.bool x') ∧ w'.cell? ⟨g', 1, none⟩ = some (.slice a' n' c') ∧ w'.cell? ⟨r, 0, none⟩ = some (cellOf w' r 0) ∧ w'.cell? ⟨r, 1, none⟩ = some (cellOf w' r 1)) ∧
    (w'.frozen? ⟨g, 0, none⟩ = false ∧ w'.frozen? ⟨g, 1, none⟩ = false ∧ w'.frozen? ⟨g', 0, none⟩ = false ∧ w'.frozen? ⟨g', 1, none⟩ = false ∧ w'.frozen? ⟨r, 0, none⟩ = false ∧ w'.frozen? ⟨r, 1, none⟩ = false) ∧ Hid (TreN w g x a n c g' x' a' n' c' r w') := by
  obtain ⟨y, b, m, d, hr⟩ := h.res
  exact ⟨⟨h.one.c0, h.one.c1, h.two.c0, h.two.c1, cellOf_boxN hr⟩, ⟨h.one.f0, h.one.f1, h.two.f0, h.two.f1, hr.f0, hr.f1⟩, h⟩
theorem TreN.get {P Q : Prop} (h : P ∧ Q ∧ Hid (TreN w g x a n c g' x' a' n' c' r w')) : TreN w g x a n c g' x' a' n' c' r w' := h.2.2
theorem TreN.over (hb : Hid (Below w'.heap.size w' w1)) (h : TreN w g x a n c g' x' a' n' c' r w') : TreN w g x a n c g' x' a' n' c' r w1 := by
  obtain ⟨y, b, m, d, hr⟩ := h.res
  exact ⟨h.below.trans (hb.out.mono h.below.size), h.one.over hb.out, h.two.over hb.out, ⟨y, b, m, d, hr.over hb.out⟩, h.le⟩
theorem TreN.put1 (h : TreN w g x a n c g' x' a' n' c' r w') (y : Bool) (b : Option Addr) (m d : Nat) : TreN w g y b m d g' x' a' n' c' r (put2 w' g y b m d) := by
  obtain ⟨y', b', m', d', hr⟩ := h.res
  obtain ⟨l1, l2, l3, l4, l5, l6⟩ := h.le
  exact ⟨below_put h.below l1 _ _ _ _, h.one.put _ _ _ _, h.two.far (fun e => l4 e.symm) _ _ _ _, ⟨y', b', m', d', hr.far (fun e => l5 e.symm) _ _ _ _⟩, h.le⟩
theorem TreN.put2 (h : TreN w g x a n c g' x' a' n' c' r w') (y : Bool) (b : Option Addr) (m d : Nat) : TreN w g x a n c g' y b m d r (wh.put2 w' g' y b m d) := by
  obtain ⟨y', b', m', d', hr⟩ := h.res
  obtain ⟨l1, l2, l3, l4, l5, l6⟩ := h.le
  exact ⟨below_put h.below l2 _ _ _ _, h.one.far l4 _ _ _ _, h.two.put _ _ _ _, ⟨y', b', m', d', hr.far (fun e => l6 e.symm) _ _ _ _⟩, h.le⟩
theorem TreN.put3 (h : TreN w g x a n c g' x' a' n' c' r w') (y : Bool) (b : Option Addr) (m d : Nat) : TreN w g x a n c g' x' a' n' c' r (wh.put2 w' r y b m d) := by
  obtain ⟨y', b', m', d', hr⟩ := h.res
  obtain ⟨l1, l2, l3, l4, l5, l6⟩ := h.le
  exact ⟨below_put h.below l3 _ _ _ _, h.one.far l5 _ _ _ _, h.two.far l6 _ _ _ _, ⟨_, _, _, _, hr.put _ _ _ _⟩, h.le⟩
theorem TreN.drew (h : TreN w g x a n c g' x' a' n' c' r w') : TreN w g x a n c g' x' a' n' c' r w'.drew := by
  obtain ⟨y, b, m, d, hr⟩ := h.res
  exact ⟨h.below.drew, h.one.drew, h.two.drew, ⟨y, b, m, d, hr.drew⟩, h.le⟩
/-- a number that a callee gave, behind the store into the third variable -/
theorem TreN.int3 {B m : Nat} {v : Value} {z : Int} (h : TreN w g x a n c g' x' a' n' c' r w') (hi : IsNum w' B m v z) (y : Bool) (b : Option Addr) (k d : Nat) : IsNum (wh.put2 w' r y b k d) B m v z := by
  obtain ⟨y', b', m', d', hr⟩ := h.res
  exact hi.put hr _ _ _ _
end

def tsgn (neg : Bool) (v : Nat) : Int := if neg then -(v : Int) else (v : Int)
theorem make1_row (neg : Bool) {A : Option Addr} {n c v : Nat} {w : World} (hr : RowN w A n c v) (hn : n ≤ 1000000) :
    Calls Tryd.prog 61 #[.bool neg, .slice A n c] w fun e w' => GivesNum w n (tsgn neg v) e w' := by
  obtain ⟨ds, h1, h2, h3, h4, rfl⟩ := hr
  exact make1_any neg A n c ds w h1 hn h2 h3 h4

set_option maxRecDepth 100000 in
set_option maxHeartbeats 2000000 in
theorem refAdd_any {v u : Value} {p q : Nat} {a b : Int} {w : World} (hp : p ≤ 1000) (hq : q ≤ 1000) (hx : IsNum w w.heap.size p v a) (hy : IsNum w w.heap.size q u b) :
    Calls Tryd.prog 19 #[v, u] w fun e w' => GivesNum w (max p q + 1) (a + b) e w' := by
  obtain ⟨nx, A, n, c, xs, rfl, hnp, TX, ZX, PX⟩ := hx.tens
  obtain ⟨ny, B, m, d, ys, rfl, hmq, TY, ZY, PY⟩ := hy.tens
  clear hx hy PX PY
  have HT : Hid (TreN w w.heap.size nx A n c (w.heap.size + 1) ny B m d (w.heap.size + 2) (((w.alloc (.cells #[.bool nx, .slice A n c] 29)).alloc (.cells #[.bool ny, .slice B m d] 29)).alloc (.cells #[.bool false, .slice none 0 0] 29))) :=
    ⟨(((Below.refl _ _).alloc (Nat.le_refl _) _).alloc (by simp) _).alloc (by simp; omega) _, ((BoxN.new _ _ _ _ _).alloc _).alloc _, by have h := (BoxN.new (w.alloc (.cells #[.bool nx, .slice A n c] 29)) ny B m d).alloc (.cells #[.bool false, .slice none 0 0] 29); rwa [World.size_alloc] at h,
      ⟨false, none, 0, 0, by have h := BoxN.new ((w.alloc (.cells #[.bool nx, .slice A n c] 29)).alloc (.cells #[.bool ny, .slice B m d] 29)) false none 0 0; rwa [World.size_alloc, World.size_alloc] at h⟩, by omega⟩
  by_cases hs : nx = ny
  · subst hs
    have HV : Hid (tsgn nx (tval xs + tval ys) = a + b) := by
      show _ = _
      rw [← ZX.out, ← ZY.out]
      cases nx <;> simp [tsgn, tz] <;> omega
    go_enter Tryd.func19, Tryd.ntmps19
    go_wp2
    go_region_held3 (fun w' => (w'.cell? ⟨w.heap.size, 0, none⟩ = some (.bool nx) ∧ w'.cell? ⟨w.heap.size, 1, none⟩ = some (.slice A n c) ∧ w'.cell? ⟨w.heap.size + 1, 0, none⟩ = some (.bool (nx)) ∧ w'.cell? ⟨w.heap.size + 1, 1, none⟩ = some (.slice B m d) ∧ w'.cell? ⟨w.heap.size + 2, 0, none⟩ = some (cellOf w' (w.heap.size + 2) 0) ∧ w'.cell? ⟨w.heap.size + 2, 1, none⟩ = some (cellOf w' (w.heap.size + 2) 1)) ∧ (w'.frozen? ⟨w.heap.size, 0, none⟩ = false ∧ w'.frozen? ⟨w.heap.size, 1, none⟩ = false ∧ w'.frozen? ⟨w.heap.size + 1, 0, none⟩ = false ∧ w'.frozen? ⟨w.heap.size + 1, 1, none⟩ = false ∧ w'.frozen? ⟨w.heap.size + 2, 0, none⟩ = false ∧ w'.frozen? ⟨w.heap.size + 2, 1, none⟩ = false) ∧ Hid (TreN w (w.heap.size) nx A n c (w.heap.size + 1) (nx) B m d (w.heap.size + 2) w'))
      (first | (with_reducible exact HT.out.drew.all) | (with_reducible exact (TreN.over hb (TreN.get (by assumption))).all) | (with_reducible exact (TreN.put3 (TreN.get (by assumption)) _ _ _ _).all))
      (first
        | (go_at_call 71; refine (refadd_any (TX.out.over (TreN.get (by assumption)).below) (TY.out.over (TreN.get (by assumption)).below) (by omega) (by omega)).mono ?_; rintro e w2 ⟨A2, n2, c2, rfl, hn2, hrow, hb⟩; have hb2 := hb)
        | (go_at_call 61; refine (make1_row nx hrow.out (by omega)).mono ?_; rintro e w3 ⟨neg3, A3, n3, c3, rfl, hint, hb⟩; have hb3 := hb))
    have T3 := (TreN.over hb3 (TreN.over hb2 HT.out.drew))
    obtain ⟨y3, b3, m3, d3, hr3⟩ := T3.res
    have HI := Lib.hid (T3.int3 hint.out neg3 A3 n3 c3)
    have c0 := (hr3.put neg3 A3 n3 c3).c0
    have c1 := (hr3.put neg3 A3 n3 c3).c1
    have HB := Lib.hid (T3.put3 neg3 A3 n3 c3).below
    have HSZ := Lib.hid (put2_size w3 (w.heap.size + 2) neg3 A3 n3 c3)
    go_wp2
    refine bodyPost_ret (v := .agg #[.bool neg3, .slice A3 n3 c3]) (by simp [results, Tryd.results19, go_sem, c0, c1]) rfl ⟨neg3, A3, n3, c3, rfl, ?_, HB⟩
    have h : IsNum (put2 w3 (w.heap.size + 2) neg3 A3 n3 c3) (put2 w3 (w.heap.size + 2) neg3 A3 n3 c3).heap.size (max p q + 1) _ _ := HI.out.more (by rw [HSZ.out]; exact Nat.le_refl _) (by omega)
    rw [HV.out] at h
    exact h
  · obtain rfl : ny = !nx := by cases nx <;> cases ny <;> simp_all
    go_enter Tryd.func19, Tryd.ntmps19
    go_wp2_with fail
    refine (refcmp_any (TX.out.over HT.out.below) (TY.out.over HT.out.below) (by omega)).mono ?_
    rintro e w1 ⟨rfl, hb1⟩
    have HE := Lib.hid (TreN.over hb1 HT.out)
    have hnl := TX.out.len
    have hml := TY.out.len
    by_cases hle : tval ys ≤ tval xs
    · have hmn : m ≤ n := by
        rcases Nat.lt_or_ge n m with h | h
        · have := ttop_short TX.out.ten TY.out.top (by omega)
          omega
        · exact h
      have hc : (0 : Int) ≤ cmpN (tval xs) (tval ys) := by
        unfold cmpN
        rw [if_neg (by omega)]
        split <;> omega
      have HV : Hid (tsgn nx (tval xs - tval ys) = a + b) := by
        show _ = _
        rw [← ZX.out, ← ZY.out]
        cases nx <;> simp [tsgn, tz] <;> omega
      have HLE := Lib.hid hle
      clear hle hnl hml
      have M1 := HE.out.all.1
      go_wp2
      go_region_held3 (fun w' => (w'.cell? ⟨w.heap.size, 0, none⟩ = some (.bool nx) ∧ w'.cell? ⟨w.heap.size, 1, none⟩ = some (.slice A n c) ∧ w'.cell? ⟨w.heap.size + 1, 0, none⟩ = some (.bool (!nx)) ∧ w'.cell? ⟨w.heap.size + 1, 1, none⟩ = some (.slice B m d) ∧ w'.cell? ⟨w.heap.size + 2, 0, none⟩ = some (cellOf w' (w.heap.size + 2) 0) ∧ w'.cell? ⟨w.heap.size + 2, 1, none⟩ = some (cellOf w' (w.heap.size + 2) 1)) ∧ (w'.frozen? ⟨w.heap.size, 0, none⟩ = false ∧ w'.frozen? ⟨w.heap.size, 1, none⟩ = false ∧ w'.frozen? ⟨w.heap.size + 1, 0, none⟩ = false ∧ w'.frozen? ⟨w.heap.size + 1, 1, none⟩ = false ∧ w'.frozen? ⟨w.heap.size + 2, 0, none⟩ = false ∧ w'.frozen? ⟨w.heap.size + 2, 1, none⟩ = false) ∧ Hid (TreN w (w.heap.size) nx A n c (w.heap.size + 1) (!nx) B m d (w.heap.size + 2) w'))
        (first | (with_reducible exact HE.out.drew.all) | (with_reducible exact (TreN.over hb (TreN.get (by assumption))).all) | (with_reducible exact (TreN.put3 (TreN.get (by assumption)) _ _ _ _).all))
        (first
          | (go_at_call 69; refine (refsub_any (TX.out.over (TreN.get (by assumption)).below) (TY.out.over (TreN.get (by assumption)).below) (by omega) hmn HLE.out).mono ?_; rintro e w2 ⟨A2, n2, c2, rfl, hn2, hrowT, hb⟩; have hrow := Lib.hid hrowT.out.row; have hb2 := hb)
          | (go_at_call 61; refine (make1_row nx hrow.out (by omega)).mono ?_; rintro e w3 ⟨neg3, A3, n3, c3, rfl, hint, hb⟩; have hb3 := hb))
      have T3 := (TreN.over hb3 (TreN.over hb2 HE.out.drew))
      obtain ⟨y3, b3, m3, d3, hr3⟩ := T3.res
      have HI := Lib.hid (T3.int3 hint.out neg3 A3 n3 c3)
      have c0 := (hr3.put neg3 A3 n3 c3).c0
      have c1 := (hr3.put neg3 A3 n3 c3).c1
      have HB := Lib.hid (T3.put3 neg3 A3 n3 c3).below
      have HSZ := Lib.hid (put2_size w3 (w.heap.size + 2) neg3 A3 n3 c3)
      go_wp2
      refine bodyPost_ret (v := .agg #[.bool neg3, .slice A3 n3 c3]) (by simp [results, Tryd.results19, go_sem, c0, c1]) rfl ⟨neg3, A3, n3, c3, rfl, ?_, HB⟩
      have h : IsNum (put2 w3 (w.heap.size + 2) neg3 A3 n3 c3) (put2 w3 (w.heap.size + 2) neg3 A3 n3 c3).heap.size (max p q + 1) _ _ := HI.out.more (by rw [HSZ.out]; exact Nat.le_refl _) (by omega)
      rw [HV.out] at h
      exact h
    · have hnm : n ≤ m := by
        rcases Nat.lt_or_ge m n with h | h
        · have := ttop_short TY.out.ten TX.out.top (by omega)
          omega
        · exact h
      have hc : cmpN (tval xs) (tval ys) = -1 := cmpN_lt (by omega)
      have HV : Hid (tsgn (!nx) (tval ys - tval xs) = a + b) := by
        show _ = _
        rw [← ZX.out, ← ZY.out]
        cases nx <;> simp [tsgn, tz] <;> omega
      have HLE : Hid (tval xs ≤ tval ys) := by show _ ≤ _; omega
      clear hle hnl hml
      have M1 := HE.out.all.1
      go_wp2
      go_region_held3 (fun w' => (w'.cell? ⟨w.heap.size, 0, none⟩ = some (.bool nx) ∧ w'.cell? ⟨w.heap.size, 1, none⟩ = some (.slice A n c) ∧ w'.cell? ⟨w.heap.size + 1, 0, none⟩ = some (.bool (!nx)) ∧ w'.cell? ⟨w.heap.size + 1, 1, none⟩ = some (.slice B m d) ∧ w'.cell? ⟨w.heap.size + 2, 0, none⟩ = some (cellOf w' (w.heap.size + 2) 0) ∧ w'.cell? ⟨w.heap.size + 2, 1, none⟩ = some (cellOf w' (w.heap.size + 2) 1)) ∧ (w'.frozen? ⟨w.heap.size, 0, none⟩ = false ∧ w'.frozen? ⟨w.heap.size, 1, none⟩ = false ∧ w'.frozen? ⟨w.heap.size + 1, 0, none⟩ = false ∧ w'.frozen? ⟨w.heap.size + 1, 1, none⟩ = false ∧ w'.frozen? ⟨w.heap.size + 2, 0, none⟩ = false ∧ w'.frozen? ⟨w.heap.size + 2, 1, none⟩ = false) ∧ Hid (TreN w (w.heap.size) nx A n c (w.heap.size + 1) (!nx) B m d (w.heap.size + 2) w'))
        (first | (with_reducible exact HE.out.drew.all) | (with_reducible exact (TreN.over hb (TreN.get (by assumption))).all) | (with_reducible exact (TreN.put3 (TreN.get (by assumption)) _ _ _ _).all))
        (first
          | (go_at_call 69; refine (refsub_any (TY.out.over (TreN.get (by assumption)).below) (TX.out.over (TreN.get (by assumption)).below) (by omega) hnm HLE.out).mono ?_; rintro e w2 ⟨A2, n2, c2, rfl, hn2, hrowT, hb⟩; have hrow := Lib.hid hrowT.out.row; have hb2 := hb)
          | (go_at_call 61; refine (make1_row (!nx) hrow.out (by omega)).mono ?_; rintro e w3 ⟨neg3, A3, n3, c3, rfl, hint, hb⟩; have hb3 := hb))
      have T3 := (TreN.over hb3 (TreN.over hb2 HE.out.drew))
      obtain ⟨y3, b3, m3, d3, hr3⟩ := T3.res
      have HI := Lib.hid (T3.int3 hint.out neg3 A3 n3 c3)
      have c0 := (hr3.put neg3 A3 n3 c3).c0
      have c1 := (hr3.put neg3 A3 n3 c3).c1
      have HB := Lib.hid (T3.put3 neg3 A3 n3 c3).below
      have HSZ := Lib.hid (put2_size w3 (w.heap.size + 2) neg3 A3 n3 c3)
      go_wp2
      refine bodyPost_ret (v := .agg #[.bool neg3, .slice A3 n3 c3]) (by simp [results, Tryd.results19, go_sem, c0, c1]) rfl ⟨neg3, A3, n3, c3, rfl, ?_, HB⟩
      have h : IsNum (put2 w3 (w.heap.size + 2) neg3 A3 n3 c3) (put2 w3 (w.heap.size + 2) neg3 A3 n3 c3).heap.size (max p q + 1) _ _ := HI.out.more (by rw [HSZ.out]; exact Nat.le_refl _) (by omega)
      rw [HV.out] at h
      exact h
end Go.Proofs.YtpikbhcjgcbdfaaDoor.wh

/- The document's answer Of. -/
namespace Go.Proofs.YtpikbhcjgcbdfaaDoor.wh
open Go.RowKit

/-- within digit i of the base 10^9: k decimal digits of it are had, q is left of it -/
def OfAt (ds : List Nat) (i k : Nat) (res : List Nat) (q : Nat) : Prop := res.length = 9 * i + k ∧ Ten res ∧ q < 10 ^ (9 - k) ∧ tval res + 10 ^ (9 * i + k) * q = val (ds.take (i + 1))
/-- i digits are had -/
def OfTo (ds : List Nat) (i : Nat) (res : List Nat) : Prop := res.length = 9 * i ∧ Ten res ∧ tval res = val (ds.take i)
theorem of_start {ds res : List Nat} {i q : Nat} (h : OfTo ds i res) (hi : i < ds.length) (hd : Dig ds) (hq : q = ds[i]) : OfAt ds i 0 res q := by
  obtain ⟨h1, h2, h3⟩ := h
  refine ⟨h1, h2, ?_, ?_⟩
  · have := hd.get i hi
    rw [← hq] at this
    exact this
  · rw [val_take_succ hi, h3, ← hq, Nat.add_zero, pow9]
theorem of_step {ds res : List Nat} {i k q r q' : Nat} (h : OfAt ds i k res q) (hk : k < 9) (hr : r = q % 10) (hq : q' = q / 10) : OfAt ds i (k + 1) (res ++ [r]) q' := by
  obtain ⟨h1, h2, h3, h4⟩ := h
  refine ⟨by simp [h1]; omega, h2.append (Ten.cons (by omega) Ten.nil), ?_, ?_⟩
  · rw [hq]
    apply Nat.div_lt_of_lt_mul
    rw [show 9 - k = 9 - (k + 1) + 1 by omega, Nat.pow_succ, Nat.mul_comm] at h3
    exact h3
  · rw [tval_snoc, h1, ← h4, ← Nat.add_assoc, Nat.pow_succ]
    have e : q = r + 10 * q' := by omega
    have e2 : 10 ^ (9 * i + k) * q = 10 ^ (9 * i + k) * r + 10 ^ (9 * i + k) * 10 * q' := by
      rw [e, Nat.mul_add, Nat.mul_assoc]
    omega
theorem of_end {ds res : List Nat} {i q : Nat} (h : OfAt ds i 9 res q) : OfTo ds (i + 1) res := by
  obtain ⟨h1, h2, h3, h4⟩ := h
  obtain rfl : q = 0 := by
    have : (10 : Nat) ^ (9 - 9) = 1 := rfl
    omega
  exact ⟨by omega, h2, by omega⟩

set_option maxRecDepth 100000 in
set_option maxHeartbeats 2000000 in
theorem refOf_any {v : Value} {m : Nat} {z : Int} {w : World} (hm : m ≤ 100) (hv : IsInt w w.heap.size m v z) :
    Calls Tryd.prog 13 #[v] w fun e w' => GivesNum w (9 * m) z e w' := by
  obtain ⟨i0, hi, hz0, hz1, hz2⟩ := info_parts info_int
  obtain ⟨neg, A, n, c, ds, rfl, hnm, CX, ZX⟩ := hv.cells
  clear hv
  have HB : Hid (Below w.heap.size w (((w.alloc (.cells #[.bool neg, .slice A n c] 24)).alloc (.cells #[.bool false, .slice none 0 0] 29)).alloc (.cells #[] 3))) := (((Below.refl _ _).alloc (Nat.le_refl _) _).alloc (by simp) _).alloc (by simp; omega) _
  have HX : Hid (Box (((w.alloc (.cells #[.bool neg, .slice A n c] 24)).alloc (.cells #[.bool false, .slice none 0 0] 29)).alloc (.cells #[] 3)) w.heap.size neg A n c) := ((Box.new _ _ _ _ _).alloc _).alloc _
  have HN : Hid (BoxN (((w.alloc (.cells #[.bool neg, .slice A n c] 24)).alloc (.cells #[.bool false, .slice none 0 0] 29)).alloc (.cells #[] 3)) (w.heap.size + 1) false none 0 0) := by
    have h := (BoxN.new (w.alloc (.cells #[.bool neg, .slice A n c] 24)) false none 0 0).alloc (.cells #[] 3)
    rwa [World.size_alloc] at h
  have HOWN : Hid ((((w.alloc (.cells #[.bool neg, .slice A n c] 24)).alloc (.cells #[.bool false, .slice none 0 0] 29)).alloc (.cells #[] 3)).ownsRow (w.heap.size + 2) 3 1 (.slice (some ⟨w.heap.size + 1 + 1, 0, none⟩) 0 0) 0 (i64s [])) := by
    have h := World.ownsRow_made ((w.alloc (.cells #[.bool neg, .slice A n c] 24)).alloc (.cells #[.bool false, .slice none 0 0] 29)) (base := w.heap.size + 2) (e := 3) (size := 1) #[] 0 (by simp) (by unfold maxLen; omega) rfl
    rwa [World.size_alloc, World.size_alloc] at h
  go_enter Tryd.func13, Tryd.ntmps13
  go_wp2
  go_loopw [3, 4] (fun dv iv wr => (∃ (i L : Nat) (res : List Nat) (A3 : Option Addr) (c3 : Nat), i ≤ n ∧ iv = .int .i64 (i : Int) ∧ L ≤ 900 ∧ dv = .slice A3 L c3 ∧ Hid (L = 9 * i) ∧ Hid (OfTo ds i res) ∧ Hid (wr.ownsRow (w.heap.size + 2) 3 1 (.slice A3 L c3) L (i64s res))) ∧ Hid (Box wr w.heap.size neg A n c) ∧ Hid (BoxN wr (w.heap.size + 1) false none 0 0) ∧ Hid (Below w.heap.size w wr)) (fun _ iv _ => n - (intOf iv).toNat)
  case atStart => exact ⟨⟨0, 0, [], _, _, by omega, rfl, by omega, rfl, rfl, ⟨rfl, Ten.nil, by simp [tval, val]⟩, HOWN.out⟩, HX, HN, HB⟩
  case round =>
    obtain ⟨⟨i, L, res, A3, c3, hin, rfl, hL, rfl, hLi, hof, hown⟩, hx, hnn, hb⟩ := hrel
    have c0 := hx.out.c0
    have c1 := hx.out.c1
    by_cases hlt : i < n
    · have gl : (i : Int) < (n : Int) := by omega
      have hil : i < ds.length := by rw [CX.out.len]; exact hlt
      obtain ⟨b1, o1, rfl, _, cd⟩ := (CX.out.over hb.out).rd.at_ hil
      obtain ⟨q0, hq0⟩ : ∃ q, q = ds[i] := ⟨_, rfl⟩
      rw [← hq0] at cd
      have hq9 : q0 < 1000000000 := by rw [hq0]; exact (right_dig CX.out.right).get _ _
      have HST := Lib.hid (of_start hof.out hil (right_dig CX.out.right) hq0)
      clear hq0
      go_wp2
      go_loopw [3, 5, 6] (fun dv nv kv wi => (∃ (k q L1 : Nat) (res1 : List Nat) (A4 : Option Addr) (c4 : Nat), k ≤ 9 ∧ kv = .int .i64 (k : Int) ∧ nv = .int .i64 (q : Int) ∧ q < 1000000000 ∧ L1 ≤ 900 ∧ dv = .slice A4 L1 c4 ∧ Hid (L1 = 9 * i + k) ∧ Hid (OfAt ds i k res1 q) ∧ Hid (wi.ownsRow (w.heap.size + 2) 3 1 (.slice A4 L1 c4) L1 (i64s res1))) ∧ Hid (Box wi w.heap.size neg (some ⟨b1, o1, none⟩) n c) ∧ Hid (BoxN wi (w.heap.size + 1) false none 0 0) ∧ Hid (Below w.heap.size w wi)) (fun _ _ kv _ => 9 - (intOf kv).toNat)
      case atStart => exact ⟨⟨0, q0, L, res, A3, c3, by omega, rfl, rfl, hq9, hL, rfl, hLi, HST, hown⟩, hx, hnn, hb⟩
      case round =>
        obtain ⟨⟨k, q, L1, res1, A4, c4, hk, rfl, rfl, hq, hL1, rfl, hLk, hat, how⟩, hx1, hn1, hb1⟩ := hrel
        by_cases hk9 : k < 9
        · have gk : (k : Int) < 9 := by omega
          obtain ⟨r, hr⟩ : ∃ r, r = q % 10 := ⟨_, rfl⟩
          obtain ⟨q', hq'⟩ : ∃ q', q' = q / 10 := ⟨_, rfl⟩
          have r1 : (q : Int) % 10 = (r : Int) := by omega
          have r2 : (q : Int) / 10 = (q' : Int) := by omega
          have HAT := Lib.hid (of_step hat.out hk9 hr hq')
          have hq2 : q' < 1000000000 := by omega
          have hL2 : L1 + 1 ≤ 900 := by have := hLk.out; omega
          have HLK : Hid (L1 + 1 = 9 * i + (k + 1)) := by have := hLk.out; show _ = _; omega
          have HM : Hid (L1 + 1 ≤ maxLen ∧ (L1 + 1) * 8 ≤ 140737488355328) := by constructor <;> (try unfold maxLen) <;> omega
          clear hr hq'
          go_wp2_with (at_builtin; refine wpList_append_own _ rfl _ _ 27 rfl (w.heap.size + 2) 3 i0 (.int .i64 0) 1 8 Tryd.underlying27 hi hz0 hz1 hz2 rfl (by decide) _ _ _ rfl (how.out.alloc _) ⟨wr.heap.size, 0, none⟩ 1 1 [.int .i64 (r : Int)] rfl rfl (one_cell _ _ _) (one_one _ _) HM.out.1 HM.out.2 (by have := hn1.out.lt; simp at this ⊢; try omega) ?_)
          intro v' w3 hown' hgrow _
          obtain ⟨A5, c5, rfl, hc5⟩ := own_row hown'
          have HX3 : Hid (Box w3 w.heap.size neg (some ⟨b1, o1, none⟩) n c) := Blk.grown (hx1.out.alloc _) hgrow (fun e => by have := (how.out.lt _ e.symm).1; omega)
          have HN3 : Hid (BoxN w3 (w.heap.size + 1) false none 0 0) := (hn1.out.alloc _).grown hgrow (fun e => by have := (how.out.lt _ e.symm).1; omega)
          have HB3 : Hid (Below w.heap.size w w3) := (hb1.out.alloc hb1.out.size _).grown hgrow (by have := hb1.out.size; simp; omega) (fun g hg => by have := (how.out.lt g hg).1; omega)
          have HO3 : Hid (w3.ownsRow (w.heap.size + 2) 3 1 (.slice A5 (L1 + 1) c5) (L1 + 1) (i64s (res1 ++ [r]))) := by
            show World.ownsRow _ _ _ _ _ _ _
            rw [i64s_append]
            exact hown'
          clear hgrow hown'
          go_wp2
          go_roundw
          case rel => exact ⟨⟨k + 1, q', L1 + 1, res1 ++ [r], A5, c5, by omega, by go_num, rfl, hq2, hL2, rfl, HLK, HAT, HO3⟩, HX3, HN3, HB3⟩
          case measure => simp [intOf]; omega
        · obtain rfl : k = 9 := by omega
          have HTO := Lib.hid (of_end hat.out)
          have HL3 : Hid (L1 = 9 * (i + 1)) := by have := hLk.out; show _ = _; omega
          go_wp2
          go_roundw
          case rel => exact ⟨⟨i + 1, L1, res1, A4, c4, by omega, by go_num, hL1, rfl, HL3, HTO, how⟩, hx1, hn1, hb1⟩
          case measure => simp [intOf]; omega
    · have gl : ¬ (i : Int) < (n : Int) := by omega
      obtain rfl : i = n := by omega
      have HV : Hid (tz neg res = z) := by
        show _ = _
        rw [← ZX.out]
        have h := hof.out.2.2
        rw [List.take_of_length_le (by rw [CX.out.len]; exact Nat.le_refl _)] at h
        unfold tz zval
        rw [h]
      have HLR : Hid (res.length = L) := by have := hof.out.1; have := hLi.out; show _ = _; omega
      have HT : Hid (Ten res) := hof.out.2.1
      obtain ⟨A', c', e', hc'⟩ := own_row hown.out
      have hc3 : L ≤ c3 := by injection e' with _ _ e3; omega
      have HR : Hid (Rn wr wr.heap.size A3 res) := Rn.of_own hown.out
      have hLm : L ≤ 9 * m := by have := hLi.out; omega
      clear e'
      go_wp2_with fail
      refine (make1_any neg A3 L c3 res wr HLR.out (by omega) hc3 HR.out HT.out).mono ?_
      rintro e w2 ⟨neg2, A2, n2, c2, rfl, hi2, hb2⟩
      have hx2 := hnn.out.over hb2.out
      have e0 := hx2.c0
      have e1 := hx2.c1
      have f0 := hx2.f0
      have f1 := hx2.f1
      have d0 := (hx2.put neg2 A2 n2 c2).c0
      have d1 := (hx2.put neg2 A2 n2 c2).c1
      have HI := Lib.hid (hi2.out.put hx2 neg2 A2 n2 c2)
      have HBL : Hid (Below w.heap.size w (put2 w2 (w.heap.size + 1) neg2 A2 n2 c2)) := below_put (hb.out.trans (hb2.out.mono hb.out.size)) (by omega) _ _ _ _
      have HSZ := Lib.hid (put2_size w2 (w.heap.size + 1) neg2 A2 n2 c2)
      clear hx2
      go_wp2
      refine bodyPost_ret (v := .agg #[.bool neg2, .slice A2 n2 c2]) (by simp [results, Tryd.results13, go_sem, d0, d1]) rfl ⟨neg2, A2, n2, c2, rfl, ?_, HBL⟩
      have h : IsNum (put2 w2 (w.heap.size + 1) neg2 A2 n2 c2) (put2 w2 (w.heap.size + 1) neg2 A2 n2 c2).heap.size (9 * m) _ _ := HI.out.more (by rw [HSZ.out]; exact Nat.le_refl _) hLm
      rw [HV.out] at h
      exact h
end Go.Proofs.YtpikbhcjgcbdfaaDoor.wh
