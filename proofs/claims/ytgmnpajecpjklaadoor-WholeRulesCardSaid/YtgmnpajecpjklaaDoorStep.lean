/- Package whole: divideStep. -/
import Derived.Test.YtgmnpajecpjklaaDoorDivZ
namespace Go.Proofs.YtgmnpajecpjklaaDoor.wh
open Go.RowKit

/-- what divideStep leaves -/
def StepDone (xs bs ys : List Nat) (q : Nat) : Prop := ys.length = xs.length ∧ Dig ys ∧ q = val xs / val bs ∧ val ys = val xs % val bs
/-- too much was taken: G + 1 times, and what is left stands below 0 -/
def OverAt (xs bs cur : List Nat) (G : Nat) : Prop := cur.length = xs.length ∧ Dig cur ∧ val cur + (G + 1) * val bs = val xs + 1000000000 ^ xs.length

theorem quo_unique {x b q r : Nat} (h : x = r + q * b) (hr : r < b) : q = x / b ∧ r = x % b := by
  subst h
  rw [Nat.add_mul_div_right _ _ (by omega), Nat.div_eq_of_lt hr, Nat.zero_add, Nat.add_mul_mod_self_right, Nat.mod_eq_of_lt hr]
  exact ⟨rfl, rfl⟩
theorem step_guess {xs bs : List Nat} {k xn xm bt : Nat} (hlx : xs.length = k + 2) (hlb : bs.length = k + 1) (hdx : Dig xs) (hxn : xn = xs[k + 1]) (hxm : xm = xs[k]) (hbt : bt = bs[k]) (hb1 : 1 ≤ bt) : val xs / val bs ≤ (xn * 1000000000 + xm) / bt := by
  have e1 := val_split xs k (by omega)
  rw [val_drop (by omega), val_drop (by omega), List.drop_eq_nil_of_le (by omega), ← hxn, ← hxm] at e1
  have e2 := val_split bs k (by omega)
  rw [val_drop (by omega), List.drop_eq_nil_of_le (by omega), ← hbt] at e2
  simp only [val, Nat.mul_zero, Nat.add_zero] at e1 e2
  have hl := val_lt (hdx.take k)
  rw [List.length_take, Nat.min_eq_left (by omega)] at hl
  rw [Nat.le_div_iff_mul_le (by omega)]
  have h1 := Nat.div_mul_le_self (val xs) (val bs)
  generalize val xs / val bs = q at *
  have h2 : q * (1000000000 ^ k * bt) ≤ q * val bs := Nat.mul_le_mul_left _ (by omega)
  have h3 : 1000000000 ^ k * (q * bt) < 1000000000 ^ k * (xn * 1000000000 + xm + 1) := by
    rw [Nat.mul_left_comm] at h2
    have e3 : 1000000000 ^ k * (xn * 1000000000 + xm + 1) = 1000000000 ^ k * (xm + 1000000000 * xn) + 1000000000 ^ k := by rw [show xn * 1000000000 + xm + 1 = (xm + 1000000000 * xn) + 1 by omega, Nat.mul_add, Nat.mul_one]
    omega
  have := Nat.lt_of_mul_lt_mul_left h3
  omega
theorem sub_no {xs bs ys : List Nat} {t : Nat} (h : Subbed xs bs t ys 0) (hle : val xs / val bs ≤ t) (hb : 0 < val bs) : StepDone xs bs ys t := by
  obtain ⟨h1, h2, h3, h4⟩ := h
  rw [Nat.mul_zero, Nat.add_zero] at h4
  have ht : t ≤ val xs / val bs := by
    rw [Nat.le_div_iff_mul_le hb]
    omega
  have e : t = val xs / val bs := by omega
  refine ⟨h1, h2, e, ?_⟩
  have h5 := Nat.div_add_mod (val xs) (val bs)
  rw [← e, Nat.mul_comm] at h5
  omega
theorem sub_yes {xs bs ys : List Nat} {t q : Nat} (h : Subbed xs bs t ys q) (hq : q ≠ 0) (ht : t < 1000000000) (hdb : Dig bs) (hl : bs.length + 1 = xs.length) : 1 ≤ t ∧ OverAt xs bs ys (t - 1) := by
  obtain ⟨h1, h2, h3, h4⟩ := h
  have hb := val_lt hdb
  have hy := val_lt h2
  rw [h1, ← hl] at hy
  rw [← hl] at h4
  have e0 : 1000000000 ^ (bs.length + 1) = 1000000000 * 1000000000 ^ bs.length := by rw [Nat.pow_succ, Nat.mul_comm]
  have h5 : t * val bs ≤ 999999999 * 1000000000 ^ bs.length := Nat.mul_le_mul (by omega) (by omega)
  have hq1 : q = 1 := by
    rcases Nat.lt_or_ge 1 q with h6 | h6
    · have : 1000000000 ^ (bs.length + 1) * 2 ≤ 1000000000 ^ (bs.length + 1) * q := Nat.mul_le_mul_left _ h6
      omega
    · omega
  subst hq1
  rw [Nat.mul_one] at h4
  have ht1 : 1 ≤ t := by
    rcases Nat.eq_zero_or_pos t with h6 | h6
    · subst h6
      rw [Nat.zero_mul] at h4
      omega
    · exact h6
  refine ⟨ht1, h1, h2, ?_⟩
  rw [show t - 1 + 1 = t by omega, ← hl]
  omega
theorem over_stop {xs bs cur ys : List Nat} {G : Nat} (h : OverAt xs bs cur G) (a : Added cur bs ys true) : StepDone xs bs ys G := by
  obtain ⟨h1, h2, h3⟩ := h
  obtain ⟨a1, a2, a3⟩ := a
  rw [if_pos rfl, h1] at a3
  have hc := val_lt h2
  rw [h1] at hc
  rw [Nat.add_mul, Nat.one_mul] at h3
  have h4 := quo_unique (x := val xs) (b := val bs) (q := G) (r := val ys) (by omega) (by omega)
  exact ⟨by rw [a1, h1], a2, h4.1, h4.2⟩
theorem over_go {xs bs cur ys : List Nat} {G : Nat} (h : OverAt xs bs cur G) (a : Added cur bs ys false) : 1 ≤ G ∧ OverAt xs bs ys (G - 1) := by
  obtain ⟨h1, h2, h3⟩ := h
  obtain ⟨a1, a2, a3⟩ := a
  simp only [Bool.false_eq_true, if_false, Nat.add_zero] at a3
  have hy := val_lt a2
  rw [a1, h1] at hy
  rw [Nat.add_mul, Nat.one_mul] at h3
  have hG : 1 ≤ G := by
    rcases Nat.eq_zero_or_pos G with h6 | h6
    · subst h6
      rw [Nat.zero_mul] at h3
      omega
    · exact h6
  refine ⟨hG, by rw [a1, h1], a2, ?_⟩
  rw [show G - 1 + 1 = G by omega]
  omega

def GivesStep (g off : Nat) (pre : List Value) (xs bs : List Nat) (post : List Value) (W : World) (e : Ending) (w' : World) : Prop :=
  ∃ ys q, e = .returned (.int .u32 ((q : Nat) : Int)) ∧ q < 1000000000 ∧ Hid (StepDone xs bs ys q) ∧ Hid (Seg w' g off pre ys post) ∧ Hid (Only g W w')

set_option maxRecDepth 100000 in
set_option maxHeartbeats 4000000 in
theorem step_any (g off k c d : Nat) (pre post : List Value) (B : Option Addr) (xs bs : List Nat) (w : World) (hlx : xs.length = k + 2) (hlb : bs.length = k + 1) (hk : k ≤ 2000)
    (hs : Seg w g off pre xs post) (hr : Rd w w.heap.size B bs) (hA : Away B g (k + 1)) (hdx : Dig xs) (hdb : Dig bs) (htop : Top bs) (hlt : val xs < 1000000000 * val bs) :
    Calls Tryd.prog 57 #[.slice (some ⟨g, off, none⟩) (k + 2) c, .slice B (k + 1) d] w fun e w' => GivesStep g off pre xs bs post w e w' := by
  obtain ⟨xn, hxn⟩ : ∃ x, x = xs[k + 1]'(by omega) := ⟨_, rfl⟩
  obtain ⟨xm, hxm⟩ : ∃ x, x = xs[k]'(by omega) := ⟨_, rfl⟩
  obtain ⟨bt, hbt⟩ : ∃ x, x = bs[k]'(by omega) := ⟨_, rfl⟩
  have cn := hs.cell (k := k + 1) (by omega)
  have cm := hs.cell (k := k) (by omega)
  obtain ⟨bb, bo, rfl, hbw, hbc⟩ := hr.at_ (k := k) (by omega)
  rw [← hxn] at cn
  rw [← hxm] at cm
  rw [← hbt] at hbc
  have hn9 : xn < 1000000000 := by rw [hxn]; exact hdx.get _ _
  have hm9 : xm < 1000000000 := by rw [hxm]; exact hdx.get _ _
  have hb9 : bt < 1000000000 := by rw [hbt]; exact hdb.get _ _
  have hb1 : 1 ≤ bt := by
    have hne : bs ≠ [] := fun e => by rw [e] at hlb; simp at hlb
    have h := htop hne
    rw [List.getLast_eq_getElem] at h
    simp only [hlb, Nat.add_sub_cancel] at h
    omega
  have hpos : Hid (0 < val bs) := by
    show 0 < val bs
    exact top_pos htop (by omega)
  have HG := Lib.hid (step_guess hlx hlb hdx hxn hxm hbt hb1)
  have HQ9 : Hid (val xs / val bs < 1000000000) := Nat.div_lt_of_lt_mul (by rw [Nat.mul_comm]; exact hlt)
  obtain ⟨top, ht⟩ : ∃ top, top = xn * 1000000000 + xm := ⟨_, rfl⟩
  rw [← ht] at HG
  have HTOP : (xn : Int) * 1000000000 + (xm : Int) = (top : Int) := by rw [ht]; simp
  obtain ⟨q0, hq0⟩ : ∃ q0, q0 = top / bt := ⟨_, rfl⟩
  rw [← hq0] at HG
  have HQ0 : (top : Int) / (bt : Int) = (q0 : Int) := by rw [hq0]; simp
  have htop9 : top < 1000000000000000000 := by omega
  have hq09 : q0 ≤ top := by rw [hq0]; exact Nat.div_le_self _ _
  have HS := Lib.hid hs
  have HR := Lib.hid hr
  have HA := Lib.hid hA
  have HX := Lib.hid hdx
  have HB := Lib.hid hdb
  have HLX := Lib.hid hlx
  have HLB := Lib.hid hlb
  have wk1 : IntKind.i64.wrap ((k : Int) + 1 - 1) = (k : Int) := by rw [show (k : Int) + 1 - 1 = (k : Int) by omega]; exact IntWalk.i64_in _ (by omega)
  have wk0 : IntKind.i64.wrap (k : Int) = (k : Int) := IntWalk.i64_in _ (by omega)
  have b0 : (0 : Int) ≤ (k : Int) := by omega
  have b1 : (0 : Int) ≤ (k : Int) + 1 := by omega
  have b2 : (k : Int) + 1 < (k : Int) + 2 := by omega
  have b3 : (k : Int) < (k : Int) + 2 := by omega
  have b4 : (k : Int) < (k : Int) + 1 := by omega
  have b5 : ((k : Int) + 1).toNat = k + 1 := by omega
  have u1 : IntKind.u64.wrap ((xn : Int) * 1000000000) = (xn : Int) * 1000000000 := by simp [IntKind.wrap, IntKind.bits, IntKind.signed]; omega
  have u2 : IntKind.u64.wrap (top : Int) = (top : Int) := by simp [IntKind.wrap, IntKind.bits, IntKind.signed]; omega
  have u0 : IntKind.u64.wrap (xn : Int) = (xn : Int) := by simp [IntKind.wrap, IntKind.bits, IntKind.signed]; omega
  have um : IntKind.u64.wrap (xm : Int) = (xm : Int) := by simp [IntKind.wrap, IntKind.bits, IntKind.signed]; omega
  have ub : IntKind.u64.wrap (bt : Int) = (bt : Int) := by simp [IntKind.wrap, IntKind.bits, IntKind.signed]; omega
  have uq : IntKind.u64.wrap (q0 : Int) = (q0 : Int) := by simp [IntKind.wrap, IntKind.bits, IntKind.signed]; omega
  have bz : ((bt : Int) == 0) = false := by rw [beq_eq_false_iff_ne]; omega
  clear hs hr hA hdx hdb hlx hlb hxn hxm hbt ht hq0 htop hlt
  go_enter Tryd.func57, Tryd.ntmps57
  go_wp2
  go_region_held3 (fun w' => w'.cell? ⟨g, off + (k + 1), none⟩ = some (.int .u32 (xn : Int)) ∧ w'.cell? ⟨g, off + k, none⟩ = some (.int .u32 (xm : Int))) (first | (exact ⟨cn, cm⟩) | assumption) (fail)
  (try simp only [u0, um, u1, HTOP, u2])
  by_cases hm : q0 ≤ 999999999
  · have hm1 : (q0 : Int) ≤ 999999999 := by omega
    go_wp2_with fail
    obtain ⟨t, rfl⟩ : ∃ t, t = q0 := ⟨_, rfl⟩
    have HT : Hid (val xs / val bs ≤ t) := HG
    have t9 : t < 1000000000 := by omega
    clear hm hm1 HG hq09 HQ9 HQ0 HTOP
    refine (subtract_any g off (k + 2) c (k + 1) d t pre post (some ⟨bb, bo, none⟩) xs bs w.drew HLX.out HLB.out (by omega) (by unfold maxLen; omega) t9 HS.out HR.out HA.out HX.out HB.out).mono ?_
    rintro e w1 ⟨ys, q, rfl, hsub, hsg, ho⟩
    have HSUB := Lib.hid hsub
    have HSG := Lib.hid hsg
    have HO : Hid (Only g w w1) := only_trans (b := w.drew) ⟨rfl, rfl, rfl, Nat.le_refl _, fun _ _ _ => rfl⟩ ho
    clear hsub hsg ho
    by_cases hq : q = 0
    · subst hq
      have HD := Lib.hid (sub_no HSUB.out HT.out hpos.out)
      have v1 : IntKind.u32.wrap (t : Int) = (t : Int) := by simp [IntKind.wrap, IntKind.bits, IntKind.signed]; omega
      go_wp2
      go_ret
      exact ⟨ys, t, rfl, t9, HD, HSG, HO⟩
    · have hq1 : (q != 0) = true := by simpa using hq
      have HY := Lib.hid (sub_yes HSUB.out hq t9 HB.out (by rw [HLX.out, HLB.out]))
      obtain ⟨G0, rfl⟩ : ∃ G0, t = G0 + 1 := ⟨t - 1, by have := HY.out.1; omega⟩
      have HOV : Hid (OverAt xs bs ys G0) := by have h := HY.out.2; rwa [Nat.add_sub_cancel] at h
      have v0 : IntKind.u64.wrap (G0 : Int) = (G0 : Int) := by simp [IntKind.wrap, IntKind.bits, IntKind.signed]; omega
      clear hq HY
      go_wp2
      go_loopw [7] (fun u wr => (∃ (G : Nat) (cur : List Nat), u = .int .u64 (G : Int) ∧ G < 1000000000 ∧ Hid (OverAt xs bs cur G) ∧ Hid (Seg wr g off pre cur post)) ∧ Hid (Only g w wr)) (fun u _ => (intOf u).toNat)
      case atStart => exact ⟨⟨G0, ys, rfl, by omega, HOV, HSG⟩, HO⟩
      case round =>
        obtain ⟨⟨G, cur, rfl, hG9, hov, hsg⟩, ho⟩ := hrel
        go_wp2_with fail
        refine (addTo_any g off (k + 2) c (k + 1) d pre post (some ⟨bb, bo, none⟩) cur bs wr (by rw [hov.out.1]; exact HLX.out) HLB.out (by omega) (by unfold maxLen; omega) hsg.out ((HR.out.only (by rw [HLB.out]; exact HA.out) ho.out (Nat.le_refl _)).more ho.out.size) HA.out hov.out.2.1 HB.out).mono ?_
        rintro e w2 ⟨zs, over, rfl, hadd, hsg2, ho2⟩
        have HADD := Lib.hid hadd
        have HSG2 := Lib.hid hsg2
        have HO2 : Hid (Only g w w2) := only_trans ho.out ho2
        clear hadd hsg2 ho2
        cases over with
        | true =>
          have HD := Lib.hid (over_stop hov.out HADD.out)
          have v1 : IntKind.u32.wrap (G : Int) = (G : Int) := by simp [IntKind.wrap, IntKind.bits, IntKind.signed]; omega
          go_wp2
          go_ret
          exact ⟨zs, G, rfl, hG9, HD, HSG2, HO2⟩
        | false =>
          have HY := Lib.hid (over_go hov.out HADD.out)
          obtain ⟨G1, rfl⟩ : ∃ G1, G = G1 + 1 := ⟨G - 1, by have := HY.out.1; omega⟩
          have HOV2 : Hid (OverAt xs bs zs G1) := by have h := HY.out.2; rwa [Nat.add_sub_cancel] at h
          have v2 : IntKind.u64.wrap (G1 : Int) = (G1 : Int) := by simp [IntKind.wrap, IntKind.bits, IntKind.signed]; omega
          clear HY
          go_wp2
          go_roundw
          case rel => exact ⟨⟨G1, zs, rfl, by omega, HOV2, HSG2⟩, HO2⟩
          case measure => simp [intOf]
  · have hm1 : ¬ (q0 : Int) ≤ 999999999 := by omega
    go_wp2_with fail
    obtain ⟨t, ht⟩ : ∃ t : Nat, t = 999999999 := ⟨_, rfl⟩
    have et : (999999999 : Int) = (t : Int) := by rw [ht]; rfl
    rw [et]
    have HT : Hid (val xs / val bs ≤ t) := by have h := HQ9.out; show _ ≤ _; omega
    have t9 : t < 1000000000 := by omega
    clear hm hm1 HG hq09 HQ9 HQ0 HTOP et ht
    refine (subtract_any g off (k + 2) c (k + 1) d t pre post (some ⟨bb, bo, none⟩) xs bs w.drew HLX.out HLB.out (by omega) (by unfold maxLen; omega) t9 HS.out HR.out HA.out HX.out HB.out).mono ?_
    rintro e w1 ⟨ys, q, rfl, hsub, hsg, ho⟩
    have HSUB := Lib.hid hsub
    have HSG := Lib.hid hsg
    have HO : Hid (Only g w w1) := only_trans (b := w.drew) ⟨rfl, rfl, rfl, Nat.le_refl _, fun _ _ _ => rfl⟩ ho
    clear hsub hsg ho
    by_cases hq : q = 0
    · subst hq
      have HD := Lib.hid (sub_no HSUB.out HT.out hpos.out)
      have v1 : IntKind.u32.wrap (t : Int) = (t : Int) := by simp [IntKind.wrap, IntKind.bits, IntKind.signed]; omega
      go_wp2
      go_ret
      exact ⟨ys, t, rfl, t9, HD, HSG, HO⟩
    · have hq1 : (q != 0) = true := by simpa using hq
      have HY := Lib.hid (sub_yes HSUB.out hq t9 HB.out (by rw [HLX.out, HLB.out]))
      obtain ⟨G0, rfl⟩ : ∃ G0, t = G0 + 1 := ⟨t - 1, by have := HY.out.1; omega⟩
      have HOV : Hid (OverAt xs bs ys G0) := by have h := HY.out.2; rwa [Nat.add_sub_cancel] at h
      have v0 : IntKind.u64.wrap (G0 : Int) = (G0 : Int) := by simp [IntKind.wrap, IntKind.bits, IntKind.signed]; omega
      clear hq HY
      go_wp2
      go_loopw [7] (fun u wr => (∃ (G : Nat) (cur : List Nat), u = .int .u64 (G : Int) ∧ G < 1000000000 ∧ Hid (OverAt xs bs cur G) ∧ Hid (Seg wr g off pre cur post)) ∧ Hid (Only g w wr)) (fun u _ => (intOf u).toNat)
      case atStart => exact ⟨⟨G0, ys, rfl, by omega, HOV, HSG⟩, HO⟩
      case round =>
        obtain ⟨⟨G, cur, rfl, hG9, hov, hsg⟩, ho⟩ := hrel
        go_wp2_with fail
        refine (addTo_any g off (k + 2) c (k + 1) d pre post (some ⟨bb, bo, none⟩) cur bs wr (by rw [hov.out.1]; exact HLX.out) HLB.out (by omega) (by unfold maxLen; omega) hsg.out ((HR.out.only (by rw [HLB.out]; exact HA.out) ho.out (Nat.le_refl _)).more ho.out.size) HA.out hov.out.2.1 HB.out).mono ?_
        rintro e w2 ⟨zs, over, rfl, hadd, hsg2, ho2⟩
        have HADD := Lib.hid hadd
        have HSG2 := Lib.hid hsg2
        have HO2 : Hid (Only g w w2) := only_trans ho.out ho2
        clear hadd hsg2 ho2
        cases over with
        | true =>
          have HD := Lib.hid (over_stop hov.out HADD.out)
          have v1 : IntKind.u32.wrap (G : Int) = (G : Int) := by simp [IntKind.wrap, IntKind.bits, IntKind.signed]; omega
          go_wp2
          go_ret
          exact ⟨zs, G, rfl, hG9, HD, HSG2, HO2⟩
        | false =>
          have HY := Lib.hid (over_go hov.out HADD.out)
          obtain ⟨G1, rfl⟩ : ∃ G1, G = G1 + 1 := ⟨G - 1, by have := HY.out.1; omega⟩
          have HOV2 : Hid (OverAt xs bs zs G1) := by have h := HY.out.2; rwa [Nat.add_sub_cancel] at h
          have v2 : IntKind.u64.wrap (G1 : Int) = (G1 : Int) := by simp [IntKind.wrap, IntKind.bits, IntKind.signed]; omega
          clear HY
          go_wp2
          go_roundw
          case rel => exact ⟨⟨G1, zs, rfl, by omega, HOV2, HSG2⟩, HO2⟩
          case measure => simp [intOf]
end Go.Proofs.YtgmnpajecpjklaaDoor.wh
