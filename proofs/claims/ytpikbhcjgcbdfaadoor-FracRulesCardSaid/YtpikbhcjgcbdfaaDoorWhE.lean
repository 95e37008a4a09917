/- Package whole: divideStep. Package whole: product, with what it lays in memory; divide by more than one digit. Package whole: divide by more than one digit: its numbers. Package whole: divide by more than one digit; divide of any two numbers. Package whole: Neg. Package whole: Gcd. -/
import Derived.Test.YtpikbhcjgcbdfaaDoorWhC
/- Package whole: divideStep. -/
namespace Go.Proofs.YtpikbhcjgcbdfaaDoor.wh
open Go.RowKit

/-- what divideStep leaves -/
def StepDone (xs bs ys : List Nat) (q : Nat) : Prop := ys.length = xs.length ∧ Dig ys ∧ q = val xs / val bs ∧ val ys = val xs % val bs
/-- too much was taken: G + 1 times, and what is left stands below 0 -/
def OverAt (xs bs cur : List Nat) (G : Nat) : Prop := cur.length = xs.length ∧ Dig cur ∧ val cur + (G + 1) * val bs = val xs + 1000000000 ^ xs.length

theorem quo_unique {x b q r : Nat} (h : x = r + q * b) (hr : r < b) : q = x / b ∧ r = x % b := by
  subst h
  rw [Nat.add_mul_div_right _ _ (by omega), Nat.div_eq_of_lt hr, Nat.zero_add, Nat.add_mul_mod_self_right, Nat.mod_eq_of_lt hr]
  exact ⟨rfl, rfl⟩
theorem step_guess {xs bs : List Nat} {k xn xm bt : Nat} (hlx : xs.length = k + 2) (hlb : bs.length = k + 1) (hdx : Dig xs) (hxn : xn = xs[k + 1]) (hxm : xm = xs[k]) (hbt : bt = bs[k]) (hb1 : 1 ≤ bt) : val xs / val bs ≤ (xn * 1000000000 + xm) / bt := by
  have e1 := val_split xs k (by omega)
  rw [val_drop (by omega), val_drop (by omega), List.drop_eq_nil_of_le (by omega), ← hxn, ← hxm] at e1
  have e2 := val_split bs k (by omega)
  rw [val_drop (by omega), List.drop_eq_nil_of_le (by omega), ← hbt] at e2
  simp only [val, Nat.mul_zero, Nat.add_zero] at e1 e2
  have hl := val_lt (hdx.take k)
  rw [List.length_take, Nat.min_eq_left (by omega)] at hl
  rw [Nat.le_div_iff_mul_le (by omega)]
  have h1 := Nat.div_mul_le_self (val xs) (val bs)
  generalize val xs / val bs = q at *
  have h2 : q * (1000000000 ^ k * bt) ≤ q * val bs := Nat.mul_le_mul_left _ (by omega)
  have h3 : 1000000000 ^ k * (q * bt) < 1000000000 ^ k * (xn * 1000000000 + xm + 1) := by
    rw [Nat.mul_left_comm] at h2
    have e3 : 1000000000 ^ k * (xn * 1000000000 + xm + 1) = 1000000000 ^ k * (xm + 1000000000 * xn) + 1000000000 ^ k := by rw [show xn * 1000000000 + xm + 1 = (xm + 1000000000 * xn) + 1 by omega, Nat.mul_add, Nat.mul_one]
    omega
  have := Nat.lt_of_mul_lt_mul_left h3
  omega
theorem sub_no {xs bs ys : List Nat} {t : Nat} (h : Subbed xs bs t ys 0) (hle : val xs / val bs ≤ t) (hb : 0 < val bs) : StepDone xs bs ys t := by
  obtain ⟨h1, h2, h3, h4⟩ := h
  rw [Nat.mul_zero, Nat.add_zero] at h4
  have ht : t ≤ val xs / val bs := by
    rw [Nat.le_div_iff_mul_le hb]
    omega
  have e : t = val xs / val bs := by omega
  refine ⟨h1, h2, e, ?_⟩
  have h5 := Nat.div_add_mod (val xs) (val bs)
  rw [← e, Nat.mul_comm] at h5
  omega
theorem sub_yes {xs bs ys : List Nat} {t q : Nat} (h : Subbed xs bs t ys q) (hq : q ≠ 0) (ht : t < 1000000000) (hdb : Dig bs) (hl : bs.length + 1 = xs.length) : 1 ≤ t ∧ OverAt xs bs ys (t - 1) := by
  obtain ⟨h1, h2, h3, h4⟩ := h
  have hb := val_lt hdb
  have hy := val_lt h2
  rw [h1, ← hl] at hy
  rw [← hl] at h4
  have e0 : 1000000000 ^ (bs.length + 1) = 1000000000 * 1000000000 ^ bs.length := by rw [Nat.pow_succ, Nat.mul_comm]
  have h5 : t * val bs ≤ 999999999 * 1000000000 ^ bs.length := Nat.mul_le_mul (by omega) (by omega)
  have hq1 : q = 1 := by
    rcases Nat.lt_or_ge 1 q with h6 | h6
    · have : 1000000000 ^ (bs.length + 1) * 2 ≤ 1000000000 ^ (bs.length + 1) * q := Nat.mul_le_mul_left _ h6
      omega
    · omega
  subst hq1
  rw [Nat.mul_one] at h4
  have ht1 : 1 ≤ t := by
    rcases Nat.eq_zero_or_pos t with h6 | h6
    · subst h6
      rw [Nat.zero_mul] at h4
      omega
    · exact h6
  refine ⟨ht1, h1, h2, ?_⟩
  rw [show t - 1 + 1 = t by omega, ← hl]
  omega
theorem over_stop {xs bs cur ys : List Nat} {G : Nat} (h : OverAt xs bs cur G) (a : Added cur bs ys true) : StepDone xs bs ys G := by
  obtain ⟨h1, h2, h3⟩ := h
  obtain ⟨a1, a2, a3⟩ := a
  rw [if_pos rfl, h1] at a3
  have hc := val_lt h2
  rw [h1] at hc
  rw [Nat.add_mul, Nat.one_mul] at h3
  have h4 := quo_unique (x := val xs) (b := val bs) (q := G) (r := val ys) (by omega) (by omega)
  exact ⟨by rw [a1, h1], a2, h4.1, h4.2⟩
theorem over_go {xs bs cur ys : List Nat} {G : Nat} (h : OverAt xs bs cur G) (a : Added cur bs ys false) : 1 ≤ G ∧ OverAt xs bs ys (G - 1) := by
  obtain ⟨h1, h2, h3⟩ := h
  obtain ⟨a1, a2, a3⟩ := a
  simp only [Bool.false_eq_true, if_false, Nat.add_zero] at a3
  have hy := val_lt a2
  rw [a1, h1] at hy
  rw [Nat.add_mul, Nat.one_mul] at h3
  have hG : 1 ≤ G := by
    rcases Nat.eq_zero_or_pos G with h6 | h6
    · subst h6
      rw [Nat.zero_mul] at h3
      omega
    · exact h6
  refine ⟨hG, by rw [a1, h1], a2, ?_⟩
  rw [show G - 1 + 1 = G by omega]
  omega

def GivesStep (g off : Nat) (pre : List Value) (xs bs : List Nat) (post : List Value) (W : World) (e : Ending) (w' : World) : Prop :=
  ∃ ys q, e = .returned (.int .u32 ((q : Nat) : Int)) ∧ q < 1000000000 ∧ Hid (StepDone xs bs ys q) ∧ Hid (Seg w' g off pre ys post) ∧ Hid (Only g W w')

set_option maxRecDepth 100000 in
set_option maxHeartbeats 4000000 in
theorem step_any (g off k c d : Nat) (pre post : List Value) (B : Option Addr) (xs bs : List Nat) (w : World) (hlx : xs.length = k + 2) (hlb : bs.length = k + 1) (hk : k ≤ 2000)
    (hs : Seg w g off pre xs post) (hr : Rd w w.heap.size B bs) (hA : Away B g (k + 1)) (hdx : Dig xs) (hdb : Dig bs) (htop : Top bs) (hlt : val xs < 1000000000 * val bs) :
    Calls Tryd.prog 93 #[.slice (some ⟨g, off, none⟩) (k + 2) c, .slice B (k + 1) d] w fun e w' => GivesStep g off pre xs bs post w e w' := by
  obtain ⟨xn, hxn⟩ : ∃ x, x = xs[k + 1]'(by omega) := ⟨_, rfl⟩
  obtain ⟨xm, hxm⟩ : ∃ x, x = xs[k]'(by omega) := ⟨_, rfl⟩
  obtain ⟨bt, hbt⟩ : ∃ x, x = bs[k]'(by omega) := ⟨_, rfl⟩
  have cn := hs.cell (k := k + 1) (by omega)
  have cm := hs.cell (k := k) (by omega)
  obtain ⟨bb, bo, rfl, hbw, hbc⟩ := hr.at_ (k := k) (by omega)
  rw [← hxn] at cn
  rw [← hxm] at cm
  rw [← hbt] at hbc
  have hn9 : xn < 1000000000 := by rw [hxn]; exact hdx.get _ _
  have hm9 : xm < 1000000000 := by rw [hxm]; exact hdx.get _ _
  have hb9 : bt < 1000000000 := by rw [hbt]; exact hdb.get _ _
  have hb1 : 1 ≤ bt := by
    have hne : bs ≠ [] := fun e => by rw [e] at hlb; simp at hlb
    have h := htop hne
    rw [List.getLast_eq_getElem] at h
    simp only [hlb, Nat.add_sub_cancel] at h
    omega
  have hpos : Hid (0 < val bs) := by
    show 0 < val bs
    exact top_pos htop (by omega)
  have HG := Lib.hid (step_guess hlx hlb hdx hxn hxm hbt hb1)
  have HQ9 : Hid (val xs / val bs < 1000000000) := Nat.div_lt_of_lt_mul (by rw [Nat.mul_comm]; exact hlt)
  obtain ⟨top, ht⟩ : ∃ top, top = xn * 1000000000 + xm := ⟨_, rfl⟩
  rw [← ht] at HG
  have HTOP : (xn : Int) * 1000000000 + (xm : Int) = (top : Int) := by rw [ht]; simp
  obtain ⟨q0, hq0⟩ : ∃ q0, q0 = top / bt := ⟨_, rfl⟩
  rw [← hq0] at HG
  have HQ0 : (top : Int) / (bt : Int) = (q0 : Int) := by rw [hq0]; simp
  have htop9 : top < 1000000000000000000 := by omega
  have hq09 : q0 ≤ top := by rw [hq0]; exact Nat.div_le_self _ _
  have HS := Lib.hid hs
  have HR := Lib.hid hr
  have HA := Lib.hid hA
  have HX := Lib.hid hdx
  have HB := Lib.hid hdb
  have HLX := Lib.hid hlx
  have HLB := Lib.hid hlb
  have wk1 : IntKind.i64.wrap ((k : Int) + 1 - 1) = (k : Int) := by rw [show (k : Int) + 1 - 1 = (k : Int) by omega]; exact IntWalk.i64_in _ (by omega)
  have wk0 : IntKind.i64.wrap (k : Int) = (k : Int) := IntWalk.i64_in _ (by omega)
  have b0 : (0 : Int) ≤ (k : Int) := by omega
  have b1 : (0 : Int) ≤ (k : Int) + 1 := by omega
  have b2 : (k : Int) + 1 < (k : Int) + 2 := by omega
  have b3 : (k : Int) < (k : Int) + 2 := by omega
  have b4 : (k : Int) < (k : Int) + 1 := by omega
  have b5 : ((k : Int) + 1).toNat = k + 1 := by omega
  have u1 : IntKind.u64.wrap ((xn : Int) * 1000000000) = (xn : Int) * 1000000000 := by simp [IntKind.wrap, IntKind.bits, IntKind.signed]; omega
  have u2 : IntKind.u64.wrap (top : Int) = (top : Int) := by simp [IntKind.wrap, IntKind.bits, IntKind.signed]; omega
  have u0 : IntKind.u64.wrap (xn : Int) = (xn : Int) := by simp [IntKind.wrap, IntKind.bits, IntKind.signed]; omega
  have um : IntKind.u64.wrap (xm : Int) = (xm : Int) := by simp [IntKind.wrap, IntKind.bits, IntKind.signed]; omega
  have ub : IntKind.u64.wrap (bt : Int) = (bt : Int) := by simp [IntKind.wrap, IntKind.bits, IntKind.signed]; omega
  have uq : IntKind.u64.wrap (q0 : Int) = (q0 : Int) := by simp [IntKind.wrap, IntKind.bits, IntKind.signed]; omega
  have bz : ((bt : Int) == 0) = false := by rw [beq_eq_false_iff_ne]; omega
  clear hs hr hA hdx hdb hlx hlb hxn hxm hbt ht hq0 htop hlt
  go_enter Tryd.func93, Tryd.ntmps93
  go_wp2
  go_region_held3 (fun w' => w'.cell? ⟨g, off + (k + 1), none⟩ = some (.int .u32 (xn : Int)) ∧ w'.cell? ⟨g, off + k, none⟩ = some (.int .u32 (xm : Int))) (first | (exact ⟨cn, cm⟩) | assumption) (fail)
  (try simp only [u0, um, u1, HTOP, u2])
  by_cases hm : q0 ≤ 999999999
  · have hm1 : (q0 : Int) ≤ 999999999 := by omega
    go_wp2_with fail
    obtain ⟨t, rfl⟩ : ∃ t, t = q0 := ⟨_, rfl⟩
    have HT : Hid (val xs / val bs ≤ t) := HG
    have t9 : t < 1000000000 := by omega
    clear hm hm1 HG hq09 HQ9 HQ0 HTOP
    refine (subtract_any g off (k + 2) c (k + 1) d t pre post (some ⟨bb, bo, none⟩) xs bs w.drew HLX.out HLB.out (by omega) (by unfold maxLen; omega) t9 HS.out HR.out HA.out HX.out HB.out).mono ?_
    rintro e w1 ⟨ys, q, rfl, hsub, hsg, ho⟩
    have HSUB := Lib.hid hsub
    have HSG := Lib.hid hsg
    have HO : Hid (Only g w w1) := only_trans (b := w.drew) ⟨rfl, rfl, rfl, Nat.le_refl _, fun _ _ _ => rfl⟩ ho
    clear hsub hsg ho
    by_cases hq : q = 0
    · subst hq
      have HD := Lib.hid (sub_no HSUB.out HT.out hpos.out)
      have v1 : IntKind.u32.wrap (t : Int) = (t : Int) := by simp [IntKind.wrap, IntKind.bits, IntKind.signed]; omega
      go_wp2
      go_ret
      exact ⟨ys, t, rfl, t9, HD, HSG, HO⟩
    · have hq1 : (q != 0) = true := by simpa using hq
      have HY := Lib.hid (sub_yes HSUB.out hq t9 HB.out (by rw [HLX.out, HLB.out]))
      obtain ⟨G0, rfl⟩ : ∃ G0, t = G0 + 1 := ⟨t - 1, by have := HY.out.1; omega⟩
      have HOV : Hid (OverAt xs bs ys G0) := by have h := HY.out.2; rwa [Nat.add_sub_cancel] at h
      have v0 : IntKind.u64.wrap (G0 : Int) = (G0 : Int) := by simp [IntKind.wrap, IntKind.bits, IntKind.signed]; omega
      clear hq HY
      go_wp2
      go_loopw [7] (fun u wr => (∃ (G : Nat) (cur : List Nat), u = .int .u64 (G : Int) ∧ G < 1000000000 ∧ Hid (OverAt xs bs cur G) ∧ Hid (Seg wr g off pre cur post)) ∧ Hid (Only g w wr)) (fun u _ => (intOf u).toNat)
      case atStart => exact ⟨⟨G0, ys, rfl, by omega, HOV, HSG⟩, HO⟩
      case round =>
        obtain ⟨⟨G, cur, rfl, hG9, hov, hsg⟩, ho⟩ := hrel
        go_wp2_with fail
        refine (addTo_any g off (k + 2) c (k + 1) d pre post (some ⟨bb, bo, none⟩) cur bs wr (by rw [hov.out.1]; exact HLX.out) HLB.out (by omega) (by unfold maxLen; omega) hsg.out ((HR.out.only (by rw [HLB.out]; exact HA.out) ho.out (Nat.le_refl _)).more ho.out.size) HA.out hov.out.2.1 HB.out).mono ?_
        rintro e w2 ⟨zs, over, rfl, hadd, hsg2, ho2⟩
        have HADD := Lib.hid hadd
        have HSG2 := Lib.hid hsg2
        have HO2 : Hid (Only g w w2) := only_trans ho.out ho2
        clear hadd hsg2 ho2
        cases over with
        | true =>
          have HD := Lib.hid (over_stop hov.out HADD.out)
          have v1 : IntKind.u32.wrap (G : Int) = (G : Int) := by simp [IntKind.wrap, IntKind.bits, IntKind.signed]; omega
          go_wp2
          go_ret
          exact ⟨zs, G, rfl, hG9, HD, HSG2, HO2⟩
        | false =>
          have HY := Lib.hid (over_go hov.out HADD.out)
          obtain ⟨G1, rfl⟩ : ∃ G1, G = G1 + 1 := ⟨G - 1, by have := HY.out.1; omega⟩
          have HOV2 : Hid (OverAt xs bs zs G1) := by have h := HY.out.2; rwa [Nat.add_sub_cancel] at h
          have v2 : IntKind.u64.wrap (G1 : Int) = (G1 : Int) := by simp [IntKind.wrap, IntKind.bits, IntKind.signed]; omega
          clear HY
          go_wp2
          go_roundw
          case rel => exact ⟨⟨G1, zs, rfl, by omega, HOV2, HSG2⟩, HO2⟩
          case measure => simp [intOf]
  · have hm1 : ¬ (q0 : Int) ≤ 999999999 := by omega
    go_wp2_with fail
    obtain ⟨t, ht⟩ : ∃ t : Nat, t = 999999999 := ⟨_, rfl⟩
    have et : (999999999 : Int) = (t : Int) := by rw [ht]; rfl
    rw [et]
    have HT : Hid (val xs / val bs ≤ t) := by have h := HQ9.out; show _ ≤ _; omega
    have t9 : t < 1000000000 := by omega
    clear hm hm1 HG hq09 HQ9 HQ0 HTOP et ht
    refine (subtract_any g off (k + 2) c (k + 1) d t pre post (some ⟨bb, bo, none⟩) xs bs w.drew HLX.out HLB.out (by omega) (by unfold maxLen; omega) t9 HS.out HR.out HA.out HX.out HB.out).mono ?_
    rintro e w1 ⟨ys, q, rfl, hsub, hsg, ho⟩
    have HSUB := Lib.hid hsub
    have HSG := Lib.hid hsg
    have HO : Hid (Only g w w1) := only_trans (b := w.drew) ⟨rfl, rfl, rfl, Nat.le_refl _, fun _ _ _ => rfl⟩ ho
    clear hsub hsg ho
    by_cases hq : q = 0
    · subst hq
      have HD := Lib.hid (sub_no HSUB.out HT.out hpos.out)
      have v1 : IntKind.u32.wrap (t : Int) = (t : Int) := by simp [IntKind.wrap, IntKind.bits, IntKind.signed]; omega
      go_wp2
      go_ret
      exact ⟨ys, t, rfl, t9, HD, HSG, HO⟩
    · have hq1 : (q != 0) = true := by simpa using hq
      have HY := Lib.hid (sub_yes HSUB.out hq t9 HB.out (by rw [HLX.out, HLB.out]))
      obtain ⟨G0, rfl⟩ : ∃ G0, t = G0 + 1 := ⟨t - 1, by have := HY.out.1; omega⟩
      have HOV : Hid (OverAt xs bs ys G0) := by have h := HY.out.2; rwa [Nat.add_sub_cancel] at h
      have v0 : IntKind.u64.wrap (G0 : Int) = (G0 : Int) := by simp [IntKind.wrap, IntKind.bits, IntKind.signed]; omega
      clear hq HY
      go_wp2
      go_loopw [7] (fun u wr => (∃ (G : Nat) (cur : List Nat), u = .int .u64 (G : Int) ∧ G < 1000000000 ∧ Hid (OverAt xs bs cur G) ∧ Hid (Seg wr g off pre cur post)) ∧ Hid (Only g w wr)) (fun u _ => (intOf u).toNat)
      case atStart => exact ⟨⟨G0, ys, rfl, by omega, HOV, HSG⟩, HO⟩
      case round =>
        obtain ⟨⟨G, cur, rfl, hG9, hov, hsg⟩, ho⟩ := hrel
        go_wp2_with fail
        refine (addTo_any g off (k + 2) c (k + 1) d pre post (some ⟨bb, bo, none⟩) cur bs wr (by rw [hov.out.1]; exact HLX.out) HLB.out (by omega) (by unfold maxLen; omega) hsg.out ((HR.out.only (by rw [HLB.out]; exact HA.out) ho.out (Nat.le_refl _)).more ho.out.size) HA.out hov.out.2.1 HB.out).mono ?_
        rintro e w2 ⟨zs, over, rfl, hadd, hsg2, ho2⟩
        have HADD := Lib.hid hadd
        have HSG2 := Lib.hid hsg2
        have HO2 : Hid (Only g w w2) := only_trans ho.out ho2
        clear hadd hsg2 ho2
        cases over with
        | true =>
          have HD := Lib.hid (over_stop hov.out HADD.out)
          have v1 : IntKind.u32.wrap (G : Int) = (G : Int) := by simp [IntKind.wrap, IntKind.bits, IntKind.signed]; omega
          go_wp2
          go_ret
          exact ⟨zs, G, rfl, hG9, HD, HSG2, HO2⟩
        | false =>
          have HY := Lib.hid (over_go hov.out HADD.out)
          obtain ⟨G1, rfl⟩ : ∃ G1, G = G1 + 1 := ⟨G - 1, by have := HY.out.1; omega⟩
          have HOV2 : Hid (OverAt xs bs zs G1) := by have h := HY.out.2; rwa [Nat.add_sub_cancel] at h
          have v2 : IntKind.u64.wrap (G1 : Int) = (G1 : Int) := by simp [IntKind.wrap, IntKind.bits, IntKind.signed]; omega
          clear HY
          go_wp2
          go_roundw
          case rel => exact ⟨⟨G1, zs, rfl, by omega, HOV2, HSG2⟩, HO2⟩
          case measure => simp [intOf]
end Go.Proofs.YtpikbhcjgcbdfaaDoor.wh

/- Package whole: product, with what it lays in memory; divide by more than one digit. -/
namespace Go.Proofs.YtpikbhcjgcbdfaaDoor.wh
open Go.RowKit

def GivesSeg (W : World) (n v : Nat) (e : Ending) (w' : World) : Prop :=
  ∃ g ds, e = .returned (.slice (some ⟨g, 0, none⟩) n n) ∧ W.heap.size ≤ g ∧ ds.length = n ∧ Hid (Dig ds) ∧ Hid (val ds = v) ∧ Hid (Seg w' g 0 [] ds []) ∧ Hid (Below W.heap.size W w')

set_option maxRecDepth 100000 in
set_option maxHeartbeats 1000000 in
theorem product_seg (A B : Option Addr) (n c m d : Nat) (xs bs : List Nat) (w : World) (hlx : xs.length = n) (hlb : bs.length = m) (hn : n ≤ 1000) (hm : m ≤ 1000)
    (ha : Rd w w.heap.size A xs) (hb : Rd w w.heap.size B bs) (hdx : Dig xs) (hdb : Dig bs) :
    Calls Tryd.prog 72 #[.slice A n c, .slice B m d] w fun e w' => GivesSeg w (n + m) (val xs * val bs) e w' := by
  subst hlx
  subst hlb
  have HRA := Lib.hid ha
  have HRB := Lib.hid hb
  have HX := Lib.hid hdx
  have HB := Lib.hid hdb
  clear ha hb hdx hdb
  have hmk := run_make_u32 (z := (xs.length : Int) + (bs.length : Int)) (n := xs.length + bs.length) (by omega) (by omega)
  have HSZ : Hid (Seg (w.alloc (.cells (zeros (xs.length + bs.length)) 82)) w.heap.size 0 [] (List.replicate (xs.length + bs.length) 0) []) := seg_zeros w _
  have HBW : Hid (Below w.heap.size w (w.alloc (.cells (zeros (xs.length + bs.length)) 82))) := (Below.refl _ _).alloc (Nat.le_refl _) _
  go_enter Tryd.func72, Tryd.ntmps72
  go_wp2
  go_loopw [20] (fun i wr => (∃ (k : Nat) (cur : List Nat), k ≤ xs.length ∧ i = .int .i64 k ∧ Hid (ProdAt xs bs k cur) ∧ Hid (Seg wr w.heap.size 0 [] cur [])) ∧ Hid (Below w.heap.size w wr)) (fun i _ => xs.length - (intOf i).toNat)
  case atStart => exact ⟨⟨0, _, Nat.zero_le _, rfl, prodAt_zero _ _, HSZ.out⟩, HBW⟩
  case round =>
    obtain ⟨⟨i, was, hi, rfl, hat, hsg⟩, hbw⟩ := hrel
    by_cases hlt : i < xs.length
    · obtain ⟨ba, offa, rfl, hba, hca⟩ := (HRA.out.below hbw.out).at_ hlt
      obtain ⟨x, hx⟩ : ∃ x, x = xs[i] := ⟨_, rfl⟩
      rw [← hx] at hca
      have hx9 : x < 1000000000 := by rw [hx]; exact HX.out.get i hlt
      have HXI := Lib.hid hx
      clear hx
      go_wp2
      go_loopw [8, 27] (fun u jv wi => (∃ (j q : Nat) (cur : List Nat), j ≤ bs.length ∧ u = .int .u64 q ∧ jv = .int .i64 j ∧ q < 1000000000 ∧ Hid (RowAt xs bs i x j was cur q) ∧ Hid (Seg wi w.heap.size 0 [] cur [])) ∧ Hid (Below w.heap.size w wi)) (fun _ jv _ => bs.length - (intOf jv).toNat)
      case atStart => exact ⟨⟨0, 0, was, Nat.zero_le _, rfl, rfl, by omega, rowAt_zero x hat.out, hsg.out⟩, hbw.out⟩
      case round =>
        obtain ⟨⟨j, q, cur, hj, rfl, rfl, hq9, hrow, hsi⟩, hbi⟩ := hrel
        by_cases hjl : j < bs.length
        · have hk : i + j < cur.length := by rw [hrow.out.1]; omega
          have hc := hsi.out.cell hk
          have hf := hsi.out.frozen (i + j)
          rw [Nat.zero_add] at hc
          obtain ⟨o, ho⟩ : ∃ o, o = cur[i + j] := ⟨_, rfl⟩
          rw [← ho] at hc
          have ho9 : o < 1000000000 := by rw [ho]; exact hrow.out.2.1.get _ hk
          obtain ⟨bb, offb, rfl, hbb, hcb⟩ := (HRB.out.below hbi.out).at_ hjl
          obtain ⟨y, hy⟩ : ∃ y, y = bs[j] := ⟨_, rfl⟩
          rw [← hy] at hcb
          have hy9 : y < 1000000000 := by rw [hy]; exact HB.out.get j hjl
          have hbs : Hid (val (bs.take (j + 1)) = val (bs.take j) + 1000000000 ^ j * y) := by show _ = _; rw [hy]; exact val_take_succ hjl
          obtain ⟨p, hp⟩ : ∃ p, p = x * y := ⟨_, rfl⟩
          have hp1 : (x : Int) * (y : Int) = (p : Int) := by rw [hp]; simp
          have hp2 : p ≤ 999999999 * 999999999 := by rw [hp]; exact Nat.mul_le_mul (by omega) (by omega)
          obtain ⟨l, hl⟩ : ∃ l, l = (p + o + q) % 1000000000 := ⟨_, rfl⟩
          obtain ⟨f, hf0⟩ : ∃ f, f = (p + o + q) / 1000000000 := ⟨_, rfl⟩
          have hl1 : ((p : Int) + (o : Int) + (q : Int)) % 1000000000 = (l : Int) := by omega
          have hf1 : ((p : Int) + (o : Int) + (q : Int)) / 1000000000 = (f : Int) := by omega
          have hl9 : l < 1000000000 := by omega
          have hf9 : f < 1000000000 := by omega
          have hsum : (p : Int) + (o : Int) + (q : Int) ≤ 18446744073709551615 := by omega
          have HO := Lib.hid ho
          have HP := Lib.hid hp
          have HL : Hid (p + o + q = 1000000000 * f + l) := by show _ = _; omega
          clear hp hl hf0 hp2 ho hy
          go_wp2
          go_roundw
          case rel => exact ⟨⟨j + 1, f, _, by omega, by go_num, by go_num, hf9, rowAt_step hrow.out hk HO.out HP.out HL.out hl9 hf9 hbs.out, by have h := hsi.out.set_ (z := (l : Int)) (v := l) hk rfl; rw [Nat.zero_add] at h; exact h⟩, hbi.out.setCell (p := ⟨w.heap.size, i + j, none⟩) (Nat.le_refl _) _⟩
          case measure => simp [intOf]; omega
        · obtain rfl : j = bs.length := by omega
          have hk : i + bs.length < cur.length := by rw [hrow.out.1]; omega
          have hc := hsi.out.cell hk
          have hf := hsi.out.frozen (i + bs.length)
          rw [Nat.zero_add] at hc
          go_wp2
          go_roundw
          case rel => exact ⟨⟨i + 1, _, by omega, by go_num, prodAt_step hat.out hrow.out hlt HXI.out, by have h := hsi.out.set_ (z := (q : Int)) (v := q) hk rfl; rw [Nat.zero_add] at h; exact h⟩, hbi.out.setCell (p := ⟨w.heap.size, i + bs.length, none⟩) (Nat.le_refl _) _⟩
          case measure => simp [intOf]; omega
    · obtain rfl : i = xs.length := by omega
      go_wp2
      go_ret
      exact ⟨w.heap.size, was, rfl, Nat.le_refl _, hat.out.1, hat.out.2.1, by show _ = _; rw [hat.out.2.2.2, List.take_of_length_le (Nat.le_refl _)], hsg, hbw⟩
end Go.Proofs.YtpikbhcjgcbdfaaDoor.wh

/- Package whole: divide by more than one digit: its numbers. -/
namespace Go.Proofs.YtpikbhcjgcbdfaaDoor.wh
open Go.RowKit

/-- behind the digits from k on of the quotient: R is left, Q is had -/
def DivK (X V m e k : Nat) (R Q : List Nat) : Prop :=
  R.length = m + e + 1 ∧ Dig R ∧ Q.length = e + 1 ∧ Dig Q ∧ val R + V * val Q = X ∧ val (R.drop k) < V ∧ ∀ j (h : j < Q.length), j < k → Q[j] = 0

theorem divk_start {R : List Nat} {s a b m e : Nat} (hR : R.length = m + e + 1) (hd : Dig R) (hv : val R = s * a) (ha : a < 1000000000 ^ (m + e)) (hb : 1000000000 ^ (m - 1) ≤ b) (hm : 1 ≤ m) (hs : 1 ≤ s) : DivK (s * a) (s * b) m e (e + 1) R (List.replicate (e + 1) 0) := by
  refine ⟨hR, hd, by simp, Dig.replicate _, by rw [val_zeros, hv]; simp, ?_, fun j h _ => by simp⟩
  have h1 := val_split R (e + 1) (by omega)
  have h2 : 1000000000 ^ (e + 1) * val (R.drop (e + 1)) ≤ s * a := by omega
  have h3 : s * a < s * 1000000000 ^ (m + e) := Nat.mul_lt_mul_of_pos_left ha hs
  have h4 : s * (1000000000 ^ (m - 1) * 1000000000 ^ (e + 1)) ≤ s * (b * 1000000000 ^ (e + 1)) := Nat.mul_le_mul_left _ (Nat.mul_le_mul_right _ hb)
  rw [← Nat.pow_add, show m - 1 + (e + 1) = m + e by omega] at h4
  have h5 : 1000000000 ^ (e + 1) * val (R.drop (e + 1)) < 1000000000 ^ (e + 1) * (s * b) := by
    have e1 : s * (b * 1000000000 ^ (e + 1)) = 1000000000 ^ (e + 1) * (s * b) := by rw [← Nat.mul_assoc, Nat.mul_comm]
    omega
  exact Nat.lt_of_mul_lt_mul_left h5

theorem drop_part (R : List Nat) (k m : Nat) : R.drop k = (R.drop k).take (m + 1) ++ R.drop (k + (m + 1)) := by
  conv => lhs; rw [← List.take_append_drop (m + 1) (R.drop k)]
  rw [List.drop_drop]
/-- what stands over the part is 0 -/
theorem divk_part {X V m e k : Nat} {R Q : List Nat} (h : DivK X V m e (k + 1) R Q) (hk : k ≤ e) (hV : V < 1000000000 ^ m) :
    val ((R.drop k).take (m + 1)) < 1000000000 * V ∧ val (R.drop (k + (m + 1))) = 0 ∧ ((R.drop k).take (m + 1)).length = m + 1 := by
  obtain ⟨h1, h2, h3, h4, h5, h6, h7⟩ := h
  have hl : ((R.drop k).take (m + 1)).length = m + 1 := by rw [List.length_take, List.length_drop]; omega
  have e1 := val_drop (ds := R) (k := k) (by omega)
  have hd := h2.get k (by omega)
  have e2 : val (R.drop k) < 1000000000 * V := by omega
  have e3 : val (R.drop k) = val ((R.drop k).take (m + 1)) + 1000000000 ^ (m + 1) * val (R.drop (k + (m + 1))) := by
    conv => lhs; rw [drop_part R k m]
    rw [val_append, hl]
  have e4 : 1000000000 ^ (m + 1) = 1000000000 * 1000000000 ^ m := by rw [Nat.pow_succ, Nat.mul_comm]
  have e5 : val (R.drop (k + (m + 1))) = 0 := by
    rcases Nat.eq_zero_or_pos (val (R.drop (k + (m + 1)))) with h | h
    · exact h
    · have : 1000000000 ^ (m + 1) * 1 ≤ 1000000000 ^ (m + 1) * val (R.drop (k + (m + 1))) := Nat.mul_le_mul_left _ h
      omega
  rw [e5, Nat.mul_zero, Nat.add_zero] at e3
  exact ⟨by omega, e5, hl⟩
theorem divk_step {X V m e k q : Nat} {R Q ys : List Nat} {bs : List Nat} (h : DivK X V m e (k + 1) R Q) (hk : k ≤ e) (hV : V < 1000000000 ^ m) (hb : val bs = V) (hq9 : q < 1000000000) (hs : StepDone ((R.drop k).take (m + 1)) bs ys q) :
    DivK X V m e k (R.take k ++ ys ++ R.drop (k + (m + 1))) (Q.set k q) := by
  obtain ⟨p1, p2, p3⟩ := divk_part h hk hV
  obtain ⟨h1, h2, h3, h4, h5, h6, h7⟩ := h
  obtain ⟨s1, s2, s3, s4⟩ := hs
  rw [hb] at s3 s4
  have hVp : 0 < V := by omega
  have hQ : k < Q.length := by omega
  have hys : val ys < V := by rw [s4]; exact Nat.mod_lt _ hVp
  have htk : (R.take k).length = k := by rw [List.length_take]; omega
  have e1 : val (ys ++ R.drop (k + (m + 1))) = val ys := by rw [val_append, p2]; simp
  have e2 : val R = val (R.take k) + 1000000000 ^ k * val ((R.drop k).take (m + 1)) := by
    rw [val_split R k (by omega)]
    congr 2
    conv => lhs; rw [drop_part R k m]
    rw [val_append, p2]
    simp
  have e3 : val ((R.drop k).take (m + 1)) = val ys + q * V := by
    have := Nat.div_add_mod (val ((R.drop k).take (m + 1))) V
    rw [← s3, ← s4, Nat.mul_comm] at this
    omega
  have e4 := val_set (v := q) hQ
  rw [h7 k hQ (by omega), Nat.mul_zero, Nat.add_zero] at e4
  refine ⟨?_, (h2.take k |>.append s2).append (h2.drop _), by simp [h3], h4.set hq9, ?_, ?_, fun j hj hjk => ?_⟩
  · rw [List.length_append, List.length_append, htk, s1, p3, List.length_drop]; omega
  · rw [List.append_assoc, val_append, htk, e1, e4, ← h5, e2, e3, Nat.mul_add, Nat.mul_add]
    have e6 : V * (1000000000 ^ k * q) = 1000000000 ^ k * (q * V) := by rw [Nat.mul_comm, Nat.mul_assoc]
    omega
  · rw [List.append_assoc, List.drop_left' htk, e1]; exact hys
  · rw [List.getElem_set_ne (by omega)]
    exact h7 j (by simpa using hj) (by omega)
theorem divk_end {s a b m e : Nat} {R Q : List Nat} (h : DivK (s * a) (s * b) m e 0 R Q) (hV : s * b < 1000000000 ^ m) (hs : 1 ≤ s) :
    val Q = a / b ∧ val (R.take m) / s = a % b ∧ (R.take m).length = m := by
  obtain ⟨h1, h2, h3, h4, h5, h6, h7⟩ := h
  rw [List.drop_zero] at h6
  have h8 := quo_unique (x := s * a) (b := s * b) (q := val Q) (r := val R) (by rw [Nat.mul_comm (val Q)]; omega) h6
  rw [Nat.mul_div_mul_left _ _ (by omega), Nat.mul_mod_mul_left] at h8
  have e1 := val_split R m (by omega)
  have e2 : val (R.drop m) = 0 := by
    rcases Nat.eq_zero_or_pos (val (R.drop m)) with h | h
    · exact h
    · have : 1000000000 ^ m * 1 ≤ 1000000000 ^ m * val (R.drop m) := Nat.mul_le_mul_left _ h
      omega
  rw [e2, Nat.mul_zero, Nat.add_zero] at e1
  refine ⟨h8.1, ?_, by rw [List.length_take]; omega⟩
  rw [← e1, h8.2, Nat.mul_div_cancel_left _ (by omega)]
/-- the scale keeps the divisor's length -/
theorem scale_fits {ys : List Nat} {k bt s : Nat} (hl : ys.length = k + 1) (hd : Dig ys) (hbt : bt = ys[k]) (hs : s = 1000000000 / (bt + 1)) : 1 ≤ s ∧ s < 1000000000 + 1 ∧ s * val ys < 1000000000 ^ (k + 1) := by
  have hb9 : bt < 1000000000 := by rw [hbt]; exact hd.get _ _
  have h1 := val_split ys k (by omega)
  rw [val_drop (by omega), List.drop_eq_nil_of_le (by omega), ← hbt] at h1
  simp only [val, Nat.mul_zero, Nat.add_zero] at h1
  have h2 := val_lt (hd.take k)
  rw [List.length_take, Nat.min_eq_left (by omega)] at h2
  have h3 : s * (bt + 1) ≤ 1000000000 := by rw [hs]; exact Nat.div_mul_le_self _ _
  have h4 : 1 ≤ s := by rw [hs, Nat.le_div_iff_mul_le (by omega)]; omega
  have h5 : s ≤ 1000000000 := by rw [hs]; exact Nat.div_le_self _ _
  refine ⟨h4, by omega, ?_⟩
  have h6 : val ys < 1000000000 ^ k * (bt + 1) := by rw [Nat.mul_add, Nat.mul_one]; omega
  have h7 : s * val ys < s * (1000000000 ^ k * (bt + 1)) := Nat.mul_lt_mul_of_pos_left h6 (by omega)
  have h8 : s * (1000000000 ^ k * (bt + 1)) = 1000000000 ^ k * (s * (bt + 1)) := by rw [Nat.mul_left_comm]
  have h9 : 1000000000 ^ k * (s * (bt + 1)) ≤ 1000000000 ^ k * 1000000000 := Nat.mul_le_mul_left _ h3
  rw [Nat.pow_succ]
  omega
end Go.Proofs.YtpikbhcjgcbdfaaDoor.wh

/- Package whole: divide by more than one digit; divide of any two numbers. -/
namespace Go.Proofs.YtpikbhcjgcbdfaaDoor.wh
open Go.RowKit

theorem step_m (g off m m1 c d : Nat) (pre post : List Value) (B : Option Addr) (xs bs : List Nat) (w : World) (hlx : xs.length = m1) (hlb : bs.length = m) (h1 : m1 = m + 1) (hm : 1 ≤ m) (hm2 : m ≤ 2000)
    (hs : Seg w g off pre xs post) (hr : Rd w w.heap.size B bs) (hA : Away B g m) (hdx : Dig xs) (hdb : Dig bs) (htop : Top bs) (hlt : val xs < 1000000000 * val bs) :
    Calls Tryd.prog 93 #[.slice (some ⟨g, off, none⟩) m1 c, .slice B m d] w fun e w' => GivesStep g off pre xs bs post w e w' := by
  obtain ⟨k, rfl⟩ : ∃ k, m = k + 1 := ⟨m - 1, by omega⟩
  subst h1
  exact step_any g off k c d pre post B xs bs w hlx hlb (by omega) hs hr hA hdx hdb htop hlt
theorem one_rd (w : World) (s : Nat) : Rd (w.alloc (.cells #[.int .u32 (s : Int)] 82)) (w.alloc (.cells #[.int .u32 (s : Int)] 82)).heap.size (some ⟨w.heap.size, 0, none⟩) [s] := by
  have hblk := Blk.new w 82 #[.int .u32 (s : Int)]
  intro _
  refine ⟨w.heap.size, 0, rfl, hblk.lt, fun j hj => ?_⟩
  obtain rfl : j = 0 := by simpa using hj
  rw [hblk.cell]
  rfl
theorem val_one (s : Nat) : val [s] = s := by simp [val]
theorem one_dig {s : Nat} (h : s < 1000000000) : Dig [s] := Dig.cons h Dig.nil
theorem away_ne {g g2 m : Nat} (h : g2 ≠ g) : Away (some ⟨g2, 0, none⟩) g m := fun _ ad e => by
  cases e
  exact h
/-- the part of a row from j on -/
theorem Seg.part {w : World} {g j m : Nat} {R : List Nat} (h : Seg w g 0 [] R []) (hj : j ≤ R.length) : Seg w g j (u32s (R.take j)) ((R.drop j).take (m + 1)) (u32s (R.drop (j + (m + 1)))) := by
  refine ⟨by simp [u32s]; omega, ?_⟩
  have e : u32s (R.take j) ++ u32s ((R.drop j).take (m + 1)) ++ u32s (R.drop (j + (m + 1))) = [] ++ u32s R ++ [] := by
    simp only [u32s, List.nil_append, List.append_nil, ← List.map_append]
    rw [List.append_assoc, ← drop_part, List.take_append_drop]
  rw [e]
  exact h.2
theorem Seg.whole {w : World} {g j : Nat} {a b c : List Nat} (h : Seg w g j (u32s a) b (u32s c)) : Seg w g 0 [] (a ++ b ++ c) [] := by
  refine ⟨rfl, ?_⟩
  have e : [] ++ u32s (a ++ b ++ c) ++ [] = u32s a ++ u32s b ++ u32s c := by simp [u32s]
  rw [e]
  exact h.2

set_option maxRecDepth 100000 in
set_option maxHeartbeats 4000000 in
theorem divide_long {A B : Option Addr} {n c m d : Nat} {xs ys : List Nat} {w : World} (hx : Digs w n c A xs) (hy : Digs w m d B ys) (hn : n ≤ 1000) (hm2 : 2 ≤ m) (hle : val ys ≤ val xs) :
    Calls Tryd.prog 63 #[.slice A n c, .slice B m d] w fun e w' => GivesDiv w n m (val xs) (val ys) e w' := by
  have hmn : m ≤ n := by
    rcases Nat.lt_or_ge n m with h | h
    · have := top_short hx.dig hy.top (by rw [hx.len, hy.len]; exact h)
      omega
    · exact h
  obtain ⟨k, hk⟩ : ∃ k, m = k + 1 := ⟨m - 1, by omega⟩
  obtain ⟨e, he⟩ : ∃ e, n = m + e := ⟨n - m, by omega⟩
  have hc : ¬ cmpN (val xs) (val ys) < 0 := by
    unfold cmpN
    rw [if_neg (by omega)]
    split <;> omega
  obtain ⟨bt, hbt⟩ : ∃ x, x = ys[k]'(by rw [hy.len]; omega) := ⟨_, rfl⟩
  have hb9 : bt < 1000000000 := by rw [hbt]; exact hy.dig.get _ _
  have hb1 : 1 ≤ bt := by
    have hne : ys ≠ [] := fun e => by have := hy.len; rw [e] at this; simp at this; omega
    have h := hy.top hne
    rw [List.getLast_eq_getElem] at h
    simp only [hy.len, hk, Nat.add_sub_cancel] at h
    omega
  obtain ⟨s, hs⟩ : ∃ s, s = 1000000000 / (bt + 1) := ⟨_, rfl⟩
  have HSF := Lib.hid (scale_fits (by rw [hy.len]; exact hk) hy.dig hbt hs)
  have hs2 : s * 2 ≤ 1000000000 := by
    have h1 : s * (bt + 1) ≤ 1000000000 := by rw [hs]; exact Nat.div_mul_le_self _ _
    have h2 : s * 2 ≤ s * (bt + 1) := Nat.mul_le_mul_left _ (by omega)
    omega
  have hs1 := HSF.out.1
  have HBX : Hid (val xs < 1000000000 ^ n) := by have h := val_lt hx.dig; rwa [hx.len] at h
  have HBY : Hid (1000000000 ^ (m - 1) ≤ val ys) := by have h := top_ge hy.top (fun e => by have := hy.len; rw [e] at this; simp at this; omega); rwa [hy.len] at h
  have HX := Lib.hid hx
  have HY := Lib.hid hy
  have HK := Lib.hid hk
  have HE := Lib.hid he
  have HBT : Hid (∀ h : k < ys.length, bt = ys[k]'h) := fun _ => hbt
  have mm1 : (m : Int) - 1 = (k : Int) := by omega
  have nm : (n : Int) - (m : Int) = (e : Int) := by omega
  have wk : IntKind.i64.wrap (k : Int) = (k : Int) := IntWalk.i64_in _ (by omega)
  have we : IntKind.i64.wrap (e : Int) = (e : Int) := IntWalk.i64_in _ (by omega)
  have we1 : IntKind.i64.wrap ((e : Int) + 1) = (e : Int) + 1 := IntWalk.i64_in _ (by omega)
  have kb : (k : Int) < (m : Int) := by omega
  have k0 : (0 : Int) ≤ (k : Int) := by omega
  have m1 : ((m : Int) == 1) = false := by rw [beq_eq_false_iff_ne]; omega
  have ub : IntKind.u32.wrap ((bt : Int) + 1) = (bt : Int) + 1 := IntWalk.u32_in _ (by omega)
  have us : IntKind.u32.wrap (s : Int) = (s : Int) := IntWalk.u32_in _ (by omega)
  have bz : ((bt : Int) + 1 == 0) = false := by rw [beq_eq_false_iff_ne]; omega
  have hsq : (1000000000 : Int) / ((bt : Int) + 1) = (s : Int) := by rw [hs]; simp
  have hmk := run_make_u32 (z := (e : Int) + 1) (n := e + 1) (by omega) (by omega)
  clear hx hy hle hk he hbt hs
  go_enter Tryd.func63, Tryd.ntmps63
  go_wp2_with fail
  refine (compare_digs HX.out HY.out (by omega)).mono ?_
  rintro e1 w1 ⟨rfl, hb1⟩
  obtain ⟨bb, bo, rfl, hbw, hcell⟩ := (HY.out.over hb1.out).rd.at_ (k := k) (by rw [HY.out.len, HK.out]; omega)
  rw [← HBT.out _] at hcell
  have HX1 := Lib.hid (HX.out.over hb1.out)
  have HY1 := Lib.hid (HY.out.over hb1.out)
  have ha1 : Hid (Below w1.heap.size w1 (w1.alloc (.cells #[.int .u32 (s : Int)] 82))) := (Below.refl _ _).alloc (Nat.le_refl _) _
  clear hbw
  go_wp2_with fail
  refine (product_seg _ _ 1 1 n c [s] xs (w1.alloc (.cells #[.int .u32 (s : Int)] 82)) rfl HX1.out.len (by omega) hn (one_rd _ _) (HX1.out.over ha1.out).rd (one_dig (by omega)) HX1.out.dig).mono ?_
  rintro e2 w2 ⟨g1, R0, rfl, hg1, hR0, hdR, hvR, hsR, hb2⟩
  have hs12 : Hid (Below w1.heap.size w1 w2) := ha1.out.trans (hb2.out.mono ha1.out.size)
  have hgs1 : w1.heap.size ≤ g1 := by have := ha1.out.size; omega
  have hgl1 : Hid (g1 < w2.heap.size) := hsR.out.lt
  have HX2 := Lib.hid (HX1.out.over hs12.out)
  have HY2 := Lib.hid (HY1.out.over hs12.out)
  have ha2 : Hid (Below w2.heap.size w2 (w2.alloc (.cells #[.int .u32 (s : Int)] 82))) := (Below.refl _ _).alloc (Nat.le_refl _) _
  clear hb2 ha1 hcell
  go_wp2_with fail
  refine (product_seg _ _ 1 1 m d [s] ys (w2.alloc (.cells #[.int .u32 (s : Int)] 82)) rfl HY2.out.len (by omega) (by omega) (one_rd _ _) (HY2.out.over ha2.out).rd (one_dig (by omega)) HY2.out.dig).mono ?_
  rintro e3 w3 ⟨g2, B0, rfl, hg2, hB0, hdB, hvB, hsB, hb3⟩
  have hs23 : Hid (Below w2.heap.size w2 w3) := ha2.out.trans (hb3.out.mono ha2.out.size)
  have hgs2 : Hid (w2.heap.size ≤ g2) := by have := ha2.out.size; show _ ≤ _; omega
  have hgl2 : Hid (g2 < w3.heap.size) := hsB.out.lt
  clear hb3 ha2
  go_wp2_with fail
  refine (trim_any (some ⟨g2, 0, none⟩) (1 + m) (1 + m) B0 w3 hB0 (by rw [hB0]; unfold maxLen; omega) (by omega) hsB.out.rd).mono ?_
  rintro e4 w3' ⟨⟨m', rfl, htr⟩, rfl⟩
  have HTR := Lib.hid htr
  rw [val_one] at hvB hvR
  obtain rfl : m' = m := by
    have h0 := HTR.out.1
    have h1 := HTR.out.2.2
    rw [hvB.out] at h1
    have h2 := HTR.out.2.1
    have h3 := HSF.out.2.2
    rw [← HK.out] at h3
    have h4 := top_len h2 (m := m) (by rw [h1]; exact h3)
    rw [List.length_take, Nat.min_eq_left h0] at h4
    have h5 := val_lt (hdB.out.take m')
    rw [List.length_take, Nat.min_eq_left h0, h1] at h5
    have h6 : 1000000000 ^ (m - 1) < 1000000000 ^ m' := by
      have h7 := HBY.out
      have h8 : 1 * val ys ≤ s * val ys := Nat.mul_le_mul_right _ hs1
      omega
    have h9 := (Nat.pow_lt_pow_iff_right (a := 1000000000) (by omega)).1 h6
    omega
  obtain ⟨bs, hbs⟩ : ∃ bs, bs = B0.take m' := ⟨_, rfl⟩
  have HBL : Hid (bs.length = m') := by show _ = _; rw [hbs, List.length_take, hB0]; omega
  have HBV : Hid (val bs = s * val ys) := by show _ = _; rw [hbs, HTR.out.2.2]; exact hvB.out
  have HBD : Hid (Dig bs) := by show Dig _; rw [hbs]; exact hdB.out.take _
  have HBT2 : Hid (Top bs) := by show Top _; rw [hbs]; exact HTR.out.2.1
  have HV9 : Hid (s * val ys < 1000000000 ^ m') := by have h := HSF.out.2.2; rwa [← HK.out] at h
  have HRB : Hid (Rd w3 w3.heap.size (some ⟨g2, 0, none⟩) bs) := by show Rd _ _ _ _; rw [hbs]; exact hsB.out.rd.take _
  have HSR3 : Hid (Seg w3 g1 0 [] R0 []) := hsR.out.below hs23.out hgl1.out
  have HNE : Hid (g1 ≠ g2 ∧ g1 < w3.heap.size ∧ w.heap.size ≤ g1 ∧ g2 < w3.heap.size ∧ w.heap.size ≤ w3.heap.size) := ⟨by have := hgl1.out; have := hgs2.out; omega, by have := hgl1.out; have := hs23.out.size; omega, by have := hb1.out.size; omega, hgl2.out, by have := hb1.out.size; have := hs12.out.size; have := hs23.out.size; omega⟩
  have HB3 : Hid (Below w.heap.size w w3) := hb1.out.trans ((hs12.out.trans (hs23.out.mono hs12.out.size)).mono hb1.out.size)
  have HDK : Hid (DivK (s * val xs) (s * val ys) m' e (e + 1) R0 (List.replicate (e + 1) 0)) := by
    have h2 := HBX.out
    rw [HE.out] at h2
    exact divk_start (by rw [hR0, HE.out]; omega) hdR.out hvR.out h2 HBY.out (by omega) hs1
  have HSQ : Hid (Seg (w3.alloc (.cells (zeros (e + 1)) 82)) w3.heap.size 0 [] (List.replicate (e + 1) 0) []) := seg_zeros w3 _
  have HBA : Hid (Below w3.heap.size w3 (w3.alloc (.cells (zeros (e + 1)) 82))) := (Below.refl _ _).alloc (Nat.le_refl _) _
  clear hbs htr hdB hvB hB0 hsB hgs2 hgl2 hs23 hs12 hgl1 hsR hgs1 hR0 hdR hvR
  have e1000 : e ≤ 1000 := by have := HE.out; omega
  go_wp2
  go_loopw [10] (fun iv wr => (∃ (j : Nat) (z : Int) (R Q : List Nat), j ≤ e + 1 ∧ iv = .int .i64 z ∧ Hid (z = (j : Int) - 1) ∧ Hid (DivK (s * val xs) (s * val ys) m' e j R Q) ∧ Hid (Seg wr g1 0 [] R []) ∧ Hid (Seg wr w3.heap.size 0 [] Q [])) ∧ Hid (Rd wr w3.heap.size (some ⟨g2, 0, none⟩) bs) ∧ Hid (w3.heap.size < wr.heap.size ∧ Below w.heap.size w wr)) (fun iv _ => (intOf iv + 1).toNat)
  case atStart => exact ⟨⟨e + 1, _, R0, _, Nat.le_refl _, rfl, by show _ = _; omega, HDK, HSR3.out.below HBA.out HNE.out.2.1, HSQ⟩, HRB.out.below HBA.out, HSQ.out.lt, HB3.out.trans (HBA.out.mono HB3.out.size)⟩
  case round =>
    obtain ⟨⟨j, z, R, Q, hj, rfl, hz, hdk, hsr, hsq2⟩, hrb, hbw⟩ := hrel
    cases j with
    | zero =>
      obtain rfl : z = -1 := by have := hz.out; omega
      have HEND := Lib.hid (divk_end hdk.out HV9.out hs1)
      go_wp2_with fail
      refine (digit_any (some ⟨g1, 0, none⟩) m' (1 + n) s (R.take m') wr HEND.out.2.2 (by omega) hs1 (by omega) (hsr.out.rd.take m') (hdk.out.2.1.take m')).mono ?_
      rintro e5 w5 ⟨A5, c5, rfl, hrow, hb5⟩
      go_wp2_with fail
      refine (trim_row hrow.out (by omega)).mono ?_
      rintro e6 w6 ⟨k2, rfl, hk2, htop, rfl⟩
      have HTOP : Hid (RowTop w5 A5 k2 c5 (val xs % val ys)) := by rw [← HEND.out.2.1]; exact htop
      have HROW : Hid (RowIs w5 (some ⟨w3.heap.size, 0, none⟩) (e + 1) (e + 1) (val xs / val ys)) := ⟨Q, hdk.out.2.2.1, Nat.le_refl _, hsq2.out.rd.over hb5.out, hdk.out.2.2.2.1, HEND.out.1⟩
      go_wp2
      go_ret2
      exact ⟨_, e + 1, e + 1, A5, k2, c5, rfl, by have := HE.out; omega, hk2, HROW, HTOP, hbw.out.2.trans (hb5.out.mono hbw.out.2.size)⟩
    | succ j =>
      obtain rfl : z = (j : Int) := by have := hz.out; omega
      have HP := Lib.hid (divk_part hdk.out (by omega) HV9.out)
      have q1 : (j : Int) + (m' : Int) + 1 ≤ 1 + (n : Int) := by have := HE.out; omega
      have q2 : (j : Int) ≤ (j : Int) + (m' : Int) + 1 := by omega
      have q3 : (0 : Int) ≤ (j : Int) + (m' : Int) + 1 := by omega
      go_wp2_with fail
      refine (step_m g1 j m' (j + m' + 1 - j) (1 + n - j) (1 + m') (u32s (R.take j)) (u32s (R.drop (j + (m' + 1)))) (some ⟨g2, 0, none⟩) ((R.drop j).take (m' + 1)) bs wr (by rw [HP.out.2.2]; omega) HBL.out (by omega) (by omega) (by omega) (hsr.out.part (by rw [hdk.out.1]; omega)) (hrb.out.more (by have := hbw.out.1; omega)) (away_ne (fun h => HNE.out.1 h.symm)) ((hdk.out.2.1.drop j).take _) HBD.out HBT2.out (by rw [HBV.out]; exact HP.out.1)).mono ?_
      rintro e5 w5 ⟨ys5, q, rfl, hq9, hst, hsg5, ho5⟩
      have HST := Lib.hid (divk_step hdk.out (by omega) HV9.out HBV.out hq9 hst.out)
      have HSG := Lib.hid hsg5.out.whole
      have HS5 := Lib.hid (hsq2.out.only ho5.out (by have := HNE.out.2.1; omega))
      have hjQ : j < Q.length := by rw [hdk.out.2.2.1]; omega
      have hc := HS5.out.cell hjQ
      have hf := HS5.out.frozen j
      rw [Nat.zero_add] at hc
      have q4 : (j : Int) < (e : Int) + 1 := by omega
      clear hsg5
      go_wp2
      go_roundw
      case rel => exact ⟨⟨j, _, _, _, by omega, rfl, rfl, HST, HSG.out.only (only_set (only_refl w3.heap.size _) _ _) (by have := HNE.out.2.1; omega), by have h := HS5.out.set_ (z := (q : Int)) (v := q) hjQ rfl; rw [Nat.zero_add] at h; exact h⟩, (hrb.out.only (away_ne (fun h => HNE.out.1 h.symm)) ho5.out (by have := hbw.out.1; omega)).away (away_ne (by have := HNE.out.2.2.2.1; omega)) _ _, by have h1 := hbw.out.1; have h2 := ho5.out.size; simp only [World.setCell, Array.size_modify]; omega, (only_below hbw.out.2 ho5.out hbw.out.2.size HNE.out.2.2.1).setCell (p := ⟨w3.heap.size, j, none⟩) HNE.out.2.2.2.2 _⟩
      case measure => simp [intOf]
/-- divide of any two numbers, the second one above 0 -/
theorem divides_all (X Y : Nat) (hY : 0 < Y) : Divides X Y := by
  intro xs ys A B n c m d w hx hy dx dy hn hm hm0
  subst hx hy
  rcases Nat.lt_or_ge (val xs) (val ys) with h | h
  · exact divide_less dx dy hn h
  · by_cases hm1 : m = 1
    · subst hm1
      exact divide_one dx dy hn h
    · exact divide_long dx dy hn (by omega) h
end Go.Proofs.YtpikbhcjgcbdfaaDoor.wh

/- Package whole: Neg. -/
namespace Go.Proofs.YtpikbhcjgcbdfaaDoor.wh
open Go.RowKit

/-- a variable that is known, and one that is there -/
structure Duo (w : World) (g : Nat) (x : Bool) (a : Option Addr) (n c : Nat) (r : Nat) (w' : World) : Prop where
  below : Below w.heap.size w w'
  one : Box w' g x a n c
  res : ∃ y b m d, Box w' r y b m d
  le : w.heap.size ≤ g ∧ w.heap.size ≤ r ∧ g ≠ r
section
variable {w w' w1 : World} {g n c r : Nat} {x : Bool} {a : Option Addr}
theorem Duo.all (h : Duo w g x a n c r w') : (w'.cell? ⟨g, 0, none⟩ = some (.bool x) ∧ w'.cell? ⟨g, 1, none⟩ = some (.slice a n c) ∧ w'.cell? ⟨r, 0, none⟩ = some (cellOf w' r 0) ∧ w'.cell? ⟨r, 1, none⟩ = some (cellOf w' r 1)) ∧
    (w'.frozen? ⟨g, 0, none⟩ = false ∧ w'.frozen? ⟨g, 1, none⟩ = false ∧ w'.frozen? ⟨r, 0, none⟩ = false ∧ w'.frozen? ⟨r, 1, none⟩ = false) ∧ Hid (Duo w g x a n c r w') := by
  obtain ⟨y, b, m, d, hr⟩ := h.res
  exact ⟨⟨h.one.c0, h.one.c1, cellOf_box hr⟩, ⟨h.one.f0, h.one.f1, hr.f0, hr.f1⟩, h⟩
theorem Duo.get {P Q : Prop} (h : P ∧ Q ∧ Hid (Duo w g x a n c r w')) : Duo w g x a n c r w' := h.2.2
theorem Duo.over (hb : Hid (Below w'.heap.size w' w1)) (h : Duo w g x a n c r w') : Duo w g x a n c r w1 := by
  obtain ⟨y, b, m, d, hr⟩ := h.res
  exact ⟨h.below.trans (hb.out.mono h.below.size), h.one.over hb.out, ⟨y, b, m, d, hr.over hb.out⟩, h.le⟩
theorem Duo.put1 (h : Duo w g x a n c r w') (y : Bool) (b : Option Addr) (m d : Nat) : Duo w g y b m d r (put2 w' g y b m d) := by
  obtain ⟨y', b', m', d', hr⟩ := h.res
  obtain ⟨l1, l2, l3⟩ := h.le
  exact ⟨below_put h.below l1 _ _ _ _, h.one.put _ _ _ _, ⟨y', b', m', d', hr.far (fun e => l3 e.symm) _ _ _ _⟩, h.le⟩
theorem Duo.put3 (h : Duo w g x a n c r w') (y : Bool) (b : Option Addr) (m d : Nat) : Duo w g x a n c r (put2 w' r y b m d) := by
  obtain ⟨y', b', m', d', hr⟩ := h.res
  obtain ⟨l1, l2, l3⟩ := h.le
  exact ⟨below_put h.below l2 _ _ _ _, h.one.far l3 _ _ _ _, ⟨_, _, _, _, hr.put _ _ _ _⟩, h.le⟩
theorem Duo.drew (h : Duo w g x a n c r w') : Duo w g x a n c r w'.drew := by
  obtain ⟨y, b, m, d, hr⟩ := h.res
  exact ⟨h.below.drew, h.one.drew, ⟨y, b, m, d, hr.drew⟩, h.le⟩
end
theorem Digs.row {w : World} {n c : Nat} {A : Option Addr} {ds : List Nat} (h : Digs w n c A ds) : RowIs w A n c (val ds) := ⟨ds, h.len, h.cap, h.rd, h.dig, rfl⟩
theorem sgn_not {nx : Bool} {xs : List Nat} {a : Int} (h : zval nx xs = a) : sgn (!nx) (val xs) = -a := by
  subst h
  cases nx <;> simp [sgn, zval]

set_option maxRecDepth 100000 in
set_option maxHeartbeats 1000000 in
theorem neg_any (v : Value) (p : Nat) (a : Int) (w : World) (hp : p ≤ 1000) (hx : IsInt w w.heap.size p v a) :
    Calls Tryd.prog 22 #[v] w fun e w' => GivesZ w p (-a) e w' := by
  obtain ⟨nx, A, n, c, xs, rfl, hnp, CX, ZX⟩ := hx.cells
  clear hx
  have HT : Hid (Duo w w.heap.size nx A n c (w.heap.size + 1) ((w.alloc (.cells #[.bool nx, .slice A n c] 24)).alloc (.cells #[.bool false, .slice none 0 0] 24))) :=
    ⟨((Below.refl _ _).alloc (Nat.le_refl _) _).alloc (by simp) _, (Box.new _ _ _ _ _).alloc _,
      ⟨false, none, 0, 0, by have h := Box.new (w.alloc (.cells #[.bool nx, .slice A n c] 24)) false none 0 0; rwa [World.size_alloc] at h⟩, by omega⟩
  go_enter Tryd.func22, Tryd.ntmps22
  go_wp2_with fail
  refine (clean_cells CX.out (by omega) HT.out.below).mono ?_
  rintro e w1 ⟨rfl, hb⟩
  have T1 := Lib.hid (Duo.over hb HT.out)
  have HE : Hid (Duo w w.heap.size nx A n c (w.heap.size + 1) (put2 w1 w.heap.size nx A n c)) := T1.out.put1 nx A n c
  have f0 := T1.out.one.f0
  have f1 := T1.out.one.f1
  have c0 := T1.out.one.c0
  have c1 := T1.out.one.c1
  go_wp2
  have HE2 : Hid (Duo w w.heap.size nx A n c (w.heap.size + 1) ((w1.setCell ⟨w.heap.size, 0, none⟩ (.bool nx)).setCell ⟨w.heap.size, 1, none⟩ (.slice A n c))) := HE
  clear HE
  generalize (w1.setCell ⟨w.heap.size, 0, none⟩ (.bool nx)).setCell ⟨w.heap.size, 1, none⟩ (.slice A n c) = W at *
  clear f0 f1 c0 c1
  go_region_held3 (fun w' => (w'.cell? ⟨w.heap.size, 0, none⟩ = some (.bool nx) ∧ w'.cell? ⟨w.heap.size, 1, none⟩ = some (.slice A n c) ∧ w'.cell? ⟨w.heap.size + 1, 0, none⟩ = some (cellOf w' (w.heap.size + 1) 0) ∧ w'.cell? ⟨w.heap.size + 1, 1, none⟩ = some (cellOf w' (w.heap.size + 1) 1)) ∧ (w'.frozen? ⟨w.heap.size, 0, none⟩ = false ∧ w'.frozen? ⟨w.heap.size, 1, none⟩ = false ∧ w'.frozen? ⟨w.heap.size + 1, 0, none⟩ = false ∧ w'.frozen? ⟨w.heap.size + 1, 1, none⟩ = false) ∧ Hid (Duo w (w.heap.size) nx A n c (w.heap.size + 1) w'))
    (first | (with_reducible exact HE2.out.drew.all) | (with_reducible exact (Duo.over hb (Duo.get (by assumption))).all) | (with_reducible exact (Duo.put3 (Duo.get (by assumption)) _ _ _ _).all))
    (first
      | (go_at_call 73; refine (clone_digs (CX.out.over (Duo.get (by assumption)).below).digs (by omega)).mono ?_; rintro e w2 ⟨A2, c2, rfl, hrow, hb⟩; have hb2 := hb)
      | (go_at_call 66; refine (signed_row _ A2 _ c2 _ _ (by omega) hrow.out.row).mono ?_; rintro e w3 ⟨neg3, A3, n3, c3, rfl, hint, hb⟩; have hb3 := hb))
  have T3 := (Duo.over hb3 (Duo.over hb2 HE2.out.drew))
  obtain ⟨y3, b3, m3, d3, hr3⟩ := T3.res
  have HI := Lib.hid (hint.out.put hr3 neg3 A3 n3 c3)
  have c0 := (hr3.put neg3 A3 n3 c3).c0
  have c1 := (hr3.put neg3 A3 n3 c3).c1
  have HB := Lib.hid (T3.put3 neg3 A3 n3 c3).below
  have HSZ := Lib.hid (put2_size w3 (w.heap.size + 1) neg3 A3 n3 c3)
  go_wp2
  refine bodyPost_ret (v := .agg #[.bool neg3, .slice A3 n3 c3]) (by simp [results, Tryd.results22, go_sem, c0, c1]) rfl ⟨neg3, A3, n3, c3, rfl, ?_, HB⟩
  have h : IsInt (put2 w3 (w.heap.size + 1) neg3 A3 n3 c3) (put2 w3 (w.heap.size + 1) neg3 A3 n3 c3).heap.size p _ _ := HI.out.more (by rw [HSZ.out]; exact Nat.le_refl _) (by omega)
  rw [sgn_not ZX.out] at h
  exact h
end Go.Proofs.YtpikbhcjgcbdfaaDoor.wh

/- Package whole: Gcd. -/
namespace Go.Proofs.YtpikbhcjgcbdfaaDoor.wh
open Go.RowKit

theorem rd_unique {w : World} {B : Nat} {A : Option Addr} {xs ys : List Nat} (h : Rd w B A xs) (k : Rd w B A ys) (hl : xs.length = ys.length) : xs = ys := by
  refine List.ext_getElem hl fun i hi hj => ?_
  obtain ⟨b, off, rfl, _, hc⟩ := h (by omega)
  obtain ⟨b', off', e, _, hc'⟩ := k (by omega)
  cases e
  have h1 := hc i hi
  rw [hc' i hj] at h1
  simp only [Option.some.injEq, Value.int.injEq, true_and] at h1
  omega
theorem rowtop_unique {w : World} {A : Option Addr} {n c X Y : Nat} (h : RowTop w A n c X) (k : RowTop w A n c Y) : X = Y := by
  obtain ⟨xs, h1, rfl⟩ := h
  obtain ⟨ys, k1, rfl⟩ := k
  rw [rd_unique h1.rd k1.rd (by rw [h1.len, k1.len])]
/-- the number of a row -/
noncomputable def rowVal (w : World) (v : Value) : Nat := @Classical.epsilon _ ⟨0⟩ fun Y => ∃ A n c, v = .slice A n c ∧ RowTop w A n c Y
theorem rowVal_eq {w : World} {A : Option Addr} {n c Y : Nat} (h : RowTop w A n c Y) : rowVal w (.slice A n c) = Y := by
  have hex : ∃ Y, ∃ A' n' c', Value.slice A n c = .slice A' n' c' ∧ RowTop w A' n' c' Y := ⟨Y, A, n, c, rfl, h⟩
  obtain ⟨A', n', c', e, h2⟩ := @Classical.epsilon_spec _ (fun Y => ∃ A' n' c', Value.slice A n c = .slice A' n' c' ∧ RowTop w A' n' c' Y) hex
  cases e
  exact rowtop_unique h2 h
theorem rowtop_zero {w : World} {A : Option Addr} {c Y : Nat} (h : RowTop w A 0 c Y) : Y = 0 := by
  obtain ⟨ds, h1, rfl⟩ := h
  rw [List.eq_nil_of_length_eq_zero h1.len]
  rfl
theorem rowtop_pos {w : World} {A : Option Addr} {n c Y : Nat} (h : RowTop w A n c Y) (hn : 0 < n) : 0 < Y := by
  obtain ⟨ds, h1, rfl⟩ := h
  exact top_pos h1.top (by rw [h1.len]; exact hn)
theorem rowtop_two {w : World} {A : Option Addr} {n c Y : Nat} (h : RowTop w A n c Y) (hn : n ≤ 2) : Y < 1000000000000000000 := by
  obtain ⟨ds, h1, rfl⟩ := h
  have h2 := val_lt h1.dig
  rw [h1.len] at h2
  have h3 : 1000000000 ^ n ≤ 1000000000 ^ 2 := pow_mono hn
  omega
theorem divide_rows {A B : Option Addr} {n c m d X Y : Nat} {w : World} (hx : RowTop w A n c X) (hy : RowTop w B m d Y) (hn : n ≤ 1000) (hm : m ≤ 1000) (hm0 : 0 < m) :
    Calls Tryd.prog 63 #[.slice A n c, .slice B m d] w fun e w' => GivesDiv w n m X Y e w' := by
  have hY := rowtop_pos hy hm0
  obtain ⟨xs, h1, h2⟩ := hx
  obtain ⟨ys, k1, k2⟩ := hy
  exact divides_all X Y hY xs ys A B n c m d w h2 k2 h1 k1 hn hm hm0
theorem clone_row {A : Option Addr} {n c X : Nat} {w : World} (hx : RowTop w A n c X) (hn : n ≤ 1000) :
    Calls Tryd.prog 73 #[.slice A n c] w fun e w' => ∃ A2 c2, e = .returned (.slice A2 n c2) ∧ Hid (RowIs w' A2 n c2 X) ∧ Hid (Below w.heap.size w w') := by
  obtain ⟨xs, h1, rfl⟩ := hx
  exact (clone_digs h1 hn).mono fun e w' ⟨A2, c2, h2, h3, h4⟩ => ⟨A2, c2, h2, h3.out.row, h4⟩
theorem join_row {A : Option Addr} {n c X : Nat} {w : World} (hx : RowTop w A n c X) (hn : n ≤ 2) :
    Calls Tryd.prog 74 #[.slice A n c] w fun e w' => e = .returned (.int .u64 (X : Nat)) ∧ w = w' := by
  have h9 := rowtop_two hx hn
  obtain ⟨xs, h1, rfl⟩ := hx
  exact join_any A n c xs w h1.len (by rw [h1.len]; unfold maxLen; omega) h1.rd h1.dig (by unfold W64; omega)

set_option maxRecDepth 100000 in
set_option maxHeartbeats 4000000 in
theorem gcd_any (v u : Value) (p q L : Nat) (a b : Int) (w : World) (hp : p ≤ L) (hq : q ≤ L) (hL : L ≤ 1000) (hx : IsInt w w.heap.size p v a) (hy : IsInt w w.heap.size q u b) :
    Calls Tryd.prog 24 #[v, u] w fun e w' => GivesZ w (L + 3) ((Nat.gcd a.natAbs b.natAbs : Nat) : Int) e w' := by
  obtain ⟨nx, A, n, c, xs, rfl, hnp, CX, ZX⟩ := hx.cells
  obtain ⟨ny, B, m, d, ys, rfl, hmq, CY, ZY⟩ := hy.cells
  clear hx hy
  have HT : Hid (Three w w.heap.size nx A n c (w.heap.size + 1) ny B m d (w.heap.size + 2) (((w.alloc (.cells #[.bool nx, .slice A n c] 24)).alloc (.cells #[.bool ny, .slice B m d] 24)).alloc (.cells #[.bool false, .slice none 0 0] 24))) :=
    ⟨(((Below.refl _ _).alloc (Nat.le_refl _) _).alloc (by simp) _).alloc (by simp; omega) _, ((Box.new _ _ _ _ _).alloc _).alloc _, by have h := (Box.new (w.alloc (.cells #[.bool nx, .slice A n c] 24)) ny B m d).alloc (.cells #[.bool false, .slice none 0 0] 24); rwa [World.size_alloc] at h,
      ⟨false, none, 0, 0, by have h := Box.new ((w.alloc (.cells #[.bool nx, .slice A n c] 24)).alloc (.cells #[.bool ny, .slice B m d] 24)) false none 0 0; rwa [World.size_alloc, World.size_alloc] at h⟩, by omega⟩
  have AX : Hid (val xs = a.natAbs) := by show _ = _; rw [← ZX.out, zval_abs]
  have AY : Hid (val ys = b.natAbs) := by show _ = _; rw [← ZY.out, zval_abs]
  obtain ⟨G, hG⟩ : ∃ G, G = Nat.gcd a.natAbs b.natAbs := ⟨_, rfl⟩
  rw [← hG]
  have HG : Hid (Nat.gcd (val xs) (val ys) = G) := by show _ = _; rw [AX.out, AY.out, hG]
  clear hG AX AY ZX ZY
  have hfx : ∀ W : World, (Instr.field 24 (.agg #[.bool nx, .slice A n c]) 1).run Tryd.prog W = .ok (.slice A n c) W := fun _ => by kernel_rfl
  have hfy : ∀ W : World, (Instr.field 24 (.agg #[.bool ny, .slice B m d]) 1).run Tryd.prog W = .ok (.slice B m d) W := fun _ => by kernel_rfl
  go_enter Tryd.func24, Tryd.ntmps24
  go_wp2
  go_region_held3 (fun w' => (w'.cell? ⟨w.heap.size, 0, none⟩ = some (.bool nx) ∧ w'.cell? ⟨w.heap.size, 1, none⟩ = some (.slice A n c) ∧ w'.cell? ⟨w.heap.size + 1, 0, none⟩ = some (.bool ny) ∧ w'.cell? ⟨w.heap.size + 1, 1, none⟩ = some (.slice B m d) ∧ w'.cell? ⟨w.heap.size + 2, 0, none⟩ = some (cellOf w' (w.heap.size + 2) 0) ∧ w'.cell? ⟨w.heap.size + 2, 1, none⟩ = some (cellOf w' (w.heap.size + 2) 1)) ∧ (w'.frozen? ⟨w.heap.size, 0, none⟩ = false ∧ w'.frozen? ⟨w.heap.size, 1, none⟩ = false ∧ w'.frozen? ⟨w.heap.size + 1, 0, none⟩ = false ∧ w'.frozen? ⟨w.heap.size + 1, 1, none⟩ = false ∧ w'.frozen? ⟨w.heap.size + 2, 0, none⟩ = false ∧ w'.frozen? ⟨w.heap.size + 2, 1, none⟩ = false) ∧ Hid (Three w w.heap.size nx A n c (w.heap.size + 1) ny B m d (w.heap.size + 2) w'))
    (first | (with_reducible exact HT.out.drew.all) | (with_reducible exact (Three.over hb (Three.get (by assumption))).all))
    (first
      | (go_at_call_of 62 A; refine (clean_cells CX.out (by omega) (Three.get (by assumption)).below).mono ?_; rintro e w1 ⟨rfl, hb⟩)
      | (go_at_call_of 62 B; refine (clean_cells CY.out (by omega) (Three.get (by assumption)).below).mono ?_; rintro e w2 ⟨rfl, hb⟩))
  have HE : Hid (Three w w.heap.size nx A n c (w.heap.size + 1) ny B m d (w.heap.size + 2) w2) := Three.get (by assumption)
  have RX : Hid (RowTop w2 A n c (val xs)) := ⟨xs, (CX.out.over HE.out.below).digs, rfl⟩
  have RY : Hid (RowTop w2 B m d (val ys)) := ⟨ys, (CY.out.over HE.out.below).digs, rfl⟩
  clear CX CY HT
  go_wp2
  go_loopw [5, 6] (fun u v wr => (∃ (A1 : Option Addr) (n1 c1 : Nat) (B1 : Option Addr) (m1 d1 X Y : Nat), u = .slice A1 n1 c1 ∧ v = .slice B1 m1 d1 ∧ n1 ≤ L ∧ m1 ≤ L ∧ Hid (RowTop wr A1 n1 c1 X) ∧ Hid (RowTop wr B1 m1 d1 Y) ∧ Hid (Nat.gcd X Y = G)) ∧ Hid (Three w w.heap.size nx A n c (w.heap.size + 1) ny B m d (w.heap.size + 2) wr)) (fun _ v wr => rowVal wr v)
  case atStart => exact ⟨⟨A, n, c, B, m, d, val xs, val ys, rfl, rfl, by omega, by omega, RX, RY, HG⟩, HE⟩
  case round =>
    obtain ⟨⟨A1, n1, c1, B1, m1, d1, X, Y, rfl, rfl, hn1L, hm1L, hx, hy, hg⟩, ht⟩ := hrel
    by_cases hn2 : 2 < n1
    · have gn : (2 : Int) < (n1 : Int) := by omega
      by_cases hm0 : m1 = 0
      · subst hm0
        have HX0 : Hid (X = G) := by
          have h0 := rowtop_zero hy.out
          have h1 := hg.out
          rw [h0, Nat.gcd_zero_right] at h1
          exact h1
        go_wp2_with fail
        refine (clone_row hx.out (by omega)).mono ?_
        rintro e5 w5 ⟨A2, c2, rfl, hrow, hb5⟩
        have T5 := Lib.hid (Three.over hb5 ht.out)
        go_wp2_with fail
        refine (signed_row false A2 n1 c2 X w5 (by omega) hrow.out).mono ?_
        rintro e6 wz ⟨neg3, A3, n3, c3, rfl, hint, hb6⟩
        have T6 := Lib.hid (Three.over hb6 T5.out)
        obtain ⟨y3, b3, m3, d3, hr3⟩ := T6.out.res
        have HI := Lib.hid (T6.out.int3 hint.out neg3 A3 n3 c3)
        have p0 := (hr3.put neg3 A3 n3 c3).c0
        have p1 := (hr3.put neg3 A3 n3 c3).c1
        have r0 := hr3.c0
        have r1 := hr3.c1
        have s0 := hr3.f0
        have s1 := hr3.f1
        have HB := Lib.hid (T6.out.put3 neg3 A3 n3 c3).below
        have HSZ := Lib.hid (put2_size wz (w.heap.size + 2) neg3 A3 n3 c3)
        clear hr3
        go_wp2
        (try simp only [Exit.inBlock, Exit.then])
        refine bodyPost_ret (v := .agg #[.bool neg3, .slice A3 n3 c3]) (by simp [results, Tryd.results24, go_sem, p0, p1]) rfl ⟨neg3, A3, n3, c3, rfl, ?_, HB⟩
        have h : IsInt (put2 wz (w.heap.size + 2) neg3 A3 n3 c3) (put2 wz (w.heap.size + 2) neg3 A3 n3 c3).heap.size (L + 3) _ _ := HI.out.more (by rw [HSZ.out]; exact Nat.le_refl _) (by omega)
        rw [show sgn false X = (G : Int) from by rw [HX0.out]; rfl] at h
        exact h
      · have hm1 : ((m1 : Int) == 0) = false := by rw [beq_eq_false_iff_ne]; omega
        have HY0 := Lib.hid (rowtop_pos hy.out (by omega))
        go_wp2_with fail
        refine (divide_rows hx.out hy.out (by omega) (by omega) (by omega)).mono ?_
        rintro e5 w5 ⟨A4, n4, c4, A5, n5, c5, rfl, hn4, hn5, _, hrest, hb5⟩
        have HG2 : Hid (Nat.gcd Y (X % Y) = G) := by
          show _ = _
          rw [← hg.out, Nat.gcd_comm Y (X % Y), ← Nat.gcd_rec, Nat.gcd_comm]
        have HY5 := Lib.hid (hy.out.over hb5.out)
        have HM : Hid (rowVal w5 (.slice A5 n5 c5) < rowVal wr (.slice B1 m1 d1)) := by
          show _ < _
          rw [rowVal_eq hrest.out, rowVal_eq hy.out]
          exact Nat.mod_lt _ HY0.out
        have T5 := Lib.hid (Three.over hb5 ht.out)
        go_wp2
        go_roundw
        case rel => exact ⟨⟨B1, m1, d1, A5, n5, c5, Y, X % Y, rfl, rfl, hm1L, by omega, HY5, hrest, HG2⟩, T5⟩
        case measure => exact HM.out
    · have gn : ¬ (2 : Int) < (n1 : Int) := by omega
      by_cases hm2 : 2 < m1
      · have gm : (2 : Int) < (m1 : Int) := by omega
        have hm1 : ((m1 : Int) == 0) = false := by rw [beq_eq_false_iff_ne]; omega
        have HY0 := Lib.hid (rowtop_pos hy.out (by omega))
        go_wp2_with fail
        refine (divide_rows hx.out hy.out (by omega) (by omega) (by omega)).mono ?_
        rintro e5 w5 ⟨A4, n4, c4, A5, n5, c5, rfl, hn4, hn5, _, hrest, hb5⟩
        have HG2 : Hid (Nat.gcd Y (X % Y) = G) := by
          show _ = _
          rw [← hg.out, Nat.gcd_comm Y (X % Y), ← Nat.gcd_rec, Nat.gcd_comm]
        have HY5 := Lib.hid (hy.out.over hb5.out)
        have HM : Hid (rowVal w5 (.slice A5 n5 c5) < rowVal wr (.slice B1 m1 d1)) := by
          show _ < _
          rw [rowVal_eq hrest.out, rowVal_eq hy.out]
          exact Nat.mod_lt _ HY0.out
        have T5 := Lib.hid (Three.over hb5 ht.out)
        go_wp2
        go_roundw
        case rel => exact ⟨⟨B1, m1, d1, A5, n5, c5, Y, X % Y, rfl, rfl, hm1L, by omega, HY5, hrest, HG2⟩, T5⟩
        case measure => exact HM.out
      · have gm : ¬ (2 : Int) < (m1 : Int) := by omega
        have X9 := rowtop_two hx.out (by omega)
        have Y9 := rowtop_two hy.out (by omega)
        go_wp2_with fail
        refine (join_row hx.out (by omega)).mono ?_
        rintro e5 w5 ⟨rfl, rfl⟩
        go_wp2_with fail
        refine (join_row hy.out (by omega)).mono ?_
        rintro e6 w6 ⟨rfl, rfl⟩
        go_wp2
        go_loopw [9, 10] (fun u v ws => (∃ (X1 Y1 : Nat), u = .int .u64 (X1 : Int) ∧ v = .int .u64 (Y1 : Int) ∧ X1 < 1000000000000000000 ∧ Y1 < 1000000000000000000 ∧ Hid (Nat.gcd X1 Y1 = G)) ∧ Hid (Three w w.heap.size nx A n c (w.heap.size + 1) ny B m d (w.heap.size + 2) ws)) (fun _ v _ => (intOf v).toNat)
        case atStart => exact ⟨⟨X, Y, rfl, rfl, X9, Y9, hg⟩, ht⟩
        case round =>
          obtain ⟨⟨X1, Y1, rfl, rfl, hX9, hY9, hg1⟩, hts⟩ := hrel
          by_cases hy0 : Y1 = 0
          · subst hy0
            have HX0 : Hid (X1 = G) := by
              have h1 := hg1.out
              rw [Nat.gcd_zero_right] at h1
              exact h1
            go_wp2_with fail
            refine (split_any X1 _ (by unfold W64; omega)).mono ?_
            rintro e7 w7 ⟨A2, m2, c2, ds, rfl, hl, hr, hmc, hm3, hd, hv, hb⟩
            have hrow : Hid (RowIs w7 A2 m2 c2 X1) := ⟨ds, hl, hmc, hr, hd, hv⟩
            have hb7 := Lib.hid hb
            clear hl hr hd hv hb
            have T5 := Lib.hid (Three.over hb7 hts.out)
            go_wp2_with fail
            refine (signed_row false A2 m2 c2 X1 w7 (by omega) hrow.out).mono ?_
            rintro e8 wz ⟨neg3, A3, n3, c3, rfl, hint, hb6⟩
            have T6 := Lib.hid (Three.over hb6 T5.out)
            obtain ⟨y3, b3, m3, d3, hr3⟩ := T6.out.res
            have HI := Lib.hid (T6.out.int3 hint.out neg3 A3 n3 c3)
            have p0 := (hr3.put neg3 A3 n3 c3).c0
            have p1 := (hr3.put neg3 A3 n3 c3).c1
            have r0 := hr3.c0
            have r1 := hr3.c1
            have s0 := hr3.f0
            have s1 := hr3.f1
            have HB := Lib.hid (T6.out.put3 neg3 A3 n3 c3).below
            have HSZ := Lib.hid (put2_size wz (w.heap.size + 2) neg3 A3 n3 c3)
            clear hr3
            go_wp2
            (try simp only [Exit.inBlock, Exit.then])
            refine bodyPost_ret (v := .agg #[.bool neg3, .slice A3 n3 c3]) (by simp [results, Tryd.results24, go_sem, p0, p1]) rfl ⟨neg3, A3, n3, c3, rfl, ?_, HB⟩
            have h : IsInt (put2 wz (w.heap.size + 2) neg3 A3 n3 c3) (put2 wz (w.heap.size + 2) neg3 A3 n3 c3).heap.size (L + 3) _ _ := HI.out.more (by rw [HSZ.out]; exact Nat.le_refl _) (by omega)
            rw [show sgn false X1 = (G : Int) from by rw [HX0.out]; rfl] at h
            exact h
          · have hy1 : ((Y1 : Int) == 0) = false := by rw [beq_eq_false_iff_ne]; omega
            obtain ⟨Z, hZ⟩ : ∃ Z, Z = X1 % Y1 := ⟨_, rfl⟩
            have hz1 : (X1 : Int) % (Y1 : Int) = (Z : Int) := by rw [hZ]; simp
            have hz2 : (X1 : Int).tmod (Y1 : Int) = (Z : Int) := by rw [hZ]; rfl
            have hZY : Z < Y1 := by rw [hZ]; exact Nat.mod_lt _ (by omega)
            have HG2 : Hid (Nat.gcd Y1 Z = G) := by
              show _ = _
              rw [← hg1.out, hZ, Nat.gcd_comm Y1 (X1 % Y1), ← Nat.gcd_rec, Nat.gcd_comm]
            clear hZ
            go_wp2
            go_region_held3 (fun w' => True) (trivial) (fail)
            have T8 := Lib.hid hts.out.drew
            go_wp2
            go_roundw
            case rel => exact ⟨⟨Y1, Z, rfl, rfl, hY9, by omega, HG2⟩, T8⟩
            case measure => simp [intOf]; omega
end Go.Proofs.YtpikbhcjgcbdfaaDoor.wh
