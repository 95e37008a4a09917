/- The walk of ScoreActs. -/
import Derived.Test.YtpikbhcjgcbdfaaSn
import Derived.Test.YtpikbhcjgcbdfaaSi
import Derived.Deep.DeepCutAuto
import Derived.Deep.CutBlock
namespace Go.Proofs.Ytpikbhcjgcbdfaa.sc
open Go.RowKit

/-- an act, as it comes in -/
structure Ac where
  what : Int
  v : Int
  n : Int
  bits : Nat
/-- a slice that reads as acts -/
def Ra (w : World) (A : Option Addr) (acs : List Ac) : Prop :=
  0 < acs.length → ∃ b off, A = some ⟨b, off, none⟩ ∧ b < w.heap.size ∧ ∀ j (h : j < acs.length), w.cell? ⟨b, off + j * 4, none⟩ = some (.int .i64 (acs[j]'h).what) ∧ w.cell? ⟨b, off + j * 4 + 1, none⟩ = some (.int .i64 (acs[j]'h).v) ∧ w.cell? ⟨b, off + j * 4 + 2, none⟩ = some (.int .i64 (acs[j]'h).n) ∧ w.cell? ⟨b, off + j * 4 + 3, none⟩ = some (.int .u64 ((acs[j]'h).bits : Int))
theorem Ra.below {w w' : World} {A : Option Addr} {acs : List Ac} (h : Ra w A acs) (hb : Below w.heap.size w w') : Ra w' A acs := fun hn => by
  obtain ⟨b, off, e, hlt, hc⟩ := h hn
  have k := fun o => hb.cell (p := ⟨b, o, none⟩) hlt
  exact ⟨b, off, e, Nat.lt_of_lt_of_le hlt hb.size, fun j hj => ⟨(k _).trans (hc j hj).1, (k _).trans (hc j hj).2.1, (k _).trans (hc j hj).2.2.1, (k _).trans (hc j hj).2.2.2⟩⟩
/-- both tables, alike -/
structure Twin (B T S R Q n dc : Nat) (w0 w : World) (L : Nat → Nat) (st : Nat) : Prop where
  t : IsTab w 54 T S n L st dc
  r : IsTab w 35 R Q n L st dc
  good : Good n L
  step : rg st ≤ I ∧ st < 18446744073709551616
  below : Below B w0 w
/-- the blocks lie apart -/
structure Apart (B T S R Q : Nat) : Prop where
  t : B ≤ T
  s : B ≤ S
  r : B ≤ R
  q : B ≤ Q
  ts : T ≠ S
  tr : T ≠ R
  tq : T ≠ Q
  sr : S ≠ R
  sq : S ≠ Q
  rq : R ≠ Q
theorem Twin.on {B T S R Q n dc : Nat} {w0 w w1 w2 : World} {L L1 : Nat → Nat} {st s1 : Nat} (h : Twin B T S R Q n dc w0 w L st) (a : Apart B T S R Q) (k1 : Two T S w w1) (t1 : IsTab w1 54 T S n L1 s1 dc) (k2 : Two R Q w1 w2) (r2 : IsTab w2 35 R Q n L1 s1 dc) (g : Good n L1) (hs : rg s1 ≤ I ∧ s1 < 18446744073709551616) : Twin B T S R Q n dc w0 w2 L1 s1 :=
  ⟨t1.two k2 a.tr a.tq a.sr a.sq, r2, g, hs, Two.below (Two.below h.below k1 a.t a.s) k2 a.r a.q⟩
theorem Twin.drewN {B T S R Q n dc : Nat} {w0 w : World} {L : Nat → Nat} {st : Nat} (h : Twin B T S R Q n dc w0 w L st) (q : Nat) : Twin B T S R Q n dc w0 (w.drewN q) L st := ⟨h.t, h.r, h.good, h.step, Below.drewN h.below q⟩
/-- the document's table is still there behind what became of the other one -/
theorem Twin.ref {B T S R Q n dc : Nat} {w0 w w1 : World} {L : Nat → Nat} {st : Nat} (h : Twin B T S R Q n dc w0 w L st) (a : Apart B T S R Q) (k1 : Two T S w w1) : IsTab w1 35 R Q n L st dc := h.r.two k1 (Ne.symm a.tr) (Ne.symm a.sr) (Ne.symm a.tq) (Ne.symm a.sq)
theorem bumpL_good {n : Nat} {L : Nat → Nat} (h : Good n L) (v st : Nat) : Good n (bumpL L v st) := by
  unfold bumpL
  have h2 := upd_good h (v := v) (addK_good (L v) st)
  split
  · exact low_good h2
  · exact h2
theorem bumpS_good {L : Nat → Nat} {v st : Nat} (h : rg st ≤ I ∧ st < 18446744073709551616) : rg (bumpS L v st) ≤ I ∧ bumpS L v st < 18446744073709551616 := by
  unfold bumpS
  split
  · exact ⟨(mul_at h.1).2.1, (mul_at h.1).2.2.1⟩
  · exact h
theorem fadeL_good {n : Nat} {L : Nat → Nat} (h : Good n L) (st dc : Nat) : Good n (fadeL L st dc) := by
  unfold fadeL
  split
  · exact low_good h
  · exact h
theorem fadeS_good {st dc : Nat} (h : rg st ≤ I) (h1 : rg dc < I) (h2 : 0 < rg dc) : rg (fadeS st dc) ≤ I ∧ fadeS st dc < 18446744073709551616 := by
  have d := div_at h h1 h2
  unfold fadeS
  split
  · exact ⟨(mul_at d.2.1).2.1, (mul_at d.2.1).2.2.1⟩
  · exact d.2
theorem new_all {z : Int} {n d : Nat} (hz : z ≤ 1048576) (hn : z.toNat = n) (w : World) : Calls Try.prog 7 #[.int .i64 z, .float .f64 d] w (Made 54 n d w) := by
  by_cases h : z < 0
  · obtain rfl : n = 0 := by omega
    exact new_neg h w
  · obtain rfl : z = (n : Int) := by omega
    exact new_pos (by omega) w
theorem refNew_all {z : Int} {n d : Nat} (hz : z ≤ 1048576) (hn : z.toNat = n) (w : World) : Calls Try.prog 8 #[.int .i64 z, .float .f64 d] w (Made 35 n d w) := by
  by_cases h : z < 0
  · obtain rfl : n = 0 := by omega
    exact refNew_neg h w
  · obtain rfl : z = (n : Int) := by omega
    exact refNew_pos (by omega) w
theorem decay_good (d : Nat) : rg (decayOf d) < I ∧ 0 < rg (decayOf d) := by
  unfold decayOf
  split
  · rename_i h
    rw [Bool.and_eq_true, fmt_eq, gt_of, lt_of] at h
    obtain ⟨h1, h2⟩ := h
    simp only [Bool.and_eq_true, Bool.not_eq_true', decide_eq_true_eq] at h1 h2
    have e0 : sr 0 = 0 := by decide
    have e1 : sr 4607182418800017408 = 4607182418800017408 := by decide
    have g1 := h1.2.2
    have g2 := h2.2.2
    rw [e0] at g1
    rw [e1] at g2
    have hI : I = 9218868437227405312 := rfl
    unfold sr at g1 g2
    cases hs : sg d
    · rw [hs] at g1 g2; simp at g1 g2; omega
    · rw [hs] at g1; simp at g1; omega
  · exact ⟨by decide, by decide⟩
theorem and_2047 (m : Int) : ∃ M : Nat, M ≤ 2047 ∧ bits .and .i64 m 2047 = (M : Int) := by
  have h : (BitVec.ofInt 64 m &&& BitVec.ofInt 64 2047).toNat ≤ 2047 := by
    rw [BitVec.toNat_and]
    exact Nat.le_trans Nat.and_le_right (by decide)
  refine ⟨(BitVec.ofInt 64 m &&& BitVec.ofInt 64 2047).toNat, h, ?_⟩
  show IntKind.i64.wrap ((BitVec.ofInt 64 m &&& BitVec.ofInt 64 2047).toNat : Int) = _
  rw [IntWalk.i64_in _ (by omega)]
theorem same_one (x : Nat) (w : World) :
    Calls Try.prog 16 #[.float .f64 x, .float .f64 x] w fun e w' => e = .returned (.bool true) ∧ w = w' :=
  (same_any x x w).mono fun _ _ h => ⟨h.1.trans (ret_bool (by unfold sameB; simp)), h.2⟩
theorem score_neg {w : World} {T S n st dc : Nat} {L : Nat → Nat} (h : Hid (IsTab w 54 T S n L st dc)) :
    Calls Try.prog 19 #[.pointer (some ⟨T, 0, none⟩), .int .i64 (-1)] w fun e w' => e = .returned (.float .f64 nanW) ∧ w = w' :=
  (score_any h (-1)).mono fun _ _ hh => ⟨hh.1.trans (ret_float (by unfold scoreOf hasB; simp)), hh.2⟩
theorem score_len {w : World} {T S n st dc : Nat} {L : Nat → Nat} (h : Hid (IsTab w 54 T S n L st dc)) :
    Calls Try.prog 19 #[.pointer (some ⟨T, 0, none⟩), .int .i64 (n : Int)] w fun e w' => e = .returned (.float .f64 nanW) ∧ w = w' :=
  (score_any h n).mono fun _ _ hh => ⟨hh.1.trans (ret_float (by unfold scoreOf hasB; simp)), hh.2⟩
theorem nan_nan (w : World) :
    Calls Try.prog 18 #[.float .f64 nanW] w fun e w' => e = .returned (.bool true) ∧ w = w' :=
  (refNan_any nanW w).mono fun _ _ h => ⟨h.1.trans (ret_bool (by decide)), h.2⟩
set_option maxRecDepth 100000 in
set_option maxHeartbeats 4000000 in
theorem acts_any {w : World} {z : Int} {n dc : Nat} {A : Option Addr} {acs : List Ac} {ca : Nat} {Az : Option Addr} {zs : List Int} {cz : Nat}
    (ha : Ra w A acs) (hb : ∀ a ∈ acs, a.bits < 18446744073709551616) (hz : Rz w Az zs) (hzn : z.toNat = n) (l0 : z ≤ 50) (l2 : acs.length ≤ 100) (l3 : zs.length ≤ 100) :
    Calls Try.prog 3 #[.int .i64 z, .float .f64 dc, .slice A acs.length ca, .slice Az zs.length cz] w fun e w' => e = .returned (.bool true) ∧ Below w.heap.size w w' := by
  have HA := Lib.hid ha
  have HBT := Lib.hid hb
  have HZ := Lib.hid hz
  clear ha hb hz
  have d1 : decide ((50 : Int) < z) = false := decide_eq_false (by omega)
  have l1 : n ≤ 50 := by omega
  have hd := decay_good dc
  have HZN := Lib.hid hzn
  clear hzn
  have d2 : decide ((100 : Int) < (acs.length : Int)) = false := by simp; omega
  have d3 : decide ((100 : Int) < (zs.length : Int)) = false := by simp; omega
  go_enter Try.func3, Try.ntmps3
  go_wp2_with (first | (go_at_call 6; refine (speaks_any _).mono ?_; rintro e w1 ⟨rfl, HB⟩) | (go_at_call 7; refine (new_all (by omega) HZN.out _).mono ?_; rintro e w2 ⟨T, S, rfl, HM⟩) | (go_at_call 8; refine (refNew_all (by omega) HZN.out _).mono ?_; rintro e w3 ⟨R, Q, rfl, HM2⟩))
  have HW3 : Hid (Below w.heap.size w w3) := Lib.hid ((HB.out.trans (HM.out.2.2.2.mono HB.out.size)).trans (HM2.out.2.2.2.mono (by have := HB.out.size; have := HM.out.2.2.2.size; omega)))
  have HP : Hid (Apart w.heap.size T S R Q) := Lib.hid (by
    have s1 := HB.out.size
    have s2 := HM.out.2.2.2.size
    have t1 := HM.out.1
    have t2 := HM.out.2.1
    have t3 := HM.out.2.2.1.1.lt
    have t4 := HM.out.2.2.1.2.1.lt
    have t5 := HM2.out.1
    have t6 := HM2.out.2.1
    exact ⟨by omega, by omega, by omega, by omega, HM.out.2.2.1.2.2, by omega, by omega, by omega, by omega, HM2.out.2.2.1.2.2⟩)
  have HTW : Hid (Twin w.heap.size T S R Q n (decayOf dc) w w3 (fun _ => 0) 4607182418800017408) := Lib.hid ⟨HM.out.2.2.1.below HM2.out.2.2.2, HM2.out.2.2.1, fun j _ => ⟨by decide, by decide⟩, ⟨by decide, by decide⟩, HW3.out⟩
  clear HB HM HM2 HW3
  have HD := Lib.hid hd
  clear hd
  generalize decayOf dc = dd at HTW HD
  go_loopw [43] (fun i wr => ∃ (k : Nat) (L : Nat → Nat) (st : Nat), k ≤ acs.length ∧ i = .int .i64 (k : Int) ∧ Hid (Twin w.heap.size T S R Q n dd w wr L st)) (fun i _ => acs.length - (intOf i).toNat)
  case atStart => exact ⟨0, _, _, by omega, rfl, HTW⟩
  case round =>
    obtain ⟨k, L, st, hk, rfl, HT⟩ := hrel
    clear HTW
    by_cases hlt : k < acs.length
    · obtain ⟨b, off, rfl, hblk, hc⟩ := (HA.out.below HT.out.below) (by omega)
      have hck := hc k hlt
      clear hc
      have HBK := Lib.hid (HBT.out _ (List.getElem_mem hlt))
      generalize acs[k] = ac at hck HBK
      obtain ⟨wh, v, m, bt⟩ := ac
      simp only at hck HBK
      obtain ⟨h0, h1, h2, h3⟩ := hck
      go_wp2_with fail
      have HT5 : Hid (Twin w.heap.size T S R Q n dd w (wr.alloc (.cells #[.int .i64 wh, .int .i64 v, .int .i64 m, .int .u64 (bt : Int)] 32)) L st) := Lib.hid ⟨HT.out.t.alloc _, HT.out.r.alloc _, HT.out.good, HT.out.step, HT.out.below.alloc HT.out.below.size _⟩
      have HBX : Hid (Blk (wr.alloc (.cells #[.int .i64 wh, .int .i64 v, .int .i64 m, .int .u64 (bt : Int)] 32)) wr.heap.size 32 #[.int .i64 wh, .int .i64 v, .int .i64 m, .int .u64 (bt : Int)]) := Lib.hid (Blk.new _ _ _)
      have HGS : Hid (w.heap.size ≤ wr.heap.size ∧ T < wr.heap.size ∧ S < wr.heap.size ∧ R < wr.heap.size ∧ Q < wr.heap.size) := Lib.hid ⟨HT.out.below.size, HT.out.t.1.lt, HT.out.t.2.1.lt, HT.out.r.1.lt, HT.out.r.2.1.lt⟩
      clear h0 h1 h2 h3 hblk HT
      generalize wr.alloc (.cells #[.int .i64 wh, .int .i64 v, .int .i64 m, .int .u64 (bt : Int)] 32) = w5 at *
      generalize wr.heap.size = G at *
      have x0 := HBX.out.cell 0
      have x1 := HBX.out.cell 1
      have x2 := HBX.out.cell 2
      have x3 := HBX.out.cell 3
      simp only [List.getElem?_toArray, List.getElem?_cons_zero, List.getElem?_cons_succ] at x0 x1 x2 x3
      have r0 := HT5.out.r.c0
      have there : hasB n v = true ∨ (hasB n v = false ∧ v < 0) ∨ (hasB n v = false ∧ 0 ≤ v ∧ (n : Int) ≤ v) := by
        cases hh : hasB n v
        · have h := hh
          unfold hasB at h
          by_cases h0 : 0 ≤ v
          · simp [h0] at h; exact .inr (.inr ⟨rfl, h0, h⟩)
          · exact .inr (.inl ⟨rfl, by omega⟩)
        · exact .inl rfl
      go_cut [13] (fun th wx => th = .bool (hasB n v) ∧ ∃ q, wx = w5.drewN q)
      case first =>
        rcases there with hh | ⟨hh, hv⟩ | ⟨hh, hv, hv2⟩
        · have hv : 0 ≤ v ∧ v < n := by simpa [hasB] using hh
          have e0 : decide (0 ≤ v) = true := decide_eq_true hv.1
          have e1 : decide (v < (n : Int)) = true := decide_eq_true hv.2
          clear hv
          go_quiet (fail)
          go_wp2_with fail
          go_meet
          exact ⟨by rw [hh], _, rfl⟩
        · have e0 : decide (0 ≤ v) = false := decide_eq_false (by omega)
          go_quiet (fail)
          go_wp2_with fail
          go_meet
          exact ⟨by rw [hh], _, rfl⟩
        · have e0 : decide (0 ≤ v) = true := decide_eq_true hv
          have e1 : decide (v < (n : Int)) = false := decide_eq_false (by omega)
          clear hv hv2
          go_quiet (fail)
          go_wp2_with fail
          go_meet
          exact ⟨by rw [hh], _, rfl⟩
      case rest =>
        obtain ⟨rfl, q, rfl⟩ := hcut
        go_upto_block 2 with (fail)
        go_cut [13] (fun _ wx => ∃ (L2 : Nat → Nat) (s2 : Nat), Hid (Twin w.heap.size T S R Q n dd w wx L2 s2))
        case first =>
          have parts : (wh == 0) = true ∨ ((wh == 0) = false ∧ (wh == 1) = true) ∨ ((wh == 0) = false ∧ (wh == 1) = false ∧ (wh == 2) = true) ∨ ((wh == 0) = false ∧ (wh == 1) = false ∧ (wh == 2) = false) := by
            cases (wh == 0) <;> cases (wh == 1) <;> cases (wh == 2) <;> simp
          rcases parts with g0 | ⟨g0, g1⟩ | ⟨g0, g1, g2⟩ | ⟨g0, g1, g2⟩
          · cases hh : hasB n v
            · go_wp2_with (first | (go_at_call 9; refine (hasNo_any (Lib.hid (HT5.out.t.drewN _)) hh).mono ?_; rintro e w6 ⟨rfl, rfl⟩))
              go_meet
              exact ⟨_, _, Lib.hid (HT5.out.drewN q)⟩
            · obtain ⟨j, rfl, hj⟩ := hasB_cases hh
              go_wp2_with (first | (go_at_call 9; refine (bump_any (Lib.hid (HT5.out.t.drewN _)) (Lib.hid HT5.out.good) (Lib.hid HT5.out.step.1) (by omega) hj).mono ?_; rintro e w6 ⟨rfl, k1, t1⟩; have K1 := Lib.hid k1; have T1 := Lib.hid t1; clear k1 t1; have HBX6 := (HBX.out.drewN q).two K1.out (by have := HGS.out; omega) (by have := HGS.out; omega); have y1 := HBX6.cell 1; simp only [List.getElem?_toArray, List.getElem?_cons_zero, List.getElem?_cons_succ] at y1) | (go_at_call 10; refine (refBump_any (Lib.hid ((HT5.out.drewN _).ref HP.out K1.out)) (Lib.hid HT5.out.good) (Lib.hid HT5.out.step.1) (by omega) hj).mono ?_; rintro e w7 ⟨rfl, k2, t2⟩; have K2 := Lib.hid k2; have T2 := Lib.hid t2; clear k2 t2))
              go_meet
              exact ⟨_, _, Lib.hid (Twin.on (HT5.out.drewN q) HP.out K1.out T1.out K2.out T2.out (bumpL_good HT5.out.good _ _) (bumpS_good HT5.out.step))⟩
          · go_wp2_with (first | (go_at_call 11; refine (fade_any (Lib.hid ((HT5.out.drewN q).t)) (Lib.hid (HT5.out.drewN q).good) (Lib.hid (HT5.out.drewN q).step.1) HD (by omega)).mono ?_; rintro e w6 ⟨rfl, k1, t1⟩; have K1 := Lib.hid k1; have T1 := Lib.hid t1; clear k1 t1) | (go_at_call 12; refine (refFade_any (Lib.hid ((HT5.out.drewN q).ref HP.out K1.out)) (Lib.hid (HT5.out.drewN q).good) (Lib.hid (HT5.out.drewN q).step.1) HD (by omega)).mono ?_; rintro e w7 ⟨rfl, k2, t2⟩; have K2 := Lib.hid k2; have T2 := Lib.hid t2; clear k2 t2))
            go_meet
            exact ⟨_, _, Lib.hid (Twin.on (HT5.out.drewN q) HP.out K1.out T1.out K2.out T2.out (fadeL_good HT5.out.good _ _) (fadeS_good HT5.out.step.1 HD.out.1 HD.out.2))⟩
          · cases hh : hasB n v
            · go_wp2_with (first | (go_at_call 13; refine (of_any _ _).mono ?_; rintro e w' ⟨rfl, rfl⟩) | (go_at_call 14; refine (set_any (Lib.hid (HT5.out.t.drewN _)) _ _).mono ?_; rintro e w6 ⟨rfl, k1, t1⟩; have K1 := Lib.hid k1; have T1 := Lib.hid t1; clear k1 t1; have HBX6 := (HBX.out.drewN q).two K1.out (by have := HGS.out; omega) (by have := HGS.out; omega); have y1 := HBX6.cell 1; simp only [List.getElem?_toArray, List.getElem?_cons_zero, List.getElem?_cons_succ] at y1; have rc0 := ((HT5.out.drewN _).ref HP.out K1.out).c0))
              go_meet
              have t1 := T1.out
              rw [hh, if_neg Bool.false_ne_true] at t1
              exact ⟨_, _, Lib.hid (Twin.on (HT5.out.drewN q) HP.out K1.out t1 (Two.refl _ _ _) ((HT5.out.drewN q).ref HP.out K1.out) HT5.out.good HT5.out.step)⟩
            · obtain ⟨j, rfl, hj⟩ := hasB_cases hh
              have hkb := kept_good HBK.out
              go_wp2_with (first | (go_at_call 13; refine (of_any _ _).mono ?_; rintro e w' ⟨rfl, rfl⟩) | (go_at_call 14; refine (set_any (Lib.hid (HT5.out.t.drewN _)) _ _).mono ?_; rintro e w6 ⟨rfl, k1, t1⟩; have K1 := Lib.hid k1; have T1 := Lib.hid t1; clear k1 t1; have HBX6 := (HBX.out.drewN q).two K1.out (by have := HGS.out; omega) (by have := HGS.out; omega); have y1 := HBX6.cell 1; simp only [List.getElem?_toArray, List.getElem?_cons_zero, List.getElem?_cons_succ] at y1; have rc0 := ((HT5.out.drewN _).ref HP.out K1.out).c0))
              have rcj := ((HT5.out.drewN q).ref HP.out K1.out).cs hj
              have rfj := ((HT5.out.drewN q).ref HP.out K1.out).fs j
              refine wp_region_still_tail 9 (by kernel_rfl) (by kernel_rfl) ?_
              simp only [List.take_succ_cons, List.take_zero, List.drop_succ_cons, List.drop_zero]
              show wpStill _ _ w6.drew (fun a' => wpList _ _ _ _ a' w6.drew) _ _
              repeat still_step
              still_call (turned (plain_any _ _))
              repeat still_step
              refine wpStill_nil ?_
              go_wp2_with fail
              go_meet
              have t1 := T1.out
              rw [hh, if_pos rfl, Int.toNat_natCast] at t1
              exact ⟨_, _, Lib.hid (Twin.on (HT5.out.drewN q) HP.out K1.out t1 (((Two.refl _ _ _).drew).set2 _ _) (((HT5.out.drewN q).ref HP.out K1.out).setS j (keptW bt)) (upd_good HT5.out.good hkb) HT5.out.step)⟩
          · obtain ⟨M, hM, hand⟩ := and_2047 m
            go_wp2_with fail
            go_loopw [15] (fun i wl => ∃ (k2 : Nat) (L2 : Nat → Nat) (s2 : Nat), k2 ≤ M ∧ i = .int .i64 (k2 : Int) ∧ Hid (Twin w.heap.size T S R Q n dd w wl L2 s2) ∧ Hid (Blk wl G 32 #[.int .i64 wh, .int .i64 v, .int .i64 m, .int .u64 (bt : Int)])) (fun i _ => M - (intOf i).toNat)
            case atStart => exact ⟨0, _, _, by omega, rfl, Lib.hid (HT5.out.drewN q), Lib.hid (HBX.out.drewN q)⟩
            case round =>
              obtain ⟨k2, L2, s2, hk2, rfl, HT6, HB6⟩ := hrel
              have y2 := HB6.out.cell 2
              simp only [List.getElem?_toArray, List.getElem?_cons_zero, List.getElem?_cons_succ] at y2
              by_cases hlt2 : k2 < M
              · go_wp2_with (first | (go_at_call 11; refine (fade_any (Lib.hid (HT6.out.t)) (Lib.hid HT6.out.good) (Lib.hid HT6.out.step.1) HD (by omega)).mono ?_; rintro e w6 ⟨rfl, k1, t1⟩; have K1 := Lib.hid k1; have T1 := Lib.hid t1; clear k1 t1) | (go_at_call 12; refine (refFade_any (Lib.hid (HT6.out.ref HP.out K1.out)) (Lib.hid HT6.out.good) (Lib.hid HT6.out.step.1) HD (by omega)).mono ?_; rintro e w7 ⟨rfl, k2, t2⟩; have K2 := Lib.hid k2; have T2 := Lib.hid t2; clear k2 t2))
                go_roundw
                case rel => exact ⟨k2 + 1, _, _, by omega, by go_num, Lib.hid (Twin.on HT6.out HP.out K1.out T1.out K2.out T2.out (fadeL_good HT6.out.good _ _) (fadeS_good HT6.out.step.1 HD.out.1 HD.out.2)), Lib.hid ((HB6.out.two K1.out (by have := HGS.out; omega) (by have := HGS.out; omega)).two K2.out (by have := HGS.out; omega) (by have := HGS.out; omega))⟩
                case measure => simp [intOf]; omega
              · go_wp2_with fail
                go_meet
                exact ⟨_, _, HT6⟩
        case rest =>
          obtain ⟨L2, s2, HX⟩ := hcut
          clear HT5 HBX x0 x1 x2 x3 r0 there
          have rr0 := HX.out.r.c0
          have rr1 := HX.out.r.c1
          have HFT := Lib.hid HX.out.good.fit
          have HZC := Lib.hid (HZ.out.below HX.out.below)
          go_wp2_with fail
          go_quiet ((first | (go_at_call 17; exact still (step_any (Lib.hid (HX.out.t.drewN _)))) | (go_at_call 16; exact still (same_one _ _)) | (go_at_call 19; with_reducible exact still (score_neg (Lib.hid (HX.out.t.drewN _)))) | (go_at_call 19; with_reducible exact still (score_len (Lib.hid (HX.out.t.drewN _)))) | (go_at_call 18; exact still (nan_nan _))))
          go_wp2_with fail
          go_loopw [144] (fun i wl => ∃ (k3 q3 : Nat), k3 ≤ n ∧ i = .int .i64 (k3 : Int) ∧ wl = wc.drewN q3) (fun i _ => n - (intOf i).toNat)
          case atStart => exact ⟨0, _, by omega, rfl, rfl⟩
          case round =>
            obtain ⟨k3, q3, hk3, rfl, rfl⟩ := hrel
            by_cases hlt3 : k3 < n
            · have rs := HX.out.r.cs hlt3
              go_wp2_with (first | (go_at_call 19; refine (score_at (Lib.hid (HX.out.t.drewN _)) hlt3).mono ?_; rintro e w9 ⟨rfl, rfl⟩) | (go_at_call 16; refine (same_one _ _).mono ?_; rintro e w9 ⟨rfl, rfl⟩) | (go_at_call 20; refine (bits_any _ _).mono ?_; rintro e w9 ⟨rfl, rfl⟩))
              go_roundw
              case rel => exact ⟨k3 + 1, q3, by omega, by go_num, rfl⟩
              case measure => simp [intOf]; omega
            · obtain ⟨o, ho⟩ : ∃ o, bestOf n L2 zs = o := ⟨_, rfl⟩
              have HO := Lib.hid ho
              clear ho
              cases o with
              | none =>
                have hbd : ∀ (w4 w'' : World) (e : Ending), BestDone w4 n L2 zs e w'' → e = .returned (.tuple #[.int .i64 0, .bool false]) ∧ ∃ q, w'' = w4.drewN q := fun w4 w'' e h => ⟨by have := h.1; rw [HO.out] at this; exact this, h.2⟩
                have hrb : ∀ (w4 w'' : World) (e : Ending), Quiet w4 (.int .i64 (refB (bestOf n L2 zs))) e w'' → e = .returned (.int .i64 (-1)) ∧ ∃ q, w'' = w4.drewN q := fun w4 w'' e h => ⟨by have := h.1; rw [HO.out] at this; exact this, h.2⟩
                have HBD := Lib.hid hbd
                have HRB := Lib.hid hrb
                clear hbd hrb
                go_wp2_with (first | (go_at_call 21; refine (best_any (Lib.hid (HX.out.t.drewN _)) HFT (Lib.hid (HZC.out.drewN _)) (by omega)).mono ?_; intro e w' hd; obtain ⟨rfl, q4, rfl⟩ := HBD.out _ _ _ hd; clear hd) | (go_at_call 22; refine (refBest_any (Lib.hid (HX.out.r.drewN _)) (by omega) (Lib.hid (HZC.out.drewN _)) (by omega)).mono ?_; intro e w' hd; obtain ⟨rfl, q5, rfl⟩ := HRB.out _ _ _ hd; clear hd))
                go_roundw
                case rel => exact ⟨k + 1, L2, s2, by omega, by go_num, Lib.hid (HX.out.drewN _)⟩
                case measure => simp [intOf]; omega
              | some b0 =>
                have hbd : ∀ (w4 w'' : World) (e : Ending), BestDone w4 n L2 zs e w'' → e = .returned (.tuple #[.int .i64 (b0 : Int), .bool true]) ∧ ∃ q, w'' = w4.drewN q := fun w4 w'' e h => ⟨by have := h.1; rw [HO.out] at this; exact this, h.2⟩
                have hrb : ∀ (w4 w'' : World) (e : Ending), Quiet w4 (.int .i64 (refB (bestOf n L2 zs))) e w'' → e = .returned (.int .i64 (b0 : Int)) ∧ ∃ q, w'' = w4.drewN q := fun w4 w'' e h => ⟨by have := h.1; rw [HO.out] at this; exact this, h.2⟩
                have HBD := Lib.hid hbd
                have HRB := Lib.hid hrb
                clear hbd hrb
                go_wp2_with (first | (go_at_call 21; refine (best_any (Lib.hid (HX.out.t.drewN _)) HFT (Lib.hid (HZC.out.drewN _)) (by omega)).mono ?_; intro e w' hd; obtain ⟨rfl, q4, rfl⟩ := HBD.out _ _ _ hd; clear hd) | (go_at_call 22; refine (refBest_any (Lib.hid (HX.out.r.drewN _)) (by omega) (Lib.hid (HZC.out.drewN _)) (by omega)).mono ?_; intro e w' hd; obtain ⟨rfl, q5, rfl⟩ := HRB.out _ _ _ hd; clear hd))
                go_roundw
                case rel => exact ⟨k + 1, L2, s2, by omega, by go_num, Lib.hid (HX.out.drewN _)⟩
                case measure => simp [intOf]; omega
    · go_wp2_with fail
      go_ret
      exact ⟨rfl, HT.out.below⟩
set_option maxRecDepth 100000 in
theorem acts_big {w : World} {z : Int} {dc : Nat} {A : Option Addr} {m ca : Nat} {Az : Option Addr} {l cz : Nat} (h : ¬ (z ≤ 50 ∧ m ≤ 100 ∧ l ≤ 100)) :
    Calls Try.prog 3 #[.int .i64 z, .float .f64 dc, .slice A m ca, .slice Az l cz] w fun e w' => e = .returned (.bool true) ∧ Below w.heap.size w w' := by
  have split_ : 50 < z ∨ (z ≤ 50 ∧ 100 < m) ∨ (z ≤ 50 ∧ m ≤ 100 ∧ 100 < l) := by omega
  clear h
  rcases split_ with h1 | ⟨h1, h2⟩ | ⟨h1, h2, h3⟩
  · have d1 : decide ((50 : Int) < z) = true := decide_eq_true (by omega)
    clear h1
    go_enter Try.func3, Try.ntmps3
    go_wp2_with (first | (go_at_call 6; refine (speaks_any _).mono ?_; rintro e w1 ⟨rfl, HB⟩))
    go_ret
    exact ⟨rfl, HB.out⟩
  · have d1 : decide ((50 : Int) < z) = false := decide_eq_false (by omega)
    have d2 : decide ((100 : Int) < (m : Int)) = true := decide_eq_true (by omega)
    clear h1 h2
    go_enter Try.func3, Try.ntmps3
    go_wp2_with (first | (go_at_call 6; refine (speaks_any _).mono ?_; rintro e w1 ⟨rfl, HB⟩))
    go_ret
    exact ⟨rfl, HB.out⟩
  · have d1 : decide ((50 : Int) < z) = false := decide_eq_false (by omega)
    have d2 : decide ((100 : Int) < (m : Int)) = false := decide_eq_false (by omega)
    have d3 : decide ((100 : Int) < (l : Int)) = true := decide_eq_true (by omega)
    clear h1 h2 h3
    go_enter Try.func3, Try.ntmps3
    go_wp2_with (first | (go_at_call 6; refine (speaks_any _).mono ?_; rintro e w1 ⟨rfl, HB⟩))
    go_ret
    exact ⟨rfl, HB.out⟩
theorem acts_all {w : World} {z : Int} {dc : Nat} {A : Option Addr} {acs : List Ac} {ca : Nat} {Az : Option Addr} {zs : List Int} {cz : Nat}
    (ha : Ra w A acs) (hb : ∀ a ∈ acs, a.bits < 18446744073709551616) (hz : Rz w Az zs) :
    Calls Try.prog 3 #[.int .i64 z, .float .f64 dc, .slice A acs.length ca, .slice Az zs.length cz] w fun e w' => e = .returned (.bool true) ∧ Below w.heap.size w w' := by
  by_cases h : z ≤ 50 ∧ acs.length ≤ 100 ∧ zs.length ≤ 100
  · exact acts_any ha hb hz rfl h.1 h.2.1 h.2.2
  · exact acts_big h
end Go.Proofs.Ytpikbhcjgcbdfaa.sc
