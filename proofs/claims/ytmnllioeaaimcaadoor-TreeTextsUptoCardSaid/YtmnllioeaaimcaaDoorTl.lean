/- The document's answer of layer 4: the token at a place: symbols within bars; numbers behind a hash. -/
import Derived.Test.YtmnllioeaaimcaaDoorTk
namespace Go.Proofs.YtmnllioeaaimcaaDoor.tk
open Go.RowKit

theorem bar_cases (d : UInt8) : (isPlain d = false ∧ isBar d = false) ∨ (isPlain d = true ∧ ((d.toNat : Int) != 92) = false ∧ isBar d = false) ∨ (isPlain d = true ∧ ((d.toNat : Int) != 92) = true ∧ ((d.toNat : Int) != 124) = false ∧ isBar d = false) ∨ (isPlain d = true ∧ ((d.toNat : Int) != 92) = true ∧ ((d.toNat : Int) != 124) = true ∧ isBar d = true) := by
  unfold isBar
  cases isPlain d
  · exact Or.inl ⟨rfl, rfl⟩
  · by_cases h1 : d.toNat = 92
    · exact Or.inr (Or.inl ⟨rfl, by rw [h1]; rfl, by simp [h1]⟩)
    · have e1 : ((d.toNat : Int) != 92) = true := by rw [bne_iff_ne]; omega
      by_cases h2 : d.toNat = 124
      · exact Or.inr (Or.inr (Or.inl ⟨rfl, e1, by rw [h2]; rfl, by simp [h2]⟩))
      · exact Or.inr (Or.inr (Or.inr ⟨rfl, e1, by rw [bne_iff_ne]; omega, by simp [h1, h2]⟩))
theorem bin_cases (d : UInt8) : (((d.toNat : Int) == 48) = true ∧ isBin d = true) ∨ (((d.toNat : Int) == 48) = false ∧ ((d.toNat : Int) == 49) = true ∧ isBin d = true) ∨ (((d.toNat : Int) == 48) = false ∧ ((d.toNat : Int) == 49) = false ∧ isBin d = false) := by
  unfold isBin
  by_cases h1 : d.toNat = 48
  · exact Or.inl ⟨by rw [h1]; rfl, by simp [h1]⟩
  · have e1 : ((d.toNat : Int) == 48) = false := by rw [beq_eq_false_iff_ne]; omega
    by_cases h2 : d.toNat = 49
    · exact Or.inr (Or.inl ⟨e1, by rw [h2]; rfl, by simp [h2]⟩)
    · exact Or.inr (Or.inr ⟨e1, by rw [beq_eq_false_iff_ne]; omega, by simp [h1, h2]⟩)

theorem scan_bar_q {bs : List UInt8} {p Q : Nat} (hp : p < bs.length) (h : bs[p].toNat = 124) (hQ : runE isBar bs (p + 1) = Q) : scan (bs.drop p) = if hq : Q < bs.length then (if (bs[Q]'hq).toNat = 124 then .tok 3 (cutL bs (p + 1) Q) (Q + 1 - p) else .bad (Q - p)) else .bad (Q - p) := by
  subst hQ
  exact scan_bar_at hp h
theorem ends_yes {k n : Nat} {t r : List UInt8} (h : innerNext r = false) : endsAt k t n r = .tok k t n := by unfold endsAt; rw [h]; rfl
theorem ends_no {k n : Nat} {t r : List UInt8} (h : innerNext r = true) : endsAt k t n r = .bad n := by unfold endsAt; rw [h]; rfl

set_option maxRecDepth 100000 in
set_option maxHeartbeats 2000000 in
theorem token_bar {w : World} {b off : Nat} {bs : List UInt8} {cb p : Nat} (hb : Hid (Rb w (some ⟨b, off, none⟩) bs)) (hl : bs.length ≤ 100000000) (hcap : bs.length ≤ cb) (hp : p < bs.length) (hblt : b < w.heap.size) (H : bs[p].toNat = 124) :
    Calls Tryd.prog 44 #[.slice (some ⟨b, off, none⟩) bs.length cb, .int .i64 (p : Int)] w fun e w' => Hid (ScEnds (scan (bs.drop p)) p e) ∧ Hid (Below w.heap.size w w') := by
  have this := And.intro hl hcap
  clear this
  obtain ⟨Q, hQ⟩ : ∃ Q, runE isBar bs (p + 1) = Q := ⟨_, rfl⟩
  have HS := scan_bar_q hp H hQ
  obtain ⟨c, hc⟩ : ∃ c, bs[p] = c := ⟨_, rfl⟩
  rw [hc] at H
  have hQ1 : p + 1 ≤ Q := hQ ▸ runE_ge
  have hQ2 : Q ≤ bs.length := hQ ▸ runE_le (by omega)
  have HQ := Lib.hid hQ
  clear hQ
  replace HS := Lib.hid HS
  have hA : ∀ a, some (⟨b, off, none⟩ : Addr) = some a → a.block < w.heap.size := by rintro a ⟨rfl⟩; exact hblt
  go_enter Tryd.func44, Tryd.ntmps44
  go_upto_region 2 with fail
  generalize hW : (w.alloc _).alloc _ = W
  have S0 := Lib.hid (St.start hb.out hW)
  clear hW
  have hck := S0.out.rb.cells hp
  rw [hc] at hck
  have HC := Lib.hid hc
  have d40 : ((c.toNat : Int) == 40) = false := by rw [beq_eq_false_iff_ne]; omega
  have d41 : ((c.toNat : Int) == 41) = false := by rw [beq_eq_false_iff_ne]; omega
  have d35 : ((c.toNat : Int) == 35) = false := by rw [beq_eq_false_iff_ne]; omega
  have d34 : ((c.toNat : Int) == 34) = false := by rw [beq_eq_false_iff_ne]; omega
  have d124 : ((c.toNat : Int) == 124) = true := by rw [H]; rfl
  have hd : isDigit c = false := digit_no (Or.inr (by omega))
  clear hc H
  have f0 := S0.out.tf 0
  have c0 := S0.out.t0
  go_upto_block 8 with (first | (go_at_call 61; refine (digit_any _ _).mono ?_; rintro e w' ⟨rfl, rfl⟩) | (go_at_call 62; refine (inner_any _ _).mono ?_; rintro e w' ⟨rfl, rfl⟩) | (go_at_call 63; refine (hex_any _ _).mono ?_; rintro e w' ⟨rfl, rfl⟩) | (go_at_call 64; refine (plain_any _ _).mono ?_; rintro e w' ⟨rfl, rfl⟩))
  clear f0 c0 hck d40 d41 d35 d34 d124 hd
  generalize hW : World.setCell _ _ _ = W1
  have S1 := Lib.hid (S0.out.kind hA 3 hW)
  clear hW
  clear S0
  go_cut [9] from 278 to 304 (fun v wx => v = .int .i64 (Q : Int) ∧ wx = W1)
  case first =>
    go_wp2_with fail
    go_loop [9] (fun v => ∃ k : Nat, p + 1 ≤ k ∧ k ≤ bs.length ∧ v = .int .i64 (k : Int) ∧ Hid (runE isBar bs k = Q)) (fun v => bs.length - (intOf v).toNat)
    case atStart => exact ⟨p + 1, Nat.le_refl _, by omega, by go_num, HQ⟩
    case round =>
      obtain ⟨k, hk1, hk2, rfl, hQk⟩ := hrel
      by_cases hlt : k < bs.length
      · have hcc := S1.out.rb.cells hlt
        obtain ⟨d, hd⟩ : ∃ d, bs[k] = d := ⟨_, rfl⟩
        rw [hd] at hcc
        have HD := Lib.hid hd
        clear hd
        rcases bar_cases d with ⟨q0, hi⟩ | ⟨q0, q1, hi⟩ | ⟨q0, q1, q2, hi⟩ | ⟨q0, q1, q2, hi⟩
        · have E : Hid (k = Q) := Lib.hid ((runE_stop hlt (by rw [HD.out]; exact hi)).symm.trans hQk.out)
          clear hi
          go_wp2_with (first | (go_at_call 61; refine (digit_any _ _).mono ?_; rintro e w' ⟨rfl, rfl⟩) | (go_at_call 62; refine (inner_any _ _).mono ?_; rintro e w' ⟨rfl, rfl⟩) | (go_at_call 63; refine (hex_any _ _).mono ?_; rintro e w' ⟨rfl, rfl⟩) | (go_at_call 64; refine (plain_any _ _).mono ?_; rintro e w' ⟨rfl, rfl⟩))
          go_meet
          exact ⟨by rw [E.out], rfl⟩
        · have E : Hid (k = Q) := Lib.hid ((runE_stop hlt (by rw [HD.out]; exact hi)).symm.trans hQk.out)
          clear hi
          go_wp2_with (first | (go_at_call 61; refine (digit_any _ _).mono ?_; rintro e w' ⟨rfl, rfl⟩) | (go_at_call 62; refine (inner_any _ _).mono ?_; rintro e w' ⟨rfl, rfl⟩) | (go_at_call 63; refine (hex_any _ _).mono ?_; rintro e w' ⟨rfl, rfl⟩) | (go_at_call 64; refine (plain_any _ _).mono ?_; rintro e w' ⟨rfl, rfl⟩))
          go_meet
          exact ⟨by rw [E.out], rfl⟩
        · have E : Hid (k = Q) := Lib.hid ((runE_stop hlt (by rw [HD.out]; exact hi)).symm.trans hQk.out)
          clear hi
          go_wp2_with (first | (go_at_call 61; refine (digit_any _ _).mono ?_; rintro e w' ⟨rfl, rfl⟩) | (go_at_call 62; refine (inner_any _ _).mono ?_; rintro e w' ⟨rfl, rfl⟩) | (go_at_call 63; refine (hex_any _ _).mono ?_; rintro e w' ⟨rfl, rfl⟩) | (go_at_call 64; refine (plain_any _ _).mono ?_; rintro e w' ⟨rfl, rfl⟩))
          go_meet
          exact ⟨by rw [E.out], rfl⟩
        · have E : Hid (runE isBar bs (k + 1) = Q) := Lib.hid ((runE_step hlt (by rw [HD.out]; exact hi)).symm.trans hQk.out)
          clear hi
          go_wp2_with (first | (go_at_call 61; refine (digit_any _ _).mono ?_; rintro e w' ⟨rfl, rfl⟩) | (go_at_call 62; refine (inner_any _ _).mono ?_; rintro e w' ⟨rfl, rfl⟩) | (go_at_call 63; refine (hex_any _ _).mono ?_; rintro e w' ⟨rfl, rfl⟩) | (go_at_call 64; refine (plain_any _ _).mono ?_; rintro e w' ⟨rfl, rfl⟩))
          go_round
          case rel => exact ⟨k + 1, by omega, by omega, by go_num, E⟩
          case measure => simp [intOf]; omega
      · obtain rfl : k = bs.length := by omega
        have E : Hid (bs.length = Q) := Lib.hid (runE_end.symm.trans hQk.out)
        go_wp2_with fail
        go_meet
        exact ⟨by rw [E.out], rfl⟩
  case rest =>
    obtain ⟨rfl, rfl⟩ := hcut
    clear HQ
    by_cases hq : Q < bs.length
    · have hcc := S1.out.rb.cells hq
      have HS2 := HS.out
      rw [dif_pos hq] at HS2
      obtain ⟨d, hd⟩ : ∃ d, bs[Q] = d := ⟨_, rfl⟩
      rw [hd] at hcc HS2
      clear hd
      have E : ((Q : Int) == (bs.length : Int)) = false := by rw [beq_eq_false_iff_ne]; omega
      by_cases h124 : d.toNat = 124
      · rw [if_pos h124] at HS2
        replace HS := Lib.hid HS2
        clear HS2
        have E2 : ((d.toNat : Int) != 124) = false := by rw [h124]; rfl
        clear h124
        have hcv := cut_conv (cap := cb - (p + 1)) S1.out.rb (p + 1) (Q - (p + 1)) Q rfl hQ2
        have f1 := S1.out.tf 1
        have c1 := S1.out.t1
        go_upto_region 58 with fail
        clear f1 c1 hcv
        generalize hW : World.setCell _ _ _ = W2
        have S2 := Lib.hid (S1.out.text hA (cutL bs (p + 1) Q) hW)
        clear hW
        have t0 := S2.out.t0
        have t1 := S2.out.t1
        have t2 := S2.out.t2
        have r0 := S2.out.r0
        have r1 := S2.out.r1
        have r2 := S2.out.r2
        have rf := S2.out.rf
        go_wp2_with fail
        clear t0 t1 t2 r0 r1 r2 rf
        generalize hW : World.setCell _ _ _ = W9
        obtain ⟨e0, e1, e2, HB⟩ := S2.out.fin hW
        clear hW
        (try simp only [Exit.inBlock, Exit.then])
        refine bodyPost_ret (v := .tuple #[Tv 3 (cutL bs (p + 1) Q) p, .int .i64 ((Q : Int) + 1), .int .i64 (-1)]) (by simp [results, Tv, Tryd.results44, go_sem, e0, e1, e2]) rfl ⟨Lib.hid ?_, HB⟩
        rw [HS.out]; exact tok_ret rfl (by omega)
      · rw [if_neg h124] at HS2
        replace HS := Lib.hid HS2
        clear HS2
        have E2 : ((d.toNat : Int) != 124) = true := by rw [bne_iff_ne]; omega
        clear h124
        have t0 := S1.out.t0
        have t1 := S1.out.t1
        have t2 := S1.out.t2
        have r0 := S1.out.r0
        have r1 := S1.out.r1
        have r2 := S1.out.r2
        have rf := S1.out.rf
        go_wp2_with fail
        clear t0 t1 t2 r0 r1 r2 rf
        generalize hW : World.setCell _ _ _ = W9
        obtain ⟨e0, e1, e2, HB⟩ := S1.out.fin hW
        clear hW
        (try simp only [Exit.inBlock, Exit.then])
        refine bodyPost_ret (v := .tuple #[Tv 3 [] p, .int .i64 0, .int .i64 (Q : Int)]) (by simp [results, Tv, Tryd.results44, go_sem, e0, e1, e2]) rfl ⟨Lib.hid ?_, HB⟩
        rw [HS.out]; exact bad_ret (by omega)
    · have E : ((Q : Int) == (bs.length : Int)) = true := by rw [beq_iff_eq]; omega
      replace HS := Lib.hid (HS.out.trans (dif_neg hq))
      have t0 := S1.out.t0
      have t1 := S1.out.t1
      have t2 := S1.out.t2
      have r0 := S1.out.r0
      have r1 := S1.out.r1
      have r2 := S1.out.r2
      have rf := S1.out.rf
      go_wp2_with fail
      clear t0 t1 t2 r0 r1 r2 rf
      generalize hW : World.setCell _ _ _ = W9
      obtain ⟨e0, e1, e2, HB⟩ := S1.out.fin hW
      clear hW
      (try simp only [Exit.inBlock, Exit.then])
      refine bodyPost_ret (v := .tuple #[Tv 3 [] p, .int .i64 0, .int .i64 (Q : Int)]) (by simp [results, Tv, Tryd.results44, go_sem, e0, e1, e2]) rfl ⟨Lib.hid ?_, HB⟩
      rw [HS.out]; exact bad_ret (by omega)

set_option maxRecDepth 100000 in
set_option maxHeartbeats 2000000 in
theorem token_hash0 {w : World} {b off : Nat} {bs : List UInt8} {cb p : Nat} (hb : Hid (Rb w (some ⟨b, off, none⟩) bs)) (hl : bs.length ≤ 100000000) (hcap : bs.length ≤ cb) (hp : p < bs.length) (hblt : b < w.heap.size) (H : bs[p].toNat = 35) (hp2 : p + 1 = bs.length) :
    Calls Tryd.prog 44 #[.slice (some ⟨b, off, none⟩) bs.length cb, .int .i64 (p : Int)] w fun e w' => Hid (ScEnds (scan (bs.drop p)) p e) ∧ Hid (Below w.heap.size w w') := by
  have this := And.intro hl hcap
  clear this
  have HS := Lib.hid ((scan_hash_at hp H).trans (hash_short hp2))
  obtain ⟨c, hc⟩ : ∃ c, bs[p] = c := ⟨_, rfl⟩
  rw [hc] at H
  have hA : ∀ a, some (⟨b, off, none⟩ : Addr) = some a → a.block < w.heap.size := by rintro a ⟨rfl⟩; exact hblt
  go_enter Tryd.func44, Tryd.ntmps44
  go_upto_region 2 with fail
  generalize hW : (w.alloc _).alloc _ = W
  have S0 := Lib.hid (St.start hb.out hW)
  clear hW
  have hck := S0.out.rb.cells hp
  rw [hc] at hck
  have HC := Lib.hid hc
  have d40 : ((c.toNat : Int) == 40) = false := by rw [beq_eq_false_iff_ne]; omega
  have d41 : ((c.toNat : Int) == 41) = false := by rw [beq_eq_false_iff_ne]; omega
  have d35 : ((c.toNat : Int) == 35) = true := by rw [H]; rfl
  have hd : isDigit c = false := digit_no (Or.inl (by omega))
  have g0 : ((p : Int) + 1 == (bs.length : Int)) = true := by rw [beq_iff_eq]; omega
  go_upto_region 27 with (first | (go_at_call 61; refine (digit_any _ _).mono ?_; rintro e w' ⟨rfl, rfl⟩) | (go_at_call 62; refine (inner_any _ _).mono ?_; rintro e w' ⟨rfl, rfl⟩) | (go_at_call 63; refine (hex_any _ _).mono ?_; rintro e w' ⟨rfl, rfl⟩) | (go_at_call 64; refine (plain_any _ _).mono ?_; rintro e w' ⟨rfl, rfl⟩))
  have t0 := S0.out.t0
  have t1 := S0.out.t1
  have t2 := S0.out.t2
  have r0 := S0.out.r0
  have r1 := S0.out.r1
  have r2 := S0.out.r2
  have rf := S0.out.rf
  go_wp2_with fail
  clear t0 t1 t2 r0 r1 r2 rf
  generalize hW : World.setCell _ _ _ = W9
  obtain ⟨e0, e1, e2, HB⟩ := S0.out.fin hW
  clear hW
  (try simp only [Exit.inBlock, Exit.then])
  refine bodyPost_ret (v := .tuple #[Tv 0 [] p, .int .i64 0, .int .i64 ((p : Int) + 1)]) (by simp [results, Tv, Tryd.results44, go_sem, e0, e1, e2]) rfl ⟨Lib.hid ?_, HB⟩
  rw [HS.out]; exact bad_ret (by omega)

set_option maxRecDepth 100000 in
set_option maxHeartbeats 2000000 in
theorem token_hash1 {w : World} {b off : Nat} {bs : List UInt8} {cb p : Nat} (hb : Hid (Rb w (some ⟨b, off, none⟩) bs)) (hl : bs.length ≤ 100000000) (hcap : bs.length ≤ cb) (hp : p < bs.length) (hblt : b < w.heap.size) (H : bs[p].toNat = 35) (hp2 : p + 1 < bs.length) (H2 : bs[p + 1].toNat ≠ 120) (H3 : bs[p + 1].toNat ≠ 98) :
    Calls Tryd.prog 44 #[.slice (some ⟨b, off, none⟩) bs.length cb, .int .i64 (p : Int)] w fun e w' => Hid (ScEnds (scan (bs.drop p)) p e) ∧ Hid (Below w.heap.size w w') := by
  have this := And.intro hl hcap
  clear this
  have HS := Lib.hid ((scan_hash_at hp H).trans (hash_none hp2 H2 H3))
  obtain ⟨c, hc⟩ : ∃ c, bs[p] = c := ⟨_, rfl⟩
  rw [hc] at H
  obtain ⟨c2, hc2⟩ : ∃ c2, bs[p + 1] = c2 := ⟨_, rfl⟩
  rw [hc2] at H2 H3
  have hA : ∀ a, some (⟨b, off, none⟩ : Addr) = some a → a.block < w.heap.size := by rintro a ⟨rfl⟩; exact hblt
  go_enter Tryd.func44, Tryd.ntmps44
  go_upto_region 2 with fail
  generalize hW : (w.alloc _).alloc _ = W
  have S0 := Lib.hid (St.start hb.out hW)
  clear hW
  have hck := S0.out.rb.cells hp
  rw [hc] at hck
  have HC := Lib.hid hc
  have hck2 := S0.out.rb.cells hp2
  rw [hc2] at hck2
  have d40 : ((c.toNat : Int) == 40) = false := by rw [beq_eq_false_iff_ne]; omega
  have d41 : ((c.toNat : Int) == 41) = false := by rw [beq_eq_false_iff_ne]; omega
  have d35 : ((c.toNat : Int) == 35) = true := by rw [H]; rfl
  have hd : isDigit c = false := digit_no (Or.inl (by omega))
  have g0 : ((p : Int) + 1 == (bs.length : Int)) = false := by rw [beq_eq_false_iff_ne]; omega
  have g1 : ((c2.toNat : Int) != 120) = true := by rw [bne_iff_ne]; omega
  have g2 : ((c2.toNat : Int) != 98) = true := by rw [bne_iff_ne]; omega
  go_upto_region 27 with (first | (go_at_call 61; refine (digit_any _ _).mono ?_; rintro e w' ⟨rfl, rfl⟩) | (go_at_call 62; refine (inner_any _ _).mono ?_; rintro e w' ⟨rfl, rfl⟩) | (go_at_call 63; refine (hex_any _ _).mono ?_; rintro e w' ⟨rfl, rfl⟩) | (go_at_call 64; refine (plain_any _ _).mono ?_; rintro e w' ⟨rfl, rfl⟩))
  have t0 := S0.out.t0
  have t1 := S0.out.t1
  have t2 := S0.out.t2
  have r0 := S0.out.r0
  have r1 := S0.out.r1
  have r2 := S0.out.r2
  have rf := S0.out.rf
  go_wp2_with fail
  clear t0 t1 t2 r0 r1 r2 rf
  generalize hW : World.setCell _ _ _ = W9
  obtain ⟨e0, e1, e2, HB⟩ := S0.out.fin hW
  clear hW
  (try simp only [Exit.inBlock, Exit.then])
  refine bodyPost_ret (v := .tuple #[Tv 0 [] p, .int .i64 0, .int .i64 ((p : Int) + 1)]) (by simp [results, Tv, Tryd.results44, go_sem, e0, e1, e2]) rfl ⟨Lib.hid ?_, HB⟩
  rw [HS.out]; exact bad_ret (by omega)

set_option maxRecDepth 100000 in
set_option maxHeartbeats 2000000 in
theorem token_hex {w : World} {b off : Nat} {bs : List UInt8} {cb p : Nat} (hb : Hid (Rb w (some ⟨b, off, none⟩) bs)) (hl : bs.length ≤ 100000000) (hcap : bs.length ≤ cb) (hp : p < bs.length) (hblt : b < w.heap.size) (H : bs[p].toNat = 35) (hp2 : p + 1 < bs.length) (H2 : bs[p + 1].toNat = 120) :
    Calls Tryd.prog 44 #[.slice (some ⟨b, off, none⟩) bs.length cb, .int .i64 (p : Int)] w fun e w' => Hid (ScEnds (scan (bs.drop p)) p e) ∧ Hid (Below w.heap.size w w') := by
  have this := And.intro hl hcap
  clear this
  have HS := (scan_hash_at hp H).trans (hash_run hp2 (f := isHex) (k := 7) (by exact Or.inl ⟨H2, rfl, rfl⟩))
  obtain ⟨c, hc⟩ : ∃ c, bs[p] = c := ⟨_, rfl⟩
  rw [hc] at H
  obtain ⟨c2, hc2⟩ : ∃ c2, bs[p + 1] = c2 := ⟨_, rfl⟩
  rw [hc2] at H2
  obtain ⟨Q, hQ⟩ : ∃ Q, runE isHex bs (p + 2) = Q := ⟨_, rfl⟩
  have hQ1 : p + 2 ≤ Q := hQ ▸ runE_ge
  have hQ2 : Q ≤ bs.length := hQ ▸ runE_le (by omega)
  rw [hQ] at HS
  have HQ := Lib.hid hQ
  clear hQ
  replace HS := Lib.hid HS
  have hA : ∀ a, some (⟨b, off, none⟩ : Addr) = some a → a.block < w.heap.size := by rintro a ⟨rfl⟩; exact hblt
  go_enter Tryd.func44, Tryd.ntmps44
  go_upto_region 2 with fail
  generalize hW : (w.alloc _).alloc _ = W
  have S0 := Lib.hid (St.start hb.out hW)
  clear hW
  have hck := S0.out.rb.cells hp
  rw [hc] at hck
  have HC := Lib.hid hc
  have HC2 := Lib.hid hc2
  have hck2 := S0.out.rb.cells hp2
  rw [hc2] at hck2
  have d40 : ((c.toNat : Int) == 40) = false := by rw [beq_eq_false_iff_ne]; omega
  have d41 : ((c.toNat : Int) == 41) = false := by rw [beq_eq_false_iff_ne]; omega
  have d35 : ((c.toNat : Int) == 35) = true := by rw [H]; rfl
  have hd : isDigit c = false := digit_no (Or.inl (by omega))
  have g0 : ((p : Int) + 1 == (bs.length : Int)) = false := by rw [beq_eq_false_iff_ne]; omega
  have g1 : ((c2.toNat : Int) != 120) = false := by rw [H2]; rfl
  have g2 : ((c2.toNat : Int) != 98) = true := by rw [H2]; rfl
  have g3 : ((c2.toNat : Int) == 98) = false := by rw [H2]; rfl
  clear hc H hc2 H2
  have f0 := S0.out.tf 0
  have c0 := S0.out.t0
  go_upto_region 29 with (first | (go_at_call 61; refine (digit_any _ _).mono ?_; rintro e w' ⟨rfl, rfl⟩) | (go_at_call 62; refine (inner_any _ _).mono ?_; rintro e w' ⟨rfl, rfl⟩) | (go_at_call 63; refine (hex_any _ _).mono ?_; rintro e w' ⟨rfl, rfl⟩) | (go_at_call 64; refine (plain_any _ _).mono ?_; rintro e w' ⟨rfl, rfl⟩))
  clear f0 c0
  generalize hW : World.setCell _ _ _ = W1
  have S1 := Lib.hid (S0.out.kind hA 7 hW)
  clear hW hck hck2
  clear S0
  have hck2 := S1.out.rb.cells hp2
  rw [show bs[p + 1] = c2 from HC2.out] at hck2
  have ck := S1.out.t0
  go_upto_block 4 with fail
  clear d40 d41 d35 hd g0 g1 g2 g3
  clear hck2
  go_cut [9] from 160 to 196 (fun v wx => v = .int .i64 (Q : Int) ∧ wx = W1)
  case first =>
    go_wp2_with fail
    go_loop [9] (fun v => ∃ k : Nat, p + 2 ≤ k ∧ k ≤ bs.length ∧ v = .int .i64 (k : Int) ∧ Hid (runE isHex bs k = Q)) (fun v => bs.length - (intOf v).toNat)
    case atStart => exact ⟨p + 2, Nat.le_refl _, by omega, by go_num, HQ⟩
    case round =>
      obtain ⟨k, hk1, hk2, rfl, hQk⟩ := hrel
      by_cases hlt : k < bs.length
      · have hcc := S1.out.rb.cells hlt
        obtain ⟨d, hd⟩ : ∃ d, bs[k] = d := ⟨_, rfl⟩
        rw [hd] at hcc
        have HD := Lib.hid hd
        clear hd
        cases hi : isHex d
        · have E : Hid (k = Q) := Lib.hid ((runE_stop hlt (by rw [HD.out]; exact hi)).symm.trans hQk.out)
          go_wp2_with (first | (go_at_call 61; refine (digit_any _ _).mono ?_; rintro e w' ⟨rfl, rfl⟩) | (go_at_call 62; refine (inner_any _ _).mono ?_; rintro e w' ⟨rfl, rfl⟩) | (go_at_call 63; refine (hex_any _ _).mono ?_; rintro e w' ⟨rfl, rfl⟩) | (go_at_call 64; refine (plain_any _ _).mono ?_; rintro e w' ⟨rfl, rfl⟩))
          go_meet
          exact ⟨by rw [E.out], rfl⟩
        · have E : Hid (runE isHex bs (k + 1) = Q) := Lib.hid ((runE_step hlt (by rw [HD.out]; exact hi)).symm.trans hQk.out)
          go_wp2_with (first | (go_at_call 61; refine (digit_any _ _).mono ?_; rintro e w' ⟨rfl, rfl⟩) | (go_at_call 62; refine (inner_any _ _).mono ?_; rintro e w' ⟨rfl, rfl⟩) | (go_at_call 63; refine (hex_any _ _).mono ?_; rintro e w' ⟨rfl, rfl⟩) | (go_at_call 64; refine (plain_any _ _).mono ?_; rintro e w' ⟨rfl, rfl⟩))
          go_round
          case rel => exact ⟨k + 1, by omega, by omega, by go_num, E⟩
          case measure => simp [intOf]; omega
      · obtain rfl : k = bs.length := by omega
        have E : Hid (bs.length = Q) := Lib.hid (runE_end.symm.trans hQk.out)
        go_wp2_with fail
        go_meet
        exact ⟨by rw [E.out], rfl⟩
  case rest =>
    obtain ⟨rfl, rfl⟩ := hcut
    clear HQ
    by_cases hq : Q = p + 2
    · have E : ((Q : Int) == (p : Int) + 2) = true := by rw [beq_iff_eq]; omega
      replace HS := Lib.hid (HS.out.trans (if_pos hq))
      have t0 := S1.out.t0
      have t1 := S1.out.t1
      have t2 := S1.out.t2
      have r0 := S1.out.r0
      have r1 := S1.out.r1
      have r2 := S1.out.r2
      have rf := S1.out.rf
      go_wp2_with fail
      clear t0 t1 t2 r0 r1 r2 rf
      generalize hW : World.setCell _ _ _ = W9
      obtain ⟨e0, e1, e2, HB⟩ := S1.out.fin hW
      clear hW
      (try simp only [Exit.inBlock, Exit.then])
      refine bodyPost_ret (v := .tuple #[Tv 7 [] p, .int .i64 0, .int .i64 ((p : Int) + 1 + 1)]) (by simp [results, Tv, Tryd.results44, go_sem, e0, e1, e2]) rfl ⟨Lib.hid ?_, HB⟩
      rw [HS.out]; exact bad_ret (by omega)
    · have E : ((Q : Int) == (p : Int) + 2) = false := by rw [beq_eq_false_iff_ne]; omega
      replace HS := Lib.hid (HS.out.trans (if_neg hq))
      by_cases hqn : Q < bs.length
      · have hcc := S1.out.rb.cells hqn
        have HI := Lib.hid (inner_at hqn)
        obtain ⟨d, hd⟩ : ∃ d, bs[Q] = d := ⟨_, rfl⟩
        rw [hd] at hcc HI
        clear hd
        cases hi : isInner d
        · rw [hi] at HI
          replace HS := Lib.hid (HS.out.trans (ends_yes HI.out))
          have hcv := cut_conv (cap := cb - (p + 2)) S1.out.rb (p + 2) (Q - (p + 2)) Q rfl hQ2
          have f1 := S1.out.tf 1
          have c1 := S1.out.t1
          go_upto_region 38 with (first | (go_at_call 61; refine (digit_any _ _).mono ?_; rintro e w' ⟨rfl, rfl⟩) | (go_at_call 62; refine (inner_any _ _).mono ?_; rintro e w' ⟨rfl, rfl⟩) | (go_at_call 63; refine (hex_any _ _).mono ?_; rintro e w' ⟨rfl, rfl⟩) | (go_at_call 64; refine (plain_any _ _).mono ?_; rintro e w' ⟨rfl, rfl⟩))
          clear f1 c1 hcv
          generalize hW : World.setCell _ _ _ = W3
          have S3 := Lib.hid (S1.out.text hA (cutL bs (p + 2) Q) hW)
          clear hW
          have t0 := S3.out.t0
          have t1 := S3.out.t1
          have t2 := S3.out.t2
          have r0 := S3.out.r0
          have r1 := S3.out.r1
          have r2 := S3.out.r2
          have rf := S3.out.rf
          go_wp2_with fail
          clear t0 t1 t2 r0 r1 r2 rf
          generalize hW : World.setCell _ _ _ = W9
          obtain ⟨e0, e1, e2, HB⟩ := S3.out.fin hW
          clear hW
          (try simp only [Exit.inBlock, Exit.then])
          refine bodyPost_ret (v := .tuple #[Tv 7 (cutL bs (p + 2) Q) p, .int .i64 (Q : Int), .int .i64 (-1)]) (by simp [results, Tv, Tryd.results44, go_sem, e0, e1, e2]) rfl ⟨Lib.hid ?_, HB⟩
          rw [HS.out]; exact tok_ret rfl (by omega)
        · rw [hi] at HI
          replace HS := Lib.hid (HS.out.trans (ends_no HI.out))
          go_upto_region 36 with (first | (go_at_call 61; refine (digit_any _ _).mono ?_; rintro e w' ⟨rfl, rfl⟩) | (go_at_call 62; refine (inner_any _ _).mono ?_; rintro e w' ⟨rfl, rfl⟩) | (go_at_call 63; refine (hex_any _ _).mono ?_; rintro e w' ⟨rfl, rfl⟩) | (go_at_call 64; refine (plain_any _ _).mono ?_; rintro e w' ⟨rfl, rfl⟩))
          have t0 := S1.out.t0
          have t1 := S1.out.t1
          have t2 := S1.out.t2
          have r0 := S1.out.r0
          have r1 := S1.out.r1
          have r2 := S1.out.r2
          have rf := S1.out.rf
          go_wp2_with fail
          clear t0 t1 t2 r0 r1 r2 rf
          generalize hW : World.setCell _ _ _ = W9
          obtain ⟨e0, e1, e2, HB⟩ := S1.out.fin hW
          clear hW
          (try simp only [Exit.inBlock, Exit.then])
          refine bodyPost_ret (v := .tuple #[Tv 7 [] p, .int .i64 0, .int .i64 (Q : Int)]) (by simp [results, Tv, Tryd.results44, go_sem, e0, e1, e2]) rfl ⟨Lib.hid ?_, HB⟩
          rw [HS.out]; exact bad_ret (by omega)
      · obtain rfl : Q = bs.length := by omega
        replace HS := Lib.hid (HS.out.trans (ends_yes (by rw [List.drop_length]; rfl)))
        have hcv := cut_conv (cap := cb - (p + 2)) S1.out.rb (p + 2) (bs.length - (p + 2)) bs.length rfl hQ2
        have f1 := S1.out.tf 1
        have c1 := S1.out.t1
        go_upto_region 38 with (first | (go_at_call 61; refine (digit_any _ _).mono ?_; rintro e w' ⟨rfl, rfl⟩) | (go_at_call 62; refine (inner_any _ _).mono ?_; rintro e w' ⟨rfl, rfl⟩) | (go_at_call 63; refine (hex_any _ _).mono ?_; rintro e w' ⟨rfl, rfl⟩) | (go_at_call 64; refine (plain_any _ _).mono ?_; rintro e w' ⟨rfl, rfl⟩))
        clear f1 c1 hcv
        generalize hW : World.setCell _ _ _ = W3
        have S3 := Lib.hid (S1.out.text hA (cutL bs (p + 2) bs.length) hW)
        clear hW
        have t0 := S3.out.t0
        have t1 := S3.out.t1
        have t2 := S3.out.t2
        have r0 := S3.out.r0
        have r1 := S3.out.r1
        have r2 := S3.out.r2
        have rf := S3.out.rf
        go_wp2_with fail
        clear t0 t1 t2 r0 r1 r2 rf
        generalize hW : World.setCell _ _ _ = W9
        obtain ⟨e0, e1, e2, HB⟩ := S3.out.fin hW
        clear hW
        (try simp only [Exit.inBlock, Exit.then])
        refine bodyPost_ret (v := .tuple #[Tv 7 (cutL bs (p + 2) bs.length) p, .int .i64 (bs.length : Int), .int .i64 (-1)]) (by simp [results, Tv, Tryd.results44, go_sem, e0, e1, e2]) rfl ⟨Lib.hid ?_, HB⟩
        rw [HS.out]; exact tok_ret rfl (by omega)

set_option maxRecDepth 100000 in
set_option maxHeartbeats 2000000 in
theorem token_bin {w : World} {b off : Nat} {bs : List UInt8} {cb p : Nat} (hb : Hid (Rb w (some ⟨b, off, none⟩) bs)) (hl : bs.length ≤ 100000000) (hcap : bs.length ≤ cb) (hp : p < bs.length) (hblt : b < w.heap.size) (H : bs[p].toNat = 35) (hp2 : p + 1 < bs.length) (H2 : bs[p + 1].toNat = 98) :
    Calls Tryd.prog 44 #[.slice (some ⟨b, off, none⟩) bs.length cb, .int .i64 (p : Int)] w fun e w' => Hid (ScEnds (scan (bs.drop p)) p e) ∧ Hid (Below w.heap.size w w') := by
  have this := And.intro hl hcap
  clear this
  have HS := (scan_hash_at hp H).trans (hash_run hp2 (f := isBin) (k := 8) (by exact Or.inr ⟨H2, rfl, rfl⟩))
  obtain ⟨c, hc⟩ : ∃ c, bs[p] = c := ⟨_, rfl⟩
  rw [hc] at H
  obtain ⟨c2, hc2⟩ : ∃ c2, bs[p + 1] = c2 := ⟨_, rfl⟩
  rw [hc2] at H2
  obtain ⟨Q, hQ⟩ : ∃ Q, runE isBin bs (p + 2) = Q := ⟨_, rfl⟩
  have hQ1 : p + 2 ≤ Q := hQ ▸ runE_ge
  have hQ2 : Q ≤ bs.length := hQ ▸ runE_le (by omega)
  rw [hQ] at HS
  have HQ := Lib.hid hQ
  clear hQ
  replace HS := Lib.hid HS
  have hA : ∀ a, some (⟨b, off, none⟩ : Addr) = some a → a.block < w.heap.size := by rintro a ⟨rfl⟩; exact hblt
  go_enter Tryd.func44, Tryd.ntmps44
  go_upto_region 2 with fail
  generalize hW : (w.alloc _).alloc _ = W
  have S0 := Lib.hid (St.start hb.out hW)
  clear hW
  have hck := S0.out.rb.cells hp
  rw [hc] at hck
  have HC := Lib.hid hc
  have HC2 := Lib.hid hc2
  have hck2 := S0.out.rb.cells hp2
  rw [hc2] at hck2
  have d40 : ((c.toNat : Int) == 40) = false := by rw [beq_eq_false_iff_ne]; omega
  have d41 : ((c.toNat : Int) == 41) = false := by rw [beq_eq_false_iff_ne]; omega
  have d35 : ((c.toNat : Int) == 35) = true := by rw [H]; rfl
  have hd : isDigit c = false := digit_no (Or.inl (by omega))
  have g0 : ((p : Int) + 1 == (bs.length : Int)) = false := by rw [beq_eq_false_iff_ne]; omega
  have g1 : ((c2.toNat : Int) != 120) = true := by rw [H2]; rfl
  have g2 : ((c2.toNat : Int) != 98) = false := by rw [H2]; rfl
  have g3 : ((c2.toNat : Int) == 98) = true := by rw [H2]; rfl
  clear hc H hc2 H2
  have f0 := S0.out.tf 0
  have c0 := S0.out.t0
  go_upto_region 29 with (first | (go_at_call 61; refine (digit_any _ _).mono ?_; rintro e w' ⟨rfl, rfl⟩) | (go_at_call 62; refine (inner_any _ _).mono ?_; rintro e w' ⟨rfl, rfl⟩) | (go_at_call 63; refine (hex_any _ _).mono ?_; rintro e w' ⟨rfl, rfl⟩) | (go_at_call 64; refine (plain_any _ _).mono ?_; rintro e w' ⟨rfl, rfl⟩))
  clear f0 c0
  generalize hW : World.setCell _ _ _ = W1
  have S1 := Lib.hid (S0.out.kind hA 7 hW)
  clear hW hck hck2
  clear S0
  have hck2 := S1.out.rb.cells hp2
  rw [show bs[p + 1] = c2 from HC2.out] at hck2
  have f0 := S1.out.tf 0
  have c0 := S1.out.t0
  go_upto_region 31 with fail
  clear f0 c0 hck2
  generalize hW : World.setCell _ _ _ = W2
  have S2 := Lib.hid (S1.out.kind hA 8 hW)
  clear hW
  clear S1
  have ck := S2.out.t0
  go_upto_block 4 with fail
  clear d40 d41 d35 hd g0 g1 g2 g3
  go_cut [9] from 160 to 196 (fun v wx => v = .int .i64 (Q : Int) ∧ wx = W2)
  case first =>
    go_wp2_with fail
    go_loop [9] (fun v => ∃ k : Nat, p + 2 ≤ k ∧ k ≤ bs.length ∧ v = .int .i64 (k : Int) ∧ Hid (runE isBin bs k = Q)) (fun v => bs.length - (intOf v).toNat)
    case atStart => exact ⟨p + 2, Nat.le_refl _, by omega, by go_num, HQ⟩
    case round =>
      obtain ⟨k, hk1, hk2, rfl, hQk⟩ := hrel
      by_cases hlt : k < bs.length
      · have hcc := S2.out.rb.cells hlt
        obtain ⟨d, hd⟩ : ∃ d, bs[k] = d := ⟨_, rfl⟩
        rw [hd] at hcc
        have HD := Lib.hid hd
        clear hd
        rcases bin_cases d with ⟨q0, hi⟩ | ⟨q0, q1, hi⟩ | ⟨q0, q1, hi⟩
        · have E : Hid (runE isBin bs (k + 1) = Q) := Lib.hid ((runE_step hlt (by rw [HD.out]; exact hi)).symm.trans hQk.out)
          clear hi
          go_wp2_with (first | (go_at_call 61; refine (digit_any _ _).mono ?_; rintro e w' ⟨rfl, rfl⟩) | (go_at_call 62; refine (inner_any _ _).mono ?_; rintro e w' ⟨rfl, rfl⟩) | (go_at_call 63; refine (hex_any _ _).mono ?_; rintro e w' ⟨rfl, rfl⟩) | (go_at_call 64; refine (plain_any _ _).mono ?_; rintro e w' ⟨rfl, rfl⟩))
          go_round
          case rel => exact ⟨k + 1, by omega, by omega, by go_num, E⟩
          case measure => simp [intOf]; omega
        · have E : Hid (runE isBin bs (k + 1) = Q) := Lib.hid ((runE_step hlt (by rw [HD.out]; exact hi)).symm.trans hQk.out)
          clear hi
          go_wp2_with (first | (go_at_call 61; refine (digit_any _ _).mono ?_; rintro e w' ⟨rfl, rfl⟩) | (go_at_call 62; refine (inner_any _ _).mono ?_; rintro e w' ⟨rfl, rfl⟩) | (go_at_call 63; refine (hex_any _ _).mono ?_; rintro e w' ⟨rfl, rfl⟩) | (go_at_call 64; refine (plain_any _ _).mono ?_; rintro e w' ⟨rfl, rfl⟩))
          go_round
          case rel => exact ⟨k + 1, by omega, by omega, by go_num, E⟩
          case measure => simp [intOf]; omega
        · have E : Hid (k = Q) := Lib.hid ((runE_stop hlt (by rw [HD.out]; exact hi)).symm.trans hQk.out)
          clear hi
          go_wp2_with (first | (go_at_call 61; refine (digit_any _ _).mono ?_; rintro e w' ⟨rfl, rfl⟩) | (go_at_call 62; refine (inner_any _ _).mono ?_; rintro e w' ⟨rfl, rfl⟩) | (go_at_call 63; refine (hex_any _ _).mono ?_; rintro e w' ⟨rfl, rfl⟩) | (go_at_call 64; refine (plain_any _ _).mono ?_; rintro e w' ⟨rfl, rfl⟩))
          go_meet
          exact ⟨by rw [E.out], rfl⟩
      · obtain rfl : k = bs.length := by omega
        have E : Hid (bs.length = Q) := Lib.hid (runE_end.symm.trans hQk.out)
        go_wp2_with fail
        go_meet
        exact ⟨by rw [E.out], rfl⟩
  case rest =>
    obtain ⟨rfl, rfl⟩ := hcut
    clear HQ
    by_cases hq : Q = p + 2
    · have E : ((Q : Int) == (p : Int) + 2) = true := by rw [beq_iff_eq]; omega
      replace HS := Lib.hid (HS.out.trans (if_pos hq))
      have t0 := S2.out.t0
      have t1 := S2.out.t1
      have t2 := S2.out.t2
      have r0 := S2.out.r0
      have r1 := S2.out.r1
      have r2 := S2.out.r2
      have rf := S2.out.rf
      go_wp2_with fail
      clear t0 t1 t2 r0 r1 r2 rf
      generalize hW : World.setCell _ _ _ = W9
      obtain ⟨e0, e1, e2, HB⟩ := S2.out.fin hW
      clear hW
      (try simp only [Exit.inBlock, Exit.then])
      refine bodyPost_ret (v := .tuple #[Tv 8 [] p, .int .i64 0, .int .i64 ((p : Int) + 1 + 1)]) (by simp [results, Tv, Tryd.results44, go_sem, e0, e1, e2]) rfl ⟨Lib.hid ?_, HB⟩
      rw [HS.out]; exact bad_ret (by omega)
    · have E : ((Q : Int) == (p : Int) + 2) = false := by rw [beq_eq_false_iff_ne]; omega
      replace HS := Lib.hid (HS.out.trans (if_neg hq))
      by_cases hqn : Q < bs.length
      · have hcc := S2.out.rb.cells hqn
        have HI := Lib.hid (inner_at hqn)
        obtain ⟨d, hd⟩ : ∃ d, bs[Q] = d := ⟨_, rfl⟩
        rw [hd] at hcc HI
        clear hd
        cases hi : isInner d
        · rw [hi] at HI
          replace HS := Lib.hid (HS.out.trans (ends_yes HI.out))
          have hcv := cut_conv (cap := cb - (p + 2)) S2.out.rb (p + 2) (Q - (p + 2)) Q rfl hQ2
          have f1 := S2.out.tf 1
          have c1 := S2.out.t1
          go_upto_region 38 with (first | (go_at_call 61; refine (digit_any _ _).mono ?_; rintro e w' ⟨rfl, rfl⟩) | (go_at_call 62; refine (inner_any _ _).mono ?_; rintro e w' ⟨rfl, rfl⟩) | (go_at_call 63; refine (hex_any _ _).mono ?_; rintro e w' ⟨rfl, rfl⟩) | (go_at_call 64; refine (plain_any _ _).mono ?_; rintro e w' ⟨rfl, rfl⟩))
          clear f1 c1 hcv
          generalize hW : World.setCell _ _ _ = W3
          have S3 := Lib.hid (S2.out.text hA (cutL bs (p + 2) Q) hW)
          clear hW
          have t0 := S3.out.t0
          have t1 := S3.out.t1
          have t2 := S3.out.t2
          have r0 := S3.out.r0
          have r1 := S3.out.r1
          have r2 := S3.out.r2
          have rf := S3.out.rf
          go_wp2_with fail
          clear t0 t1 t2 r0 r1 r2 rf
          generalize hW : World.setCell _ _ _ = W9
          obtain ⟨e0, e1, e2, HB⟩ := S3.out.fin hW
          clear hW
          (try simp only [Exit.inBlock, Exit.then])
          refine bodyPost_ret (v := .tuple #[Tv 8 (cutL bs (p + 2) Q) p, .int .i64 (Q : Int), .int .i64 (-1)]) (by simp [results, Tv, Tryd.results44, go_sem, e0, e1, e2]) rfl ⟨Lib.hid ?_, HB⟩
          rw [HS.out]; exact tok_ret rfl (by omega)
        · rw [hi] at HI
          replace HS := Lib.hid (HS.out.trans (ends_no HI.out))
          go_upto_region 36 with (first | (go_at_call 61; refine (digit_any _ _).mono ?_; rintro e w' ⟨rfl, rfl⟩) | (go_at_call 62; refine (inner_any _ _).mono ?_; rintro e w' ⟨rfl, rfl⟩) | (go_at_call 63; refine (hex_any _ _).mono ?_; rintro e w' ⟨rfl, rfl⟩) | (go_at_call 64; refine (plain_any _ _).mono ?_; rintro e w' ⟨rfl, rfl⟩))
          have t0 := S2.out.t0
          have t1 := S2.out.t1
          have t2 := S2.out.t2
          have r0 := S2.out.r0
          have r1 := S2.out.r1
          have r2 := S2.out.r2
          have rf := S2.out.rf
          go_wp2_with fail
          clear t0 t1 t2 r0 r1 r2 rf
          generalize hW : World.setCell _ _ _ = W9
          obtain ⟨e0, e1, e2, HB⟩ := S2.out.fin hW
          clear hW
          (try simp only [Exit.inBlock, Exit.then])
          refine bodyPost_ret (v := .tuple #[Tv 8 [] p, .int .i64 0, .int .i64 (Q : Int)]) (by simp [results, Tv, Tryd.results44, go_sem, e0, e1, e2]) rfl ⟨Lib.hid ?_, HB⟩
          rw [HS.out]; exact bad_ret (by omega)
      · obtain rfl : Q = bs.length := by omega
        replace HS := Lib.hid (HS.out.trans (ends_yes (by rw [List.drop_length]; rfl)))
        have hcv := cut_conv (cap := cb - (p + 2)) S2.out.rb (p + 2) (bs.length - (p + 2)) bs.length rfl hQ2
        have f1 := S2.out.tf 1
        have c1 := S2.out.t1
        go_upto_region 38 with (first | (go_at_call 61; refine (digit_any _ _).mono ?_; rintro e w' ⟨rfl, rfl⟩) | (go_at_call 62; refine (inner_any _ _).mono ?_; rintro e w' ⟨rfl, rfl⟩) | (go_at_call 63; refine (hex_any _ _).mono ?_; rintro e w' ⟨rfl, rfl⟩) | (go_at_call 64; refine (plain_any _ _).mono ?_; rintro e w' ⟨rfl, rfl⟩))
        clear f1 c1 hcv
        generalize hW : World.setCell _ _ _ = W3
        have S3 := Lib.hid (S2.out.text hA (cutL bs (p + 2) bs.length) hW)
        clear hW
        have t0 := S3.out.t0
        have t1 := S3.out.t1
        have t2 := S3.out.t2
        have r0 := S3.out.r0
        have r1 := S3.out.r1
        have r2 := S3.out.r2
        have rf := S3.out.rf
        go_wp2_with fail
        clear t0 t1 t2 r0 r1 r2 rf
        generalize hW : World.setCell _ _ _ = W9
        obtain ⟨e0, e1, e2, HB⟩ := S3.out.fin hW
        clear hW
        (try simp only [Exit.inBlock, Exit.then])
        refine bodyPost_ret (v := .tuple #[Tv 8 (cutL bs (p + 2) bs.length) p, .int .i64 (bs.length : Int), .int .i64 (-1)]) (by simp [results, Tv, Tryd.results44, go_sem, e0, e1, e2]) rfl ⟨Lib.hid ?_, HB⟩
        rw [HS.out]; exact tok_ret rfl (by omega)
end Go.Proofs.YtmnllioeaaimcaaDoor.tk
