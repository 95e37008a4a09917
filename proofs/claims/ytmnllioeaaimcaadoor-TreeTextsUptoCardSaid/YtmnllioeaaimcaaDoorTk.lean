/- The document's answer of layer 4: the token at a place: brackets, keywords, words. -/
import Derived.Test.YtmnllioeaaimcaaDoorTj
namespace Go.Proofs.YtmnllioeaaimcaaDoor.tk
open Go.RowKit

set_option maxRecDepth 100000 in
set_option maxHeartbeats 2000000 in
theorem token_key {w : World} {b off : Nat} {bs : List UInt8} {cb p : Nat} (hb : Hid (Rb w (some ⟨b, off, none⟩) bs)) (hl : bs.length ≤ 100000000) (hcap : bs.length ≤ cb) (hp : p < bs.length) (hblt : b < w.heap.size) (H : bs[p].toNat = 58) :
    Calls Tryd.prog 44 #[.slice (some ⟨b, off, none⟩) bs.length cb, .int .i64 (p : Int)] w fun e w' => Hid (ScEnds (scan (bs.drop p)) p e) ∧ Hid (Below w.heap.size w w') := by
  have this := And.intro hl hcap
  clear this
  have HS := scan_key_at hp H
  obtain ⟨c, hc⟩ : ∃ c, bs[p] = c := ⟨_, rfl⟩
  rw [hc] at H
  obtain ⟨Q, hQ⟩ : ∃ Q, runE isInner bs (p + 1) = Q := ⟨_, rfl⟩
  have hQ1 : p + 1 ≤ Q := hQ ▸ runE_ge
  have hQ2 : Q ≤ bs.length := hQ ▸ runE_le (by omega)
  rw [hQ] at HS
  have HQ := Lib.hid hQ
  clear hQ
  replace HS := Lib.hid HS
  have hA : ∀ a, some (⟨b, off, none⟩ : Addr) = some a → a.block < w.heap.size := by rintro a ⟨rfl⟩; exact hblt
  go_enter Tryd.func44, Tryd.ntmps44
  go_upto_region 2 with fail
  generalize hW : (w.alloc _).alloc _ = W
  have S0 := Lib.hid (St.start hb.out hW)
  clear hW
  have hck := S0.out.rb.cells hp
  rw [hc] at hck
  have HC := Lib.hid hc
  have d40 : ((c.toNat : Int) == 40) = false := by rw [beq_eq_false_iff_ne]; omega
  have d41 : ((c.toNat : Int) == 41) = false := by rw [beq_eq_false_iff_ne]; omega
  have d35 : ((c.toNat : Int) == 35) = false := by rw [beq_eq_false_iff_ne]; omega
  have d34 : ((c.toNat : Int) == 34) = false := by rw [beq_eq_false_iff_ne]; omega
  have d124 : ((c.toNat : Int) == 124) = false := by rw [beq_eq_false_iff_ne]; omega
  have d58 : ((c.toNat : Int) == 58) = true := by rw [H]; rfl
  have hd : isDigit c = false := digit_no (Or.inr (by omega))
  clear hc H
  have f0 := S0.out.tf 0
  have c0 := S0.out.t0
  go_upto_block 10 with (first | (go_at_call 61; refine (digit_any _ _).mono ?_; rintro e w' ⟨rfl, rfl⟩) | (go_at_call 62; refine (inner_any _ _).mono ?_; rintro e w' ⟨rfl, rfl⟩) | (go_at_call 63; refine (hex_any _ _).mono ?_; rintro e w' ⟨rfl, rfl⟩) | (go_at_call 64; refine (plain_any _ _).mono ?_; rintro e w' ⟨rfl, rfl⟩))
  clear f0 c0 hck d40 d41 d35 d34 d124 d58 hd
  generalize hW : World.setCell _ _ _ = W1
  have S1 := Lib.hid (S0.out.kind hA 10 hW)
  clear hW
  clear S0
  go_cut [9] from 331 to 343 (fun v wx => v = .int .i64 (Q : Int) ∧ wx = W1)
  case first =>
    go_wp2_with fail
    go_loop [9] (fun v => ∃ k : Nat, p + 1 ≤ k ∧ k ≤ bs.length ∧ v = .int .i64 (k : Int) ∧ Hid (runE isInner bs k = Q)) (fun v => bs.length - (intOf v).toNat)
    case atStart => exact ⟨p + 1, Nat.le_refl _, by omega, by go_num, HQ⟩
    case round =>
      obtain ⟨k, hk1, hk2, rfl, hQk⟩ := hrel
      by_cases hlt : k < bs.length
      · have hcc := S1.out.rb.cells hlt
        obtain ⟨d, hd⟩ : ∃ d, bs[k] = d := ⟨_, rfl⟩
        rw [hd] at hcc
        have HD := Lib.hid hd
        clear hd
        cases hi : isInner d
        · have E : Hid (k = Q) := Lib.hid ((runE_stop hlt (by rw [HD.out]; exact hi)).symm.trans hQk.out)
          go_wp2_with (first | (go_at_call 61; refine (digit_any _ _).mono ?_; rintro e w' ⟨rfl, rfl⟩) | (go_at_call 62; refine (inner_any _ _).mono ?_; rintro e w' ⟨rfl, rfl⟩) | (go_at_call 63; refine (hex_any _ _).mono ?_; rintro e w' ⟨rfl, rfl⟩) | (go_at_call 64; refine (plain_any _ _).mono ?_; rintro e w' ⟨rfl, rfl⟩))
          go_meet
          exact ⟨by rw [E.out], rfl⟩
        · have E : Hid (runE isInner bs (k + 1) = Q) := Lib.hid ((runE_step hlt (by rw [HD.out]; exact hi)).symm.trans hQk.out)
          go_wp2_with (first | (go_at_call 61; refine (digit_any _ _).mono ?_; rintro e w' ⟨rfl, rfl⟩) | (go_at_call 62; refine (inner_any _ _).mono ?_; rintro e w' ⟨rfl, rfl⟩) | (go_at_call 63; refine (hex_any _ _).mono ?_; rintro e w' ⟨rfl, rfl⟩) | (go_at_call 64; refine (plain_any _ _).mono ?_; rintro e w' ⟨rfl, rfl⟩))
          go_round
          case rel => exact ⟨k + 1, by omega, by omega, by go_num, E⟩
          case measure => simp [intOf]; omega
      · obtain rfl : k = bs.length := by omega
        have E : Hid (bs.length = Q) := Lib.hid (runE_end.symm.trans hQk.out)
        go_wp2_with fail
        go_meet
        exact ⟨by rw [E.out], rfl⟩
  case rest =>
    obtain ⟨rfl, rfl⟩ := hcut
    clear HQ
    by_cases hq : Q = p + 1
    · have E : ((Q : Int) == (p : Int) + 1) = true := by rw [beq_iff_eq]; omega
      rw [if_pos hq] at HS
      have t0 := S1.out.t0
      have t1 := S1.out.t1
      have t2 := S1.out.t2
      have r0 := S1.out.r0
      have r1 := S1.out.r1
      have r2 := S1.out.r2
      have rf := S1.out.rf
      go_wp2_with fail
      clear t0 t1 t2 r0 r1 r2 rf
      generalize hW : World.setCell _ _ _ = W9
      obtain ⟨e0, e1, e2, HB⟩ := S1.out.fin hW
      clear hW
      (try simp only [Exit.inBlock, Exit.then])
      refine bodyPost_ret (v := .tuple #[Tv 10 [] p, .int .i64 0, .int .i64 (Q : Int)]) (by simp [results, Tv, Tryd.results44, go_sem, e0, e1, e2]) rfl ⟨Lib.hid ?_, HB⟩
      rw [HS.out]; exact bad_ret (by omega)
    · have E : ((Q : Int) == (p : Int) + 1) = false := by rw [beq_eq_false_iff_ne]; omega
      rw [if_neg hq] at HS
      have hcv := cut_conv (cap := cb - (p + 1)) S1.out.rb (p + 1) (Q - (p + 1)) Q rfl hQ2
      have f1 := S1.out.tf 1
      have c1 := S1.out.t1
      go_upto_region 66 with fail
      clear f1 c1 hcv
      generalize hW : World.setCell _ _ _ = W2
      have S2 := Lib.hid (S1.out.text hA (cutL bs (p + 1) Q) hW)
      clear hW
      have t0 := S2.out.t0
      have t1 := S2.out.t1
      have t2 := S2.out.t2
      have r0 := S2.out.r0
      have r1 := S2.out.r1
      have r2 := S2.out.r2
      have rf := S2.out.rf
      go_wp2_with fail
      clear t0 t1 t2 r0 r1 r2 rf
      generalize hW : World.setCell _ _ _ = W9
      obtain ⟨e0, e1, e2, HB⟩ := S2.out.fin hW
      clear hW
      (try simp only [Exit.inBlock, Exit.then])
      refine bodyPost_ret (v := .tuple #[Tv 10 (cutL bs (p + 1) Q) p, .int .i64 (Q : Int), .int .i64 (-1)]) (by simp [results, Tv, Tryd.results44, go_sem, e0, e1, e2]) rfl ⟨Lib.hid ?_, HB⟩
      rw [HS.out]; exact tok_ret rfl (by omega)

set_option maxRecDepth 100000 in
set_option maxHeartbeats 2000000 in
theorem token_none {w : World} {b off : Nat} {bs : List UInt8} {cb p : Nat} (hb : Hid (Rb w (some ⟨b, off, none⟩) bs)) (hl : bs.length ≤ 100000000) (hcap : bs.length ≤ cb) (hp : p < bs.length) (hblt : b < w.heap.size) (H : isInner bs[p] = false) (h40 : bs[p].toNat ≠ 40) (h41 : bs[p].toNat ≠ 41) (hd : isDigit bs[p] = false) (h35 : bs[p].toNat ≠ 35) (h34 : bs[p].toNat ≠ 34) (h124 : bs[p].toNat ≠ 124) (h58 : bs[p].toNat ≠ 58) :
    Calls Tryd.prog 44 #[.slice (some ⟨b, off, none⟩) bs.length cb, .int .i64 (p : Int)] w fun e w' => Hid (ScEnds (scan (bs.drop p)) p e) ∧ Hid (Below w.heap.size w w') := by
  have this := And.intro hl hcap
  clear this
  have HS := Lib.hid (scan_none_at hp H h40 h41 hd h35 h34 h124 h58)
  obtain ⟨c, hc⟩ : ∃ c, bs[p] = c := ⟨_, rfl⟩
  rw [hc] at H h40 h41 hd h35 h34 h124 h58
  have hA : ∀ a, some (⟨b, off, none⟩ : Addr) = some a → a.block < w.heap.size := by rintro a ⟨rfl⟩; exact hblt
  go_enter Tryd.func44, Tryd.ntmps44
  go_upto_region 2 with fail
  generalize hW : (w.alloc _).alloc _ = W
  have S0 := Lib.hid (St.start hb.out hW)
  clear hW
  have hck := S0.out.rb.cells hp
  rw [hc] at hck
  have HC := Lib.hid hc
  have d40 : ((c.toNat : Int) == 40) = false := by rw [beq_eq_false_iff_ne]; omega
  have d41 : ((c.toNat : Int) == 41) = false := by rw [beq_eq_false_iff_ne]; omega
  have d35 : ((c.toNat : Int) == 35) = false := by rw [beq_eq_false_iff_ne]; omega
  have d34 : ((c.toNat : Int) == 34) = false := by rw [beq_eq_false_iff_ne]; omega
  have d124 : ((c.toNat : Int) == 124) = false := by rw [beq_eq_false_iff_ne]; omega
  have d58 : ((c.toNat : Int) == 58) = false := by rw [beq_eq_false_iff_ne]; omega
  clear hc h40 h41 h35 h34 h124 h58
  go_upto_region 68 with (first | (go_at_call 61; refine (digit_any _ _).mono ?_; rintro e w' ⟨rfl, rfl⟩) | (go_at_call 62; refine (inner_any _ _).mono ?_; rintro e w' ⟨rfl, rfl⟩) | (go_at_call 63; refine (hex_any _ _).mono ?_; rintro e w' ⟨rfl, rfl⟩) | (go_at_call 64; refine (plain_any _ _).mono ?_; rintro e w' ⟨rfl, rfl⟩))
  clear hck d40 d41 d35 d34 d124 d58 hd H
  have t0 := S0.out.t0
  have t1 := S0.out.t1
  have t2 := S0.out.t2
  have r0 := S0.out.r0
  have r1 := S0.out.r1
  have r2 := S0.out.r2
  have rf := S0.out.rf
  go_wp2_with fail
  clear t0 t1 t2 r0 r1 r2 rf
  generalize hW : World.setCell _ _ _ = W9
  obtain ⟨e0, e1, e2, HB⟩ := S0.out.fin hW
  clear hW
  (try simp only [Exit.inBlock, Exit.then])
  refine bodyPost_ret (v := .tuple #[Tv 0 [] p, .int .i64 0, .int .i64 (p : Int)]) (by simp [results, Tv, Tryd.results44, go_sem, e0, e1, e2]) rfl ⟨Lib.hid ?_, HB⟩
  rw [HS.out]; exact bad_ret (by omega)

theorem St.on {w W W' : World} {A : Option Addr} {bs : List UInt8} {k p : Nat} {t : List UInt8} (h : St w W A bs k t p) (hB : Below W.heap.size W W') : St w W' A bs k t p :=
  ⟨h.res.below hB h.res.lt, h.tok.below hB h.tok.lt, h.rb.below hB, h.below.trans (hB.mono (by have := h.res.lt; omega))⟩
theorem reserved_cut {t : List UInt8} {r : Bool} (h : Hid (reservedWords.contains t = r)) (w : World) : Calls Tryd.prog 65 #[.string ⟨t.toArray⟩] w fun e w' => e = .returned (.bool r) ∧ Hid (Below w.heap.size w w') :=
  (reserved_any _ w).mono (by rintro e w' ⟨rfl, hB⟩; exact ⟨ret_bool h.out, Lib.hid hB⟩)

set_option maxRecDepth 100000 in
set_option maxHeartbeats 2000000 in
theorem token_word {w : World} {b off : Nat} {bs : List UInt8} {cb p : Nat} (hb : Hid (Rb w (some ⟨b, off, none⟩) bs)) (hl : bs.length ≤ 100000000) (hcap : bs.length ≤ cb) (hp : p < bs.length) (hblt : b < w.heap.size) (H : isInner bs[p] = true) (h40 : bs[p].toNat ≠ 40) (h41 : bs[p].toNat ≠ 41) (hd : isDigit bs[p] = false) (h35 : bs[p].toNat ≠ 35) (h34 : bs[p].toNat ≠ 34) (h124 : bs[p].toNat ≠ 124) (h58 : bs[p].toNat ≠ 58) :
    Calls Tryd.prog 44 #[.slice (some ⟨b, off, none⟩) bs.length cb, .int .i64 (p : Int)] w fun e w' => Hid (ScEnds (scan (bs.drop p)) p e) ∧ Hid (Below w.heap.size w w') := by
  have this := And.intro hl hcap
  clear this
  have HS := scan_word_at hp H h40 h41 hd h35 h34 h124 h58
  rw [runE_step hp H] at HS
  obtain ⟨c, hc⟩ : ∃ c, bs[p] = c := ⟨_, rfl⟩
  rw [hc] at H h40 h41 hd h35 h34 h124 h58
  obtain ⟨Q, hQ⟩ : ∃ Q, runE isInner bs (p + 1) = Q := ⟨_, rfl⟩
  have hQ1 : p + 1 ≤ Q := hQ ▸ runE_ge
  have hQ2 : Q ≤ bs.length := hQ ▸ runE_le (by omega)
  rw [hQ] at HS
  have HQ := Lib.hid hQ
  clear hQ
  obtain ⟨r, hr⟩ : ∃ r, reservedWords.contains (cutL bs p Q) = r := ⟨_, rfl⟩
  rw [hr] at HS
  have HR := Lib.hid hr
  clear hr
  replace HS := Lib.hid HS
  have hA : ∀ a, some (⟨b, off, none⟩ : Addr) = some a → a.block < w.heap.size := by rintro a ⟨rfl⟩; exact hblt
  go_enter Tryd.func44, Tryd.ntmps44
  go_upto_region 2 with fail
  generalize hW : (w.alloc _).alloc _ = W
  have S0 := Lib.hid (St.start hb.out hW)
  clear hW
  have hck := S0.out.rb.cells hp
  rw [hc] at hck
  have HC := Lib.hid hc
  have d40 : ((c.toNat : Int) == 40) = false := by rw [beq_eq_false_iff_ne]; omega
  have d41 : ((c.toNat : Int) == 41) = false := by rw [beq_eq_false_iff_ne]; omega
  have d35 : ((c.toNat : Int) == 35) = false := by rw [beq_eq_false_iff_ne]; omega
  have d34 : ((c.toNat : Int) == 34) = false := by rw [beq_eq_false_iff_ne]; omega
  have d124 : ((c.toNat : Int) == 124) = false := by rw [beq_eq_false_iff_ne]; omega
  have d58 : ((c.toNat : Int) == 58) = false := by rw [beq_eq_false_iff_ne]; omega
  clear hc h40 h41 h35 h34 h124 h58
  go_upto_block 12 with (first | (go_at_call 61; refine (digit_any _ _).mono ?_; rintro e w' ⟨rfl, rfl⟩) | (go_at_call 62; refine (inner_any _ _).mono ?_; rintro e w' ⟨rfl, rfl⟩) | (go_at_call 63; refine (hex_any _ _).mono ?_; rintro e w' ⟨rfl, rfl⟩) | (go_at_call 64; refine (plain_any _ _).mono ?_; rintro e w' ⟨rfl, rfl⟩))
  clear hck d40 d41 d35 d34 d124 d58 hd H
  go_cut [9] from 364 to 376 (fun v wx => v = .int .i64 (Q : Int) ∧ wx = W)
  case first =>
    go_wp2_with fail
    go_loop [9] (fun v => ∃ k : Nat, p + 1 ≤ k ∧ k ≤ bs.length ∧ v = .int .i64 (k : Int) ∧ Hid (runE isInner bs k = Q)) (fun v => bs.length - (intOf v).toNat)
    case atStart => exact ⟨p + 1, Nat.le_refl _, by omega, by go_num, HQ⟩
    case round =>
      obtain ⟨k, hk1, hk2, rfl, hQk⟩ := hrel
      by_cases hlt : k < bs.length
      · have hcc := S0.out.rb.cells hlt
        obtain ⟨d, hd⟩ : ∃ d, bs[k] = d := ⟨_, rfl⟩
        rw [hd] at hcc
        have HD := Lib.hid hd
        clear hd
        cases hi : isInner d
        · have E : Hid (k = Q) := Lib.hid ((runE_stop hlt (by rw [HD.out]; exact hi)).symm.trans hQk.out)
          go_wp2_with (first | (go_at_call 61; refine (digit_any _ _).mono ?_; rintro e w' ⟨rfl, rfl⟩) | (go_at_call 62; refine (inner_any _ _).mono ?_; rintro e w' ⟨rfl, rfl⟩) | (go_at_call 63; refine (hex_any _ _).mono ?_; rintro e w' ⟨rfl, rfl⟩) | (go_at_call 64; refine (plain_any _ _).mono ?_; rintro e w' ⟨rfl, rfl⟩))
          go_meet
          exact ⟨by rw [E.out], rfl⟩
        · have E : Hid (runE isInner bs (k + 1) = Q) := Lib.hid ((runE_step hlt (by rw [HD.out]; exact hi)).symm.trans hQk.out)
          go_wp2_with (first | (go_at_call 61; refine (digit_any _ _).mono ?_; rintro e w' ⟨rfl, rfl⟩) | (go_at_call 62; refine (inner_any _ _).mono ?_; rintro e w' ⟨rfl, rfl⟩) | (go_at_call 63; refine (hex_any _ _).mono ?_; rintro e w' ⟨rfl, rfl⟩) | (go_at_call 64; refine (plain_any _ _).mono ?_; rintro e w' ⟨rfl, rfl⟩))
          go_round
          case rel => exact ⟨k + 1, by omega, by omega, by go_num, E⟩
          case measure => simp [intOf]; omega
      · obtain rfl : k = bs.length := by omega
        have E : Hid (bs.length = Q) := Lib.hid (runE_end.symm.trans hQk.out)
        go_wp2_with fail
        go_meet
        exact ⟨by rw [E.out], rfl⟩
  case rest =>
    obtain ⟨rfl, rfl⟩ := hcut
    clear HQ
    have hcv := cut_conv (cap := cb - p) S0.out.rb p (Q - p) Q rfl hQ2
    have f1 := S0.out.tf 1
    have c1 := S0.out.t1
    go_upto_region 72 with fail
    clear f1 c1 hcv
    generalize hW : World.setCell _ _ _ = W1
    have S1 := Lib.hid (S0.out.text hA (cutL bs p Q) hW)
    clear hW
    have f0 := S1.out.tf 0
    have c0 := S1.out.t0
    go_upto_region 73 with fail
    clear f0 c0
    generalize hW : World.setCell _ _ _ = W2
    have S2 := Lib.hid (S1.out.kind hA 3 hW)
    clear hW
    have c1 := S2.out.t1
    go_upto_if 386 with (go_at_call 65; refine (reserved_cut HR _).mono ?_; rintro e w' ⟨rfl, HBR⟩)
    have S3 := Lib.hid (S2.out.on HBR.out)
    clear c1 HBR S2
    cases r
    · replace HS : Hid (_ = Sc.tok 3 (cutL bs p Q) (Q - p)) := Lib.hid HS.out
      have t0 := S3.out.t0
      have t1 := S3.out.t1
      have t2 := S3.out.t2
      have r0 := S3.out.r0
      have r1 := S3.out.r1
      have r2 := S3.out.r2
      have rf := S3.out.rf
      go_wp2_with fail
      clear t0 t1 t2 r0 r1 r2 rf
      generalize hW : World.setCell _ _ _ = W9
      obtain ⟨e0, e1, e2, HB⟩ := S3.out.fin hW
      clear hW
      (try simp only [Exit.inBlock, Exit.then])
      refine bodyPost_ret (v := .tuple #[Tv 3 (cutL bs p Q) p, .int .i64 (Q : Int), .int .i64 (-1)]) (by simp [results, Tv, Tryd.results44, go_sem, e0, e1, e2]) rfl ⟨Lib.hid ?_, HB⟩
      rw [HS.out]; exact tok_ret rfl (by omega)
    · replace HS : Hid (_ = Sc.tok 4 (cutL bs p Q) (Q - p)) := Lib.hid HS.out
      have f0 := S3.out.tf 0
      have c0 := S3.out.t0
      go_upto_region 75 with fail
      clear f0 c0
      generalize hW : World.setCell _ _ _ = W5
      have S5 := Lib.hid (S3.out.kind hA 4 hW)
      clear hW
      have t0 := S5.out.t0
      have t1 := S5.out.t1
      have t2 := S5.out.t2
      have r0 := S5.out.r0
      have r1 := S5.out.r1
      have r2 := S5.out.r2
      have rf := S5.out.rf
      go_wp2_with fail
      clear t0 t1 t2 r0 r1 r2 rf
      generalize hW : World.setCell _ _ _ = W9
      obtain ⟨e0, e1, e2, HB⟩ := S5.out.fin hW
      clear hW
      (try simp only [Exit.inBlock, Exit.then])
      refine bodyPost_ret (v := .tuple #[Tv 4 (cutL bs p Q) p, .int .i64 (Q : Int), .int .i64 (-1)]) (by simp [results, Tv, Tryd.results44, go_sem, e0, e1, e2]) rfl ⟨Lib.hid ?_, HB⟩
      rw [HS.out]; exact tok_ret rfl (by omega)

set_option maxRecDepth 100000 in
set_option maxHeartbeats 2000000 in
theorem token_paren {w : World} {b off : Nat} {bs : List UInt8} {cb p : Nat} (hb : Hid (Rb w (some ⟨b, off, none⟩) bs)) (hl : bs.length ≤ 100000000) (hcap : bs.length ≤ cb) (hp : p < bs.length) (hblt : b < w.heap.size) {k : Nat} (H : bs[p].toNat = 40 ∧ k = 1 ∨ bs[p].toNat = 41 ∧ k = 2) :
    Calls Tryd.prog 44 #[.slice (some ⟨b, off, none⟩) bs.length cb, .int .i64 (p : Int)] w fun e w' => Hid (ScEnds (scan (bs.drop p)) p e) ∧ Hid (Below w.heap.size w w') := by
  have this := And.intro hl hcap
  clear this
  have HS := Lib.hid (scan_paren hp H)
  obtain ⟨c, hc⟩ : ∃ c, bs[p] = c := ⟨_, rfl⟩
  rw [hc] at H HS
  have hA : ∀ a, some (⟨b, off, none⟩ : Addr) = some a → a.block < w.heap.size := by rintro a ⟨rfl⟩; exact hblt
  go_enter Tryd.func44, Tryd.ntmps44
  go_upto_region 2 with fail
  generalize hW : (w.alloc _).alloc _ = W
  have S0 := Lib.hid (St.start hb.out hW)
  clear hW
  have hck := S0.out.rb.cells hp
  rw [hc] at hck
  have HC := Lib.hid hc
  rcases H with ⟨H, rfl⟩ | ⟨H, rfl⟩
  · have d40 : ((c.toNat : Int) == 40) = true := by rw [H]; rfl
    have d41 : ((c.toNat : Int) == 41) = false := by rw [beq_eq_false_iff_ne]; omega
    clear hc H
    have f0 := S0.out.tf 0
    have c0 := S0.out.t0
    go_upto_region 8 with fail
    clear f0 c0 hck
    generalize hW : World.setCell _ _ _ = W1
    have S1 := Lib.hid (S0.out.kind hA 1 hW)
    clear hW
    have hcv := cut_conv (cap := cb - p) S1.out.rb p 1 (p + 1) (by omega) (by omega)
    have f1 := S1.out.tf 1
    have c1 := S1.out.t1
    go_upto_region 9 with fail
    clear f1 c1 hcv
    generalize hW : World.setCell _ _ _ = W2
    have S2 := Lib.hid (S1.out.text hA (cutL bs p (p + 1)) hW)
    clear hW
    have t0 := S2.out.t0
    have t1 := S2.out.t1
    have t2 := S2.out.t2
    have r0 := S2.out.r0
    have r1 := S2.out.r1
    have r2 := S2.out.r2
    have rf := S2.out.rf
    go_wp2_with fail
    clear t0 t1 t2 r0 r1 r2 rf
    generalize hW : World.setCell _ _ _ = W9
    obtain ⟨e0, e1, e2, HB⟩ := S2.out.fin hW
    clear hW
    (try simp only [Exit.inBlock, Exit.then])
    refine bodyPost_ret (v := .tuple #[Tv 1 (cutL bs p (p + 1)) p, .int .i64 ((p + 1 : Nat) : Int), .int .i64 (-1)]) (by simp [results, Tv, Tryd.results44, go_sem, e0, e1, e2]) rfl ⟨Lib.hid ?_, HB⟩
    rw [HS.out]; exact tok_ret (by rw [cut_one hp, HC.out]) rfl
  · have d40 : ((c.toNat : Int) == 40) = false := by rw [beq_eq_false_iff_ne]; omega
    have d41 : ((c.toNat : Int) == 41) = true := by rw [H]; rfl
    clear hc H
    have f0 := S0.out.tf 0
    have c0 := S0.out.t0
    go_upto_region 6 with fail
    clear f0 c0 hck
    generalize hW : World.setCell _ _ _ = W0
    have SA := Lib.hid (S0.out.kind hA 1 hW)
    clear hW
    have f0 := SA.out.tf 0
    have c0 := SA.out.t0
    go_upto_region 8 with fail
    clear f0 c0
    generalize hW : World.setCell _ _ _ = W1
    have S1 := Lib.hid (SA.out.kind hA 2 hW)
    clear hW
    have hcv := cut_conv (cap := cb - p) S1.out.rb p 1 (p + 1) (by omega) (by omega)
    have f1 := S1.out.tf 1
    have c1 := S1.out.t1
    go_upto_region 9 with fail
    clear f1 c1 hcv
    generalize hW : World.setCell _ _ _ = W2
    have S2 := Lib.hid (S1.out.text hA (cutL bs p (p + 1)) hW)
    clear hW
    have t0 := S2.out.t0
    have t1 := S2.out.t1
    have t2 := S2.out.t2
    have r0 := S2.out.r0
    have r1 := S2.out.r1
    have r2 := S2.out.r2
    have rf := S2.out.rf
    go_wp2_with fail
    clear t0 t1 t2 r0 r1 r2 rf
    generalize hW : World.setCell _ _ _ = W9
    obtain ⟨e0, e1, e2, HB⟩ := S2.out.fin hW
    clear hW
    (try simp only [Exit.inBlock, Exit.then])
    refine bodyPost_ret (v := .tuple #[Tv 2 (cutL bs p (p + 1)) p, .int .i64 ((p + 1 : Nat) : Int), .int .i64 (-1)]) (by simp [results, Tv, Tryd.results44, go_sem, e0, e1, e2]) rfl ⟨Lib.hid ?_, HB⟩
    rw [HS.out]; exact tok_ret (by rw [cut_one hp, HC.out]) rfl
end Go.Proofs.YtmnllioeaaimcaaDoor.tk
