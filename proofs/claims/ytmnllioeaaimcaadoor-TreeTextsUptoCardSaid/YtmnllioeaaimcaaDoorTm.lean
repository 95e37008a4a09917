/- The document's answer of layer 4: the token at a place: numbers. -/
import Derived.Test.YtmnllioeaaimcaaDoorTl
namespace Go.Proofs.YtmnllioeaaimcaaDoor.tk
open Go.RowKit

theorem cut_append {bs : List UInt8} {i j k : Nat} (h1 : i ≤ j) (h2 : j ≤ k) : cutL bs i j ++ cutL bs j k = cutL bs i k := by
  unfold cutL
  rw [List.drop_take, List.drop_take, List.drop_take, show k - i = (j - i) + (k - j) by omega, List.take_add, List.drop_drop, show i + (j - i) = j by omega]
theorem num_bad {bs : List UInt8} {p : Nat} (hp : p < bs.length) (hd : isDigit bs[p] = true) (h1 : bs[p].toNat = 48) (hp2 : p + 1 < bs.length) (h2 : isDigit bs[p + 1] = true) : scan (bs.drop p) = .bad 1 := by
  rw [scan_num_at hp hd]
  unfold numL
  rw [digit_at hp2, h2, h1]
  rfl
theorem num_run {bs : List UInt8} {p Q : Nat} (hp : p < bs.length) (hd : isDigit bs[p] = true) (h1 : ¬ (bs[p].toNat = 48 ∧ digitNext (bs.drop (p + 1)) = true)) (hQ : runE isDigit bs (p + 1) = Q) :
    scan (bs.drop p) = if hq : Q + 1 < bs.length then
      (if (bs[Q]'(by omega)).toNat = 46 ∧ isDigit bs[Q + 1] = true then endsAt 6 (cutL bs p (runE isDigit bs (Q + 1))) (runE isDigit bs (Q + 1) - p) (bs.drop (runE isDigit bs (Q + 1)))
      else endsAt 5 (cutL bs p Q) (Q - p) (bs.drop Q)) else endsAt 5 (cutL bs p Q) (Q - p) (bs.drop Q) := by
  have hQ1 : p + 1 ≤ Q := hQ ▸ runE_ge
  have hQ2 : Q ≤ bs.length := hQ ▸ runE_le (by omega)
  rw [scan_num_at hp hd]
  unfold numL
  rw [if_neg (by simpa using h1), drop_run, hQ]
  have hlen : ((bs.drop (p + 1)).takeWhile isDigit).length = Q - (p + 1) := by rw [run_len, hQ]
  have htx : (bs.drop (p + 1)).takeWhile isDigit = cutL bs (p + 1) Q := by rw [← hQ, cut_run]
  rw [hlen, htx]
  by_cases hl : Q < bs.length
  · rw [drop_cons hl]
    simp only
    by_cases hq : Q + 1 < bs.length
    · rw [dif_pos hq, digit_at hq]
      have hR1 := runE_ge (f := isDigit) (bs := bs) (i := Q + 1)
      have hR2 := runE_le (f := isDigit) (bs := bs) (i := Q + 1) (by omega)
      by_cases hB : bs[Q].toNat = 46 ∧ isDigit bs[Q + 1] = true
      · rw [if_pos hB, if_pos (by simpa using hB), run_len, drop_run, ← cut_run]
        congr 1
        · rw [cut_cons (p := p) (by omega) hR2, List.cons_append]
          congr 1
          have e1 := cut_append (bs := bs) (i := p + 1) (j := Q) (k := runE isDigit bs (Q + 1)) hQ1 (by omega)
          have e2 := cut_cons (bs := bs) (p := Q) (j := runE isDigit bs (Q + 1)) (by omega) hR2
          rw [← e1, e2]
        · omega
      · rw [if_neg hB, if_neg (by simpa using hB), cut_cons (p := p) (by omega) hQ2]
        congr 1
        omega
    · rw [dif_neg hq]
      have e : digitNext (bs.drop (Q + 1)) = false := by rw [show Q + 1 = bs.length by omega, List.drop_length]; rfl
      rw [e, Bool.and_false, if_neg (by simp), cut_cons (p := p) (by omega) hQ2]
      congr 1
      omega
  · have e : Q = bs.length := by omega
    rw [dif_neg (by omega), e, List.drop_length, ends_yes rfl, cut_cons (p := p) (by omega) (Nat.le_refl _)]
    simp only
    congr 1
    omega

set_option maxRecDepth 100000 in
set_option maxHeartbeats 2000000 in
theorem token_num0 {w : World} {b off : Nat} {bs : List UInt8} {cb p : Nat} (hb : Hid (Rb w (some ⟨b, off, none⟩) bs)) (hl : bs.length ≤ 100000000) (hcap : bs.length ≤ cb) (hp : p < bs.length) (hblt : b < w.heap.size) (H : isDigit bs[p] = true) (H1 : bs[p].toNat = 48) (hp2 : p + 1 < bs.length) (H2 : isDigit bs[p + 1] = true) :
    Calls Tryd.prog 44 #[.slice (some ⟨b, off, none⟩) bs.length cb, .int .i64 (p : Int)] w fun e w' => Hid (ScEnds (scan (bs.drop p)) p e) ∧ Hid (Below w.heap.size w w') := by
  have this := And.intro hl hcap
  clear this
  have HS := Lib.hid (num_bad hp H H1 hp2 H2)
  obtain ⟨c, hc⟩ : ∃ c, bs[p] = c := ⟨_, rfl⟩
  rw [hc] at H H1
  obtain ⟨c2, hc2⟩ : ∃ c2, bs[p + 1] = c2 := ⟨_, rfl⟩
  rw [hc2] at H2
  have hA : ∀ a, some (⟨b, off, none⟩ : Addr) = some a → a.block < w.heap.size := by rintro a ⟨rfl⟩; exact hblt
  go_enter Tryd.func44, Tryd.ntmps44
  go_upto_region 2 with fail
  generalize hW : (w.alloc _).alloc _ = W
  have S0 := Lib.hid (St.start hb.out hW)
  clear hW
  have hck := S0.out.rb.cells hp
  rw [hc] at hck
  have HC := Lib.hid hc
  have hck2 := S0.out.rb.cells hp2
  rw [hc2] at hck2
  have d40 : ((c.toNat : Int) == 40) = false := by rw [H1]; rfl
  have d41 : ((c.toNat : Int) == 41) = false := by rw [H1]; rfl
  have d48 : ((c.toNat : Int) == 48) = true := by rw [H1]; rfl
  clear hc hc2 H1
  go_upto_region 12 with (first | (go_at_call 61; refine (digit_any _ _).mono ?_; rintro e w' ⟨rfl, rfl⟩) | (go_at_call 62; refine (inner_any _ _).mono ?_; rintro e w' ⟨rfl, rfl⟩) | (go_at_call 63; refine (hex_any _ _).mono ?_; rintro e w' ⟨rfl, rfl⟩) | (go_at_call 64; refine (plain_any _ _).mono ?_; rintro e w' ⟨rfl, rfl⟩))
  have t0 := S0.out.t0
  have t1 := S0.out.t1
  have t2 := S0.out.t2
  have r0 := S0.out.r0
  have r1 := S0.out.r1
  have r2 := S0.out.r2
  have rf := S0.out.rf
  go_wp2_with fail
  clear t0 t1 t2 r0 r1 r2 rf
  generalize hW : World.setCell _ _ _ = W9
  obtain ⟨e0, e1, e2, HB⟩ := S0.out.fin hW
  clear hW
  (try simp only [Exit.inBlock, Exit.then])
  refine bodyPost_ret (v := .tuple #[Tv 0 [] p, .int .i64 0, .int .i64 ((p : Int) + 1)]) (by simp [results, Tv, Tryd.results44, go_sem, e0, e1, e2]) rfl ⟨Lib.hid ?_, HB⟩
  rw [HS.out]; exact bad_ret (by omega)

set_option maxRecDepth 100000 in
set_option maxHeartbeats 2000000 in
theorem token_num {w : World} {b off : Nat} {bs : List UInt8} {cb p : Nat} (hb : Hid (Rb w (some ⟨b, off, none⟩) bs)) (hl : bs.length ≤ 100000000) (hcap : bs.length ≤ cb) (hp : p < bs.length) (hblt : b < w.heap.size) (H : isDigit bs[p] = true) (H1 : ¬ (bs[p].toNat = 48 ∧ digitNext (bs.drop (p + 1)) = true)) :
    Calls Tryd.prog 44 #[.slice (some ⟨b, off, none⟩) bs.length cb, .int .i64 (p : Int)] w fun e w' => Hid (ScEnds (scan (bs.drop p)) p e) ∧ Hid (Below w.heap.size w w') := by
  have this := And.intro hl hcap
  clear this
  obtain ⟨Q, hQ⟩ : ∃ Q, runE isDigit bs (p + 1) = Q := ⟨_, rfl⟩
  have HS := num_run hp H H1 hQ
  have hQ1 : p + 1 ≤ Q := hQ ▸ runE_ge
  have hQ2 : Q ≤ bs.length := hQ ▸ runE_le (by omega)
  have HQ := Lib.hid hQ
  clear hQ
  have H1 := Lib.hid H1
  replace HS := Lib.hid HS
  obtain ⟨c, hc⟩ : ∃ c, bs[p] = c := ⟨_, rfl⟩
  rw [hc] at H
  have hdr := digit_rng H
  have hA : ∀ a, some (⟨b, off, none⟩ : Addr) = some a → a.block < w.heap.size := by rintro a ⟨rfl⟩; exact hblt
  go_enter Tryd.func44, Tryd.ntmps44
  go_upto_region 2 with fail
  generalize hW : (w.alloc _).alloc _ = W
  have S0 := Lib.hid (St.start hb.out hW)
  clear hW
  have hck := S0.out.rb.cells hp
  rw [hc] at hck
  have HC := Lib.hid hc
  have d40 : ((c.toNat : Int) == 40) = false := by rw [beq_eq_false_iff_ne]; omega
  have d41 : ((c.toNat : Int) == 41) = false := by rw [beq_eq_false_iff_ne]; omega
  clear hc hdr
  go_upto_region 11 with (first | (go_at_call 61; refine (digit_any _ _).mono ?_; rintro e w' ⟨rfl, rfl⟩) | (go_at_call 62; refine (inner_any _ _).mono ?_; rintro e w' ⟨rfl, rfl⟩) | (go_at_call 63; refine (hex_any _ _).mono ?_; rintro e w' ⟨rfl, rfl⟩) | (go_at_call 64; refine (plain_any _ _).mono ?_; rintro e w' ⟨rfl, rfl⟩))
  clear d40 d41 hck
  go_cut [54] from 40 to 54 (fun v wx => v = .bool false ∧ wx = W)
  case first =>
    cases d48 : ((c.toNat : Int) == 48)
    · go_wp2_with fail
      go_meet
      exact ⟨rfl, rfl⟩
    · by_cases hp2 : p + 1 < bs.length
      · have hck2 := S0.out.rb.cells hp2
        have H2 : isDigit bs[p + 1] = false := by
          have h := H1.out
          rw [HC.out, digit_at hp2] at h
          have : c.toNat = 48 := by rw [beq_iff_eq] at d48; omega
          simpa [this] using h
        obtain ⟨c2, hc2⟩ : ∃ c2, bs[p + 1] = c2 := ⟨_, rfl⟩
        rw [hc2] at H2 hck2
        clear hc2
        go_wp2_with (first | (go_at_call 61; refine (digit_any _ _).mono ?_; rintro e w' ⟨rfl, rfl⟩) | (go_at_call 62; refine (inner_any _ _).mono ?_; rintro e w' ⟨rfl, rfl⟩) | (go_at_call 63; refine (hex_any _ _).mono ?_; rintro e w' ⟨rfl, rfl⟩) | (go_at_call 64; refine (plain_any _ _).mono ?_; rintro e w' ⟨rfl, rfl⟩))
        go_meet
        exact ⟨rfl, rfl⟩
      · have g0 : ¬ ((p : Int) + 1 < (bs.length : Int)) := by omega
        go_wp2_with fail
        go_meet
        exact ⟨rfl, rfl⟩
  case rest =>
    obtain ⟨rfl, rfl⟩ := hcut
    clear H H1
    have f0 := S0.out.tf 0
    have c0 := S0.out.t0
    go_upto_block 0 with fail
    clear f0 c0
    generalize hW : World.setCell _ _ _ = W1
    have S1 := Lib.hid (S0.out.kind hA 5 hW)
    clear hW
    clear S0
    go_cut [9] from 58 to 70 (fun v wx => v = .int .i64 (Q : Int) ∧ wx = W1)
    case first =>
      go_wp2_with fail
      go_loop [9] (fun v => ∃ k : Nat, p + 1 ≤ k ∧ k ≤ bs.length ∧ v = .int .i64 (k : Int) ∧ Hid (runE isDigit bs k = Q)) (fun v => bs.length - (intOf v).toNat)
      case atStart => exact ⟨p + 1, Nat.le_refl _, by omega, by go_num, HQ⟩
      case round =>
        obtain ⟨k, hk1, hk2, rfl, hQk⟩ := hrel
        by_cases hlt : k < bs.length
        · have hcc := S1.out.rb.cells hlt
          obtain ⟨d, hd⟩ : ∃ d, bs[k] = d := ⟨_, rfl⟩
          rw [hd] at hcc
          have HD := Lib.hid hd
          clear hd
          cases hi : isDigit d
          · have E : Hid (k = Q) := Lib.hid ((runE_stop hlt (by rw [HD.out]; exact hi)).symm.trans hQk.out)
            go_wp2_with (first | (go_at_call 61; refine (digit_any _ _).mono ?_; rintro e w' ⟨rfl, rfl⟩) | (go_at_call 62; refine (inner_any _ _).mono ?_; rintro e w' ⟨rfl, rfl⟩) | (go_at_call 63; refine (hex_any _ _).mono ?_; rintro e w' ⟨rfl, rfl⟩) | (go_at_call 64; refine (plain_any _ _).mono ?_; rintro e w' ⟨rfl, rfl⟩))
            go_meet
            exact ⟨by rw [E.out], rfl⟩
          · have E : Hid (runE isDigit bs (k + 1) = Q) := Lib.hid ((runE_step hlt (by rw [HD.out]; exact hi)).symm.trans hQk.out)
            go_wp2_with (first | (go_at_call 61; refine (digit_any _ _).mono ?_; rintro e w' ⟨rfl, rfl⟩) | (go_at_call 62; refine (inner_any _ _).mono ?_; rintro e w' ⟨rfl, rfl⟩) | (go_at_call 63; refine (hex_any _ _).mono ?_; rintro e w' ⟨rfl, rfl⟩) | (go_at_call 64; refine (plain_any _ _).mono ?_; rintro e w' ⟨rfl, rfl⟩))
            go_round
            case rel => exact ⟨k + 1, by omega, by omega, by go_num, E⟩
            case measure => simp [intOf]; omega
        · obtain rfl : k = bs.length := by omega
          have E : Hid (bs.length = Q) := Lib.hid (runE_end.symm.trans hQk.out)
          go_wp2_with fail
          go_meet
          exact ⟨by rw [E.out], rfl⟩
    case rest =>
      obtain ⟨rfl, rfl⟩ := hcut
      clear HQ
      go_upto_region 16 with fail
      by_cases hB : ∃ hq : Q + 1 < bs.length, bs[Q].toNat = 46 ∧ isDigit bs[Q + 1] = true
      · obtain ⟨hq, hB⟩ := hB
        have HS2 := HS.out
        rw [dif_pos hq, if_pos hB] at HS2
        obtain ⟨R, hR⟩ : ∃ R, runE isDigit bs (Q + 1) = R := ⟨_, rfl⟩
        rw [hR] at HS2
        have hR1 : Q + 1 ≤ R := hR ▸ runE_ge
        have hX2 : R ≤ bs.length := hR ▸ runE_le (by omega)
        have HQ := Lib.hid hR
        replace HS := Lib.hid HS2
        clear HS2 hR
        have hc1 := S1.out.rb.cells (show Q < bs.length by omega)
        have hc2 := S1.out.rb.cells hq
        obtain ⟨H3, H4⟩ := hB
        obtain ⟨e1, he1⟩ : ∃ e, bs[Q] = e := ⟨_, rfl⟩
        obtain ⟨e2, he2⟩ : ∃ e, bs[Q + 1] = e := ⟨_, rfl⟩
        rw [he1] at H3 hc1
        rw [he2] at H4 hc2
        clear he1 he2
        have d46 : ((e1.toNat : Int) == 46) = true := by rw [H3]; rfl
        clear H3
        have f0 := S1.out.tf 0
        have c0 := S1.out.t0
        go_upto_block 2 with (first | (go_at_call 61; refine (digit_any _ _).mono ?_; rintro e w' ⟨rfl, rfl⟩) | (go_at_call 62; refine (inner_any _ _).mono ?_; rintro e w' ⟨rfl, rfl⟩) | (go_at_call 63; refine (hex_any _ _).mono ?_; rintro e w' ⟨rfl, rfl⟩) | (go_at_call 64; refine (plain_any _ _).mono ?_; rintro e w' ⟨rfl, rfl⟩))
        clear f0 c0 hc1 hc2 H4 d46
        generalize hW : World.setCell _ _ _ = W2
        have S2 := Lib.hid (S1.out.kind hA 6 hW)
        clear hW
        clear S1
        go_cut [9] from 94 to 106 (fun v wx => v = .int .i64 (R : Int) ∧ wx = W2)
        case first =>
          go_wp2_with fail
          go_loop [9] (fun v => ∃ k : Nat, Q + 1 ≤ k ∧ k ≤ bs.length ∧ v = .int .i64 (k : Int) ∧ Hid (runE isDigit bs k = R)) (fun v => bs.length - (intOf v).toNat)
          case atStart => exact ⟨Q + 1, Nat.le_refl _, by omega, by go_num, HQ⟩
          case round =>
            obtain ⟨k, hk1, hk2, rfl, hQk⟩ := hrel
            by_cases hlt : k < bs.length
            · have hcc := S2.out.rb.cells hlt
              obtain ⟨d, hd⟩ : ∃ d, bs[k] = d := ⟨_, rfl⟩
              rw [hd] at hcc
              have HD := Lib.hid hd
              clear hd
              cases hi : isDigit d
              · have E : Hid (k = R) := Lib.hid ((runE_stop hlt (by rw [HD.out]; exact hi)).symm.trans hQk.out)
                go_wp2_with (first | (go_at_call 61; refine (digit_any _ _).mono ?_; rintro e w' ⟨rfl, rfl⟩) | (go_at_call 62; refine (inner_any _ _).mono ?_; rintro e w' ⟨rfl, rfl⟩) | (go_at_call 63; refine (hex_any _ _).mono ?_; rintro e w' ⟨rfl, rfl⟩) | (go_at_call 64; refine (plain_any _ _).mono ?_; rintro e w' ⟨rfl, rfl⟩))
                go_meet
                exact ⟨by rw [E.out], rfl⟩
              · have E : Hid (runE isDigit bs (k + 1) = R) := Lib.hid ((runE_step hlt (by rw [HD.out]; exact hi)).symm.trans hQk.out)
                go_wp2_with (first | (go_at_call 61; refine (digit_any _ _).mono ?_; rintro e w' ⟨rfl, rfl⟩) | (go_at_call 62; refine (inner_any _ _).mono ?_; rintro e w' ⟨rfl, rfl⟩) | (go_at_call 63; refine (hex_any _ _).mono ?_; rintro e w' ⟨rfl, rfl⟩) | (go_at_call 64; refine (plain_any _ _).mono ?_; rintro e w' ⟨rfl, rfl⟩))
                go_round
                case rel => exact ⟨k + 1, by omega, by omega, by go_num, E⟩
                case measure => simp [intOf]; omega
            · obtain rfl : k = bs.length := by omega
              have E : Hid (bs.length = R) := Lib.hid (runE_end.symm.trans hQk.out)
              go_wp2_with fail
              go_meet
              exact ⟨by rw [E.out], rfl⟩
        case rest =>
          obtain ⟨rfl, rfl⟩ := hcut
          clear HQ
          go_upto_region 21 with fail
          have hcv := cut_conv (cap := cb - p) S2.out.rb p (R - p) R rfl hX2
          have f1 := S2.out.tf 1
          have c1 := S2.out.t1
          go_upto_region 22 with fail
          clear f1 c1 hcv
          generalize hW : World.setCell _ _ _ = W8
          have S8 := Lib.hid (S2.out.text hA (cutL bs p R) hW)
          clear hW
          by_cases hxn : R < bs.length
          · have hcc := S8.out.rb.cells hxn
            have HI := Lib.hid (inner_at hxn)
            obtain ⟨d, hd⟩ : ∃ d, bs[R] = d := ⟨_, rfl⟩
            rw [hd] at hcc HI
            clear hd
            cases hi : isInner d
            · rw [hi] at HI
              replace HS := Lib.hid (HS.out.trans (ends_yes HI.out))
              go_upto_region 24 with (first | (go_at_call 61; refine (digit_any _ _).mono ?_; rintro e w' ⟨rfl, rfl⟩) | (go_at_call 62; refine (inner_any _ _).mono ?_; rintro e w' ⟨rfl, rfl⟩) | (go_at_call 63; refine (hex_any _ _).mono ?_; rintro e w' ⟨rfl, rfl⟩) | (go_at_call 64; refine (plain_any _ _).mono ?_; rintro e w' ⟨rfl, rfl⟩))
              have t0 := S8.out.t0
              have t1 := S8.out.t1
              have t2 := S8.out.t2
              have r0 := S8.out.r0
              have r1 := S8.out.r1
              have r2 := S8.out.r2
              have rf := S8.out.rf
              go_wp2_with fail
              clear t0 t1 t2 r0 r1 r2 rf
              generalize hW : World.setCell _ _ _ = W9
              obtain ⟨e0, e1, e2, HB⟩ := S8.out.fin hW
              clear hW
              (try simp only [Exit.inBlock, Exit.then])
              refine bodyPost_ret (v := .tuple #[Tv 6 (cutL bs p R) p, .int .i64 (R : Int), .int .i64 (-1)]) (by simp [results, Tv, Tryd.results44, go_sem, e0, e1, e2]) rfl ⟨Lib.hid ?_, HB⟩
              rw [HS.out]; exact tok_ret rfl (by omega)
            · rw [hi] at HI
              replace HS := Lib.hid (HS.out.trans (ends_no HI.out))
              go_upto_region 23 with (first | (go_at_call 61; refine (digit_any _ _).mono ?_; rintro e w' ⟨rfl, rfl⟩) | (go_at_call 62; refine (inner_any _ _).mono ?_; rintro e w' ⟨rfl, rfl⟩) | (go_at_call 63; refine (hex_any _ _).mono ?_; rintro e w' ⟨rfl, rfl⟩) | (go_at_call 64; refine (plain_any _ _).mono ?_; rintro e w' ⟨rfl, rfl⟩))
              have t0 := S8.out.t0
              have t1 := S8.out.t1
              have t2 := S8.out.t2
              have r0 := S8.out.r0
              have r1 := S8.out.r1
              have r2 := S8.out.r2
              have rf := S8.out.rf
              go_wp2_with fail
              clear t0 t1 t2 r0 r1 r2 rf
              generalize hW : World.setCell _ _ _ = W9
              obtain ⟨e0, e1, e2, HB⟩ := S8.out.fin hW
              clear hW
              (try simp only [Exit.inBlock, Exit.then])
              refine bodyPost_ret (v := .tuple #[Tv 6 (cutL bs p R) p, .int .i64 0, .int .i64 (R : Int)]) (by simp [results, Tv, Tryd.results44, go_sem, e0, e1, e2]) rfl ⟨Lib.hid ?_, HB⟩
              rw [HS.out]; exact bad_ret (by omega)
          · have hxe : R = bs.length := by omega
            replace HS := Lib.hid (HS.out.trans (ends_yes (by rw [hxe, List.drop_length]; rfl)))
            have g9 : ¬ ((R : Int) < (bs.length : Int)) := by omega
            clear hxe
            go_upto_region 24 with fail
            have t0 := S8.out.t0
            have t1 := S8.out.t1
            have t2 := S8.out.t2
            have r0 := S8.out.r0
            have r1 := S8.out.r1
            have r2 := S8.out.r2
            have rf := S8.out.rf
            go_wp2_with fail
            clear t0 t1 t2 r0 r1 r2 rf
            generalize hW : World.setCell _ _ _ = W9
            obtain ⟨e0, e1, e2, HB⟩ := S8.out.fin hW
            clear hW
            (try simp only [Exit.inBlock, Exit.then])
            refine bodyPost_ret (v := .tuple #[Tv 6 (cutL bs p R) p, .int .i64 (R : Int), .int .i64 (-1)]) (by simp [results, Tv, Tryd.results44, go_sem, e0, e1, e2]) rfl ⟨Lib.hid ?_, HB⟩
            rw [HS.out]; exact tok_ret rfl (by omega)
      · have HS2 : scan (bs.drop p) = endsAt 5 (cutL bs p Q) (Q - p) (bs.drop Q) := by
          rw [HS.out]
          split
          · rename_i hq
            exact if_neg (fun h => hB ⟨hq, h⟩)
          · rfl
        replace HS := Lib.hid HS2
        clear HS2
        have HBB := Lib.hid hB
        clear hB
        go_cut [90] from 71 to 90 (fun v wx => v = .bool false ∧ wx = wc)
        case first =>
          by_cases hq : Q + 1 < bs.length
          · have hc1 := S1.out.rb.cells (show Q < bs.length by omega)
            have hc2 := S1.out.rb.cells hq
            have hno : ¬ (bs[Q].toNat = 46 ∧ isDigit bs[Q + 1] = true) := fun h => HBB.out ⟨hq, h⟩
            obtain ⟨e1, he1⟩ : ∃ e, bs[Q] = e := ⟨_, rfl⟩
            obtain ⟨e2, he2⟩ : ∃ e, bs[Q + 1] = e := ⟨_, rfl⟩
            rw [he1] at hc1
            rw [he2] at hc2
            rw [he1, he2] at hno
            clear he1 he2
            cases d46 : ((e1.toNat : Int) == 46)
            · clear hno
              go_wp2_with fail
              go_meet
              exact ⟨rfl, rfl⟩
            · have H4 : isDigit e2 = false := by
                have : e1.toNat = 46 := by rw [beq_iff_eq] at d46; omega
                simpa [this] using hno
              clear hno
              go_wp2_with (first | (go_at_call 61; refine (digit_any _ _).mono ?_; rintro e w' ⟨rfl, rfl⟩) | (go_at_call 62; refine (inner_any _ _).mono ?_; rintro e w' ⟨rfl, rfl⟩) | (go_at_call 63; refine (hex_any _ _).mono ?_; rintro e w' ⟨rfl, rfl⟩) | (go_at_call 64; refine (plain_any _ _).mono ?_; rintro e w' ⟨rfl, rfl⟩))
              go_meet
              exact ⟨rfl, rfl⟩
          · have g0 : ¬ ((Q : Int) + 1 < (bs.length : Int)) := by omega
            go_wp2_with fail
            go_meet
            exact ⟨rfl, rfl⟩
        case rest =>
          obtain ⟨rfl, rfl⟩ := hcut
          have hX2 := hQ2
          go_upto_region 21 with fail
          have hcv := cut_conv (cap := cb - p) S1.out.rb p (Q - p) Q rfl hX2
          have f1 := S1.out.tf 1
          have c1 := S1.out.t1
          go_upto_region 22 with fail
          clear f1 c1 hcv
          generalize hW : World.setCell _ _ _ = W8
          have S8 := Lib.hid (S1.out.text hA (cutL bs p Q) hW)
          clear hW
          by_cases hxn : Q < bs.length
          · have hcc := S8.out.rb.cells hxn
            have HI := Lib.hid (inner_at hxn)
            obtain ⟨d, hd⟩ : ∃ d, bs[Q] = d := ⟨_, rfl⟩
            rw [hd] at hcc HI
            clear hd
            cases hi : isInner d
            · rw [hi] at HI
              replace HS := Lib.hid (HS.out.trans (ends_yes HI.out))
              go_upto_region 24 with (first | (go_at_call 61; refine (digit_any _ _).mono ?_; rintro e w' ⟨rfl, rfl⟩) | (go_at_call 62; refine (inner_any _ _).mono ?_; rintro e w' ⟨rfl, rfl⟩) | (go_at_call 63; refine (hex_any _ _).mono ?_; rintro e w' ⟨rfl, rfl⟩) | (go_at_call 64; refine (plain_any _ _).mono ?_; rintro e w' ⟨rfl, rfl⟩))
              have t0 := S8.out.t0
              have t1 := S8.out.t1
              have t2 := S8.out.t2
              have r0 := S8.out.r0
              have r1 := S8.out.r1
              have r2 := S8.out.r2
              have rf := S8.out.rf
              go_wp2_with fail
              clear t0 t1 t2 r0 r1 r2 rf
              generalize hW : World.setCell _ _ _ = W9
              obtain ⟨e0, e1, e2, HB⟩ := S8.out.fin hW
              clear hW
              (try simp only [Exit.inBlock, Exit.then])
              refine bodyPost_ret (v := .tuple #[Tv 5 (cutL bs p Q) p, .int .i64 (Q : Int), .int .i64 (-1)]) (by simp [results, Tv, Tryd.results44, go_sem, e0, e1, e2]) rfl ⟨Lib.hid ?_, HB⟩
              rw [HS.out]; exact tok_ret rfl (by omega)
            · rw [hi] at HI
              replace HS := Lib.hid (HS.out.trans (ends_no HI.out))
              go_upto_region 23 with (first | (go_at_call 61; refine (digit_any _ _).mono ?_; rintro e w' ⟨rfl, rfl⟩) | (go_at_call 62; refine (inner_any _ _).mono ?_; rintro e w' ⟨rfl, rfl⟩) | (go_at_call 63; refine (hex_any _ _).mono ?_; rintro e w' ⟨rfl, rfl⟩) | (go_at_call 64; refine (plain_any _ _).mono ?_; rintro e w' ⟨rfl, rfl⟩))
              have t0 := S8.out.t0
              have t1 := S8.out.t1
              have t2 := S8.out.t2
              have r0 := S8.out.r0
              have r1 := S8.out.r1
              have r2 := S8.out.r2
              have rf := S8.out.rf
              go_wp2_with fail
              clear t0 t1 t2 r0 r1 r2 rf
              generalize hW : World.setCell _ _ _ = W9
              obtain ⟨e0, e1, e2, HB⟩ := S8.out.fin hW
              clear hW
              (try simp only [Exit.inBlock, Exit.then])
              refine bodyPost_ret (v := .tuple #[Tv 5 (cutL bs p Q) p, .int .i64 0, .int .i64 (Q : Int)]) (by simp [results, Tv, Tryd.results44, go_sem, e0, e1, e2]) rfl ⟨Lib.hid ?_, HB⟩
              rw [HS.out]; exact bad_ret (by omega)
          · have hxe : Q = bs.length := by omega
            replace HS := Lib.hid (HS.out.trans (ends_yes (by rw [hxe, List.drop_length]; rfl)))
            have g9 : ¬ ((Q : Int) < (bs.length : Int)) := by omega
            clear hxe
            go_upto_region 24 with fail
            have t0 := S8.out.t0
            have t1 := S8.out.t1
            have t2 := S8.out.t2
            have r0 := S8.out.r0
            have r1 := S8.out.r1
            have r2 := S8.out.r2
            have rf := S8.out.rf
            go_wp2_with fail
            clear t0 t1 t2 r0 r1 r2 rf
            generalize hW : World.setCell _ _ _ = W9
            obtain ⟨e0, e1, e2, HB⟩ := S8.out.fin hW
            clear hW
            (try simp only [Exit.inBlock, Exit.then])
            refine bodyPost_ret (v := .tuple #[Tv 5 (cutL bs p Q) p, .int .i64 (Q : Int), .int .i64 (-1)]) (by simp [results, Tv, Tryd.results44, go_sem, e0, e1, e2]) rfl ⟨Lib.hid ?_, HB⟩
            rw [HS.out]; exact tok_ret rfl (by omega)
end Go.Proofs.YtmnllioeaaimcaaDoor.tk
