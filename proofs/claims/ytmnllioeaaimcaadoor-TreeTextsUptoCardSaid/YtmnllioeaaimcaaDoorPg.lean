/- Package token: numbers. -/
import Derived.Test.YtmnllioeaaimcaaDoorPf
namespace Go.Proofs.YtmnllioeaaimcaaDoor.tk
open Go.RowKit

theorem Pt.drew {w W : World} {R : Nat} {A : Option Addr} {bs : List UInt8} {cb q k p : Nat} {t : List UInt8} (h : Pt w W R A bs cb q k t p) : Pt w W.drew R A bs cb q k t p :=
  ⟨⟨h.rs.box, h.rs.rb, h.rs.ne⟩, h.res, h.tok, ⟨h.but.os, h.but.tape, h.but.output, h.but.size, h.but.block⟩, h.lt⟩
theorem conv_drew1 {W : World} {b off cap : Nat} {bs : List UInt8} (h : Rb W (some ⟨b, off, none⟩) bs) (i n j : Nat) (hi : n = j - i) (hj : j ≤ bs.length) :
    (convert 44 9 (.slice (some ⟨b, off + i, none⟩) n cap)).run Tryd.prog W.drew = .ok (.string ⟨(cutL bs i j).toArray⟩) W.drew := cut_conv (W := W.drew) h i n j hi hj

set_option maxRecDepth 100000 in
set_option maxHeartbeats 2000000 in
theorem tnum_z_dot {w : World} {R : Nat} {A : Option Addr} {bs : List UInt8} {cb p : Nat} (H : Hid (Rs w R A bs cb p)) (hl : bs.length ≤ 100000000) (hcap : bs.length ≤ cb) (hp : p < bs.length) (h0 : bs[p] = 48) (h1 : hereB bs (p + 1) = 46) (h2 : p + 1 + 1 < bs.length) (h3 : isDigit (bs[p + 1 + 1]'h2) = true) {Z : Nat} (HZ : Hid (runE isDigit bs (p + 1 + 1) = Z)) :
    Calls Tryd.prog 51 #[.pointer (some ⟨R, 0, none⟩)] w fun e w' => Hid (EndIs R A bs cb 6 (cutL bs p (Z)) (Z) p e w') ∧ Hid (But R w w') := by
  have this := And.intro hp (And.intro hl hcap)
  clear this
  have hA := H.out.lts (by omega)
  have hQ2 : p + 1 ≤ bs.length := hp
  have hZ1 : p + 1 + 1 ≤ Z := HZ.out ▸ runE_ge
  have hZ2 : Z ≤ bs.length := HZ.out ▸ runE_le (by omega)
  go_enter Tryd.func51, Tryd.ntmps51
  go_upto_region 1 with fail
  generalize hW : w.alloc _ = W0
  have S0 := Lib.hid (P0.start H.out hW)
  clear hW
  have c1 := S0.out.rs.c1
  have sz := S0.out.sz
  go_upto_region 2 with fail
  generalize hW : W0.alloc _ = W1
  have S1 := Lib.hid (Pt.start S0.out 5 [] hW)
  clear hW c1 sz
  have P := here_any (Lib.hid S1.out.rs) hl hcap
  rw [here_at hp, h0] at P
  have P := Lib.hid P
  clear h0
  go_upto_region 3 with (go_at_call 47; refine P.out.mono ?_; rintro e w1 ⟨rfl, n, rfl⟩; have S2 := Lib.hid (S1.out.drewN n))
  have c1 := S2.out.rs.c1
  have f1 := S2.out.rs.f1
  go_upto_region 5 with fail
  clear c1 f1
  generalize hW : World.setCell _ _ _ = W_S3
  have S3 := Lib.hid (S2.out.go (p + 1) hW)
  clear hW
  have PH : Hid (∀ n, Calls Tryd.prog 47 #[.pointer (some ⟨R, 0, none⟩)] (W_S3.drewN n) fun e w' => e = .returned (byV 46) ∧ ∃ m, w' = W_S3.drewN m) := Lib.hid fun n => h1 ▸ Calls.quiet_of (here_any (Lib.hid (S3.out.rs.drewN n)) hl hcap)
  clear h1
  have c0 := S3.out.rs.c0
  have c1 := S3.out.rs.c1
  have g2 : ((p : Int) + 1 : Int) + 1 < (bs.length : Int) := by omega
  obtain ⟨b, off, rfl, hck⟩ := S3.out.rs.rb.at_ h2
  have PD : Hid (∀ n, Calls Tryd.prog 50 #[byV (bs[p + 1 + 1]'h2)] (W_S3.drewN n) fun e w' => e = .returned (.bool true) ∧ ∃ m, w' = W_S3.drewN m) := Lib.hid fun n => h3 ▸ isT_digit.quiet _ _ n
  generalize bs[p + 1 + 1]'h2 = d2 at hck PD
  clear h3
  go_quiet (first | with_reducible exact PH.out _ | with_reducible exact PD.out _)
  have S4 := Lib.hid (S3.out.drewN nq)
  generalize W_S3.drewN nq = W4 at S4 ⊢
  clear c0 c1 g2 hck
  have t0 := S4.out.t0
  have tf := S4.out.tf
  go_upto_region 7 with fail
  clear t0 tf
  generalize hW : World.setCell _ _ _ = W5
  have S5 := Lib.hid (S4.out.kind hA 6 hW)
  clear hW
  have c1 := S5.out.rs.c1
  have f1 := S5.out.rs.f1
  go_upto_region 8 with fail
  clear c1 f1
  generalize hW : World.setCell _ _ _ = W_S6
  have S6 := Lib.hid (S5.out.go (p + 1 + 1) hW)
  clear hW
  have P := past_any (Lib.hid isT_digit) (Lib.hid S6.out.rs) hl hcap (by omega)
  rw [HZ.out] at P
  have P := Lib.hid P
  go_upto_region 9 with (go_at_call 45; refine P.out.mono ?_; rintro e w2 ⟨rfl, H2, B2⟩; have S7 := Lib.hid (S6.out.call H2.out B2.out))
  have hcv := conv_drew1 (cap := cb - p) S7.out.rs.rb p (Z - p) (Z) (by omega) (by omega)
  have hQc : Z ≤ cb := by omega
  have hcp : ¬ cb = p := by omega
  have hpq : p ≤ Z := by omega
  have c0 := S7.out.rs.c0
  have c1 := S7.out.rs.c1
  have t1 := S7.out.t1
  have t2 := S7.out.t2
  have tf := S7.out.tf
  go_region
  clear hcv c0 c1 t1 t2 tf
  generalize hW : World.setCell _ _ _ = W8
  have S8 := Lib.hid ((S7.out.text hA (cutL bs p (Z)) hW).drew)
  clear hW
  cases hb : isInner (hereB bs (Z))
  · have P9 := Lib.hid (bare_ok (Lib.hid S8.out.rs) hl hcap hb)
    go_upto_region 11 with (go_at_call 67; refine P9.out.mono ?_; rintro e w9 ⟨rfl, H9, B9⟩)
    have S9 := Lib.hid (S8.out.call H9.out B9.out)
    have t0 := S9.out.t0
    have t1 := S9.out.t1
    have t2 := S9.out.t2
    have r0 := S9.out.r0
    have r1 := S9.out.r1
    have r2 := S9.out.r2
    have rf := S9.out.rf
    go_wp2_with fail
    clear t0 t1 t2 r0 r1 r2 rf
    generalize hW : World.setCell _ _ _ = W9
    obtain ⟨e0, e1, e2, HR, HB⟩ := S9.out.fin hA hW
    clear hW
    (try simp only [Exit.inBlock, Exit.then])
    refine bodyPost_ret (v := Tv 6 (cutL bs p (Z)) p) (by simp [results, Tv, Tryd.results51, go_sem, e0, e1, e2]) rfl ⟨Lib.hid (Or.inr ⟨hb, rfl, HR.out⟩), HB⟩
  · have P9 := Lib.hid (bare_no (Lib.hid S8.out.rs) hl hcap hb)
    go_wp2_with (go_at_call 67; refine P9.out.mono ?_; rintro e w9 ⟨rfl, B9⟩)
    exact ⟨rfl, Lib.hid (Or.inl ⟨hb, rfl⟩), S8.out.but.trans B9.out⟩

set_option maxRecDepth 100000 in
set_option maxHeartbeats 2000000 in
theorem tnum_z_a {w : World} {R : Nat} {A : Option Addr} {bs : List UInt8} {cb p : Nat} (H : Hid (Rs w R A bs cb p)) (hl : bs.length ≤ 100000000) (hcap : bs.length ≤ cb) (hp : p < bs.length) (h0 : bs[p] = 48) (h1 : hereB bs (p + 1) ≠ 46) :
    Calls Tryd.prog 51 #[.pointer (some ⟨R, 0, none⟩)] w fun e w' => Hid (EndIs R A bs cb 5 (cutL bs p (p + 1)) (p + 1) p e w') ∧ Hid (But R w w') := by
  have this := And.intro hp (And.intro hl hcap)
  clear this
  have hA := H.out.lts (by omega)
  have hQ2 : p + 1 ≤ bs.length := hp
  obtain ⟨d, hd⟩ : ∃ d, hereB bs (p + 1) = d := ⟨_, rfl⟩
  rw [hd] at h1
  have g1 : (((d.toNat : Int) == 46) : Bool) = false := by
    rw [beq_eq_false_iff_ne]
    intro e
    exact h1 (UInt8.toNat_inj.1 (show d.toNat = 46 by omega))
  have HD := Lib.hid hd
  clear h1 hd
  go_enter Tryd.func51, Tryd.ntmps51
  go_upto_region 1 with fail
  generalize hW : w.alloc _ = W0
  have S0 := Lib.hid (P0.start H.out hW)
  clear hW
  have c1 := S0.out.rs.c1
  have sz := S0.out.sz
  go_upto_region 2 with fail
  generalize hW : W0.alloc _ = W1
  have S1 := Lib.hid (Pt.start S0.out 5 [] hW)
  clear hW c1 sz
  have P := here_any (Lib.hid S1.out.rs) hl hcap
  rw [here_at hp, h0] at P
  have P := Lib.hid P
  clear h0
  go_upto_region 3 with (go_at_call 47; refine P.out.mono ?_; rintro e w1 ⟨rfl, n, rfl⟩; have S2 := Lib.hid (S1.out.drewN n))
  have c1 := S2.out.rs.c1
  have f1 := S2.out.rs.f1
  go_upto_region 5 with fail
  clear c1 f1
  generalize hW : World.setCell _ _ _ = W_S3
  have S3 := Lib.hid (S2.out.go (p + 1) hW)
  clear hW
  have PH : Hid (∀ n, Calls Tryd.prog 47 #[.pointer (some ⟨R, 0, none⟩)] (W_S3.drewN n) fun e w' => e = .returned (byV d) ∧ ∃ m, w' = W_S3.drewN m) := Lib.hid fun n => HD.out ▸ Calls.quiet_of (here_any (Lib.hid (S3.out.rs.drewN n)) hl hcap)
  go_quiet (with_reducible exact PH.out _)
  have S4 := Lib.hid (S3.out.drewN nq)
  generalize W_S3.drewN nq = W4 at S4 ⊢
  go_upto_region 9 with fail
  obtain ⟨b, off, rfl, _⟩ := S4.out.rs.rb (by omega)
  have hcv := conv_drew1 (cap := cb - p) S4.out.rs.rb p (1) (p + 1) (by omega) (by omega)
  have hQc : p + 1 ≤ cb := by omega
  have hcp : ¬ cb = p := by omega
  have hpq : p ≤ p + 1 := by omega
  have c0 := S4.out.rs.c0
  have c1 := S4.out.rs.c1
  have t1 := S4.out.t1
  have t2 := S4.out.t2
  have tf := S4.out.tf
  go_region
  clear hcv c0 c1 t1 t2 tf
  generalize hW : World.setCell _ _ _ = W8
  have S8 := Lib.hid ((S4.out.text hA (cutL bs p (p + 1)) hW).drew)
  clear hW
  cases hb : isInner (hereB bs (p + 1))
  · have P9 := Lib.hid (bare_ok (Lib.hid S8.out.rs) hl hcap hb)
    go_upto_region 11 with (go_at_call 67; refine P9.out.mono ?_; rintro e w9 ⟨rfl, H9, B9⟩)
    have S9 := Lib.hid (S8.out.call H9.out B9.out)
    have t0 := S9.out.t0
    have t1 := S9.out.t1
    have t2 := S9.out.t2
    have r0 := S9.out.r0
    have r1 := S9.out.r1
    have r2 := S9.out.r2
    have rf := S9.out.rf
    go_wp2_with fail
    clear t0 t1 t2 r0 r1 r2 rf
    generalize hW : World.setCell _ _ _ = W9
    obtain ⟨e0, e1, e2, HR, HB⟩ := S9.out.fin hA hW
    clear hW
    (try simp only [Exit.inBlock, Exit.then])
    refine bodyPost_ret (v := Tv 5 (cutL bs p (p + 1)) p) (by simp [results, Tv, Tryd.results51, go_sem, e0, e1, e2]) rfl ⟨Lib.hid (Or.inr ⟨hb, rfl, HR.out⟩), HB⟩
  · have P9 := Lib.hid (bare_no (Lib.hid S8.out.rs) hl hcap hb)
    go_wp2_with (go_at_call 67; refine P9.out.mono ?_; rintro e w9 ⟨rfl, B9⟩)
    exact ⟨rfl, Lib.hid (Or.inl ⟨hb, rfl⟩), S8.out.but.trans B9.out⟩

set_option maxRecDepth 100000 in
set_option maxHeartbeats 2000000 in
theorem tnum_z_b {w : World} {R : Nat} {A : Option Addr} {bs : List UInt8} {cb p : Nat} (H : Hid (Rs w R A bs cb p)) (hl : bs.length ≤ 100000000) (hcap : bs.length ≤ cb) (hp : p < bs.length) (h0 : bs[p] = 48) (h1 : hereB bs (p + 1) = 46) (h2 : bs.length ≤ p + 1 + 1) :
    Calls Tryd.prog 51 #[.pointer (some ⟨R, 0, none⟩)] w fun e w' => Hid (EndIs R A bs cb 5 (cutL bs p (p + 1)) (p + 1) p e w') ∧ Hid (But R w w') := by
  have this := And.intro hp (And.intro hl hcap)
  clear this
  have hA := H.out.lts (by omega)
  have hQ2 : p + 1 ≤ bs.length := hp
  go_enter Tryd.func51, Tryd.ntmps51
  go_upto_region 1 with fail
  generalize hW : w.alloc _ = W0
  have S0 := Lib.hid (P0.start H.out hW)
  clear hW
  have c1 := S0.out.rs.c1
  have sz := S0.out.sz
  go_upto_region 2 with fail
  generalize hW : W0.alloc _ = W1
  have S1 := Lib.hid (Pt.start S0.out 5 [] hW)
  clear hW c1 sz
  have P := here_any (Lib.hid S1.out.rs) hl hcap
  rw [here_at hp, h0] at P
  have P := Lib.hid P
  clear h0
  go_upto_region 3 with (go_at_call 47; refine P.out.mono ?_; rintro e w1 ⟨rfl, n, rfl⟩; have S2 := Lib.hid (S1.out.drewN n))
  have c1 := S2.out.rs.c1
  have f1 := S2.out.rs.f1
  go_upto_region 5 with fail
  clear c1 f1
  generalize hW : World.setCell _ _ _ = W_S3
  have S3 := Lib.hid (S2.out.go (p + 1) hW)
  clear hW
  have PH : Hid (∀ n, Calls Tryd.prog 47 #[.pointer (some ⟨R, 0, none⟩)] (W_S3.drewN n) fun e w' => e = .returned (byV 46) ∧ ∃ m, w' = W_S3.drewN m) := Lib.hid fun n => h1 ▸ Calls.quiet_of (here_any (Lib.hid (S3.out.rs.drewN n)) hl hcap)
  clear h1
  have c0 := S3.out.rs.c0
  have c1 := S3.out.rs.c1
  have g2 : ¬ (((p : Int) + 1 : Int) + 1 < (bs.length : Int)) := by omega
  go_quiet (with_reducible exact PH.out _)
  have S4 := Lib.hid (S3.out.drewN nq)
  generalize W_S3.drewN nq = W4 at S4 ⊢
  clear c0 c1 g2
  go_upto_region 9 with fail
  obtain ⟨b, off, rfl, _⟩ := S4.out.rs.rb (by omega)
  have hcv := conv_drew1 (cap := cb - p) S4.out.rs.rb p (1) (p + 1) (by omega) (by omega)
  have hQc : p + 1 ≤ cb := by omega
  have hcp : ¬ cb = p := by omega
  have hpq : p ≤ p + 1 := by omega
  have c0 := S4.out.rs.c0
  have c1 := S4.out.rs.c1
  have t1 := S4.out.t1
  have t2 := S4.out.t2
  have tf := S4.out.tf
  go_region
  clear hcv c0 c1 t1 t2 tf
  generalize hW : World.setCell _ _ _ = W8
  have S8 := Lib.hid ((S4.out.text hA (cutL bs p (p + 1)) hW).drew)
  clear hW
  cases hb : isInner (hereB bs (p + 1))
  · have P9 := Lib.hid (bare_ok (Lib.hid S8.out.rs) hl hcap hb)
    go_upto_region 11 with (go_at_call 67; refine P9.out.mono ?_; rintro e w9 ⟨rfl, H9, B9⟩)
    have S9 := Lib.hid (S8.out.call H9.out B9.out)
    have t0 := S9.out.t0
    have t1 := S9.out.t1
    have t2 := S9.out.t2
    have r0 := S9.out.r0
    have r1 := S9.out.r1
    have r2 := S9.out.r2
    have rf := S9.out.rf
    go_wp2_with fail
    clear t0 t1 t2 r0 r1 r2 rf
    generalize hW : World.setCell _ _ _ = W9
    obtain ⟨e0, e1, e2, HR, HB⟩ := S9.out.fin hA hW
    clear hW
    (try simp only [Exit.inBlock, Exit.then])
    refine bodyPost_ret (v := Tv 5 (cutL bs p (p + 1)) p) (by simp [results, Tv, Tryd.results51, go_sem, e0, e1, e2]) rfl ⟨Lib.hid (Or.inr ⟨hb, rfl, HR.out⟩), HB⟩
  · have P9 := Lib.hid (bare_no (Lib.hid S8.out.rs) hl hcap hb)
    go_wp2_with (go_at_call 67; refine P9.out.mono ?_; rintro e w9 ⟨rfl, B9⟩)
    exact ⟨rfl, Lib.hid (Or.inl ⟨hb, rfl⟩), S8.out.but.trans B9.out⟩

set_option maxRecDepth 100000 in
set_option maxHeartbeats 2000000 in
theorem tnum_z_c {w : World} {R : Nat} {A : Option Addr} {bs : List UInt8} {cb p : Nat} (H : Hid (Rs w R A bs cb p)) (hl : bs.length ≤ 100000000) (hcap : bs.length ≤ cb) (hp : p < bs.length) (h0 : bs[p] = 48) (h1 : hereB bs (p + 1) = 46) (h2 : p + 1 + 1 < bs.length) (h3 : isDigit (bs[p + 1 + 1]'h2) = false) :
    Calls Tryd.prog 51 #[.pointer (some ⟨R, 0, none⟩)] w fun e w' => Hid (EndIs R A bs cb 5 (cutL bs p (p + 1)) (p + 1) p e w') ∧ Hid (But R w w') := by
  have this := And.intro hp (And.intro hl hcap)
  clear this
  have hA := H.out.lts (by omega)
  have hQ2 : p + 1 ≤ bs.length := hp
  go_enter Tryd.func51, Tryd.ntmps51
  go_upto_region 1 with fail
  generalize hW : w.alloc _ = W0
  have S0 := Lib.hid (P0.start H.out hW)
  clear hW
  have c1 := S0.out.rs.c1
  have sz := S0.out.sz
  go_upto_region 2 with fail
  generalize hW : W0.alloc _ = W1
  have S1 := Lib.hid (Pt.start S0.out 5 [] hW)
  clear hW c1 sz
  have P := here_any (Lib.hid S1.out.rs) hl hcap
  rw [here_at hp, h0] at P
  have P := Lib.hid P
  clear h0
  go_upto_region 3 with (go_at_call 47; refine P.out.mono ?_; rintro e w1 ⟨rfl, n, rfl⟩; have S2 := Lib.hid (S1.out.drewN n))
  have c1 := S2.out.rs.c1
  have f1 := S2.out.rs.f1
  go_upto_region 5 with fail
  clear c1 f1
  generalize hW : World.setCell _ _ _ = W_S3
  have S3 := Lib.hid (S2.out.go (p + 1) hW)
  clear hW
  have PH : Hid (∀ n, Calls Tryd.prog 47 #[.pointer (some ⟨R, 0, none⟩)] (W_S3.drewN n) fun e w' => e = .returned (byV 46) ∧ ∃ m, w' = W_S3.drewN m) := Lib.hid fun n => h1 ▸ Calls.quiet_of (here_any (Lib.hid (S3.out.rs.drewN n)) hl hcap)
  clear h1
  have c0 := S3.out.rs.c0
  have c1 := S3.out.rs.c1
  have g2 : ((p : Int) + 1 : Int) + 1 < (bs.length : Int) := by omega
  obtain ⟨b, off, rfl, hck⟩ := S3.out.rs.rb.at_ h2
  have PD : Hid (∀ n, Calls Tryd.prog 50 #[byV (bs[p + 1 + 1]'h2)] (W_S3.drewN n) fun e w' => e = .returned (.bool false) ∧ ∃ m, w' = W_S3.drewN m) := Lib.hid fun n => h3 ▸ isT_digit.quiet _ _ n
  generalize bs[p + 1 + 1]'h2 = d2 at hck PD
  clear h3
  go_quiet (first | with_reducible exact PH.out _ | with_reducible exact PD.out _)
  have S4 := Lib.hid (S3.out.drewN nq)
  generalize W_S3.drewN nq = W4 at S4 ⊢
  clear c0 c1 g2 hck
  go_upto_region 9 with fail
  have hcv := conv_drew1 (cap := cb - p) S4.out.rs.rb p (1) (p + 1) (by omega) (by omega)
  have hQc : p + 1 ≤ cb := by omega
  have hcp : ¬ cb = p := by omega
  have hpq : p ≤ p + 1 := by omega
  have c0 := S4.out.rs.c0
  have c1 := S4.out.rs.c1
  have t1 := S4.out.t1
  have t2 := S4.out.t2
  have tf := S4.out.tf
  go_region
  clear hcv c0 c1 t1 t2 tf
  generalize hW : World.setCell _ _ _ = W8
  have S8 := Lib.hid ((S4.out.text hA (cutL bs p (p + 1)) hW).drew)
  clear hW
  cases hb : isInner (hereB bs (p + 1))
  · have P9 := Lib.hid (bare_ok (Lib.hid S8.out.rs) hl hcap hb)
    go_upto_region 11 with (go_at_call 67; refine P9.out.mono ?_; rintro e w9 ⟨rfl, H9, B9⟩)
    have S9 := Lib.hid (S8.out.call H9.out B9.out)
    have t0 := S9.out.t0
    have t1 := S9.out.t1
    have t2 := S9.out.t2
    have r0 := S9.out.r0
    have r1 := S9.out.r1
    have r2 := S9.out.r2
    have rf := S9.out.rf
    go_wp2_with fail
    clear t0 t1 t2 r0 r1 r2 rf
    generalize hW : World.setCell _ _ _ = W9
    obtain ⟨e0, e1, e2, HR, HB⟩ := S9.out.fin hA hW
    clear hW
    (try simp only [Exit.inBlock, Exit.then])
    refine bodyPost_ret (v := Tv 5 (cutL bs p (p + 1)) p) (by simp [results, Tv, Tryd.results51, go_sem, e0, e1, e2]) rfl ⟨Lib.hid (Or.inr ⟨hb, rfl, HR.out⟩), HB⟩
  · have P9 := Lib.hid (bare_no (Lib.hid S8.out.rs) hl hcap hb)
    go_wp2_with (go_at_call 67; refine P9.out.mono ?_; rintro e w9 ⟨rfl, B9⟩)
    exact ⟨rfl, Lib.hid (Or.inl ⟨hb, rfl⟩), S8.out.but.trans B9.out⟩

set_option maxRecDepth 100000 in
set_option maxHeartbeats 2000000 in
theorem tnum_d_dot {w : World} {R : Nat} {A : Option Addr} {bs : List UInt8} {cb p : Nat} (H : Hid (Rs w R A bs cb p)) (hl : bs.length ≤ 100000000) (hcap : bs.length ≤ cb) (hp : p < bs.length) (h0 : bs[p] ≠ 48) {Q : Nat} (HQ : Hid (runE isDigit bs p = Q)) (h1 : hereB bs (Q) = 46) (h2 : Q + 1 < bs.length) (h3 : isDigit (bs[Q + 1]'h2) = true) {Z : Nat} (HZ : Hid (runE isDigit bs (Q + 1) = Z)) :
    Calls Tryd.prog 51 #[.pointer (some ⟨R, 0, none⟩)] w fun e w' => Hid (EndIs R A bs cb 6 (cutL bs p (Z)) (Z) p e w') ∧ Hid (But R w w') := by
  have this := And.intro hp (And.intro hl hcap)
  clear this
  have hA := H.out.lts (by omega)
  have hQ1 : p ≤ Q := HQ.out ▸ runE_ge
  have hQ2 : Q ≤ bs.length := HQ.out ▸ runE_le (by omega)
  obtain ⟨c, hc⟩ : ∃ c, bs[p] = c := ⟨_, rfl⟩
  rw [hc] at h0
  have g0 : (((c.toNat : Int) == 48) : Bool) = false := by
    rw [beq_eq_false_iff_ne]
    intro e
    exact h0 (UInt8.toNat_inj.1 (show c.toNat = 48 by omega))
  have HC := Lib.hid hc
  clear h0 hc
  have hZ1 : Q + 1 ≤ Z := HZ.out ▸ runE_ge
  have hZ2 : Z ≤ bs.length := HZ.out ▸ runE_le (by omega)
  go_enter Tryd.func51, Tryd.ntmps51
  go_upto_region 1 with fail
  generalize hW : w.alloc _ = W0
  have S0 := Lib.hid (P0.start H.out hW)
  clear hW
  have c1 := S0.out.rs.c1
  have sz := S0.out.sz
  go_upto_region 2 with fail
  generalize hW : W0.alloc _ = W1
  have S1 := Lib.hid (Pt.start S0.out 5 [] hW)
  clear hW c1 sz
  have P := here_any (Lib.hid S1.out.rs) hl hcap
  rw [here_at hp, HC.out] at P
  have P := Lib.hid P
  go_upto_region 4 with (go_at_call 47; refine P.out.mono ?_; rintro e w1 ⟨rfl, n, rfl⟩; have S2 := Lib.hid (S1.out.drewN n))
  have P := past_any (Lib.hid isT_digit) (Lib.hid S2.out.rs) hl hcap (by omega)
  rw [HQ.out] at P
  have P := Lib.hid P
  go_upto_region 5 with (go_at_call 45; refine P.out.mono ?_; rintro e w1 ⟨rfl, H1, B1⟩; have S3 := Lib.hid (S2.out.call H1.out B1.out))
  have PH : Hid (∀ n, Calls Tryd.prog 47 #[.pointer (some ⟨R, 0, none⟩)] (w1.drewN n) fun e w' => e = .returned (byV 46) ∧ ∃ m, w' = w1.drewN m) := Lib.hid fun n => h1 ▸ Calls.quiet_of (here_any (Lib.hid (S3.out.rs.drewN n)) hl hcap)
  clear h1
  have c0 := S3.out.rs.c0
  have c1 := S3.out.rs.c1
  have g2 : ((Q : Int) : Int) + 1 < (bs.length : Int) := by omega
  obtain ⟨b, off, rfl, hck⟩ := S3.out.rs.rb.at_ h2
  have PD : Hid (∀ n, Calls Tryd.prog 50 #[byV (bs[Q + 1]'h2)] (w1.drewN n) fun e w' => e = .returned (.bool true) ∧ ∃ m, w' = w1.drewN m) := Lib.hid fun n => h3 ▸ isT_digit.quiet _ _ n
  generalize bs[Q + 1]'h2 = d2 at hck PD
  clear h3
  go_quiet (first | with_reducible exact PH.out _ | with_reducible exact PD.out _)
  have S4 := Lib.hid (S3.out.drewN nq)
  generalize w1.drewN nq = W4 at S4 ⊢
  clear c0 c1 g2 hck
  have t0 := S4.out.t0
  have tf := S4.out.tf
  go_upto_region 7 with fail
  clear t0 tf
  generalize hW : World.setCell _ _ _ = W5
  have S5 := Lib.hid (S4.out.kind hA 6 hW)
  clear hW
  have c1 := S5.out.rs.c1
  have f1 := S5.out.rs.f1
  go_upto_region 8 with fail
  clear c1 f1
  generalize hW : World.setCell _ _ _ = W_S6
  have S6 := Lib.hid (S5.out.go (Q + 1) hW)
  clear hW
  have P := past_any (Lib.hid isT_digit) (Lib.hid S6.out.rs) hl hcap (by omega)
  rw [HZ.out] at P
  have P := Lib.hid P
  go_upto_region 9 with (go_at_call 45; refine P.out.mono ?_; rintro e w2 ⟨rfl, H2, B2⟩; have S7 := Lib.hid (S6.out.call H2.out B2.out))
  have hcv := conv_drew1 (cap := cb - p) S7.out.rs.rb p (Z - p) (Z) (by omega) (by omega)
  have hQc : Z ≤ cb := by omega
  have hcp : ¬ cb = p := by omega
  have hpq : p ≤ Z := by omega
  have c0 := S7.out.rs.c0
  have c1 := S7.out.rs.c1
  have t1 := S7.out.t1
  have t2 := S7.out.t2
  have tf := S7.out.tf
  go_region
  clear hcv c0 c1 t1 t2 tf
  generalize hW : World.setCell _ _ _ = W8
  have S8 := Lib.hid ((S7.out.text hA (cutL bs p (Z)) hW).drew)
  clear hW
  cases hb : isInner (hereB bs (Z))
  · have P9 := Lib.hid (bare_ok (Lib.hid S8.out.rs) hl hcap hb)
    go_upto_region 11 with (go_at_call 67; refine P9.out.mono ?_; rintro e w9 ⟨rfl, H9, B9⟩)
    have S9 := Lib.hid (S8.out.call H9.out B9.out)
    have t0 := S9.out.t0
    have t1 := S9.out.t1
    have t2 := S9.out.t2
    have r0 := S9.out.r0
    have r1 := S9.out.r1
    have r2 := S9.out.r2
    have rf := S9.out.rf
    go_wp2_with fail
    clear t0 t1 t2 r0 r1 r2 rf
    generalize hW : World.setCell _ _ _ = W9
    obtain ⟨e0, e1, e2, HR, HB⟩ := S9.out.fin hA hW
    clear hW
    (try simp only [Exit.inBlock, Exit.then])
    refine bodyPost_ret (v := Tv 6 (cutL bs p (Z)) p) (by simp [results, Tv, Tryd.results51, go_sem, e0, e1, e2]) rfl ⟨Lib.hid (Or.inr ⟨hb, rfl, HR.out⟩), HB⟩
  · have P9 := Lib.hid (bare_no (Lib.hid S8.out.rs) hl hcap hb)
    go_wp2_with (go_at_call 67; refine P9.out.mono ?_; rintro e w9 ⟨rfl, B9⟩)
    exact ⟨rfl, Lib.hid (Or.inl ⟨hb, rfl⟩), S8.out.but.trans B9.out⟩

set_option maxRecDepth 100000 in
set_option maxHeartbeats 2000000 in
theorem tnum_d_a {w : World} {R : Nat} {A : Option Addr} {bs : List UInt8} {cb p : Nat} (H : Hid (Rs w R A bs cb p)) (hl : bs.length ≤ 100000000) (hcap : bs.length ≤ cb) (hp : p < bs.length) (h0 : bs[p] ≠ 48) {Q : Nat} (HQ : Hid (runE isDigit bs p = Q)) (h1 : hereB bs (Q) ≠ 46) :
    Calls Tryd.prog 51 #[.pointer (some ⟨R, 0, none⟩)] w fun e w' => Hid (EndIs R A bs cb 5 (cutL bs p (Q)) (Q) p e w') ∧ Hid (But R w w') := by
  have this := And.intro hp (And.intro hl hcap)
  clear this
  have hA := H.out.lts (by omega)
  have hQ1 : p ≤ Q := HQ.out ▸ runE_ge
  have hQ2 : Q ≤ bs.length := HQ.out ▸ runE_le (by omega)
  obtain ⟨c, hc⟩ : ∃ c, bs[p] = c := ⟨_, rfl⟩
  rw [hc] at h0
  have g0 : (((c.toNat : Int) == 48) : Bool) = false := by
    rw [beq_eq_false_iff_ne]
    intro e
    exact h0 (UInt8.toNat_inj.1 (show c.toNat = 48 by omega))
  have HC := Lib.hid hc
  clear h0 hc
  obtain ⟨d, hd⟩ : ∃ d, hereB bs (Q) = d := ⟨_, rfl⟩
  rw [hd] at h1
  have g1 : (((d.toNat : Int) == 46) : Bool) = false := by
    rw [beq_eq_false_iff_ne]
    intro e
    exact h1 (UInt8.toNat_inj.1 (show d.toNat = 46 by omega))
  have HD := Lib.hid hd
  clear h1 hd
  go_enter Tryd.func51, Tryd.ntmps51
  go_upto_region 1 with fail
  generalize hW : w.alloc _ = W0
  have S0 := Lib.hid (P0.start H.out hW)
  clear hW
  have c1 := S0.out.rs.c1
  have sz := S0.out.sz
  go_upto_region 2 with fail
  generalize hW : W0.alloc _ = W1
  have S1 := Lib.hid (Pt.start S0.out 5 [] hW)
  clear hW c1 sz
  have P := here_any (Lib.hid S1.out.rs) hl hcap
  rw [here_at hp, HC.out] at P
  have P := Lib.hid P
  go_upto_region 4 with (go_at_call 47; refine P.out.mono ?_; rintro e w1 ⟨rfl, n, rfl⟩; have S2 := Lib.hid (S1.out.drewN n))
  have P := past_any (Lib.hid isT_digit) (Lib.hid S2.out.rs) hl hcap (by omega)
  rw [HQ.out] at P
  have P := Lib.hid P
  go_upto_region 5 with (go_at_call 45; refine P.out.mono ?_; rintro e w1 ⟨rfl, H1, B1⟩; have S3 := Lib.hid (S2.out.call H1.out B1.out))
  have PH : Hid (∀ n, Calls Tryd.prog 47 #[.pointer (some ⟨R, 0, none⟩)] (w1.drewN n) fun e w' => e = .returned (byV d) ∧ ∃ m, w' = w1.drewN m) := Lib.hid fun n => HD.out ▸ Calls.quiet_of (here_any (Lib.hid (S3.out.rs.drewN n)) hl hcap)
  go_quiet (with_reducible exact PH.out _)
  have S4 := Lib.hid (S3.out.drewN nq)
  generalize w1.drewN nq = W4 at S4 ⊢
  go_upto_region 9 with fail
  obtain ⟨b, off, rfl, _⟩ := S4.out.rs.rb (by omega)
  have hcv := conv_drew1 (cap := cb - p) S4.out.rs.rb p (Q - p) (Q) (by omega) (by omega)
  have hQc : Q ≤ cb := by omega
  have hcp : ¬ cb = p := by omega
  have hpq : p ≤ Q := by omega
  have c0 := S4.out.rs.c0
  have c1 := S4.out.rs.c1
  have t1 := S4.out.t1
  have t2 := S4.out.t2
  have tf := S4.out.tf
  go_region
  clear hcv c0 c1 t1 t2 tf
  generalize hW : World.setCell _ _ _ = W8
  have S8 := Lib.hid ((S4.out.text hA (cutL bs p (Q)) hW).drew)
  clear hW
  cases hb : isInner (hereB bs (Q))
  · have P9 := Lib.hid (bare_ok (Lib.hid S8.out.rs) hl hcap hb)
    go_upto_region 11 with (go_at_call 67; refine P9.out.mono ?_; rintro e w9 ⟨rfl, H9, B9⟩)
    have S9 := Lib.hid (S8.out.call H9.out B9.out)
    have t0 := S9.out.t0
    have t1 := S9.out.t1
    have t2 := S9.out.t2
    have r0 := S9.out.r0
    have r1 := S9.out.r1
    have r2 := S9.out.r2
    have rf := S9.out.rf
    go_wp2_with fail
    clear t0 t1 t2 r0 r1 r2 rf
    generalize hW : World.setCell _ _ _ = W9
    obtain ⟨e0, e1, e2, HR, HB⟩ := S9.out.fin hA hW
    clear hW
    (try simp only [Exit.inBlock, Exit.then])
    refine bodyPost_ret (v := Tv 5 (cutL bs p (Q)) p) (by simp [results, Tv, Tryd.results51, go_sem, e0, e1, e2]) rfl ⟨Lib.hid (Or.inr ⟨hb, rfl, HR.out⟩), HB⟩
  · have P9 := Lib.hid (bare_no (Lib.hid S8.out.rs) hl hcap hb)
    go_wp2_with (go_at_call 67; refine P9.out.mono ?_; rintro e w9 ⟨rfl, B9⟩)
    exact ⟨rfl, Lib.hid (Or.inl ⟨hb, rfl⟩), S8.out.but.trans B9.out⟩

set_option maxRecDepth 100000 in
set_option maxHeartbeats 2000000 in
theorem tnum_d_b {w : World} {R : Nat} {A : Option Addr} {bs : List UInt8} {cb p : Nat} (H : Hid (Rs w R A bs cb p)) (hl : bs.length ≤ 100000000) (hcap : bs.length ≤ cb) (hp : p < bs.length) (h0 : bs[p] ≠ 48) {Q : Nat} (HQ : Hid (runE isDigit bs p = Q)) (h1 : hereB bs (Q) = 46) (h2 : bs.length ≤ Q + 1) :
    Calls Tryd.prog 51 #[.pointer (some ⟨R, 0, none⟩)] w fun e w' => Hid (EndIs R A bs cb 5 (cutL bs p (Q)) (Q) p e w') ∧ Hid (But R w w') := by
  have this := And.intro hp (And.intro hl hcap)
  clear this
  have hA := H.out.lts (by omega)
  have hQ1 : p ≤ Q := HQ.out ▸ runE_ge
  have hQ2 : Q ≤ bs.length := HQ.out ▸ runE_le (by omega)
  obtain ⟨c, hc⟩ : ∃ c, bs[p] = c := ⟨_, rfl⟩
  rw [hc] at h0
  have g0 : (((c.toNat : Int) == 48) : Bool) = false := by
    rw [beq_eq_false_iff_ne]
    intro e
    exact h0 (UInt8.toNat_inj.1 (show c.toNat = 48 by omega))
  have HC := Lib.hid hc
  clear h0 hc
  go_enter Tryd.func51, Tryd.ntmps51
  go_upto_region 1 with fail
  generalize hW : w.alloc _ = W0
  have S0 := Lib.hid (P0.start H.out hW)
  clear hW
  have c1 := S0.out.rs.c1
  have sz := S0.out.sz
  go_upto_region 2 with fail
  generalize hW : W0.alloc _ = W1
  have S1 := Lib.hid (Pt.start S0.out 5 [] hW)
  clear hW c1 sz
  have P := here_any (Lib.hid S1.out.rs) hl hcap
  rw [here_at hp, HC.out] at P
  have P := Lib.hid P
  go_upto_region 4 with (go_at_call 47; refine P.out.mono ?_; rintro e w1 ⟨rfl, n, rfl⟩; have S2 := Lib.hid (S1.out.drewN n))
  have P := past_any (Lib.hid isT_digit) (Lib.hid S2.out.rs) hl hcap (by omega)
  rw [HQ.out] at P
  have P := Lib.hid P
  go_upto_region 5 with (go_at_call 45; refine P.out.mono ?_; rintro e w1 ⟨rfl, H1, B1⟩; have S3 := Lib.hid (S2.out.call H1.out B1.out))
  have PH : Hid (∀ n, Calls Tryd.prog 47 #[.pointer (some ⟨R, 0, none⟩)] (w1.drewN n) fun e w' => e = .returned (byV 46) ∧ ∃ m, w' = w1.drewN m) := Lib.hid fun n => h1 ▸ Calls.quiet_of (here_any (Lib.hid (S3.out.rs.drewN n)) hl hcap)
  clear h1
  have c0 := S3.out.rs.c0
  have c1 := S3.out.rs.c1
  have g2 : ¬ (((Q : Int) : Int) + 1 < (bs.length : Int)) := by omega
  go_quiet (with_reducible exact PH.out _)
  have S4 := Lib.hid (S3.out.drewN nq)
  generalize w1.drewN nq = W4 at S4 ⊢
  clear c0 c1 g2
  go_upto_region 9 with fail
  obtain ⟨b, off, rfl, _⟩ := S4.out.rs.rb (by omega)
  have hcv := conv_drew1 (cap := cb - p) S4.out.rs.rb p (Q - p) (Q) (by omega) (by omega)
  have hQc : Q ≤ cb := by omega
  have hcp : ¬ cb = p := by omega
  have hpq : p ≤ Q := by omega
  have c0 := S4.out.rs.c0
  have c1 := S4.out.rs.c1
  have t1 := S4.out.t1
  have t2 := S4.out.t2
  have tf := S4.out.tf
  go_region
  clear hcv c0 c1 t1 t2 tf
  generalize hW : World.setCell _ _ _ = W8
  have S8 := Lib.hid ((S4.out.text hA (cutL bs p (Q)) hW).drew)
  clear hW
  cases hb : isInner (hereB bs (Q))
  · have P9 := Lib.hid (bare_ok (Lib.hid S8.out.rs) hl hcap hb)
    go_upto_region 11 with (go_at_call 67; refine P9.out.mono ?_; rintro e w9 ⟨rfl, H9, B9⟩)
    have S9 := Lib.hid (S8.out.call H9.out B9.out)
    have t0 := S9.out.t0
    have t1 := S9.out.t1
    have t2 := S9.out.t2
    have r0 := S9.out.r0
    have r1 := S9.out.r1
    have r2 := S9.out.r2
    have rf := S9.out.rf
    go_wp2_with fail
    clear t0 t1 t2 r0 r1 r2 rf
    generalize hW : World.setCell _ _ _ = W9
    obtain ⟨e0, e1, e2, HR, HB⟩ := S9.out.fin hA hW
    clear hW
    (try simp only [Exit.inBlock, Exit.then])
    refine bodyPost_ret (v := Tv 5 (cutL bs p (Q)) p) (by simp [results, Tv, Tryd.results51, go_sem, e0, e1, e2]) rfl ⟨Lib.hid (Or.inr ⟨hb, rfl, HR.out⟩), HB⟩
  · have P9 := Lib.hid (bare_no (Lib.hid S8.out.rs) hl hcap hb)
    go_wp2_with (go_at_call 67; refine P9.out.mono ?_; rintro e w9 ⟨rfl, B9⟩)
    exact ⟨rfl, Lib.hid (Or.inl ⟨hb, rfl⟩), S8.out.but.trans B9.out⟩

set_option maxRecDepth 100000 in
set_option maxHeartbeats 2000000 in
theorem tnum_d_c {w : World} {R : Nat} {A : Option Addr} {bs : List UInt8} {cb p : Nat} (H : Hid (Rs w R A bs cb p)) (hl : bs.length ≤ 100000000) (hcap : bs.length ≤ cb) (hp : p < bs.length) (h0 : bs[p] ≠ 48) {Q : Nat} (HQ : Hid (runE isDigit bs p = Q)) (h1 : hereB bs (Q) = 46) (h2 : Q + 1 < bs.length) (h3 : isDigit (bs[Q + 1]'h2) = false) :
    Calls Tryd.prog 51 #[.pointer (some ⟨R, 0, none⟩)] w fun e w' => Hid (EndIs R A bs cb 5 (cutL bs p (Q)) (Q) p e w') ∧ Hid (But R w w') := by
  have this := And.intro hp (And.intro hl hcap)
  clear this
  have hA := H.out.lts (by omega)
  have hQ1 : p ≤ Q := HQ.out ▸ runE_ge
  have hQ2 : Q ≤ bs.length := HQ.out ▸ runE_le (by omega)
  obtain ⟨c, hc⟩ : ∃ c, bs[p] = c := ⟨_, rfl⟩
  rw [hc] at h0
  have g0 : (((c.toNat : Int) == 48) : Bool) = false := by
    rw [beq_eq_false_iff_ne]
    intro e
    exact h0 (UInt8.toNat_inj.1 (show c.toNat = 48 by omega))
  have HC := Lib.hid hc
  clear h0 hc
  go_enter Tryd.func51, Tryd.ntmps51
  go_upto_region 1 with fail
  generalize hW : w.alloc _ = W0
  have S0 := Lib.hid (P0.start H.out hW)
  clear hW
  have c1 := S0.out.rs.c1
  have sz := S0.out.sz
  go_upto_region 2 with fail
  generalize hW : W0.alloc _ = W1
  have S1 := Lib.hid (Pt.start S0.out 5 [] hW)
  clear hW c1 sz
  have P := here_any (Lib.hid S1.out.rs) hl hcap
  rw [here_at hp, HC.out] at P
  have P := Lib.hid P
  go_upto_region 4 with (go_at_call 47; refine P.out.mono ?_; rintro e w1 ⟨rfl, n, rfl⟩; have S2 := Lib.hid (S1.out.drewN n))
  have P := past_any (Lib.hid isT_digit) (Lib.hid S2.out.rs) hl hcap (by omega)
  rw [HQ.out] at P
  have P := Lib.hid P
  go_upto_region 5 with (go_at_call 45; refine P.out.mono ?_; rintro e w1 ⟨rfl, H1, B1⟩; have S3 := Lib.hid (S2.out.call H1.out B1.out))
  have PH : Hid (∀ n, Calls Tryd.prog 47 #[.pointer (some ⟨R, 0, none⟩)] (w1.drewN n) fun e w' => e = .returned (byV 46) ∧ ∃ m, w' = w1.drewN m) := Lib.hid fun n => h1 ▸ Calls.quiet_of (here_any (Lib.hid (S3.out.rs.drewN n)) hl hcap)
  clear h1
  have c0 := S3.out.rs.c0
  have c1 := S3.out.rs.c1
  have g2 : ((Q : Int) : Int) + 1 < (bs.length : Int) := by omega
  obtain ⟨b, off, rfl, hck⟩ := S3.out.rs.rb.at_ h2
  have PD : Hid (∀ n, Calls Tryd.prog 50 #[byV (bs[Q + 1]'h2)] (w1.drewN n) fun e w' => e = .returned (.bool false) ∧ ∃ m, w' = w1.drewN m) := Lib.hid fun n => h3 ▸ isT_digit.quiet _ _ n
  generalize bs[Q + 1]'h2 = d2 at hck PD
  clear h3
  go_quiet (first | with_reducible exact PH.out _ | with_reducible exact PD.out _)
  have S4 := Lib.hid (S3.out.drewN nq)
  generalize w1.drewN nq = W4 at S4 ⊢
  clear c0 c1 g2 hck
  go_upto_region 9 with fail
  have hcv := conv_drew1 (cap := cb - p) S4.out.rs.rb p (Q - p) (Q) (by omega) (by omega)
  have hQc : Q ≤ cb := by omega
  have hcp : ¬ cb = p := by omega
  have hpq : p ≤ Q := by omega
  have c0 := S4.out.rs.c0
  have c1 := S4.out.rs.c1
  have t1 := S4.out.t1
  have t2 := S4.out.t2
  have tf := S4.out.tf
  go_region
  clear hcv c0 c1 t1 t2 tf
  generalize hW : World.setCell _ _ _ = W8
  have S8 := Lib.hid ((S4.out.text hA (cutL bs p (Q)) hW).drew)
  clear hW
  cases hb : isInner (hereB bs (Q))
  · have P9 := Lib.hid (bare_ok (Lib.hid S8.out.rs) hl hcap hb)
    go_upto_region 11 with (go_at_call 67; refine P9.out.mono ?_; rintro e w9 ⟨rfl, H9, B9⟩)
    have S9 := Lib.hid (S8.out.call H9.out B9.out)
    have t0 := S9.out.t0
    have t1 := S9.out.t1
    have t2 := S9.out.t2
    have r0 := S9.out.r0
    have r1 := S9.out.r1
    have r2 := S9.out.r2
    have rf := S9.out.rf
    go_wp2_with fail
    clear t0 t1 t2 r0 r1 r2 rf
    generalize hW : World.setCell _ _ _ = W9
    obtain ⟨e0, e1, e2, HR, HB⟩ := S9.out.fin hA hW
    clear hW
    (try simp only [Exit.inBlock, Exit.then])
    refine bodyPost_ret (v := Tv 5 (cutL bs p (Q)) p) (by simp [results, Tv, Tryd.results51, go_sem, e0, e1, e2]) rfl ⟨Lib.hid (Or.inr ⟨hb, rfl, HR.out⟩), HB⟩
  · have P9 := Lib.hid (bare_no (Lib.hid S8.out.rs) hl hcap hb)
    go_wp2_with (go_at_call 67; refine P9.out.mono ?_; rintro e w9 ⟨rfl, B9⟩)
    exact ⟨rfl, Lib.hid (Or.inl ⟨hb, rfl⟩), S8.out.but.trans B9.out⟩


end Go.Proofs.YtmnllioeaaimcaaDoor.tk
