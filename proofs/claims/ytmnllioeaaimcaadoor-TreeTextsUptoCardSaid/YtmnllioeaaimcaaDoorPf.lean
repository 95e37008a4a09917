/- Package token: hexadecimal and binary tokens. -/
import Derived.Test.YtmnllioeaaimcaaDoorPe
namespace Go.Proofs.YtmnllioeaaimcaaDoor.tk
open Go.RowKit

/-- what a token comes to behind which no symbol's byte may stand -/
def EndIs (R : Nat) (A : Option Addr) (bs : List UInt8) (cb k : Nat) (T : List UInt8) (Q p : Nat) (e : Ending) (w' : World) : Prop :=
  isInner (hereB bs Q) = true ∧ e = Pan Q ∨ isInner (hereB bs Q) = false ∧ e = .returned (Tv k T p) ∧ Rs w' R A bs cb Q

set_option maxRecDepth 100000 in
set_option maxHeartbeats 2000000 in
theorem tbits_none {w : World} {R : Nat} {A : Option Addr} {bs : List UInt8} {cb p : Nat} (H : Hid (Rs w R A bs cb p)) (hl : bs.length ≤ 100000000) (hcap : bs.length ≤ cb) (hp : p < bs.length) (h : hereB bs (p + 1) ≠ 120) (h2 : hereB bs (p + 1) ≠ 98) :
    Calls Tryd.prog 52 #[.pointer (some ⟨R, 0, none⟩)] w fun e w' => e = Pan (p + 1) ∧ Hid (But R w w') := by
  have this := And.intro hp (And.intro hl hcap)
  clear this
  have hA := H.out.lts (by omega)
  obtain ⟨d, hd⟩ : ∃ d, hereB bs (p + 1) = d := ⟨_, rfl⟩
  rw [hd] at h h2
  have g1 : (((d.toNat : Int) == 120) : Bool) = false := by
    rw [beq_eq_false_iff_ne]
    intro e
    exact h (UInt8.toNat_inj.1 (show d.toNat = 120 by omega))
  have g2 : (((d.toNat : Int) == 98) : Bool) = false := by
    rw [beq_eq_false_iff_ne]
    intro e
    exact h2 (UInt8.toNat_inj.1 (show d.toNat = 98 by omega))
  have HD := Lib.hid hd
  clear h h2 hd
  go_enter Tryd.func52, Tryd.ntmps52
  go_upto_region 1 with fail
  generalize hW : w.alloc _ = W0
  have S0 := Lib.hid (P0.start H.out hW)
  clear hW
  have c1 := S0.out.rs.c1
  have sz := S0.out.sz
  go_upto_region 2 with fail
  generalize hW : W0.alloc _ = W1
  have S1 := Lib.hid (Pt.start S0.out 7 [] hW)
  clear hW c1 sz
  have c1 := S1.out.rs.c1
  have f1 := S1.out.rs.f1
  go_upto_region 4 with fail
  clear c1 f1
  generalize hW : World.setCell _ _ _ = W_S2
  have S2 := Lib.hid (S1.out.go (p + 1) hW)
  clear hW
  have P := here_any (Lib.hid S2.out.rs) hl hcap
  rw [HD.out] at P
  have P := Lib.hid P
  go_wp2_with (first | (go_at_call 47; refine P.out.mono ?_; rintro e w1 ⟨rfl, n, rfl⟩; have S3 := Lib.hid (S2.out.drewN n)) | (go_at_call 70; refine (refuse_any (Lib.hid S3.out.rs)).mono ?_; rintro e w1 ⟨rfl, rfl⟩))
  exact ⟨rfl, rfl, S3.out.but⟩

set_option maxRecDepth 100000 in
set_option maxHeartbeats 2000000 in
theorem tbits_hex_no {w : World} {R : Nat} {A : Option Addr} {bs : List UInt8} {cb p : Nat} (H : Hid (Rs w R A bs cb p)) (hl : bs.length ≤ 100000000) (hcap : bs.length ≤ cb) (hp : p < bs.length) (h1 : hereB bs (p + 1) = 120) (hp2 : p + 1 < bs.length) (h : runE isHex bs (p + 2) = p + 2) :
    Calls Tryd.prog 52 #[.pointer (some ⟨R, 0, none⟩)] w fun e w' => e = Pan (p + 2) ∧ Hid (But R w w') := by
  have this := And.intro hp (And.intro hl hcap)
  clear this
  have hA := H.out.lts (by omega)
  go_enter Tryd.func52, Tryd.ntmps52
  go_upto_region 1 with fail
  generalize hW : w.alloc _ = W0
  have S0 := Lib.hid (P0.start H.out hW)
  clear hW
  have c1 := S0.out.rs.c1
  have sz := S0.out.sz
  go_upto_region 2 with fail
  generalize hW : W0.alloc _ = W1
  have S1 := Lib.hid (Pt.start S0.out 7 [] hW)
  clear hW c1 sz
  have c1 := S1.out.rs.c1
  have f1 := S1.out.rs.f1
  go_upto_region 4 with fail
  clear c1 f1
  generalize hW : World.setCell _ _ _ = W_S2
  have S2 := Lib.hid (S1.out.go (p + 1) hW)
  clear hW
  have P := here_any (Lib.hid S2.out.rs) hl hcap
  rw [h1] at P
  have P := Lib.hid P
  clear h1
  go_upto_region 9 with (go_at_call 47; refine P.out.mono ?_; rintro e w1 ⟨rfl, n, rfl⟩; have S3 := Lib.hid (S2.out.drewN n))
  have c1 := S3.out.rs.c1
  have f1 := S3.out.rs.f1
  go_upto_region 10 with fail
  clear c1 f1
  generalize hW : World.setCell _ _ _ = W_S5
  have S5 := Lib.hid (S3.out.go (p + 2) hW)
  clear hW
  have P2 := Lib.hid (some_no (Lib.hid isT_hex) (Lib.hid S5.out.rs) hl hcap (by omega) (by omega) h)
  clear h
  go_wp2_with (go_at_call 71; refine P2.out.mono ?_; rintro e w1 ⟨rfl, B1⟩)
  exact ⟨rfl, rfl, S5.out.but.trans B1.out⟩

set_option maxRecDepth 100000 in
set_option maxHeartbeats 2000000 in
theorem tbits_hex_some {w : World} {R : Nat} {A : Option Addr} {bs : List UInt8} {cb p : Nat} (H : Hid (Rs w R A bs cb p)) (hl : bs.length ≤ 100000000) (hcap : bs.length ≤ cb) (hp : p < bs.length) (h1 : hereB bs (p + 1) = 120) (hp2 : p + 1 < bs.length) (h : runE isHex bs (p + 2) ≠ p + 2) :
    Calls Tryd.prog 52 #[.pointer (some ⟨R, 0, none⟩)] w fun e w' => Hid (EndIs R A bs cb 7 (cutL bs (p + 2) (runE isHex bs (p + 2))) (runE isHex bs (p + 2)) p e w') ∧ Hid (But R w w') := by
  have this := And.intro hp (And.intro hl hcap)
  clear this
  have hA := H.out.lts (by omega)
  obtain ⟨Q, hQ⟩ : ∃ Q, runE isHex bs (p + 2) = Q := ⟨_, rfl⟩
  rw [hQ] at h ⊢
  have hQ1 : p + 2 ≤ Q := hQ ▸ runE_ge
  have hQ2 : Q ≤ bs.length := hQ ▸ runE_le (by omega)
  have HQ := Lib.hid hQ
  clear hQ
  go_enter Tryd.func52, Tryd.ntmps52
  go_upto_region 1 with fail
  generalize hW : w.alloc _ = W0
  have S0 := Lib.hid (P0.start H.out hW)
  clear hW
  have c1 := S0.out.rs.c1
  have sz := S0.out.sz
  go_upto_region 2 with fail
  generalize hW : W0.alloc _ = W1
  have S1 := Lib.hid (Pt.start S0.out 7 [] hW)
  clear hW c1 sz
  have c1 := S1.out.rs.c1
  have f1 := S1.out.rs.f1
  go_upto_region 4 with fail
  clear c1 f1
  generalize hW : World.setCell _ _ _ = W_S2
  have S2 := Lib.hid (S1.out.go (p + 1) hW)
  clear hW
  have P := here_any (Lib.hid S2.out.rs) hl hcap
  rw [h1] at P
  have P := Lib.hid P
  clear h1
  go_upto_region 9 with (go_at_call 47; refine P.out.mono ?_; rintro e w1 ⟨rfl, n, rfl⟩; have S3 := Lib.hid (S2.out.drewN n))
  have c1 := S3.out.rs.c1
  have f1 := S3.out.rs.f1
  go_upto_region 10 with fail
  clear c1 f1
  generalize hW : World.setCell _ _ _ = W_S5
  have S5 := Lib.hid (S3.out.go (p + 2) hW)
  clear hW
  have P2 := some_ok (Lib.hid isT_hex) (Lib.hid S5.out.rs) hl hcap (by omega) (by omega) (by rw [HQ.out]; exact h)
  rw [HQ.out] at P2
  have P2 := Lib.hid P2
  clear h
  go_upto_region 11 with (go_at_call 71; refine P2.out.mono ?_; rintro e w1 ⟨rfl, H1, B1⟩; have S6 := Lib.hid (S5.out.call H1.out B1.out); have t1 := S6.out.t1; have tf := S6.out.tf)
  clear t1 tf
  generalize hW : World.setCell _ _ _ = W7
  have S7 := Lib.hid (S6.out.text hA (cutL bs (p + 2) Q) hW)
  clear hW
  cases hb : isInner (hereB bs (Q))
  · have P9 := Lib.hid (bare_ok (Lib.hid S7.out.rs) hl hcap hb)
    go_upto_region 12 with (go_at_call 67; refine P9.out.mono ?_; rintro e w9 ⟨rfl, H9, B9⟩)
    have S9 := Lib.hid (S7.out.call H9.out B9.out)
    have t0 := S9.out.t0
    have t1 := S9.out.t1
    have t2 := S9.out.t2
    have r0 := S9.out.r0
    have r1 := S9.out.r1
    have r2 := S9.out.r2
    have rf := S9.out.rf
    go_wp2_with fail
    clear t0 t1 t2 r0 r1 r2 rf
    generalize hW : World.setCell _ _ _ = W9
    obtain ⟨e0, e1, e2, HR, HB⟩ := S9.out.fin hA hW
    clear hW
    (try simp only [Exit.inBlock, Exit.then])
    refine bodyPost_ret (v := Tv 7 (cutL bs (p + 2) Q) p) (by simp [results, Tv, Tryd.results52, go_sem, e0, e1, e2]) rfl ⟨Lib.hid (Or.inr ⟨hb, rfl, HR.out⟩), HB⟩
  · have P9 := Lib.hid (bare_no (Lib.hid S7.out.rs) hl hcap hb)
    go_wp2_with (go_at_call 67; refine P9.out.mono ?_; rintro e w9 ⟨rfl, B9⟩)
    exact ⟨rfl, Lib.hid (Or.inl ⟨hb, rfl⟩), S7.out.but.trans B9.out⟩

set_option maxRecDepth 100000 in
set_option maxHeartbeats 2000000 in
theorem tbits_bin_no {w : World} {R : Nat} {A : Option Addr} {bs : List UInt8} {cb p : Nat} (H : Hid (Rs w R A bs cb p)) (hl : bs.length ≤ 100000000) (hcap : bs.length ≤ cb) (hp : p < bs.length) (h1 : hereB bs (p + 1) = 98) (hp2 : p + 1 < bs.length) (h : runE isBin bs (p + 2) = p + 2) :
    Calls Tryd.prog 52 #[.pointer (some ⟨R, 0, none⟩)] w fun e w' => e = Pan (p + 2) ∧ Hid (But R w w') := by
  have this := And.intro hp (And.intro hl hcap)
  clear this
  have hA := H.out.lts (by omega)
  go_enter Tryd.func52, Tryd.ntmps52
  go_upto_region 1 with fail
  generalize hW : w.alloc _ = W0
  have S0 := Lib.hid (P0.start H.out hW)
  clear hW
  have c1 := S0.out.rs.c1
  have sz := S0.out.sz
  go_upto_region 2 with fail
  generalize hW : W0.alloc _ = W1
  have S1 := Lib.hid (Pt.start S0.out 7 [] hW)
  clear hW c1 sz
  have c1 := S1.out.rs.c1
  have f1 := S1.out.rs.f1
  go_upto_region 4 with fail
  clear c1 f1
  generalize hW : World.setCell _ _ _ = W_S2
  have S2 := Lib.hid (S1.out.go (p + 1) hW)
  clear hW
  have P := here_any (Lib.hid S2.out.rs) hl hcap
  rw [h1] at P
  have P := Lib.hid P
  clear h1
  go_upto_region 8 with (go_at_call 47; refine P.out.mono ?_; rintro e w1 ⟨rfl, n, rfl⟩; have S3 := Lib.hid (S2.out.drewN n))
  have t0 := S3.out.t0
  have tf := S3.out.tf
  go_upto_region 9 with fail
  clear t0 tf
  generalize hW : World.setCell _ _ _ = W5
  have S4 := Lib.hid (S3.out.kind hA 8 hW)
  clear hW
  have c1 := S4.out.rs.c1
  have f1 := S4.out.rs.f1
  go_upto_region 10 with fail
  clear c1 f1
  generalize hW : World.setCell _ _ _ = W_S5
  have S5 := Lib.hid (S4.out.go (p + 2) hW)
  clear hW
  have P2 := Lib.hid (some_no (Lib.hid isT_bit) (Lib.hid S5.out.rs) hl hcap (by omega) (by omega) h)
  clear h
  go_wp2_with (go_at_call 71; refine P2.out.mono ?_; rintro e w1 ⟨rfl, B1⟩)
  exact ⟨rfl, rfl, S5.out.but.trans B1.out⟩

set_option maxRecDepth 100000 in
set_option maxHeartbeats 2000000 in
theorem tbits_bin_some {w : World} {R : Nat} {A : Option Addr} {bs : List UInt8} {cb p : Nat} (H : Hid (Rs w R A bs cb p)) (hl : bs.length ≤ 100000000) (hcap : bs.length ≤ cb) (hp : p < bs.length) (h1 : hereB bs (p + 1) = 98) (hp2 : p + 1 < bs.length) (h : runE isBin bs (p + 2) ≠ p + 2) :
    Calls Tryd.prog 52 #[.pointer (some ⟨R, 0, none⟩)] w fun e w' => Hid (EndIs R A bs cb 8 (cutL bs (p + 2) (runE isBin bs (p + 2))) (runE isBin bs (p + 2)) p e w') ∧ Hid (But R w w') := by
  have this := And.intro hp (And.intro hl hcap)
  clear this
  have hA := H.out.lts (by omega)
  obtain ⟨Q, hQ⟩ : ∃ Q, runE isBin bs (p + 2) = Q := ⟨_, rfl⟩
  rw [hQ] at h ⊢
  have hQ1 : p + 2 ≤ Q := hQ ▸ runE_ge
  have hQ2 : Q ≤ bs.length := hQ ▸ runE_le (by omega)
  have HQ := Lib.hid hQ
  clear hQ
  go_enter Tryd.func52, Tryd.ntmps52
  go_upto_region 1 with fail
  generalize hW : w.alloc _ = W0
  have S0 := Lib.hid (P0.start H.out hW)
  clear hW
  have c1 := S0.out.rs.c1
  have sz := S0.out.sz
  go_upto_region 2 with fail
  generalize hW : W0.alloc _ = W1
  have S1 := Lib.hid (Pt.start S0.out 7 [] hW)
  clear hW c1 sz
  have c1 := S1.out.rs.c1
  have f1 := S1.out.rs.f1
  go_upto_region 4 with fail
  clear c1 f1
  generalize hW : World.setCell _ _ _ = W_S2
  have S2 := Lib.hid (S1.out.go (p + 1) hW)
  clear hW
  have P := here_any (Lib.hid S2.out.rs) hl hcap
  rw [h1] at P
  have P := Lib.hid P
  clear h1
  go_upto_region 8 with (go_at_call 47; refine P.out.mono ?_; rintro e w1 ⟨rfl, n, rfl⟩; have S3 := Lib.hid (S2.out.drewN n))
  have t0 := S3.out.t0
  have tf := S3.out.tf
  go_upto_region 9 with fail
  clear t0 tf
  generalize hW : World.setCell _ _ _ = W5
  have S4 := Lib.hid (S3.out.kind hA 8 hW)
  clear hW
  have c1 := S4.out.rs.c1
  have f1 := S4.out.rs.f1
  go_upto_region 10 with fail
  clear c1 f1
  generalize hW : World.setCell _ _ _ = W_S5
  have S5 := Lib.hid (S4.out.go (p + 2) hW)
  clear hW
  have P2 := some_ok (Lib.hid isT_bit) (Lib.hid S5.out.rs) hl hcap (by omega) (by omega) (by rw [HQ.out]; exact h)
  rw [HQ.out] at P2
  have P2 := Lib.hid P2
  clear h
  go_upto_region 11 with (go_at_call 71; refine P2.out.mono ?_; rintro e w1 ⟨rfl, H1, B1⟩; have S6 := Lib.hid (S5.out.call H1.out B1.out); have t1 := S6.out.t1; have tf := S6.out.tf)
  clear t1 tf
  generalize hW : World.setCell _ _ _ = W7
  have S7 := Lib.hid (S6.out.text hA (cutL bs (p + 2) Q) hW)
  clear hW
  cases hb : isInner (hereB bs (Q))
  · have P9 := Lib.hid (bare_ok (Lib.hid S7.out.rs) hl hcap hb)
    go_upto_region 12 with (go_at_call 67; refine P9.out.mono ?_; rintro e w9 ⟨rfl, H9, B9⟩)
    have S9 := Lib.hid (S7.out.call H9.out B9.out)
    have t0 := S9.out.t0
    have t1 := S9.out.t1
    have t2 := S9.out.t2
    have r0 := S9.out.r0
    have r1 := S9.out.r1
    have r2 := S9.out.r2
    have rf := S9.out.rf
    go_wp2_with fail
    clear t0 t1 t2 r0 r1 r2 rf
    generalize hW : World.setCell _ _ _ = W9
    obtain ⟨e0, e1, e2, HR, HB⟩ := S9.out.fin hA hW
    clear hW
    (try simp only [Exit.inBlock, Exit.then])
    refine bodyPost_ret (v := Tv 8 (cutL bs (p + 2) Q) p) (by simp [results, Tv, Tryd.results52, go_sem, e0, e1, e2]) rfl ⟨Lib.hid (Or.inr ⟨hb, rfl, HR.out⟩), HB⟩
  · have P9 := Lib.hid (bare_no (Lib.hid S7.out.rs) hl hcap hb)
    go_wp2_with (go_at_call 67; refine P9.out.mono ?_; rintro e w9 ⟨rfl, B9⟩)
    exact ⟨rfl, Lib.hid (Or.inl ⟨hb, rfl⟩), S7.out.but.trans B9.out⟩

end Go.Proofs.YtmnllioeaaimcaaDoor.tk
