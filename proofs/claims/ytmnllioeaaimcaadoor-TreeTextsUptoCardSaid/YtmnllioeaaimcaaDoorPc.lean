/- Package token: the reader: refusing; runs of bytes; one byte that must be next. -/
import Derived.Test.YtmnllioeaaimcaaDoorPb
namespace Go.Proofs.YtmnllioeaaimcaaDoor.tk
open Go.RowKit

/-- the panic with the fault at place q -/
abbrev Pan (q : Nat) : Ending := .panicked [{ v := .iface 27 (.agg #[.int .i64 10, .int .i64 (q : Int)]), recovered := false }]

set_option maxRecDepth 100000 in
set_option maxHeartbeats 1000000 in
theorem refuse_any {w : World} {R : Nat} {A : Option Addr} {bs : List UInt8} {cb p : Nat} (H : Hid (Rs w R A bs cb p)) :
    Calls Tryd.prog 70 #[.pointer (some ⟨R, 0, none⟩)] w fun e w' => e = Pan p ∧ w = w' := by
  have c1 := H.out.c1
  go_enter Tryd.func70, Tryd.ntmps70
  go_wp2_with fail
  exact ⟨rfl, rfl, rfl⟩

theorem conv_drew {W : World} {b off cap : Nat} {bs : List UInt8} (h : Rb W (some ⟨b, off, none⟩) bs) (i n j : Nat) (hi : n = j - i) (hj : j ≤ bs.length) (m : Nat) :
    (convert 44 9 (.slice (some ⟨b, off + i, none⟩) n cap)).run Tryd.prog (W.drewN m) = .ok (.string ⟨(cutL bs i j).toArray⟩) (W.drewN m) := cut_conv (h.drewN m) i n j hi hj

theorem cut_len {bs : List UInt8} {i j : Nat} (hj : j ≤ bs.length) : (cutL bs i j).length = j - i := by unfold cutL; rw [List.length_drop, List.length_take]; omega
set_option maxRecDepth 100000 in
set_option maxHeartbeats 1000000 in
theorem run_any {f : FuncId} {t : UInt8 → Bool} (ht : Hid (IsT f t)) {w : World} {R : Nat} {A : Option Addr} {bs : List UInt8} {cb p : Nat} (H : Hid (Rs w R A bs cb p)) (hl : bs.length ≤ 100000000) (hcap : bs.length ≤ cb) (hp : p ≤ bs.length) (h0 : 0 < bs.length) :
    Calls Tryd.prog 72 #[.pointer (some ⟨R, 0, none⟩), fnV f] w fun e w' => e = .returned (.string ⟨(cutL bs p (runE t bs p)).toArray⟩) ∧ Hid (Rs w' R A bs cb (runE t bs p)) ∧ Hid (But R w w') := by
  have c1 := H.out.c1
  have HP := Lib.hid hp
  have hQ1 : p ≤ runE t bs p := runE_ge
  have hQ2 : runE t bs p ≤ bs.length := runE_le hp
  obtain ⟨b, off, rfl, _⟩ := H.out.rb h0
  obtain ⟨Q, hQ⟩ : ∃ Q, runE t bs p = Q := ⟨_, rfl⟩
  have P := past_any ht H hl hcap hp
  rw [hQ] at P hQ1 hQ2 ⊢
  clear hQ
  have P := Lib.hid P
  go_enter Tryd.func72, Tryd.ntmps72
  go_wp2_with (go_at_call 45; refine P.out.mono ?_; rintro e w1 ⟨rfl, H1, B1⟩)
  clear c1
  have c0 := H1.out.c0
  have c1 := H1.out.c1
  have hQc : Q ≤ cb := Nat.le_trans hQ2 hcap
  by_cases hcp : cb = p
  · obtain rfl : Q = p := by omega
    subst hcp
    have hcv : ∀ m, (convert 44 9 (.slice (some ⟨b, off, none⟩) 0 0)).run Tryd.prog (w1.drewN m) = .ok (.string ⟨(cutL bs cb cb).toArray⟩) (w1.drewN m) := fun m => by
      have h := conv_drew (cap := 0) H1.out.rb 0 0 0 rfl (Nat.zero_le _) m
      have e1 : cutL bs cb cb = [] := List.length_eq_zero_iff.1 (by rw [cut_len hQ2]; omega)
      have e2 : cutL bs 0 0 = [] := List.length_eq_zero_iff.1 (by rw [cut_len (Nat.zero_le _)])
      rw [e1]
      rw [e2] at h
      exact h
    go_quiet (fail)
    go_wp2_with fail
    go_ret
    exact ⟨rfl, H1.out.drewN _, B1.out.drewN _⟩
  · have hcv := conv_drew (cap := cb - p) H1.out.rb p (Q - p) Q rfl hQ2
    go_quiet (fail)
    go_wp2_with fail
    go_ret
    exact ⟨rfl, H1.out.drewN _, B1.out.drewN _⟩
theorem str_empty {l : List UInt8} (h : l.length = 0) : (⟨l.toArray⟩ : ByteArray) = ⟨#[]⟩ := by
  rw [List.length_eq_zero_iff.1 h]
theorem str_full {l : List UInt8} (h : l.length ≠ 0) : (((⟨l.toArray⟩ : ByteArray).toList == []) : Bool) = false := by
  rw [ByteArray.toList_eq]
  simp only [beq_eq_false_iff_ne]
  intro e
  exact h (by rw [e]; rfl)

set_option maxRecDepth 100000 in
set_option maxHeartbeats 1000000 in
theorem some_no {f : FuncId} {t : UInt8 → Bool} (ht : Hid (IsT f t)) {w : World} {R : Nat} {A : Option Addr} {bs : List UInt8} {cb p : Nat} (H : Hid (Rs w R A bs cb p)) (hl : bs.length ≤ 100000000) (hcap : bs.length ≤ cb) (hp : p ≤ bs.length) (h0 : 0 < bs.length) (h : runE t bs p = p) :
    Calls Tryd.prog 71 #[.pointer (some ⟨R, 0, none⟩), fnV f] w fun e w' => e = Pan p ∧ Hid (But R w w') := by
  have hQ1 : p ≤ runE t bs p := runE_ge
  have hQ2 : runE t bs p ≤ bs.length := runE_le hp
  obtain ⟨Q, hQ⟩ : ∃ Q, runE t bs p = Q := ⟨_, rfl⟩
  have P := run_any ht H hl hcap hp h0
  rw [hQ] at P hQ1 hQ2 h
  clear hQ
  have P := Lib.hid P
  subst h
  have HL := str_empty (l := cutL bs Q Q) (by rw [cut_len hQ2]; omega)
  rw [HL] at P
  clear HL
  go_enter Tryd.func71, Tryd.ntmps71
  go_wp2_with (first | (go_at_call 72; refine P.out.mono ?_; rintro e w1 ⟨rfl, H1, B1⟩) | (go_at_call 70; refine (refuse_any H1).mono ?_; rintro e w1 ⟨rfl, rfl⟩))
  exact ⟨rfl, rfl, B1⟩

set_option maxRecDepth 100000 in
set_option maxHeartbeats 1000000 in
theorem some_ok {f : FuncId} {t : UInt8 → Bool} (ht : Hid (IsT f t)) {w : World} {R : Nat} {A : Option Addr} {bs : List UInt8} {cb p : Nat} (H : Hid (Rs w R A bs cb p)) (hl : bs.length ≤ 100000000) (hcap : bs.length ≤ cb) (hp : p ≤ bs.length) (h0 : 0 < bs.length) (h : runE t bs p ≠ p) :
    Calls Tryd.prog 71 #[.pointer (some ⟨R, 0, none⟩), fnV f] w fun e w' => e = .returned (.string ⟨(cutL bs p (runE t bs p)).toArray⟩) ∧ Hid (Rs w' R A bs cb (runE t bs p)) ∧ Hid (But R w w') := by
  have hQ1 : p ≤ runE t bs p := runE_ge
  have hQ2 : runE t bs p ≤ bs.length := runE_le hp
  obtain ⟨Q, hQ⟩ : ∃ Q, runE t bs p = Q := ⟨_, rfl⟩
  have P := run_any ht H hl hcap hp h0
  rw [hQ] at P hQ1 hQ2 h ⊢
  clear hQ
  have P := Lib.hid P
  obtain ⟨s, hs⟩ : ∃ s, (⟨(cutL bs p Q).toArray⟩ : ByteArray) = s := ⟨_, rfl⟩
  have HL := str_full (l := cutL bs p Q) (by rw [cut_len hQ2]; omega)
  rw [hs] at P HL ⊢
  clear hs
  go_enter Tryd.func71, Tryd.ntmps71
  go_wp2_with (go_at_call 72; refine P.out.mono ?_; rintro e w1 ⟨rfl, H1, B1⟩)
  go_ret
  exact ⟨rfl, H1, B1⟩

set_option maxRecDepth 100000 in
set_option maxHeartbeats 1000000 in
theorem pass_ok {c : UInt8} {w : World} {R : Nat} {A : Option Addr} {bs : List UInt8} {cb p : Nat} (H : Hid (Rs w R A bs cb p)) (hl : bs.length ≤ 100000000) (hcap : bs.length ≤ cb) (hp : p ≤ bs.length) (h : hereB bs p = c) :
    Calls Tryd.prog 74 #[.pointer (some ⟨R, 0, none⟩), byV c] w fun e w' => e = .returned (.tuple #[]) ∧ Hid (Rs w' R A bs cb (p + 1)) ∧ Hid (But R w w') := by
  have P := Lib.hid (here_any H hl hcap)
  rw [h] at P
  clear h
  go_enter Tryd.func74, Tryd.ntmps74
  have g : (((c.toNat : Int) != (c.toNat : Int)) : Bool) = false := by simp
  go_upto_region 2 with (go_at_call 47; refine P.out.mono ?_; rintro e w1 ⟨rfl, n, rfl⟩)
  clear g
  have c1 := (H.out.drewN n).c1
  have f1 := (H.out.drewN n).f1
  go_wp2_with fail
  generalize hW : World.setCell _ _ _ = W2
  obtain ⟨HR2, HB2⟩ := (H.out.drewN n).go (p + 1) hW
  have HB : Hid (But R w W2) := Lib.hid (((But.refl R w).drewN n).trans HB2)
  go_end0
  exact ⟨rfl, HR2, HB⟩

set_option maxRecDepth 100000 in
set_option maxHeartbeats 1000000 in
theorem pass_no {c : UInt8} {w : World} {R : Nat} {A : Option Addr} {bs : List UInt8} {cb p : Nat} (H : Hid (Rs w R A bs cb p)) (hl : bs.length ≤ 100000000) (hcap : bs.length ≤ cb) (h : hereB bs p ≠ c) :
    Calls Tryd.prog 74 #[.pointer (some ⟨R, 0, none⟩), byV c] w fun e w' => e = Pan p ∧ Hid (But R w w') := by
  have P := Lib.hid (here_any H hl hcap)
  obtain ⟨d, hd⟩ : ∃ d, hereB bs p = d := ⟨_, rfl⟩
  rw [hd] at P h
  clear hd
  have hne : d.toNat ≠ c.toNat := fun e => h (UInt8.toNat_inj.1 e)
  have g : (((d.toNat : Int) != (c.toNat : Int)) : Bool) = true := by rw [bne_iff_ne]; omega
  clear h hne
  go_enter Tryd.func74, Tryd.ntmps74
  go_wp2_with (first | (go_at_call 47; refine P.out.mono ?_; rintro e w1 ⟨rfl, n, rfl⟩; have H1 := Lib.hid (H.out.drewN n)) | (go_at_call 70; refine (refuse_any H1).mono ?_; rintro e w1 ⟨rfl, rfl⟩))
  exact ⟨rfl, rfl, (But.refl R w).drewN n⟩

set_option maxRecDepth 100000 in
set_option maxHeartbeats 1000000 in
theorem bare_ok {w : World} {R : Nat} {A : Option Addr} {bs : List UInt8} {cb p : Nat} (H : Hid (Rs w R A bs cb p)) (hl : bs.length ≤ 100000000) (hcap : bs.length ≤ cb) (h : isInner (hereB bs p) = false) :
    Calls Tryd.prog 67 #[.pointer (some ⟨R, 0, none⟩)] w fun e w' => e = .returned (.tuple #[]) ∧ Hid (Rs w' R A bs cb p) ∧ Hid (But R w w') := by
  have P := Lib.hid (here_any H hl hcap)
  obtain ⟨d, hd⟩ : ∃ d, hereB bs p = d := ⟨_, rfl⟩
  rw [hd] at P h
  clear hd
  have S : Hid (∀ W, Calls Tryd.prog 56 #[byV d] W fun e w' => e = .returned (.bool false) ∧ W = w') := Lib.hid fun W => h ▸ psymbol_any d W
  clear h
  go_enter Tryd.func67, Tryd.ntmps67
  go_wp2_with (first | (go_at_call 47; refine P.out.mono ?_; rintro e w1 ⟨rfl, n, rfl⟩; have H1 := Lib.hid (H.out.drewN n)) | (go_at_call 56; refine (S.out _).mono ?_; rintro e w1 ⟨rfl, rfl⟩))
  go_end0
  exact ⟨rfl, H1, (But.refl R w).drewN n⟩

set_option maxRecDepth 100000 in
set_option maxHeartbeats 1000000 in
theorem bare_no {w : World} {R : Nat} {A : Option Addr} {bs : List UInt8} {cb p : Nat} (H : Hid (Rs w R A bs cb p)) (hl : bs.length ≤ 100000000) (hcap : bs.length ≤ cb) (h : isInner (hereB bs p) = true) :
    Calls Tryd.prog 67 #[.pointer (some ⟨R, 0, none⟩)] w fun e w' => e = Pan p ∧ Hid (But R w w') := by
  have P := Lib.hid (here_any H hl hcap)
  obtain ⟨d, hd⟩ : ∃ d, hereB bs p = d := ⟨_, rfl⟩
  rw [hd] at P h
  clear hd
  have S : Hid (∀ W, Calls Tryd.prog 56 #[byV d] W fun e w' => e = .returned (.bool true) ∧ W = w') := Lib.hid fun W => h ▸ psymbol_any d W
  clear h
  go_enter Tryd.func67, Tryd.ntmps67
  go_wp2_with (first | (go_at_call 47; refine P.out.mono ?_; rintro e w1 ⟨rfl, n, rfl⟩; have H1 := Lib.hid (H.out.drewN n)) | (go_at_call 56; refine (S.out _).mono ?_; rintro e w1 ⟨rfl, rfl⟩) | (go_at_call 70; refine (refuse_any H1).mono ?_; rintro e w1 ⟨rfl, rfl⟩))
  exact ⟨rfl, rfl, (But.refl R w).drewN n⟩

end Go.Proofs.YtmnllioeaaimcaaDoor.tk
