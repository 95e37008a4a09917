/- The statement TokenCut, walked: for every text and every place to cut at. -/
import Derived.Laws.BitsLemmas
import Derived.Test.YtcikleomipbkmaaPo
namespace Go.Proofs.Ytcikleomipbkmaa.tk
open Go.RowKit

theorem i64_and65535 (n : Int) : bits .and .i64 n 65535 = n % 65536 := by
  have h1 : (BitVec.ofInt 64 65535).toNat = 2 ^ 16 - 1 := by decide
  have key : (BitVec.ofInt 64 n &&& BitVec.ofInt 64 65535).toNat = (n % ((2 ^ 64 : Nat) : Int)).toNat % 2 ^ 16 := by
    rw [BitVec.toNat_and, BitVec.toNat_ofInt, h1, Nat.and_two_pow_sub_one_eq_mod]
  show IntKind.i64.wrap ((BitVec.ofInt 64 n &&& BitVec.ofInt 64 65535).toNat : Nat) = n % 65536
  rw [key, IntKind.wrap_i64]
  omega
theorem cut_place (m : Int) (n : Nat) : ∃ k : Nat, (bits .and .i64 m 65535).tmod ((n : Int) + 1) = (k : Int) ∧ k ≤ n := by
  rw [i64_and65535]
  have h0 : 0 ≤ m % 65536 := Int.emod_nonneg _ (by omega)
  rw [Int.tmod_eq_emod_of_nonneg h0]
  have h1 : 0 ≤ (m % 65536) % ((n : Int) + 1) := Int.emod_nonneg _ (by omega)
  have h2 : (m % 65536) % ((n : Int) + 1) < (n : Int) + 1 := Int.emod_lt_of_pos _ (by omega)
  exact ⟨((m % 65536) % ((n : Int) + 1)).toNat, by omega, by omega⟩
theorem Rb.take {w : World} {A : Option Addr} {bs : List UInt8} (h : Rb w A bs) (k : Nat) : Rb w A (bs.take k) := fun hn => by
  rw [List.length_take] at hn
  obtain ⟨b, off, e, hlt, hc⟩ := h (by omega)
  refine ⟨b, off, e, hlt, fun j hj => ?_⟩
  rw [List.length_take] at hj
  rw [hc j (by omega), List.getElem_take]
theorem Tr.take {w : World} {A : Option Addr} {D : List Tk} (h : Tr w A D) (k : Nat) : Tr w A (D.take k) := fun hn => by
  rw [List.length_take] at hn
  obtain ⟨g, e, hc⟩ := h (by omega)
  refine ⟨g, e, fun j hj => ?_⟩
  rw [List.length_take] at hj
  have := hc j (by omega)
  simp only [List.getElem_take]
  exact this
theorem Tr.drewN {w : World} {A : Option Addr} {D : List Tk} (h : Tr w A D) (n : Nat) : Tr (w.drewN n) A D := h
theorem take_le {α : Type} {l : List α} {k : Nat} (h : k ≤ l.length) : (l.take k).length = k := by rw [List.length_take]; omega
theorem read_cut {bs : List UInt8} {k : Nat} {X L : List Tk} (hx : readL (bs.take k) = .ok X) (hl : readL bs = .ok L) : X.length ≤ L.length ∧ X.take (X.length - 1) = L.take (X.length - 1) := by
  have h1 := readL_ok.1 hx
  have h2 := readL_ok.1 hl
  rw [← List.take_append_drop k bs] at h2
  exact rd_cut h1 h2
theorem read_at {bs : List UInt8} {q : Nat} (h : readL bs = .error q) : q ≤ bs.length := by
  have := bad_at (readL_bad.1 h)
  omega
theorem same_at {w : World} {A B : Option Addr} {D E : List Tk} {n c d : Nat} (hn : D.length = n) (hm : E.length = n) (ha : Hid (Tr w A D)) (hb : Hid (Tr w B E)) (hl : n ≤ 100000) :
    Calls Try.prog 8 #[.slice A n c, .slice B n d] w fun e w' => e = .returned (.bool (decide (D = E))) ∧ ∃ n, w' = w.drewN n := by
  have := refSame_any (c := c) (d := d) ha hb (by omega) (by omega)
  rw [hn, hm] at this
  exact this
theorem pread_at {w : World} {A : Option Addr} {bs : List UInt8} {n cb q : Nat} {m : Int} (hn : bs.length = n) (hb : Hid (Rb w A bs)) (hl : n ≤ 100000) (hcap : n ≤ cb) (hm : n ≤ m.toNat) (h : readL bs = .error q) : Calls Try.prog 6 #[.slice A n cb, .int .i64 m] w fun e w' => e = .returned (.tuple #[.slice none 0 0, .agg #[.int .i64 10, .int .i64 (q : Int)]]) ∧ Hid (Below w.heap.size w w') := by
  subst hn
  exact pread_bad hb hl hcap hm h
theorem pread_at2 {w : World} {A : Option Addr} {bs : List UInt8} {n cb : Nat} {m : Int} {D : List Tk} (hn : bs.length = n) (hb : Hid (Rb w A bs)) (hl : n ≤ 100000) (hcap : n ≤ cb) (hm : n ≤ m.toNat) (h : readL bs = .ok D) : Calls Try.prog 6 #[.slice A n cb, .int .i64 m] w fun e w' => ∃ A3 c, e = .returned (.tuple #[.slice A3 D.length c, .agg #[.int .i64 0, .int .i64 0]]) ∧ D.length ≤ n ∧ D.length ≤ c ∧ Hid (w'.ownsRow w.heap.size 35 3 (.slice A3 D.length c) D.length (tkCells D)) ∧ Hid (Below w.heap.size w w') := by
  subst hn
  exact pread_ok hb hl hcap hm h

set_option maxRecDepth 100000 in
set_option maxHeartbeats 2000000 in
theorem cut_long {w : World} {A : Option Addr} {n cb : Nat} {m : Int} (h : 2000 < n) :
    Calls Try.prog 4 #[.slice A n cb, .int .i64 m] w fun e w' => e = .returned (.bool true) ∧ Hid (Below w.heap.size w w') := by
  have g5 : (2000 : Int) < (n : Int) := by omega
  go_enter Try.func4, Try.ntmps4
  go_wp2_with (go_at_call 5; refine (speaks_at w).mono ?_; rintro e w1 ⟨rfl, HB1⟩)
  go_ret
  exact ⟨rfl, HB1⟩
set_option maxRecDepth 100000 in
set_option maxHeartbeats 2000000 in
theorem cut_bad {w : World} {A : Option Addr} {bs : List UInt8} {cb : Nat} {m : Int} (hb : Hid (Rb w A bs)) (hl : bs.length ≤ 2000) (hcap : bs.length ≤ cb) {q : Nat} (h : readL bs = .error q) :
    Calls Try.prog 4 #[.slice A bs.length cb, .int .i64 m] w fun e w' => e = .returned (.bool true) ∧ Hid (Below w.heap.size w w') := by
  have g5 : ¬ ((2000 : Int) < (bs.length : Int)) := by omega
  have HE := Lib.hid h
  clear h
  go_enter Try.func4, Try.ntmps4
  go_upto_region 5 with (go_at_call 5; refine (speaks_at w).mono ?_; rintro e w1 ⟨rfl, HB1⟩)
  have RB1 := Lib.hid (hb.out.below HB1.out)
  go_upto_region 6 with (go_at_call 6; refine (pread_bad RB1 (by omega) hcap (by omega) HE.out).mono ?_; rintro e w3 ⟨rfl, HB3⟩)
  generalize hW : w3.alloc _ = W4
  have HF_W4 : Hid (Bk W4 w3.heap.size 27 #[.int .i64 10, .int .i64 (q : Int)]) := Lib.hid (hW ▸ Bk.new w3 _ _)
  have HX_W4 : Hid (Below w3.heap.size w3 W4) := Lib.hid (hW ▸ (Below.refl _ _).alloc (Nat.le_refl _) _)
  have HB_W4 : Hid (Below w1.heap.size w1 W4) := Lib.hid (hW ▸ HB3.out.alloc HB3.out.size _)
  clear hW
  have f0 : W4.cell? ⟨w3.heap.size, 0, none⟩ = some (.int .i64 10) := HF_W4.out.cell 0
  have f1 : W4.cell? ⟨w3.heap.size, 1, none⟩ = some (.int .i64 (q : Int)) := HF_W4.out.cell 1
  go_wp2_with fail
  go_ret
  exact ⟨rfl, Lib.hid (HB1.out.trans (HB_W4.out.mono HB1.out.size))⟩

set_option maxRecDepth 100000 in
set_option maxHeartbeats 2000000 in
theorem cut_cutbad {w : World} {A : Option Addr} {bs : List UInt8} {cb : Nat} {m : Int} (hb : Hid (Rb w A bs)) (hl : bs.length ≤ 2000) (hcap : bs.length ≤ cb) {D : List Tk} (h : readL bs = .ok D) {k : Nat} (hk : k ≤ bs.length) (hp : (bits .and .i64 m 65535).tmod ((bs.length : Int) + 1) = (k : Int)) {q : Nat} (hx : readL (bs.take k) = .error q) :
    Calls Try.prog 4 #[.slice A bs.length cb, .int .i64 m] w fun e w' => e = .returned (.bool true) ∧ Hid (Below w.heap.size w w') := by
  have g5 : ¬ ((2000 : Int) < (bs.length : Int)) := by omega
  have HE := Lib.hid h
  have HP := Lib.hid hp
  have HY := Lib.hid hx
  have hq : q ≤ k := by have := read_at hx; rw [take_le hk] at this; exact this
  clear h hp hx
  go_enter Try.func4, Try.ntmps4
  go_upto_region 5 with (go_at_call 5; refine (speaks_at w).mono ?_; rintro e w1 ⟨rfl, HB1⟩)
  have RB1 := Lib.hid (hb.out.below HB1.out)
  go_upto_region 6 with (go_at_call 6; refine (pread_ok RB1 (by omega) hcap (by omega) HE.out).mono ?_; rintro e w3 ⟨A3, c3, rfl, hD3, hDc, HO3, HB3⟩)
  generalize hW : w3.alloc _ = W4
  have HF_W4 : Hid (Bk W4 w3.heap.size 27 #[.int .i64 0, .int .i64 0]) := Lib.hid (hW ▸ Bk.new w3 _ _)
  have HX_W4 : Hid (Below w3.heap.size w3 W4) := Lib.hid (hW ▸ (Below.refl _ _).alloc (Nat.le_refl _) _)
  have HB_W4 : Hid (Below w1.heap.size w1 W4) := Lib.hid (hW ▸ HB3.out.alloc HB3.out.size _)
  clear hW
  have f0 : W4.cell? ⟨w3.heap.size, 0, none⟩ = some (.int .i64 0) := HF_W4.out.cell 0
  have f1 : W4.cell? ⟨w3.heap.size, 1, none⟩ = some (.int .i64 0) := HF_W4.out.cell 1
  go_upto_region 9 with fail
  clear f0 f1
  rw [HP.out]
  have hkc : k ≤ cb := by omega
  have RB4 := Lib.hid ((RB1.out.below HB_W4.out).take k)
  go_upto_region 10 with (go_at_call 6; refine (pread_at (take_le hk) RB4 (by omega) hkc (by omega) HY.out).mono ?_; rintro e w5 ⟨rfl, HB5⟩)
  generalize hW : w5.alloc _ = W6
  have HF_W6 : Hid (Bk W6 w5.heap.size 27 #[.int .i64 10, .int .i64 (q : Int)]) := Lib.hid (hW ▸ Bk.new w5 _ _)
  have HX_W6 : Hid (Below w5.heap.size w5 W6) := Lib.hid (hW ▸ (Below.refl _ _).alloc (Nat.le_refl _) _)
  have HB_W6 : Hid (Below W4.heap.size W4 W6) := Lib.hid (hW ▸ HB5.out.alloc HB5.out.size _)
  clear hW
  have f0 : W6.cell? ⟨w5.heap.size, 0, none⟩ = some (.int .i64 10) := HF_W6.out.cell 0
  have f1 : W6.cell? ⟨w5.heap.size, 1, none⟩ = some (.int .i64 (q : Int)) := HF_W6.out.cell 1
  go_wp2_with fail
  go_ret
  exact ⟨rfl, Lib.hid (HB1.out.trans ((HB_W4.out.trans (HB_W6.out.mono HB_W4.out.size)).mono HB1.out.size))⟩

set_option maxRecDepth 100000 in
set_option maxHeartbeats 2000000 in
theorem cut_cutok {w : World} {A : Option Addr} {bs : List UInt8} {cb : Nat} {m : Int} (hb : Hid (Rb w A bs)) (hl : bs.length ≤ 2000) (hcap : bs.length ≤ cb) {D : List Tk} (h : readL bs = .ok D) {k : Nat} (hk : k ≤ bs.length) (hp : (bits .and .i64 m 65535).tmod ((bs.length : Int) + 1) = (k : Int)) {X : List Tk} (hx : readL (bs.take k) = .ok X) :
    Calls Try.prog 4 #[.slice A bs.length cb, .int .i64 m] w fun e w' => e = .returned (.bool true) ∧ Hid (Below w.heap.size w w') := by
  have g5 : ¬ ((2000 : Int) < (bs.length : Int)) := by omega
  have HE := Lib.hid h
  have HP := Lib.hid hp
  have HY := Lib.hid hx
  have HC := Lib.hid (read_cut hx h)
  have hXD := HC.out.1
  clear h hp hx
  go_enter Try.func4, Try.ntmps4
  go_upto_region 5 with (go_at_call 5; refine (speaks_at w).mono ?_; rintro e w1 ⟨rfl, HB1⟩)
  have RB1 := Lib.hid (hb.out.below HB1.out)
  go_upto_region 6 with (go_at_call 6; refine (pread_ok RB1 (by omega) hcap (by omega) HE.out).mono ?_; rintro e w3 ⟨A3, c3, rfl, hD3, hDc, HO3, HB3⟩)
  generalize hW : w3.alloc _ = W4
  have HF_W4 : Hid (Bk W4 w3.heap.size 27 #[.int .i64 0, .int .i64 0]) := Lib.hid (hW ▸ Bk.new w3 _ _)
  have HX_W4 : Hid (Below w3.heap.size w3 W4) := Lib.hid (hW ▸ (Below.refl _ _).alloc (Nat.le_refl _) _)
  have HB_W4 : Hid (Below w1.heap.size w1 W4) := Lib.hid (hW ▸ HB3.out.alloc HB3.out.size _)
  clear hW
  have f0 : W4.cell? ⟨w3.heap.size, 0, none⟩ = some (.int .i64 0) := HF_W4.out.cell 0
  have f1 : W4.cell? ⟨w3.heap.size, 1, none⟩ = some (.int .i64 0) := HF_W4.out.cell 1
  go_upto_region 9 with fail
  clear f0 f1
  rw [HP.out]
  have hkc : k ≤ cb := by omega
  have RB4 := Lib.hid ((RB1.out.below HB_W4.out).take k)
  go_upto_region 10 with (go_at_call 6; refine (pread_at2 (take_le hk) RB4 (by omega) hkc (by omega) HY.out).mono ?_; rintro e w5 ⟨A5, c5, rfl, hX5, hXc, HO5, HB5⟩)
  generalize hW : w5.alloc _ = W6
  have HF_W6 : Hid (Bk W6 w5.heap.size 27 #[.int .i64 0, .int .i64 0]) := Lib.hid (hW ▸ Bk.new w5 _ _)
  have HX_W6 : Hid (Below w5.heap.size w5 W6) := Lib.hid (hW ▸ (Below.refl _ _).alloc (Nat.le_refl _) _)
  have HB_W6 : Hid (Below W4.heap.size W4 W6) := Lib.hid (hW ▸ HB5.out.alloc HB5.out.size _)
  clear hW
  have f0 : W6.cell? ⟨w5.heap.size, 0, none⟩ = some (.int .i64 0) := HF_W6.out.cell 0
  have f1 : W6.cell? ⟨w5.heap.size, 1, none⟩ = some (.int .i64 0) := HF_W6.out.cell 1
  have T1 : Hid (Tr W6 A5 (X.take (X.length - 1))) := Lib.hid ((Tr.of_own (own_below HO5.out HX_W6.out)).take _)
  have T2 : Hid (Tr W6 A3 (D.take (X.length - 1))) := Lib.hid ((Tr.of_own (own_below (own_below HO3.out HX_W4.out) HB_W6.out)).take _)
  have g6 : ¬ ((D.length : Int) < (X.length : Int)) := by omega
  go_upto_region 15 with fail
  have e9 : max ((X.length : Int) - 1) 0 = ((X.length - 1 : Nat) : Int) := by omega
  rw [e9]
  clear e9
  obtain ⟨j, hj⟩ : ∃ j, X.length - 1 = j := ⟨_, rfl⟩
  rw [hj] at T1 T2 HC ⊢
  have hj1 : j ≤ X.length := by omega
  have hj2 : j ≤ D.length := by omega
  have hj3 : j ≤ c3 := by omega
  have hj5 : j ≤ c5 := by omega
  have PS : Hid (∀ n, Calls Try.prog 8 #[.slice A5 j c5, .slice A3 j c3] (W6.drewN n) fun e w' => e = .returned (.bool true) ∧ ∃ m, w' = W6.drewN m) := Lib.hid fun n => by
    have := same_at (w := W6.drewN n) (c := c5) (d := c3) (take_le hj1) (take_le hj2) (Lib.hid (T1.out.drewN n)) (Lib.hid (T2.out.drewN n)) (by omega)
    rw [decide_eq_true HC.out.2] at this
    exact Calls.quiet_of this
  clear hj
  go_quiet (with_reducible exact PS.out _)
  go_wp2_with fail
  go_ret
  exact ⟨rfl, Lib.hid (below_drewN (HB1.out.trans ((HB_W4.out.trans (HB_W6.out.mono HB_W4.out.size)).mono HB1.out.size)) _)⟩

theorem cut_any {w : World} {A : Option Addr} {bs : List UInt8} {cb : Nat} {m : Int} (hb : Rb w A bs) (hcap : bs.length ≤ cb) :
    Calls Try.prog 4 #[.slice A bs.length cb, .int .i64 m] w fun e w' => e = .returned (.bool true) ∧ Hid (Below w.heap.size w w') := by
  by_cases h5 : 2000 < bs.length
  · exact cut_long h5
  cases hr : readL bs with
  | error q => exact cut_bad (Lib.hid hb) (by omega) hcap hr
  | ok D =>
    obtain ⟨k, hp, hk⟩ := cut_place m bs.length
    cases hx : readL (bs.take k) with
    | error q => exact cut_cutbad (Lib.hid hb) (by omega) hcap hr hk hp hx
    | ok X => exact cut_cutok (Lib.hid hb) (by omega) hcap hr hk hp hx
end Go.Proofs.Ytcikleomipbkmaa.tk
