/- The statement TokenReads, walked: for every text and every bound. -/
import Derived.Laws.AppendOwnNone
import Derived.Test.YtcikleomipbkmaaPn
namespace Go.Proofs.Ytcikleomipbkmaa.tk
open Go.RowKit

theorem rb_own {w : World} {base n c : Nat} {A : Option Addr} {bs : List UInt8} (h : w.ownsRow base 5 1 (.slice A n c) n (Lib.byteCells bs)) (hn : n = bs.length) : Rb w A bs := fun h0 => by
  subst hn
  rcases h.2 with ⟨_, e2⟩ | ⟨g, cap, cur, e1, _, e3, _⟩
  · omega
  · have hA : A = some ⟨g, 0, none⟩ := by injection e1
    subst hA
    refine ⟨g, 0, rfl, (Array.getElem?_eq_some_iff.1 e3).1, fun j hj => ?_⟩
    rw [Nat.zero_add, h.cellAt j (by omega)]
    simp [Lib.byteCells, List.getElem?_map, List.getElem?_eq_getElem hj]
theorem bytes_at {w : World} {ad : Addr} {bs : List UInt8} (h : Rb w (some ad) bs) : ∀ j u, (Lib.byteCells bs)[j]? = some u → w.cell? (ad.add j) = some u := by
  intro j u hj
  obtain ⟨b, off, ea, _⟩ := h (by
    have := (List.getElem?_eq_some_iff.1 hj).1
    have : j < bs.length := by simpa [Lib.byteCells] using this
    omega)
  injection ea with ea
  subst ea
  have hl : j < bs.length := by
    have := (List.getElem?_eq_some_iff.1 hj).1
    simpa [Lib.byteCells] using this
  have e : (⟨b, off, none⟩ : Addr).add j = ⟨b, off + j, none⟩ := by unfold Addr.add; split <;> simp_all
  rw [e, h.cells hl, ← hj]
  simp [Lib.byteCells, List.getElem?_map, List.getElem?_eq_getElem hl]
theorem bytes_one (bs : List UInt8) : ∀ u ∈ Lib.byteCells bs, u.oneCell' = true := by
  intro u hu
  simp [Lib.byteCells] at hu
  obtain ⟨c, _, rfl⟩ := hu
  rfl
theorem tr_nil (w : World) : Tr w none [] := fun h => absurd h (by simp)
section
variable {w : World} {A : Option Addr} {bs : List UInt8} {cb q : Nat} {m : Int} {D : List Tk} (hb : Hid (Rb w A bs)) (hl : bs.length ≤ 100000) (hcap : bs.length ≤ cb)
include hb hl hcap
theorem rread_lim (h : m.toNat < bs.length) : Calls Try.prog 7 #[.slice A bs.length cb, .int .i64 m] w fun e w' => e = .returned (.tuple #[.slice none 0 0, .int .i64 4, .int .i64 ((m.toNat : Nat) : Int)]) ∧ Hid (Below w.heap.size w w') :=
  (refRead_any hb hl hcap).mono (by
    rintro e w' ⟨hE, hB⟩
    rcases hE.out with ⟨_, rfl⟩ | ⟨h2, _⟩ | ⟨h2, _⟩
    · exact ⟨rfl, hB⟩
    · omega
    · omega)
theorem rread_bad (hm : bs.length ≤ m.toNat) (h : readL bs = .error q) : Calls Try.prog 7 #[.slice A bs.length cb, .int .i64 m] w fun e w' => e = .returned (.tuple #[.slice none 0 0, .int .i64 10, .int .i64 (q : Int)]) ∧ Hid (Below w.heap.size w w') :=
  (refRead_any hb hl hcap).mono (by
    rintro e w' ⟨hE, hB⟩
    rcases hE.out with ⟨h2, rfl⟩ | ⟨_, q', hq', rfl⟩ | ⟨_, D, A3, c, hd, _⟩
    · omega
    · have := h.symm.trans hq'
      cases this
      exact ⟨rfl, hB⟩
    · have := h.symm.trans hd
      cases this)
theorem rread_ok (hm : bs.length ≤ m.toNat) (h : readL bs = .ok D) : Calls Try.prog 7 #[.slice A bs.length cb, .int .i64 m] w fun e w' => ∃ A3 c, e = .returned (.tuple #[.slice A3 D.length c, .int .i64 0, .int .i64 0]) ∧ D.length ≤ bs.length ∧ Hid (w'.ownsRow w.heap.size 35 3 (.slice A3 D.length c) D.length (tkCells D)) ∧ Hid (Below w.heap.size w w') :=
  (refRead_any hb hl hcap).mono (by
    rintro e w' ⟨hE, hB⟩
    rcases hE.out with ⟨h2, rfl⟩ | ⟨_, q', hq', rfl⟩ | ⟨_, D', A3, c, hd, h1, h2, h3⟩
    · omega
    · have := h.symm.trans hq'
      cases this
    · have := h.symm.trans hd
      cases this
      exact ⟨A3, c, h2, h1, h3, hB⟩)
theorem pread_limM {M : Nat} (hM : m.toNat = M) (h : M < bs.length) : Calls Try.prog 6 #[.slice A bs.length cb, .int .i64 m] w fun e w' => e = .returned (.tuple #[.slice none 0 0, .agg #[.int .i64 4, .int .i64 (M : Int)]]) ∧ Hid (Below w.heap.size w w') := by
  subst hM
  exact pread_lim hb hl hcap h
theorem rread_limM {M : Nat} (hM : m.toNat = M) (h : M < bs.length) : Calls Try.prog 7 #[.slice A bs.length cb, .int .i64 m] w fun e w' => e = .returned (.tuple #[.slice none 0 0, .int .i64 4, .int .i64 (M : Int)]) ∧ Hid (Below w.heap.size w w') := by
  subst hM
  exact rread_lim hb hl hcap h
end
/-- speaks, as it is met -/
theorem speaks_at (w : World) : Calls Try.prog 5 #[] w fun e w' => e = .returned (.bool true) ∧ Hid (Below w.heap.size w w') := speaks_any w

theorem below_drewN {B : Nat} {w w' : World} (h : Below B w w') (n : Nat) : Below B w (w'.drewN n) := ⟨h.os, h.tape, h.output, h.size, h.block⟩
theorem info_u8b : (Try.prog.info? 5).map (fun i => (i.zero, i.size, i.bytes)) = some (some (.int .u8 0), 1, 1) := info_u8

set_option maxRecDepth 100000 in
set_option maxHeartbeats 2000000 in
theorem reads_lim {w : World} {m : Int} {ad : Addr} {bs : List UInt8} {cb : Nat} (hb : Hid (Rb w (some ad) bs)) (hl : bs.length ≤ 5000) (hcap : bs.length ≤ cb) {M : Nat} (hM : m.toNat = M) (h : M < bs.length) :
    Calls Try.prog 3 #[.slice (some ad) bs.length cb, .int .i64 m] w fun e w' => e = .returned (.bool true) ∧ Hid (Below w.heap.size w w') := by
  obtain ⟨i0, hi, hz0, hz1, hz2⟩ := info_parts info_u8
  have g5 : ¬ ((5000 : Int) < (bs.length : Int)) := by omega
  have HM := Lib.hid h
  have HX := Lib.hid hM
  clear h hM
  go_enter Try.func3, Try.ntmps3
  go_upto_region 5 with (go_at_call 5; refine (speaks_at w).mono ?_; rintro e w1 ⟨rfl, HB1⟩)
  have RB1 := Lib.hid (hb.out.below HB1.out)
  have HL1 : Hid (0 + bs.length ≤ maxLen ∧ (0 + bs.length) * 1 ≤ 140737488355328) := by constructor <;> (try unfold maxLen) <;> omega
  go_upto_region 6 with (first | (at_builtin; refine wpList_append_own _ rfl _ _ 22 rfl w1.heap.size 5 i0 (.int .u8 0) 1 1 Try.underlying22 hi hz0 hz1 hz2 rfl (by decide) _ 0 [] rfl (World.ownsRow_made w1 #[] 0 (Nat.le_refl _) (by unfold maxLen; omega) rfl) ad bs.length cb (Lib.byteCells bs) rfl (by rw [Lib.byteCells_length, Nat.mul_one]) (bytes_at (RB1.out.below ((Below.refl _ _).alloc (Nat.le_refl _) _))) (bytes_one bs) HL1.out.1 HL1.out.2 (by simp) ?_; intro v2 w2 hown hgrow _; obtain ⟨A2, c2, rfl, hc2⟩ := own_row3 hown; have HB2 : Hid (Below w1.heap.size w1 w2) := Lib.hid (((Below.refl w1.heap.size w1).alloc (Nat.le_refl _) (.cells #[] 5)).grown hgrow (by simp) (fun g hg => by injection hg with hg; simp at hg; omega)); rw [Nat.zero_add] at hown hc2; rw [Nat.zero_add, List.nil_append] at *; have RB2 := Lib.hid (rb_own hown rfl); clear hgrow hown) | (go_at_call 6; refine (pread_limM RB2 (by omega) hc2 HX.out HM.out).mono ?_; rintro e w3 ⟨rfl, HB3⟩))
  have HB3' : Hid (Below w1.heap.size w1 w3) := Lib.hid (HB2.out.trans (HB3.out.mono HB2.out.size))
  generalize hW : w3.alloc _ = W4
  have HF4 : Hid (Bk W4 w3.heap.size 27 #[.int .i64 4, .int .i64 (M : Int)]) := Lib.hid (hW ▸ Bk.new w3 _ _)
  have HB4 : Hid (Below w1.heap.size w1 W4) := Lib.hid (hW ▸ HB3'.out.alloc HB3'.out.size _)
  have HX4 : Hid (Below w3.heap.size w3 W4) := Lib.hid (hW ▸ (Below.refl _ _).alloc (Nat.le_refl _) _)
  clear hW
  have RB4 := Lib.hid (RB1.out.below HB4.out)
  go_upto_region 7 with (go_at_call 7; refine (rread_limM RB4 (by omega) hcap HX.out HM.out).mono ?_; rintro e w5 ⟨rfl, HB5⟩)
  have HF5 := HF4.out.below HB5.out HF4.out.lt
  have f0 : w5.cell? ⟨w3.heap.size, 0, none⟩ = some (.int .i64 4) := HF5.cell 0
  have f1 : w5.cell? ⟨w3.heap.size, 1, none⟩ = some (.int .i64 (M : Int)) := HF5.cell 1
  have HBF : Hid (Below w.heap.size w w5) := Lib.hid (HB1.out.trans ((HB4.out.trans (HB5.out.mono HB4.out.size)).mono HB1.out.size))
  go_wp2_with (go_at_call 8; refine (refSame_any (D := []) (E := []) (A := none) (B := none) (c := 0) (d := 0) (Lib.hid (tr_nil w5)) (Lib.hid (tr_nil w5)) (by decide) (by decide)).mono ?_; rintro e w6 ⟨rfl, n6, rfl⟩)
  go_ret
  exact ⟨ret_bool (by simp), Lib.hid (below_drewN HBF.out n6)⟩

set_option maxRecDepth 100000 in
set_option maxHeartbeats 2000000 in
theorem reads_bad {w : World} {m : Int} {ad : Addr} {bs : List UInt8} {cb : Nat} (hb : Hid (Rb w (some ad) bs)) (hl : bs.length ≤ 5000) (hcap : bs.length ≤ cb) (hm : bs.length ≤ m.toNat) {q : Nat} (h : readL bs = .error q) :
    Calls Try.prog 3 #[.slice (some ad) bs.length cb, .int .i64 m] w fun e w' => e = .returned (.bool true) ∧ Hid (Below w.heap.size w w') := by
  obtain ⟨i0, hi, hz0, hz1, hz2⟩ := info_parts info_u8
  have g5 : ¬ ((5000 : Int) < (bs.length : Int)) := by omega
  have HM := Lib.hid hm
  have HE := Lib.hid h
  clear h hm
  go_enter Try.func3, Try.ntmps3
  go_upto_region 5 with (go_at_call 5; refine (speaks_at w).mono ?_; rintro e w1 ⟨rfl, HB1⟩)
  have RB1 := Lib.hid (hb.out.below HB1.out)
  have HL1 : Hid (0 + bs.length ≤ maxLen ∧ (0 + bs.length) * 1 ≤ 140737488355328) := by constructor <;> (try unfold maxLen) <;> omega
  go_upto_region 6 with (first | (at_builtin; refine wpList_append_own _ rfl _ _ 22 rfl w1.heap.size 5 i0 (.int .u8 0) 1 1 Try.underlying22 hi hz0 hz1 hz2 rfl (by decide) _ 0 [] rfl (World.ownsRow_made w1 #[] 0 (Nat.le_refl _) (by unfold maxLen; omega) rfl) ad bs.length cb (Lib.byteCells bs) rfl (by rw [Lib.byteCells_length, Nat.mul_one]) (bytes_at (RB1.out.below ((Below.refl _ _).alloc (Nat.le_refl _) _))) (bytes_one bs) HL1.out.1 HL1.out.2 (by simp) ?_; intro v2 w2 hown hgrow _; obtain ⟨A2, c2, rfl, hc2⟩ := own_row3 hown; have HB2 : Hid (Below w1.heap.size w1 w2) := Lib.hid (((Below.refl w1.heap.size w1).alloc (Nat.le_refl _) (.cells #[] 5)).grown hgrow (by simp) (fun g hg => by injection hg with hg; simp at hg; omega)); rw [Nat.zero_add] at hown hc2; rw [Nat.zero_add, List.nil_append] at *; have RB2 := Lib.hid (rb_own hown rfl); clear hgrow hown) | (go_at_call 6; refine (pread_bad RB2 (by omega) hc2 HM.out HE.out).mono ?_; rintro e w3 ⟨rfl, HB3⟩))
  have HB3' : Hid (Below w1.heap.size w1 w3) := Lib.hid (HB2.out.trans (HB3.out.mono HB2.out.size))
  generalize hW : w3.alloc _ = W4
  have HF4 : Hid (Bk W4 w3.heap.size 27 #[.int .i64 10, .int .i64 (q : Int)]) := Lib.hid (hW ▸ Bk.new w3 _ _)
  have HB4 : Hid (Below w1.heap.size w1 W4) := Lib.hid (hW ▸ HB3'.out.alloc HB3'.out.size _)
  have HX4 : Hid (Below w3.heap.size w3 W4) := Lib.hid (hW ▸ (Below.refl _ _).alloc (Nat.le_refl _) _)
  clear hW
  have RB4 := Lib.hid (RB1.out.below HB4.out)
  go_upto_region 7 with (go_at_call 7; refine (rread_bad RB4 (by omega) hcap HM.out HE.out).mono ?_; rintro e w5 ⟨rfl, HB5⟩)
  have HF5 := HF4.out.below HB5.out HF4.out.lt
  have f0 : w5.cell? ⟨w3.heap.size, 0, none⟩ = some (.int .i64 10) := HF5.cell 0
  have f1 : w5.cell? ⟨w3.heap.size, 1, none⟩ = some (.int .i64 (q : Int)) := HF5.cell 1
  have HBF : Hid (Below w.heap.size w w5) := Lib.hid (HB1.out.trans ((HB4.out.trans (HB5.out.mono HB4.out.size)).mono HB1.out.size))
  go_wp2_with (go_at_call 8; refine (refSame_any (D := []) (E := []) (A := none) (B := none) (c := 0) (d := 0) (Lib.hid (tr_nil w5)) (Lib.hid (tr_nil w5)) (by decide) (by decide)).mono ?_; rintro e w6 ⟨rfl, n6, rfl⟩)
  go_ret
  exact ⟨ret_bool (by simp), Lib.hid (below_drewN HBF.out n6)⟩

set_option maxRecDepth 100000 in
set_option maxHeartbeats 2000000 in
theorem reads_ok {w : World} {m : Int} {ad : Addr} {bs : List UInt8} {cb : Nat} (hb : Hid (Rb w (some ad) bs)) (hl : bs.length ≤ 5000) (hcap : bs.length ≤ cb) (hm : bs.length ≤ m.toNat) {D : List Tk} (h : readL bs = .ok D) :
    Calls Try.prog 3 #[.slice (some ad) bs.length cb, .int .i64 m] w fun e w' => e = .returned (.bool true) ∧ Hid (Below w.heap.size w w') := by
  obtain ⟨i0, hi, hz0, hz1, hz2⟩ := info_parts info_u8
  have g5 : ¬ ((5000 : Int) < (bs.length : Int)) := by omega
  have HM := Lib.hid hm
  have HE := Lib.hid h
  clear h hm
  go_enter Try.func3, Try.ntmps3
  go_upto_region 5 with (go_at_call 5; refine (speaks_at w).mono ?_; rintro e w1 ⟨rfl, HB1⟩)
  have RB1 := Lib.hid (hb.out.below HB1.out)
  have HL1 : Hid (0 + bs.length ≤ maxLen ∧ (0 + bs.length) * 1 ≤ 140737488355328) := by constructor <;> (try unfold maxLen) <;> omega
  go_upto_region 6 with (first | (at_builtin; refine wpList_append_own _ rfl _ _ 22 rfl w1.heap.size 5 i0 (.int .u8 0) 1 1 Try.underlying22 hi hz0 hz1 hz2 rfl (by decide) _ 0 [] rfl (World.ownsRow_made w1 #[] 0 (Nat.le_refl _) (by unfold maxLen; omega) rfl) ad bs.length cb (Lib.byteCells bs) rfl (by rw [Lib.byteCells_length, Nat.mul_one]) (bytes_at (RB1.out.below ((Below.refl _ _).alloc (Nat.le_refl _) _))) (bytes_one bs) HL1.out.1 HL1.out.2 (by simp) ?_; intro v2 w2 hown hgrow _; obtain ⟨A2, c2, rfl, hc2⟩ := own_row3 hown; have HB2 : Hid (Below w1.heap.size w1 w2) := Lib.hid (((Below.refl w1.heap.size w1).alloc (Nat.le_refl _) (.cells #[] 5)).grown hgrow (by simp) (fun g hg => by injection hg with hg; simp at hg; omega)); rw [Nat.zero_add] at hown hc2; rw [Nat.zero_add, List.nil_append] at *; have RB2 := Lib.hid (rb_own hown rfl); clear hgrow hown) | (go_at_call 6; refine (pread_ok RB2 (by omega) hc2 HM.out HE.out).mono ?_; rintro e w3 ⟨A3, c3, rfl, hD3, hDc, HO3, HB3⟩))
  have HB3' : Hid (Below w1.heap.size w1 w3) := Lib.hid (HB2.out.trans (HB3.out.mono HB2.out.size))
  generalize hW : w3.alloc _ = W4
  have HF4 : Hid (Bk W4 w3.heap.size 27 #[.int .i64 0, .int .i64 0]) := Lib.hid (hW ▸ Bk.new w3 _ _)
  have HB4 : Hid (Below w1.heap.size w1 W4) := Lib.hid (hW ▸ HB3'.out.alloc HB3'.out.size _)
  have HX4 : Hid (Below w3.heap.size w3 W4) := Lib.hid (hW ▸ (Below.refl _ _).alloc (Nat.le_refl _) _)
  clear hW
  have RB4 := Lib.hid (RB1.out.below HB4.out)
  go_upto_region 7 with (go_at_call 7; refine (rread_ok RB4 (by omega) hcap HM.out HE.out).mono ?_; rintro e w5 ⟨A5, c5, rfl, hD5, HO5, HB5⟩)
  have HF5 := HF4.out.below HB5.out HF4.out.lt
  have f0 : w5.cell? ⟨w3.heap.size, 0, none⟩ = some (.int .i64 0) := HF5.cell 0
  have f1 : w5.cell? ⟨w3.heap.size, 1, none⟩ = some (.int .i64 0) := HF5.cell 1
  have HBF : Hid (Below w.heap.size w w5) := Lib.hid (HB1.out.trans ((HB4.out.trans (HB5.out.mono HB4.out.size)).mono HB1.out.size))
  have T1 : Hid (Tr w5 A3 D) := Lib.hid (Tr.of_own (own_below (own_below HO3.out HX4.out) HB5.out))
  have T2 : Hid (Tr w5 A5 D) := Lib.hid (Tr.of_own HO5.out)
  go_wp2_with (go_at_call 8; refine (refSame_any T1 T2 (by omega) (by omega)).mono ?_; rintro e w6 ⟨rfl, n6, rfl⟩)
  go_ret
  exact ⟨ret_bool (by simp), Lib.hid (below_drewN HBF.out n6)⟩

set_option maxRecDepth 100000 in
set_option maxHeartbeats 2000000 in
theorem reads_ok_nil {w : World} {m : Int} :
    Calls Try.prog 3 #[.slice none 0 0, .int .i64 m] w fun e w' => e = .returned (.bool true) ∧ Hid (Below w.heap.size w w') := by
  have rn : readL [] = .ok [] := by simp [readL, readF, skipL]
  obtain ⟨i0, hi, hz0, hz1, hz2⟩ := info_parts info_u8
  go_enter Try.func3, Try.ntmps3
  go_upto_region 5 with (go_at_call 5; refine (speaks_at w).mono ?_; rintro e w1 ⟨rfl, HB1⟩)
  go_upto_region 6 with (first | (at_builtin; refine wpList_append_own_none rfl _ _ 22 rfl w1.heap.size 5 i0 1 Try.underlying22 hi _ 0 [] rfl (World.ownsRow_made w1 #[] 0 (Nat.le_refl _) (by unfold maxLen; omega) rfl) rfl ?_; have HB2 : Hid (Below w1.heap.size w1 (w1.alloc (.cells #[] 5))) := Lib.hid ((Below.refl _ _).alloc (Nat.le_refl _) _)) | (go_at_call 6; refine (pread_ok (D := []) (A := some ⟨w1.heap.size, 0, none⟩) (bs := []) (cb := 0) (Lib.hid (fun h => absurd h (by simp))) (by decide) (by decide) (by simp) rn).mono ?_; rintro e w3 ⟨A3, c3, rfl, hD3, hDc, HO3, HB3⟩))
  have HB3' : Hid (Below w1.heap.size w1 w3) := Lib.hid (HB2.out.trans (HB3.out.mono HB2.out.size))
  generalize hW : w3.alloc _ = W4
  have HF4 : Hid (Bk W4 w3.heap.size 27 #[.int .i64 0, .int .i64 0]) := Lib.hid (hW ▸ Bk.new w3 _ _)
  have HB4 : Hid (Below w1.heap.size w1 W4) := Lib.hid (hW ▸ HB3'.out.alloc HB3'.out.size _)
  have HX4 : Hid (Below w3.heap.size w3 W4) := Lib.hid (hW ▸ (Below.refl _ _).alloc (Nat.le_refl _) _)
  clear hW
  go_upto_region 7 with (go_at_call 7; refine (rread_ok (D := []) (A := none) (bs := []) (cb := 0) (Lib.hid (fun h => absurd h (by simp))) (by decide) (by decide) (by simp) rn).mono ?_; rintro e w5 ⟨A5, c5, rfl, hD5, HO5, HB5⟩)
  have HF5 := HF4.out.below HB5.out HF4.out.lt
  have f0 : w5.cell? ⟨w3.heap.size, 0, none⟩ = some (.int .i64 0) := HF5.cell 0
  have f1 : w5.cell? ⟨w3.heap.size, 1, none⟩ = some (.int .i64 0) := HF5.cell 1
  have HBF : Hid (Below w.heap.size w w5) := Lib.hid (HB1.out.trans ((HB4.out.trans (HB5.out.mono HB4.out.size)).mono HB1.out.size))
  have T1 : Hid (Tr w5 A3 []) := Lib.hid (Tr.of_own (own_below (own_below HO3.out HX4.out) HB5.out))
  have T2 : Hid (Tr w5 A5 []) := Lib.hid (Tr.of_own HO5.out)
  go_wp2_with (go_at_call 8; refine (refSame_any T1 T2 (by decide) (by decide)).mono ?_; rintro e w6 ⟨rfl, n6, rfl⟩)
  go_ret
  exact ⟨ret_bool (by simp), Lib.hid (below_drewN HBF.out n6)⟩

set_option maxRecDepth 100000 in
set_option maxHeartbeats 2000000 in
theorem reads_long {w : World} {A : Option Addr} {n cb : Nat} {m : Int} (h : 5000 < n) :
    Calls Try.prog 3 #[.slice A n cb, .int .i64 m] w fun e w' => e = .returned (.bool true) ∧ Hid (Below w.heap.size w w') := by
  have g5 : (5000 : Int) < (n : Int) := by omega
  go_enter Try.func3, Try.ntmps3
  go_wp2_with (go_at_call 5; refine (speaks_at w).mono ?_; rintro e w1 ⟨rfl, HB1⟩)
  go_ret
  exact ⟨rfl, HB1⟩
theorem reads_any {w : World} {A : Option Addr} {bs : List UInt8} {cb : Nat} {m : Int} (hb : Rb w A bs) (hcap : bs.length ≤ cb) (hnil : A = none → bs.length = 0 ∧ cb = 0) :
    Calls Try.prog 3 #[.slice A bs.length cb, .int .i64 m] w fun e w' => e = .returned (.bool true) ∧ Hid (Below w.heap.size w w') := by
  by_cases h5 : 5000 < bs.length
  · exact reads_long h5
  cases A with
  | none =>
    obtain ⟨h1, h2⟩ := hnil rfl
    rw [h1, h2]
    exact reads_ok_nil
  | some ad =>
    by_cases hM : bs.length ≤ m.toNat
    · cases hr : readL bs with
      | error q => exact reads_bad (Lib.hid hb) (by omega) hcap hM hr
      | ok D => exact reads_ok (Lib.hid hb) (by omega) hcap hM hr
    · exact reads_lim (Lib.hid hb) (by omega) hcap rfl (by omega)
end Go.Proofs.Ytcikleomipbkmaa.tk
