/- Package token: Read, of any text with any bound. -/
import Derived.Test.YtmnllioeaaimcaaDoorPl
namespace Go.Proofs.YtmnllioeaaimcaaDoor.tk
open Go.RowKit

/-- what Read answers of a text and a bound -/
def PReadIs (bs : List UInt8) (M B : Nat) (e : Ending) (w' : World) : Prop :=
  (M < bs.length ∧ e = .returned (.tuple #[.slice none 0 0, .agg #[.int .i64 4, .int .i64 (M : Int)]])) ∨
  (bs.length ≤ M ∧ AllIs bs B e w')
theorem all_bad {w : World} {R : Nat} {A : Option Addr} {bs : List UInt8} {cb q : Nat} (hq : Hid (readL bs = .error q)) (H : Hid (Rs w R A bs cb 0)) (hl : bs.length ≤ 100000000) (hcap : bs.length ≤ cb) :
    Calls Tryd.prog 25 #[.pointer (some ⟨R, 0, none⟩)] w fun e w' => e = .returned (.tuple #[.slice none 0 0, .agg #[.int .i64 10, .int .i64 (q : Int)]]) ∧ Hid (But R w w') :=
  (all_any H hl hcap).mono (by
    rintro e w' ⟨hE, hB⟩
    rcases hE.out with ⟨q', hq', rfl⟩ | ⟨D, A3, c, hd, _⟩
    · have := hq.out.symm.trans hq'
      cases this
      exact ⟨rfl, hB⟩
    · have := hq.out.symm.trans hd
      cases this)
theorem all_ok {w : World} {R : Nat} {A : Option Addr} {bs : List UInt8} {cb : Nat} {D : List Tk} (hq : Hid (readL bs = .ok D)) (H : Hid (Rs w R A bs cb 0)) (hl : bs.length ≤ 100000000) (hcap : bs.length ≤ cb) :
    Calls Tryd.prog 25 #[.pointer (some ⟨R, 0, none⟩)] w fun e w' => ∃ A3 c, e = .returned (.tuple #[.slice A3 D.length c, .agg #[.int .i64 0, .int .i64 0]]) ∧ D.length ≤ bs.length ∧ Hid (w'.ownsRow w.heap.size 35 3 (.slice A3 D.length c) D.length (tkCells D)) ∧ Hid (But R w w') :=
  (all_any H hl hcap).mono (by
    rintro e w' ⟨hE, hB⟩
    rcases hE.out with ⟨q', hq', rfl⟩ | ⟨D', A3, c, hd, h1, h2, h3⟩
    · have := hq.out.symm.trans hq'
      cases this
    · have := hq.out.symm.trans hd
      cases this
      exact ⟨A3, c, h2, h1, h3, hB⟩)

set_option maxRecDepth 100000 in
set_option maxHeartbeats 2000000 in
theorem pread_any {w : World} {A : Option Addr} {bs : List UInt8} {cb : Nat} {m : Int} (hb : Hid (Rb w A bs)) (hl : bs.length ≤ 100000000) (hcap : bs.length ≤ cb) :
    Calls Tryd.prog 15 #[.slice A bs.length cb, .int .i64 m] w fun e w' => Hid (PReadIs bs m.toNat w.heap.size e w') ∧ Hid (Below w.heap.size w w') := by
  obtain ⟨M, hM⟩ : ∃ M, m.toNat = M := ⟨_, rfl⟩
  rw [hM]
  have hx : max m 0 = (M : Int) := by omega
  have HX := Lib.hid hx
  clear hM hx
  go_enter Tryd.func15, Tryd.ntmps15
  go_upto_region 2 with fail
  rw [HX.out]
  by_cases hM : bs.length ≤ M
  · have g0 : ¬ ((M : Int) < (bs.length : Int)) := by omega
    go_upto_region 5 with fail
    generalize hW : (w.alloc _).alloc _ = W1
    have hBl : Below w.heap.size w W1 := hW ▸ ((Below.refl _ _).alloc (Nat.le_refl _) _).alloc (by simp) _
    have HF1 : Hid (Bk W1 w.heap.size 27 #[.int .i64 0, .int .i64 0]) := Lib.hid (hW ▸ (Bk.new w _ _).alloc _)
    have hR1 : Bk W1 (w.heap.size + 1) 68 #[.slice A bs.length cb, .int .i64 0] := by
      have := Bk.new (w.alloc (.cells #[.int .i64 0, .int .i64 0] 27)) 68 #[.slice A bs.length cb, .int .i64 0]
      rw [World.size_alloc] at this
      exact hW ▸ this
    have HR1 : Hid (Rs W1 (w.heap.size + 1) A bs cb 0) := Lib.hid ⟨hR1, hb.out.below hBl, fun hn a e => by
      obtain ⟨b, off, e2, hlt, _⟩ := hb.out hn
      rw [e] at e2
      injection e2 with e2
      rw [e2]
      simp only [ne_eq]
      omega⟩
    have HB1 := Lib.hid hBl
    clear hW hBl hR1
    cases hr : readL bs with
    | error q =>
      have HE := Lib.hid hr
      have P := Lib.hid (all_bad HE HR1 hl hcap)
      clear hr
      go_upto_block 5 with (go_at_call 25; refine P.out.mono ?_; rintro e w1 ⟨rfl, B1⟩; have HF2 := B1.out.bk HF1.out (by omega); have f0 : w1.cell? ⟨w.heap.size, 0, none⟩ = some (.int .i64 0) := HF2.cell 0; have f1 : w1.cell? ⟨w.heap.size, 1, none⟩ = some (.int .i64 0) := HF2.cell 1; have ff := HF2.frozen)
      have HG := HF2.lt
      clear f0 f1 ff
      generalize hW : World.setCell _ _ _ = W2
      have HF3 : Bk W2 w.heap.size 27 #[.int .i64 10, .int .i64 (q : Int)] := hW ▸ (HF2.set_ 0 _).set_ 1 _
      have HBF : Hid (Below w.heap.size w W2) := Lib.hid (hW ▸ ((HB1.out.trans (B1.out.below (by omega) HB1.out.size)).setCell (p := ⟨w.heap.size, 0, none⟩) (Nat.le_refl _) _).setCell (p := ⟨w.heap.size, 1, none⟩) (Nat.le_refl _) _)
      have e0 : W2.cell? ⟨w.heap.size, 0, none⟩ = some (.int .i64 10) := HF3.cell 0
      have e1 : W2.cell? ⟨w.heap.size, 1, none⟩ = some (.int .i64 (q : Int)) := HF3.cell 1
      clear hW
      refine bodyPost_ret (v := .tuple #[.slice none 0 0, .agg #[.int .i64 10, .int .i64 (q : Int)]]) (by simp [results, Tryd.results15, go_sem, e0, e1]) rfl ⟨Lib.hid (Or.inr ⟨hM, Or.inl ⟨q, HE.out, rfl⟩⟩), HBF⟩
    | ok D =>
      have HE := Lib.hid hr
      have P := Lib.hid (all_ok HE HR1 hl hcap)
      clear hr
      go_upto_block 5 with (go_at_call 25; refine P.out.mono ?_; rintro e w1 ⟨A3, c3, rfl, hDl, HO, B1⟩; have HF2 := B1.out.bk HF1.out (by omega); have f0 : w1.cell? ⟨w.heap.size, 0, none⟩ = some (.int .i64 0) := HF2.cell 0; have f1 : w1.cell? ⟨w.heap.size, 1, none⟩ = some (.int .i64 0) := HF2.cell 1; have ff := HF2.frozen)
      have HG := HF1.out.lt
      clear f0 f1 ff
      generalize hW : World.setCell _ _ _ = W2
      have HF3 : Bk W2 w.heap.size 27 #[.int .i64 0, .int .i64 0] := hW ▸ (HF2.set_ 0 _).set_ 1 _
      have HBF : Hid (Below w.heap.size w W2) := Lib.hid (hW ▸ ((HB1.out.trans (B1.out.below (by omega) HB1.out.size)).setCell (p := ⟨w.heap.size, 0, none⟩) (Nat.le_refl _) _).setCell (p := ⟨w.heap.size, 1, none⟩) (Nat.le_refl _) _)
      have HO2 : Hid (W2.ownsRow W1.heap.size 35 3 (.slice A3 D.length c3) D.length (tkCells D)) := Lib.hid (hW ▸ ownsRow_setCell_below (ownsRow_setCell_below HO.out (a := ⟨w.heap.size, 0, none⟩) HG _) (a := ⟨w.heap.size, 1, none⟩) HG _)
      have e0 : W2.cell? ⟨w.heap.size, 0, none⟩ = some (.int .i64 0) := HF3.cell 0
      have e1 : W2.cell? ⟨w.heap.size, 1, none⟩ = some (.int .i64 0) := HF3.cell 1
      clear hW
      refine bodyPost_ret (v := .tuple #[.slice A3 D.length c3, .agg #[.int .i64 0, .int .i64 0]]) (by simp [results, Tryd.results15, go_sem, e0, e1]) rfl ⟨Lib.hid (Or.inr ⟨hM, Or.inr ⟨D, A3, c3, HE.out, hDl, rfl, own_mono HO2.out HB1.out.size⟩⟩), HBF⟩
  · have g0 : (M : Int) < (bs.length : Int) := by omega
    go_wp2_with fail
    generalize hW : w.alloc _ = W2
    have HF3 : Bk W2 w.heap.size 27 #[.int .i64 4, .int .i64 (M : Int)] := hW ▸ Bk.new w _ _
    have HBF : Hid (Below w.heap.size w W2) := Lib.hid (hW ▸ (Below.refl _ _).alloc (Nat.le_refl _) _)
    have e0 : W2.cell? ⟨w.heap.size, 0, none⟩ = some (.int .i64 4) := HF3.cell 0
    have e1 : W2.cell? ⟨w.heap.size, 1, none⟩ = some (.int .i64 (M : Int)) := HF3.cell 1
    clear hW
    refine bodyPost_ret (v := .tuple #[.slice none 0 0, .agg #[.int .i64 4, .int .i64 (M : Int)]]) (by simp [results, Tryd.results15, go_sem, e0, e1]) rfl ⟨Lib.hid (Or.inl ⟨by omega, rfl⟩), HBF⟩
section
variable {w : World} {A : Option Addr} {bs : List UInt8} {cb q : Nat} {m : Int} {D : List Tk} (hb : Hid (Rb w A bs)) (hl : bs.length ≤ 100000000) (hcap : bs.length ≤ cb)
include hb hl hcap
theorem pread_lim (h : m.toNat < bs.length) : Calls Tryd.prog 15 #[.slice A bs.length cb, .int .i64 m] w fun e w' => e = .returned (.tuple #[.slice none 0 0, .agg #[.int .i64 4, .int .i64 ((m.toNat : Nat) : Int)]]) ∧ Hid (Below w.heap.size w w') :=
  (pread_any hb hl hcap).mono (by
    rintro e w' ⟨hE, hB⟩
    rcases hE.out with ⟨_, rfl⟩ | ⟨h2, _⟩
    · exact ⟨rfl, hB⟩
    · omega)
theorem pread_bad (hm : bs.length ≤ m.toNat) (h : readL bs = .error q) : Calls Tryd.prog 15 #[.slice A bs.length cb, .int .i64 m] w fun e w' => e = .returned (.tuple #[.slice none 0 0, .agg #[.int .i64 10, .int .i64 (q : Int)]]) ∧ Hid (Below w.heap.size w w') :=
  (pread_any hb hl hcap).mono (by
    rintro e w' ⟨hE, hB⟩
    rcases hE.out with ⟨h2, rfl⟩ | ⟨_, ⟨q', hq', rfl⟩ | ⟨D, A3, c, hd, _⟩⟩
    · omega
    · have := h.symm.trans hq'
      cases this
      exact ⟨rfl, hB⟩
    · have := h.symm.trans hd
      cases this)
theorem pread_ok (hm : bs.length ≤ m.toNat) (h : readL bs = .ok D) : Calls Tryd.prog 15 #[.slice A bs.length cb, .int .i64 m] w fun e w' => ∃ A3 c, e = .returned (.tuple #[.slice A3 D.length c, .agg #[.int .i64 0, .int .i64 0]]) ∧ D.length ≤ bs.length ∧ D.length ≤ c ∧ Hid (w'.ownsRow w.heap.size 35 3 (.slice A3 D.length c) D.length (tkCells D)) ∧ Hid (Below w.heap.size w w') :=
  (pread_any hb hl hcap).mono (by
    rintro e w' ⟨hE, hB⟩
    rcases hE.out with ⟨h2, rfl⟩ | ⟨_, ⟨q', hq', rfl⟩ | ⟨D', A3, c, hd, h1, h2, h3⟩⟩
    · omega
    · have := h.symm.trans hq'
      cases this
    · have := h.symm.trans hd
      cases this
      obtain ⟨A4, c4, e, hc⟩ := own_row3 h3
      injection e with e1 e2 e3
      subst e3
      exact ⟨A3, c, h2, h1, hc, h3, hB⟩)
end
end Go.Proofs.YtmnllioeaaimcaaDoor.tk
