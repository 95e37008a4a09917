/- The statements of layer 6: the document's example. -/
import Derived.Test.YtdnhhfhjjimcgaaDoorIa
namespace Go.Proofs.YtdnhhfhjjimcgaaDoor.dg
open Go Go.RowKit

def exT : Tm := ⟨1, 0, [], ⟨#[]⟩⟩
theorem ex_wrong (S : St) : S.wrong exT = 0 := by
  have h1 : formed exT = true := by decide
  rw [wrong6 h1 (by intro h; exact absurd h.1 (by decide)) (by simp [exT]) (by unfold St.counted St.takes; simp [exT]) (by unfold St.fits; simp [exT])]
  rw [if_neg]
  intro h
  exact absurd h.1 (by decide)
theorem ex_one : (St.new 9).term exT = (0, 0, (St.new 9).addT exT) := by
  unfold St.term
  rw [if_neg (by rw [ex_wrong]; simp)]
  have : (St.new 9).placeT exT = none := rfl
  rw [this]
  rfl
theorem ex_two : ((St.new 9).addT exT).term exT = (0, 0, (St.new 9).addT exT) := by
  unfold St.term
  rw [if_neg (by rw [ex_wrong]; simp)]
  have : ((St.new 9).addT exT).placeT exT = some 0 := find_at (by simp [St.addT, St.new]) (sameT_iff.2 rfl) (fun j hj => absurd hj (by omega))
  rw [this]
  rfl
set_option maxRecDepth 100000 in
set_option maxHeartbeats 4000000 in
theorem speaks_any {w : World} (HTAB : Hid (Tab w)) :
    Calls Tryd.prog 8 #[] w fun e w' => e = .returned (.bool true) ∧ Hid (Below w.heap.size w w') := by
  go_enter Tryd.func8, Tryd.ntmps8
  go_upto_region 2 with (go_at_call 26; refine (new_any HTAB 9).mono ?_; rintro e W1 ⟨a, F1, rfl, HM1⟩)
  have G0 := Gk.new 9
  have G1 := Lib.hid (G0.term (t := exT) (by simp [exT]) ex_one)
  have G2 := Lib.hid (G1.out.term (t := exT) (by simp [exT]) ex_two)
  have HG0 := Lib.hid G0
  clear G0
  go_upto_region 3 with (go_at_call 29; refine (term_any (t := exT) (G := fun _ => True) (Lib.hid HM1.out.1) (Lib.hid (Ri.nil _ _ _ _)) (by simp [exT]) (by decide) (Lib.hid (HG0.out.sz (by omega))) (Lib.hid (fun e he => Nat.le_trans (HG0.out.tk e he) (by omega))) ex_one).mono ?_; rintro e W2 ⟨rfl, HE2⟩)
  obtain ⟨F2, hm2⟩ := HM1.out.step HE2.out
  have HM2 := Lib.hid hm2
  clear hm2 HM1 HE2
  go_upto_region 4 with (go_at_call 29; refine (term_any (t := exT) (G := fun _ => True) (Lib.hid HM2.out.1) (Lib.hid (Ri.nil _ _ _ _)) (by simp [exT]) (by decide) (Lib.hid (G1.out.sz (by omega))) (Lib.hid (fun e he => Nat.le_trans (G1.out.tk e he) (by omega))) ex_two).mono ?_; rintro e W3 ⟨rfl, HE3⟩)
  obtain ⟨F3, hm3⟩ := HM2.out.step HE3.out
  have HM3 := Lib.hid hm3
  clear hm3 HM2 HE3
  have HL1 : Hid (((St.new 9).addT exT).terms.length = 1) := Lib.hid rfl
  have HL2 : Hid (((St.new 9).addT exT).sorts.length = 2) := Lib.hid rfl
  go_wp2_with (first | (go_at_call 11; refine (len_any (Lib.hid HM3.out.1)).mono ?_; rw [HL1.out]; rintro e W4 ⟨rfl, rfl⟩) | (go_at_call 13; refine (sorts_any (Lib.hid HM3.out.1) (Lib.hid (G2.out.sz (by omega))) (Lib.hid (fun x hx => Nat.le_trans (G2.out.sa x hx) (by omega)))).mono ?_; rintro e W5 ⟨v, rfl, HV, HB5⟩; obtain ⟨Av, cv, hv, _, _⟩ := HV.out.slice; subst hv; rw [HL2.out]))
  go_ret
  exact ⟨rfl, Lib.hid (HM3.out.2.1.trans (HB5.out.mono HM3.out.2.1.size))⟩
end Go.Proofs.YtdnhhfhjjimcgaaDoor.dg
