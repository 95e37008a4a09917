/- Package frac: Text. -/
import Derived.Test.YtpikbhcjgcbdfaaDoorFr5
namespace Go.Proofs.YtpikbhcjgcbdfaaDoor.wh
open Go.RowKit

/-- l is the text of the integer z -/
def TextIs (z : Int) (l : List UInt8) : Prop := ∃ neg ds, rightB neg ds = true ∧ zval neg ds = z ∧ l = textOf neg ds
theorem TextIs.one {z : Int} {l l' : List UInt8} (h : TextIs z l) (h' : TextIs z l') : l = l' := by
  obtain ⟨n, ds, h1, h2, rfl⟩ := h
  obtain ⟨n', ds', g1, g2, rfl⟩ := h'
  obtain ⟨rfl, rfl⟩ := zval_unique h1 g1 (h2.trans g2.symm)
  rfl
/-- l is the text of the fraction q -/
def TextFr (q : Rat) (l : List UInt8) : Prop := (q.den = 1 ∧ TextIs q.num l) ∨ (q.den ≠ 1 ∧ ∃ a b, TextIs q.num a ∧ TextIs (q.den : Int) b ∧ l = a ++ [47] ++ b)
theorem textZ_any {v : Value} {m : Nat} {z : Int} {w : World} (hm : m ≤ 100) (hi : IsInt w w.heap.size m v z) (htab : Tab w) :
    Calls Tryd.prog 28 #[v] w fun e w' => ∃ s : ByteArray, e = .returned (.string s) ∧ Hid (TextIs z s.data.toList) ∧ s.size ≤ 1000 ∧ Hid (Below w.heap.size w w') := by
  refine (text_all (by omega) hi htab).mono ?_
  rintro e w' ⟨tn, tds, ⟨rfl, hb⟩, hR, hz, hl⟩
  exact ⟨_, rfl, ⟨tn, tds, hR.out, hz.out, rfl⟩, by show (textOf tn tds).toArray.size ≤ _; rw [List.size_toArray]; exact text_short hR.out (by omega), hb⟩

set_option maxRecDepth 100000 in
set_option maxHeartbeats 2000000 in
theorem ftext_any {v : Value} {p : Nat} {q : Rat} {w : World} (hp : p ≤ 100) (hx : IsFr w p v q) (htab : Tab w) :
    Calls Tryd.prog 54 #[v] w fun e w' => ∃ s : ByteArray, e = .returned (.string s) ∧ Hid (TextFr q s.data.toList) ∧ Hid (Below w.heap.size w w') := by
  obtain ⟨xi, Ai, ni, ci, yi, Bi, mi, di, rfl, h1, h2⟩ := hx
  have I1 := Lib.hid h1
  have I2 := Lib.hid h2
  have hz := und_zero h2
  have HTAB := Lib.hid htab
  clear h1 h2 htab
  have HT : Hid (Mem w [(w.heap.size, 58, [.bool xi, .slice Ai ni ci, .bool yi, .slice Bi mi di])] (w.alloc (.cells #[.bool xi, .slice Ai ni ci, .bool yi, .slice Bi mi di] 58))) := ((Mem.new w).push (by simp) 58 [.bool xi, .slice Ai ni ci, .bool yi, .slice Bi mi di] rfl)
  have A0 : Hid (∀ w' : World, Mem w [(w.heap.size, 58, [.bool xi, .slice Ai ni ci, .bool yi, .slice Bi mi di])] w' → (w'.cell? ⟨w.heap.size, 0, none⟩ = some (.bool xi) ∧ w'.cell? ⟨w.heap.size, 1, none⟩ = some (.slice Ai ni ci) ∧ w'.cell? ⟨w.heap.size, 2, none⟩ = some (.bool yi) ∧ w'.cell? ⟨w.heap.size, 3, none⟩ = some (.slice Bi mi di)) ∧ (w'.frozen? ⟨w.heap.size, 0, none⟩ = false ∧ w'.frozen? ⟨w.heap.size, 1, none⟩ = false ∧ w'.frozen? ⟨w.heap.size, 2, none⟩ = false ∧ w'.frozen? ⟨w.heap.size, 3, none⟩ = false) ∧ Hid (Mem w [(w.heap.size, 58, [.bool xi, .slice Ai ni ci, .bool yi, .slice Bi mi di])] w')) := fun w' h => ⟨⟨h.c 0 rfl 0 rfl, h.c 0 rfl 1 rfl, h.c 0 rfl 2 rfl, h.c 0 rfl 3 rfl⟩, ⟨h.f 0 rfl 0, h.f 0 rfl 1, h.f 0 rfl 2, h.f 0 rfl 3⟩, h⟩
  have C0 := (A0.out _ HT.out).1
  by_cases hd : q.den = 1
  · obtain ⟨rfl, hh⟩ := hz.1 hd
    clear hh
    have HD := Lib.hid hd
    clear hz hd
    go_enter Tryd.func54, Tryd.ntmps54
    go_wp2_with fail
    refine (isInteger_yes _).mono ?_
    rintro e w1 ⟨rfl, hb1⟩
    have T1 := Lib.hid (Mem.over hb1 HT.out)
    have C1 := (A0.out _ T1.out).1
    clear C0
    go_wp2_with fail
    refine (textZ_any (by omega) (I1.out.over T1.out.below) (HTAB.out.below T1.out.below)).mono ?_
    rintro e w2 ⟨l, rfl, hl, _, hb2⟩
    have T2 := Lib.hid (Mem.over hb2 T1.out)
    go_wp2
    (try simp only [Exit.inBlock, Exit.then])
    go_ret
    exact ⟨l, rfl, Or.inl ⟨HD.out, hl.out⟩, T2.out.below⟩
  · obtain ⟨hl, hh⟩ := hz.2 hd
    clear hh
    have HD := Lib.hid hd
    have HU : Hid (undZ q = (q.den : Int)) := by show _ = _; unfold undZ; rw [if_neg hd]
    clear hz hd
    go_enter Tryd.func54, Tryd.ntmps54
    go_wp2_with fail
    refine (isInteger_no _ hl).mono ?_
    rintro e w1 ⟨rfl, hb1⟩
    have T1 := Lib.hid (Mem.over hb1 HT.out)
    clear C0
    go_wp2
    go_region_held3 (fun w' => (w'.cell? ⟨w.heap.size, 0, none⟩ = some (.bool xi) ∧ w'.cell? ⟨w.heap.size, 1, none⟩ = some (.slice Ai ni ci) ∧ w'.cell? ⟨w.heap.size, 2, none⟩ = some (.bool yi) ∧ w'.cell? ⟨w.heap.size, 3, none⟩ = some (.slice Bi mi di)) ∧ (w'.frozen? ⟨w.heap.size, 0, none⟩ = false ∧ w'.frozen? ⟨w.heap.size, 1, none⟩ = false ∧ w'.frozen? ⟨w.heap.size, 2, none⟩ = false ∧ w'.frozen? ⟨w.heap.size, 3, none⟩ = false) ∧ Hid (Mem w [(w.heap.size, 58, [.bool xi, .slice Ai ni ci, .bool yi, .slice Bi mi di])] w')) (first | (with_reducible exact A0.out _ T1.out.drew) | (with_reducible exact A0.out _ (Mem.over hb (Mem.get (by assumption))))) (first | (go_at_call_of 28 Ai; refine (textZ_any (by omega) (I1.out.over (Mem.get (by assumption)).below) (HTAB.out.below (Mem.get (by assumption)).below)).mono ?_; rintro e wa ⟨sa, rfl, hla, hsa, hb⟩; have hno : ¬ (9223372036854775807 < sa.size + 1) := by omega) | (go_at_call_of 28 Bi; refine (textZ_any (by omega) (I2.out.over (Mem.get (by assumption)).below) (HTAB.out.below (Mem.get (by assumption)).below)).mono ?_; rintro e wb ⟨sb, rfl, hlb, hsb, hb⟩; have hno2 : ¬ (9223372036854775807 < sa.size + 1 + sb.size) := by omega))
    have TS := Lib.hid (Mem.get (by assumption)).below
    rw [HU.out] at hlb
    go_wp2
    (try simp only [Exit.inBlock, Exit.then])
    go_ret
    exact ⟨sa ++ ⟨#[47]⟩ ++ sb, rfl, Or.inr ⟨HD.out, sa.data.toList, sb.data.toList, hla.out, hlb.out, by simp⟩, TS.out⟩
end Go.Proofs.YtpikbhcjgcbdfaaDoor.wh
