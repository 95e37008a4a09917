/- The document's answer of layer 4: which words are no symbols. -/
import Derived.Test.YtmnllioeaaimcaaDoorTg
namespace Go.Proofs.YtmnllioeaaimcaaDoor.tk
open Go.RowKit

theorem str_is {a b : ByteArray} (h : (a.toList == b.toList) = true) : a = b := by
  rw [ByteArray.toList_eq, ByteArray.toList_eq, beq_iff_eq] at h
  cases a; cases b
  simp only at h
  rw [Array.toList_inj.1 h]
theorem str_ne {a b : ByteArray} (h : (a.toList == b.toList) = false) : a ≠ b := by
  rintro rfl
  simp at h
def wordB (k : Nat) : ByteArray := ⟨(reservedWords.getD k []).toArray⟩
theorem word_is {s : ByteArray} {k : Nat} (hk : k < 13) (h : wordB k = s) : reservedWords.contains s.data.toList = true := by
  rw [List.contains_iff_mem, ← h]
  have e : (wordB k).data.toList = reservedWords[k]'hk := by
    show (reservedWords.getD k []).toArray.toList = _
    rw [List.getD_eq_getElem?_getD, List.getElem?_eq_getElem hk]; rfl
  rw [e]
  exact List.getElem_mem hk
theorem word_not {s : ByteArray} (h : ∀ j, j < 13 → wordB j ≠ s) : reservedWords.contains s.data.toList = false := by
  rw [Bool.eq_false_iff, ne_eq, List.contains_iff_mem]
  intro hm
  obtain ⟨j, hj, e⟩ := List.mem_iff_getElem.1 hm
  refine h j hj ?_
  unfold wordB
  rw [List.getD_eq_getElem?_getD, List.getElem?_eq_getElem hj, Option.getD_some, e]
theorem words_take {s : ByteArray} {k : Nat} (h : ∀ j, j < k → wordB j ≠ s) (hn : wordB k ≠ s) : ∀ j, j < k + 1 → wordB j ≠ s := by
  intro j hj
  rcases Nat.lt_or_ge j k with g | g
  · exact h j g
  · obtain rfl : j = k := by omega
    exact hn
theorem words_laid (w : World) {W : World} (hW : w.alloc (Obj.cells #[Value.string { data := #[95] }, Value.string { data := #[33] }, Value.string { data := #[97, 115] },
          Value.string { data := #[108, 101, 116] }, Value.string { data := #[101, 120, 105, 115, 116, 115] },
          Value.string { data := #[102, 111, 114, 97, 108, 108] }, Value.string { data := #[109, 97, 116, 99, 104] },
          Value.string { data := #[112, 97, 114] }, Value.string { data := #[66, 73, 78, 65, 82, 89] },
          Value.string { data := #[68, 69, 67, 73, 77, 65, 76] },
          Value.string { data := #[72, 69, 88, 65, 68, 69, 67, 73, 77, 65, 76] },
          Value.string { data := #[78, 85, 77, 69, 82, 65, 76] }, Value.string { data := #[83, 84, 82, 73, 78, 71] }] 9) = W) :
    (∀ k, k < 13 → W.cell? ⟨w.heap.size, k, none⟩ = some (.string (wordB k))) ∧ Below w.heap.size w W := by
  subst hW
  refine ⟨fun k hk => ?_, (Below.refl _ _).alloc (Nat.le_refl _) _⟩
  rw [cell_of_row _ w.heap.size k _ _ (0, 0) (heap_alloc_new w _)]
  have : k = 0 ∨ k = 1 ∨ k = 2 ∨ k = 3 ∨ k = 4 ∨ k = 5 ∨ k = 6 ∨ k = 7 ∨ k = 8 ∨ k = 9 ∨ k = 10 ∨ k = 11 ∨ k = 12 := by omega
  rcases this with rfl | rfl | rfl | rfl | rfl | rfl | rfl | rfl | rfl | rfl | rfl | rfl | rfl <;> rfl

set_option maxRecDepth 100000 in
theorem reserved_any (s : ByteArray) (w : World) :
    Calls Tryd.prog 65 #[.string s] w fun e w' => e = .returned (.bool (reservedWords.contains s.data.toList)) ∧ Below w.heap.size w w' := by
  obtain ⟨r, hr⟩ : ∃ r, reservedWords.contains s.data.toList = r := ⟨_, rfl⟩
  rw [hr]
  have HR := Lib.hid hr
  clear hr
  go_enter Tryd.func65, Tryd.ntmps65
  go_wp2_with fail
  generalize hW : w.alloc _ = W
  obtain ⟨hc, hB⟩ := words_laid w hW
  have HB := Lib.hid hB
  clear hW hB
  go_loop [4] (fun i => ∃ k : Nat, k ≤ 13 ∧ i = .int .i64 (k : Int) ∧ Hid (∀ j, j < k → wordB j ≠ s)) (fun i => 13 - (intOf i).toNat)
  case atStart => exact ⟨0, by omega, rfl, Lib.hid (fun j hj => by omega)⟩
  case round =>
    obtain ⟨k, hk, rfl, hd⟩ := hrel
    by_cases hlt : k < 13
    · have hck := hc k hlt
      cases hm : ((wordB k).toList == s.toList)
      · have HN := Lib.hid (words_take hd.out (str_ne hm))
        go_wp2_with fail
        refine ⟨⟨k + 1, by omega, by go_num, HN⟩, ?_⟩
        simp [intOf]; omega
      · have HY := Lib.hid (word_is hlt (str_is hm))
        go_wp2_with fail
        go_ret
        exact ⟨ret_bool (HY.out.symm.trans HR.out), HB.out⟩
    · obtain rfl : k = 13 := by omega
      go_wp2_with fail
      go_ret
      exact ⟨ret_bool ((word_not hd.out).symm.trans HR.out), HB.out⟩
end Go.Proofs.YtmnllioeaaimcaaDoor.tk
