/- Package token: Word: the texts that may tell a token. -/
import Derived.Lib.Replace
import Derived.Lib.IndexBytes
import Derived.ChangeAgain
import Derived.Test.YtmnllioeaaimcaaDoorPm
import Derived.Test.YtmnllioeaaimcaaDoorTs
namespace Go.Proofs.YtmnllioeaaimcaaDoor.tk
open Go.RowKit

theorem shaped_below {w w' : World} (h : w.ShapedOpen Tryd.prog) (hb : Below w.heap.size w w') : w'.ShapedOpen Tryd.prog := h.keptBut (hb.frame (fun _ => False)) (fun _ h => h.elim)
/-- as 'told', but for the place -/
def tokd (k : Int) (T : List UInt8) (W : List UInt8) : Bool := match readL W with
  | .ok [x] => decide ((x.kind : Int) = k) && decide (x.text = T)
  | _ => false
theorem at_zero {W : List UInt8} {x : Tk} (h : Rd W 0 [x]) (hw : W = x.text ∨ skipL W = W) : x.at_ = 0 := by
  cases h with
  | step hs hn hsc hr =>
    rename_i s k n t
    have hl := scan_len.1 _ _ _ hsc
    show 0 + (W.length - s.length) = 0
    rcases hw with hw | hw
    · have hw2 : W = t := hw
      rw [hw2]
      omega
    · rw [← hs, hw]
      omega
theorem tokd_told {k : Int} {T W : List UInt8} (hm : W ∈ cands k T) : tokd k T W = told k T W := by
  unfold tokd told
  cases hr : readL W with
  | error q => rfl
  | ok D =>
    match D, hr with
    | [], _ => rfl
    | x :: y :: r, _ => rfl
    | [x], hr =>
      simp only
      by_cases ht : x.text = T
      · have h0 : x.at_ = 0 := at_zero (readL_ok.1 hr) (by
          unfold cands at hm
          have e1 : ∀ c r, W = c :: r → isBlank c = false → c.toNat ≠ 59 → skipL W = W := fun c r e h1 h2 => by
            rw [e, skipL_cons, if_neg (by simp [h1]), if_neg h2]
          split at hm
          · exact Or.inr (e1 58 _ (by simpa using hm) (by decide) (by decide))
          split at hm
          · exact Or.inr (e1 34 _ (by simpa using hm) (by decide) (by decide))
          split at hm
          · exact Or.inr (e1 35 _ (by simpa using hm) (by decide) (by decide))
          split at hm
          · exact Or.inr (e1 35 _ (by simpa using hm) (by decide) (by decide))
          split at hm
          · have e : W = T ∨ W = 124 :: (T ++ [124]) := by simpa using hm
            rcases e with e | e
            · exact Or.inl (e.trans ht.symm)
            · exact Or.inr (e1 124 _ e (by decide) (by decide))
          · have e : W = T := by simpa using hm
            exact Or.inl (e.trans ht.symm))
        simp [h0]
      · simp [ht]
theorem find_congr {α : Type} {p q : α → Bool} : ∀ {l : List α}, (∀ x ∈ l, p x = q x) → l.find? p = l.find? q := fun {l} => Lib.find_congr (l := l)
theorem word_tokd (k : Int) (T : List UInt8) : wordW k T = (cands k T).find? (tokd k T) := by
  unfold wordW
  exact find_congr fun x hx => (tokd_told hx).symm
theorem replace_esc : ∀ T : List UInt8, Lib.replaceK [34] [34, 34] (Lib.count T [34]) T = esc T
  | [] => rfl
  | c :: r => by
    have ih := replace_esc r
    by_cases h : c = 34
    · subst h
      rw [Lib.count_cons_eq, Nat.add_comm 1, Lib.replaceK_hit _ _ _ _ 0 (by rw [Lib.index_one]; rfl)]
      simp only [List.take_zero, List.nil_append, List.length_singleton, Nat.zero_add, List.drop_succ_cons, List.drop_zero, ih]
      simp [esc]
    · rw [Lib.count_cons_ne _ _ _ h]
      have he : esc (c :: r) = c :: esc r := by
        conv => lhs; unfold esc
        rw [if_neg (show ¬ c.toNat = 34 from fun e => h (UInt8.toNat_inj.1 e))]
      rw [he, ← ih]
      cases hk : Lib.count r [34] with
      | zero => rfl
      | succ k =>
        obtain ⟨i, hi⟩ := Lib.index_of_count (s := r) (old := [34]) (by omega)
        have hi2 : Lib.index (c :: r) [34] = ((i + 1 : Nat) : Int) := by
          rw [Lib.index_one] at hi ⊢
          unfold Lib.indexByte
          have e1 : (c == 34) = false := by simpa using h
          rw [e1, hi]
          simp only [Bool.false_eq_true, if_false]
          rw [if_neg (by simp)]
          rfl
        rw [Lib.replaceK_hit _ _ _ _ (i + 1) hi2, Lib.replaceK_hit _ _ _ _ i hi]
        simp
theorem replaceAll_esc (T : List UInt8) : Lib.replaceAll T [34] [34, 34] = esc T := by
  unfold Lib.replaceAll Lib.replace Lib.replaceNum
  rw [if_neg (by decide), if_pos (Or.inl (by decide))]
  exact replace_esc T
theorem repl_any {S : ByteArray} {w : World} (h : w.ShapedOpen Tryd.prog) (hS : S.size ≤ 20000000) :
    Calls Tryd.prog 59 #[.string S, .string ⟨#[34]⟩, .string ⟨#[34, 34]⟩] w fun e w' => e = .returned (.string ⟨(esc S.data.toList).toArray⟩) ∧ Hid (Below w.heap.size w w') := by
  have hc : Lib.countB S ⟨#[34]⟩ ≤ S.data.toList.length + 1 := Lib.count_le _ _
  have hl : S.data.toList.length = S.size := by simp
  have := Tryd.strings_ReplaceAll_shaped S ⟨#[34]⟩ ⟨#[34, 34]⟩ w h (by omega) (by decide) (by
    have e : (⟨#[34, 34]⟩ : ByteArray).size = 2 := rfl
    rw [e]
    omega)
  refine this.mono ?_
  rintro e w' ⟨rfl, hb⟩
  refine ⟨?_, hb⟩
  rw [show (⟨#[34]⟩ : ByteArray).data.toList = [34] from rfl, show (⟨#[34, 34]⟩ : ByteArray).data.toList = [34, 34] from rfl, replaceAll_esc]
theorem cands_two (K : Int) (T : List UInt8) : (cands K T).length ≤ 2 ∧ 1 ≤ (cands K T).length ∧ ∀ x ∈ cands K T, x.length ≤ 2 * T.length + 2 := by
  have := esc_ub T
  unfold cands
  repeat' split
  all_goals (refine ⟨by simp, by simp, ?_⟩; intro x hx; simp at hx)
  all_goals first | (subst hx; (try simp only [List.length_cons, List.length_append, List.length_nil]); omega) | (rcases hx with hx | hx <;> subst hx <;> (try simp only [List.length_cons, List.length_append, List.length_nil]) <;> omega)
set_option maxRecDepth 100000 in
set_option maxHeartbeats 2000000 in
theorem forms_3 {w : World} {K P : Int} {S : ByteArray} (hS : S.size ≤ 20000000) (hk : K = 3) :
    Calls Tryd.prog 40 #[.agg #[.int .i64 K, .string S, .int .i64 P]] w fun e w' => ∃ g, e = .returned (.slice (some ⟨g, 0, none⟩) (cands K S.data.toList).length (cands K S.data.toList).length) ∧ Hid (Bk w' g 9 ((cands K S.data.toList).map strV).toArray) ∧ Hid (Below w.heap.size w w') := by
  have HC : Hid (cands K S.data.toList = [S.data.toList, 124 :: (S.data.toList ++ [124])]) := Lib.hid (by unfold cands; subst hk; rfl)
  rw [HC.out]
  have e3 : ((K == 3) : Bool) = true := by rw [hk]; rfl
  clear hk
  have this := hS
  clear this
  go_enter Tryd.func40, Tryd.ntmps40
  go_upto_region 1 with fail
  generalize hW : w.alloc _ = W0
  have hB0 : Bk W0 w.heap.size 35 #[.int .i64 K, .string S, .int .i64 P] := hW ▸ Bk.new w _ _
  have hBl : Hid (Below w.heap.size w W0) := Lib.hid (hW ▸ (Below.refl _ _).alloc (Nat.le_refl _) _)
  have t0 : W0.cell? ⟨w.heap.size, 0, none⟩ = some (.int .i64 K) := hB0.cell 0
  have t1 : W0.cell? ⟨w.heap.size, 1, none⟩ = some (.string S) := hB0.cell 1
  clear hW hB0
  go_wp2_with fail
  generalize hW : W0.alloc _ = W2
  have HB2 : Hid (Bk W2 W0.heap.size 9 (([S.data.toList, 124 :: (S.data.toList ++ [124])]).map strV).toArray) := Lib.hid (by
    have e : (([S.data.toList, 124 :: (S.data.toList ++ [124])]).map strV).toArray = #[.string S, .string (({ data := #[124] } : ByteArray) ++ S ++ { data := #[124] })] := by simp [strV, cat_list]
    rw [e, ← hW]
    exact Bk.new W0 _ _)
  have HBF : Hid (Below w.heap.size w W2) := Lib.hid (hW ▸ hBl.out.alloc hBl.out.size _)
  clear hW
  go_ret
  exact ⟨_, rfl, HB2, HBF⟩

set_option maxRecDepth 100000 in
set_option maxHeartbeats 2000000 in
theorem forms_7 {w : World} {K P : Int} {S : ByteArray} (hS : S.size ≤ 20000000) (hk : K = 7) :
    Calls Tryd.prog 40 #[.agg #[.int .i64 K, .string S, .int .i64 P]] w fun e w' => ∃ g, e = .returned (.slice (some ⟨g, 0, none⟩) (cands K S.data.toList).length (cands K S.data.toList).length) ∧ Hid (Bk w' g 9 ((cands K S.data.toList).map strV).toArray) ∧ Hid (Below w.heap.size w w') := by
  have HC : Hid (cands K S.data.toList = [35 :: 120 :: S.data.toList]) := Lib.hid (by unfold cands; subst hk; rfl)
  rw [HC.out]
  have e3 : ((K == 3) : Bool) = false := by rw [hk]; rfl
  have e7 : ((K == 7) : Bool) = true := by rw [hk]; rfl
  clear hk
  have this := hS
  clear this
  go_enter Tryd.func40, Tryd.ntmps40
  go_upto_region 1 with fail
  generalize hW : w.alloc _ = W0
  have hB0 : Bk W0 w.heap.size 35 #[.int .i64 K, .string S, .int .i64 P] := hW ▸ Bk.new w _ _
  have hBl : Hid (Below w.heap.size w W0) := Lib.hid (hW ▸ (Below.refl _ _).alloc (Nat.le_refl _) _)
  have t0 : W0.cell? ⟨w.heap.size, 0, none⟩ = some (.int .i64 K) := hB0.cell 0
  have t1 : W0.cell? ⟨w.heap.size, 1, none⟩ = some (.string S) := hB0.cell 1
  clear hW hB0
  go_wp2_with fail
  generalize hW : W0.alloc _ = W2
  have HB2 : Hid (Bk W2 W0.heap.size 9 (([35 :: 120 :: S.data.toList]).map strV).toArray) := Lib.hid (by
    have e : (([35 :: 120 :: S.data.toList]).map strV).toArray = #[.string (({ data := #[35, 120] } : ByteArray) ++ S)] := by simp [strV, cat_list]
    rw [e, ← hW]
    exact Bk.new W0 _ _)
  have HBF : Hid (Below w.heap.size w W2) := Lib.hid (hW ▸ hBl.out.alloc hBl.out.size _)
  clear hW
  go_ret
  exact ⟨_, rfl, HB2, HBF⟩

set_option maxRecDepth 100000 in
set_option maxHeartbeats 2000000 in
theorem forms_8 {w : World} {K P : Int} {S : ByteArray} (hS : S.size ≤ 20000000) (hk : K = 8) :
    Calls Tryd.prog 40 #[.agg #[.int .i64 K, .string S, .int .i64 P]] w fun e w' => ∃ g, e = .returned (.slice (some ⟨g, 0, none⟩) (cands K S.data.toList).length (cands K S.data.toList).length) ∧ Hid (Bk w' g 9 ((cands K S.data.toList).map strV).toArray) ∧ Hid (Below w.heap.size w w') := by
  have HC : Hid (cands K S.data.toList = [35 :: 98 :: S.data.toList]) := Lib.hid (by unfold cands; subst hk; rfl)
  rw [HC.out]
  have e3 : ((K == 3) : Bool) = false := by rw [hk]; rfl
  have e7 : ((K == 7) : Bool) = false := by rw [hk]; rfl
  have e8 : ((K == 8) : Bool) = true := by rw [hk]; rfl
  clear hk
  have this := hS
  clear this
  go_enter Tryd.func40, Tryd.ntmps40
  go_upto_region 1 with fail
  generalize hW : w.alloc _ = W0
  have hB0 : Bk W0 w.heap.size 35 #[.int .i64 K, .string S, .int .i64 P] := hW ▸ Bk.new w _ _
  have hBl : Hid (Below w.heap.size w W0) := Lib.hid (hW ▸ (Below.refl _ _).alloc (Nat.le_refl _) _)
  have t0 : W0.cell? ⟨w.heap.size, 0, none⟩ = some (.int .i64 K) := hB0.cell 0
  have t1 : W0.cell? ⟨w.heap.size, 1, none⟩ = some (.string S) := hB0.cell 1
  clear hW hB0
  go_wp2_with fail
  generalize hW : W0.alloc _ = W2
  have HB2 : Hid (Bk W2 W0.heap.size 9 (([35 :: 98 :: S.data.toList]).map strV).toArray) := Lib.hid (by
    have e : (([35 :: 98 :: S.data.toList]).map strV).toArray = #[.string (({ data := #[35, 98] } : ByteArray) ++ S)] := by simp [strV, cat_list]
    rw [e, ← hW]
    exact Bk.new W0 _ _)
  have HBF : Hid (Below w.heap.size w W2) := Lib.hid (hW ▸ hBl.out.alloc hBl.out.size _)
  clear hW
  go_ret
  exact ⟨_, rfl, HB2, HBF⟩

set_option maxRecDepth 100000 in
set_option maxHeartbeats 2000000 in
theorem forms_9 {w : World} {K P : Int} {S : ByteArray} (hS : S.size ≤ 20000000) (hk : K = 9) (hsh : w.ShapedOpen Tryd.prog) :
    Calls Tryd.prog 40 #[.agg #[.int .i64 K, .string S, .int .i64 P]] w fun e w' => ∃ g, e = .returned (.slice (some ⟨g, 0, none⟩) (cands K S.data.toList).length (cands K S.data.toList).length) ∧ Hid (Bk w' g 9 ((cands K S.data.toList).map strV).toArray) ∧ Hid (Below w.heap.size w w') := by
  have HC : Hid (cands K S.data.toList = [34 :: (esc S.data.toList ++ [34])]) := Lib.hid (by unfold cands; subst hk; rfl)
  rw [HC.out]
  have e3 : ((K == 3) : Bool) = false := by rw [hk]; rfl
  have e7 : ((K == 7) : Bool) = false := by rw [hk]; rfl
  have e8 : ((K == 8) : Bool) = false := by rw [hk]; rfl
  have e9 : ((K == 9) : Bool) = true := by rw [hk]; rfl
  clear hk
  have this := hS
  clear this
  go_enter Tryd.func40, Tryd.ntmps40
  go_upto_region 1 with fail
  generalize hW : w.alloc _ = W0
  have hB0 : Bk W0 w.heap.size 35 #[.int .i64 K, .string S, .int .i64 P] := hW ▸ Bk.new w _ _
  have hBl : Hid (Below w.heap.size w W0) := Lib.hid (hW ▸ (Below.refl _ _).alloc (Nat.le_refl _) _)
  have t0 : W0.cell? ⟨w.heap.size, 0, none⟩ = some (.int .i64 K) := hB0.cell 0
  have t1 : W0.cell? ⟨w.heap.size, 1, none⟩ = some (.string S) := hB0.cell 1
  have HSH := Lib.hid (shaped_below hsh hBl.out)
  clear hsh
  clear hW hB0
  have HES : Hid (({ data := (esc S.data.toList).toArray } : ByteArray).size ≤ 40000000) := Lib.hid (by
    have := esc_ub S.data.toList
    have h2 : S.data.toList.length = S.size := by simp
    show (esc S.data.toList).toArray.size ≤ _
    rw [List.size_toArray]
    omega)
  obtain ⟨E, hE⟩ : ∃ E, (⟨(esc S.data.toList).toArray⟩ : ByteArray) = E := ⟨_, rfl⟩
  have PR := repl_any HSH.out hS
  rw [hE] at PR HES
  have PR := Lib.hid PR
  have hES := HES.out
  have HE := Lib.hid hE
  clear hE
  go_wp2_with (go_at_call 59; refine PR.out.mono ?_; rintro e w1 ⟨rfl, hB1⟩)
  have hBl2 : Hid (Below w.heap.size w w1) := Lib.hid (hBl.out.trans (hB1.out.mono hBl.out.size))
  generalize hW : w1.alloc _ = W2
  have HB2 : Hid (Bk W2 w1.heap.size 9 (([34 :: (esc S.data.toList ++ [34])]).map strV).toArray) := Lib.hid (by
    have e : (([34 :: (esc S.data.toList ++ [34])]).map strV).toArray = #[.string (({ data := #[34] } : ByteArray) ++ E ++ { data := #[34] })] := by simp [strV, cat_list, ← HE.out]
    rw [e, ← hW]
    exact Bk.new w1 _ _)
  have HBF : Hid (Below w.heap.size w W2) := Lib.hid (hW ▸ hBl2.out.alloc hBl2.out.size _)
  clear hW
  go_ret
  exact ⟨_, rfl, HB2, HBF⟩

set_option maxRecDepth 100000 in
set_option maxHeartbeats 2000000 in
theorem forms_10 {w : World} {K P : Int} {S : ByteArray} (hS : S.size ≤ 20000000) (hk : K = 10) :
    Calls Tryd.prog 40 #[.agg #[.int .i64 K, .string S, .int .i64 P]] w fun e w' => ∃ g, e = .returned (.slice (some ⟨g, 0, none⟩) (cands K S.data.toList).length (cands K S.data.toList).length) ∧ Hid (Bk w' g 9 ((cands K S.data.toList).map strV).toArray) ∧ Hid (Below w.heap.size w w') := by
  have HC : Hid (cands K S.data.toList = [58 :: S.data.toList]) := Lib.hid (by unfold cands; subst hk; rfl)
  rw [HC.out]
  have e3 : ((K == 3) : Bool) = false := by rw [hk]; rfl
  have e7 : ((K == 7) : Bool) = false := by rw [hk]; rfl
  have e8 : ((K == 8) : Bool) = false := by rw [hk]; rfl
  have e9 : ((K == 9) : Bool) = false := by rw [hk]; rfl
  have e10 : ((K == 10) : Bool) = true := by rw [hk]; rfl
  clear hk
  have this := hS
  clear this
  go_enter Tryd.func40, Tryd.ntmps40
  go_upto_region 1 with fail
  generalize hW : w.alloc _ = W0
  have hB0 : Bk W0 w.heap.size 35 #[.int .i64 K, .string S, .int .i64 P] := hW ▸ Bk.new w _ _
  have hBl : Hid (Below w.heap.size w W0) := Lib.hid (hW ▸ (Below.refl _ _).alloc (Nat.le_refl _) _)
  have t0 : W0.cell? ⟨w.heap.size, 0, none⟩ = some (.int .i64 K) := hB0.cell 0
  have t1 : W0.cell? ⟨w.heap.size, 1, none⟩ = some (.string S) := hB0.cell 1
  clear hW hB0
  go_wp2_with fail
  generalize hW : W0.alloc _ = W2
  have HB2 : Hid (Bk W2 W0.heap.size 9 (([58 :: S.data.toList]).map strV).toArray) := Lib.hid (by
    have e : (([58 :: S.data.toList]).map strV).toArray = #[.string (({ data := #[58] } : ByteArray) ++ S)] := by simp [strV, cat_list]
    rw [e, ← hW]
    exact Bk.new W0 _ _)
  have HBF : Hid (Below w.heap.size w W2) := Lib.hid (hW ▸ hBl.out.alloc hBl.out.size _)
  clear hW
  go_ret
  exact ⟨_, rfl, HB2, HBF⟩

set_option maxRecDepth 100000 in
set_option maxHeartbeats 2000000 in
theorem forms_0 {w : World} {K P : Int} {S : ByteArray} (hS : S.size ≤ 20000000) (hk : K ≠ 3 ∧ K ≠ 7 ∧ K ≠ 8 ∧ K ≠ 9 ∧ K ≠ 10) :
    Calls Tryd.prog 40 #[.agg #[.int .i64 K, .string S, .int .i64 P]] w fun e w' => ∃ g, e = .returned (.slice (some ⟨g, 0, none⟩) (cands K S.data.toList).length (cands K S.data.toList).length) ∧ Hid (Bk w' g 9 ((cands K S.data.toList).map strV).toArray) ∧ Hid (Below w.heap.size w w') := by
  have HC : Hid (cands K S.data.toList = [S.data.toList]) := Lib.hid (by unfold cands; obtain ⟨h3, h7, h8, h9, h10⟩ := hk; rw [if_neg h10, if_neg h9, if_neg h8, if_neg h7, if_neg h3])
  rw [HC.out]
  have e3 : ((K == 3) : Bool) = false := by rw [beq_eq_false_iff_ne]; omega
  have e7 : ((K == 7) : Bool) = false := by rw [beq_eq_false_iff_ne]; omega
  have e8 : ((K == 8) : Bool) = false := by rw [beq_eq_false_iff_ne]; omega
  have e9 : ((K == 9) : Bool) = false := by rw [beq_eq_false_iff_ne]; omega
  have e10 : ((K == 10) : Bool) = false := by rw [beq_eq_false_iff_ne]; omega
  clear hk
  have this := hS
  clear this
  go_enter Tryd.func40, Tryd.ntmps40
  go_upto_region 1 with fail
  generalize hW : w.alloc _ = W0
  have hB0 : Bk W0 w.heap.size 35 #[.int .i64 K, .string S, .int .i64 P] := hW ▸ Bk.new w _ _
  have hBl : Hid (Below w.heap.size w W0) := Lib.hid (hW ▸ (Below.refl _ _).alloc (Nat.le_refl _) _)
  have t0 : W0.cell? ⟨w.heap.size, 0, none⟩ = some (.int .i64 K) := hB0.cell 0
  have t1 : W0.cell? ⟨w.heap.size, 1, none⟩ = some (.string S) := hB0.cell 1
  clear hW hB0
  go_wp2_with fail
  generalize hW : W0.alloc _ = W2
  have HB2 : Hid (Bk W2 W0.heap.size 9 (([S.data.toList]).map strV).toArray) := Lib.hid (by
    have e : (([S.data.toList]).map strV).toArray = #[.string S] := by simp [strV]
    rw [e, ← hW]
    exact Bk.new W0 _ _)
  have HBF : Hid (Below w.heap.size w W2) := Lib.hid (hW ▸ hBl.out.alloc hBl.out.size _)
  clear hW
  go_ret
  exact ⟨_, rfl, HB2, HBF⟩

theorem forms_any {w : World} {K P : Int} {S : ByteArray} (hS : S.size ≤ 20000000) (hsh : w.ShapedOpen Tryd.prog) :
    Calls Tryd.prog 40 #[.agg #[.int .i64 K, .string S, .int .i64 P]] w fun e w' => ∃ g, e = .returned (.slice (some ⟨g, 0, none⟩) (cands K S.data.toList).length (cands K S.data.toList).length) ∧ Hid (Bk w' g 9 ((cands K S.data.toList).map strV).toArray) ∧ Hid (Below w.heap.size w w') := by
  by_cases h3 : K = 3
  · exact forms_3 hS h3
  by_cases h7 : K = 7
  · exact forms_7 hS h7
  by_cases h8 : K = 8
  · exact forms_8 hS h8
  by_cases h9 : K = 9
  · exact forms_9 hS h9 hsh
  by_cases h10 : K = 10
  · exact forms_10 hS h10
  exact forms_0 hS ⟨h3, h7, h8, h9, h10⟩
end Go.Proofs.YtmnllioeaaimcaaDoor.tk
