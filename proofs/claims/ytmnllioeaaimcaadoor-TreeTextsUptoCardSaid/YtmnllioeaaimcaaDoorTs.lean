/- The document's answer of layer 4: Word: the texts that may tell a token. -/
import Derived.Test.YtmnllioeaaimcaaDoorTq
import Derived.Test.YtmnllioeaaimcaaDoorTr
namespace Go.Proofs.YtmnllioeaaimcaaDoor.tk
open Go.RowKit

def strV (l : List UInt8) : Value := .string ⟨l.toArray⟩
/-- the call's box of its token, and a slice of texts that it made -/
structure Cd (w W : World) (K P : Int) (S : ByteArray) (sv : Value) (l : List (List UInt8)) : Prop where
  box : Bk W w.heap.size 35 #[.int .i64 K, .string S, .int .i64 P]
  list : ∃ g, sv = .slice (some ⟨g, 0, none⟩) l.length l.length ∧ Bk W g 9 (l.map strV).toArray
  below : Below w.heap.size w W
theorem Cd.new {w W W' : World} {K P : Int} {S : ByteArray} (l : List (List UInt8)) {cs : Array Value} (n : Nat) (hn : n = l.length) (hcs : cs = (l.map strV).toArray) (hb : Bk W w.heap.size 35 #[.int .i64 K, .string S, .int .i64 P]) (hB : Below w.heap.size w W) (hW : W.alloc (.cells cs 9) = W') :
    Cd w W' K P S (.slice (some ⟨W.heap.size, 0, none⟩) n n) l := by
  subst hcs hW hn
  exact ⟨hb.alloc _, ⟨_, rfl, Bk.new W _ _⟩, hB.alloc hB.size _⟩
theorem Cd.t0 {w W : World} {K P : Int} {S : ByteArray} {sv : Value} {l : List (List UInt8)} (h : Cd w W K P S sv l) : W.cell? ⟨w.heap.size, 0, none⟩ = some (.int .i64 K) := h.box.cell 0
theorem Cd.t1 {w W : World} {K P : Int} {S : ByteArray} {sv : Value} {l : List (List UInt8)} (h : Cd w W K P S sv l) : W.cell? ⟨w.heap.size, 1, none⟩ = some (.string S) := h.box.cell 1
theorem cat_list (a b : ByteArray) : a ++ b = ⟨(a.data.toList ++ b.data.toList).toArray⟩ := by
  cases a; cases b
  apply ByteArray.ext
  simp
theorem str_of (S : ByteArray) : Value.string S = strV S.data.toList := by
  cases S; simp [strV]
theorem esc_ub (a : List UInt8) : (esc a).length ≤ 2 * a.length := by
  induction a with
  | nil => exact Nat.le_refl _
  | cons c r ih =>
    unfold esc
    split <;> simp <;> omega
theorem esc_snoc {l : List UInt8} {k : Nat} {d : UInt8} (h : l[k]? = some d) : esc (l.take (k + 1)) = esc (l.take k) ++ (if d.toNat = 34 then [d, d] else [d]) := by
  rw [List.take_add_one, h, Option.toList_some, esc_append]
  congr 1
theorem one_slice {w : World} {S : ByteArray} {k : Nat} {d : UInt8} (h : S.data.toList[k]? = some d) : (Instr.slice 9 (.string S) (some (.int .i64 (k : Int))) (some (.int .i64 ((k : Int) + 1))) none).run Tryd.prog w = .ok (.string ⟨#[d]⟩) w := by
  have hk : k < S.size := by
    have := (List.getElem?_eq_some_iff.1 h).1
    simpa using this
  rw [run_slice_string (h := Tryd.underlying9) (h0 := by omega) (h1 := by omega) (h2 := by omega)]
  have e : S.extract ((k : Int)).toNat (((k : Int) + 1)).toNat = ⟨#[d]⟩ := by
    have e1 : ((k : Int)).toNat = k := by omega
    have e2 : (((k : Int) + 1)).toNat = k + 1 := by omega
    rw [e1, e2]
    have e3 := ByteArray.extract_mk S.data.toList k (k + 1)
    have e4 : (ByteArray.mk S.data.toList.toArray) = S := by cases S; simp
    rw [e4] at e3
    rw [e3, show k + 1 - k = 1 by omega]
    obtain ⟨hh, h⟩ := List.getElem?_eq_some_iff.1 h
    rw [List.drop_eq_getElem_cons hh, List.take_succ_cons, List.take_zero, h]
  rw [e]
theorem one_index {S : ByteArray} {k : Nat} {d : UInt8} (h : S.data.toList[k]? = some d) (hk : k < S.size) : S[k] = d := by
  obtain ⟨hh, h⟩ := List.getElem?_eq_some_iff.1 h
  rw [← h]; simp; rfl
theorem str_one {a b : List UInt8} {d : UInt8} (h : b = a ++ [d]) : Value.string ({ data := (34 :: a).toArray } ++ { data := #[d] }) = .string ⟨(34 :: b).toArray⟩ := by
  subst h; rw [cat_list]; simp
theorem str_two' {a b : List UInt8} {d : UInt8} (hd : d.toNat = 34) (h : b = a ++ [d, d]) : Value.string ({ data := (34 :: a).toArray } ++ { data := #[d] } ++ { data := #[34] }) = .string ⟨(34 :: b).toArray⟩ := by
  have e : d = 34 := UInt8.toNat_inj.1 hd
  subst h e; rw [cat_list, cat_list]; simp
/-- the texts that may tell a token, in their order -/
def gos (K : Int) (T : List UInt8) : List (List UInt8) :=
  if K = 9 then [34 :: (esc T ++ [34])] else if K = 10 then [58 :: T] else if K = 8 then [35 :: 98 :: T] else if K = 7 then [35 :: 120 :: T] else [T, 124 :: (T ++ [124])]
theorem gos_two (K : Int) (T : List UInt8) : (gos K T).length ≤ 2 ∧ 1 ≤ (gos K T).length := by
  unfold gos
  repeat' split
  all_goals simp
theorem gos_word (K : Int) (T : List UInt8) : wordW K T = if K = 3 then (gos K T).find? (told K T) else ((gos K T).take 1).find? (told K T) := by
  unfold wordW cands gos
  by_cases h10 : K = 10
  · subst h10; rfl
  by_cases h9 : K = 9
  · subst h9; rfl
  by_cases h8 : K = 8
  · subst h8; rfl
  by_cases h7 : K = 7
  · subst h7; rfl
  by_cases h3 : K = 3
  · subst h3; rfl
  rw [if_neg h10, if_neg h9, if_neg h8, if_neg h7, if_neg h3, if_neg h3, if_neg h9, if_neg h10, if_neg h8, if_neg h7]
  rfl
end Go.Proofs.YtmnllioeaaimcaaDoor.tk
