/- Tokens of a text: how a token stands in a text. Plain mathematics. -/
import Derived.Test.YtcikleomipbkmaaDoorTd
namespace Go.Proofs.YtcikleomipbkmaaDoor.tk

/-- the texts that may tell a token -/
def cands (k : Int) (T : List UInt8) : List (List UInt8) :=
  if k = 10 then [58 :: T] else if k = 9 then [34 :: (esc T ++ [34])] else if k = 8 then [35 :: 98 :: T] else if k = 7 then [35 :: 120 :: T] else if k = 3 then [T, 124 :: (T ++ [124])] else [T]
/-- is it read as this token alone? -/
def told (k : Int) (T : List UInt8) (W : List UInt8) : Bool := match readL W with
  | .ok [x] => decide ((x.kind : Int) = k) && (decide (x.text = T) && decide (x.at_ = 0))
  | _ => false
def wordW (k : Int) (T : List UInt8) : Option (List UInt8) := (cands k T).find? (told k T)
theorem told_rd {k : Int} {T W : List UInt8} (h : told k T W = true) : ∃ j : Nat, k = (j : Int) ∧ Rd W 0 [⟨j, T, 0⟩] := by
  unfold told at h
  split at h
  · rename_i x hx
    simp only [Bool.and_eq_true, decide_eq_true_eq] at h
    obtain ⟨h1, h2, h3⟩ := h
    obtain ⟨a, b, c⟩ := x
    simp only at h1 h2 h3
    subst h2 h3
    exact ⟨a, h1.symm, readL_ok.1 hx⟩
  · cases h
theorem scan_bar (r : List UInt8) : scan (124 :: r) = barL r := by
  unfold scan
  rfl
theorem scan_hash (r : List UInt8) : scan (35 :: r) = hashL r := by
  unfold scan
  rfl
theorem scan_key (r : List UInt8) : scan (58 :: r) = keyL r := by
  unfold scan
  rfl
theorem scan_str (r : List UInt8) : scan (34 :: r) = strL r 1 [] := by
  unfold scan
  rfl
/-- a token's word is a whole token -/
theorem word_whole {k : Int} {T W : List UInt8} (h : wordW k T = some W) : ∃ j : Nat, k = (j : Int) ∧ Whole W j T := by
  unfold wordW at h
  have hm := List.mem_of_find?_eq_some h
  have ht := List.find?_some h
  obtain ⟨j, hj, hr⟩ := told_rd ht
  refine ⟨j, hj, whole_of hr (fun n hn => ?_)⟩
  have hl := scan_len.1 j n T hn
  have self : W = T → n = W.length := fun e => by subst e; omega
  unfold cands at hm
  split at hm
  · have e : W = 58 :: T := by simpa using hm
    subst e
    rw [scan_key] at hn
    have := (key_len T).1 j n T hn
    simp; omega
  split at hm
  · have e : W = 34 :: (esc T ++ [34]) := by simpa using hm
    subst e
    rw [scan_str] at hn
    have := (str_len _ (esc T ++ [34]) 1 [] (Nat.le_refl _)).1 j n T hn
    simp only [List.reverse_nil, esc, List.length_nil] at this
    simp; omega
  split at hm
  · have e : W = 35 :: 98 :: T := by simpa using hm
    subst e
    rw [scan_hash] at hn
    have := (hash_len (98 :: T)).1 j n T hn
    simp; omega
  split at hm
  · have e : W = 35 :: 120 :: T := by simpa using hm
    subst e
    rw [scan_hash] at hn
    have := (hash_len (120 :: T)).1 j n T hn
    simp; omega
  split at hm
  · have e : W = T ∨ W = 124 :: (T ++ [124]) := by simpa using hm
    rcases e with e | e
    · exact self e
    · subst e
      rw [scan_bar] at hn
      have := (bar_len (T ++ [124])).1 j n T hn
      simp; omega
  · have e : W = T := by simpa using hm
    exact self e
end Go.Proofs.YtcikleomipbkmaaDoor.tk
