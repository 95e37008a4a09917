/- Package whole: slices.Clone, difference. -/
import Derived.Test.YtgmnpajecpjklaaDoorSub
import Derived.WalkSpells
namespace Go.Proofs.YtgmnpajecpjklaaDoor.wh
open Go.RowKit

/-- what Clone gives: a row of its own, which holds the digits -/
def GivesClone (W : World) (n : Nat) (xs : List Nat) (e : Ending) (w' : World) : Prop :=
  (∃ g cap post, e = .returned (.slice (some ⟨g, 0, none⟩) n cap) ∧ Seg w' g 0 [] xs post ∧ W.heap.size ≤ g ∧ n ≤ cap ∧ Below W.heap.size W w') ∨
  (∃ A cap, n = 0 ∧ e = .returned (.slice A 0 cap) ∧ Below W.heap.size W w')

theorem own_cases {w : World} {base n : Nat} {v : Value} {xs : List Nat} (h : w.ownsRow base 58 1 v n (u32s xs)) :
    (v = .slice none 0 0 ∧ n = 0) ∨ ∃ g cap post, v = .slice (some ⟨g, 0, none⟩) n cap ∧ Seg w g 0 [] xs post ∧ base ≤ g ∧ n ≤ cap := by
  obtain ⟨hl, h⟩ := h
  rcases h with h | ⟨g, cap, cur, rfl, hb, hg, hn, _, hs, ht⟩
  · exact .inl h
  · refine .inr ⟨g, cap, cur.toList.drop n, rfl, ⟨rfl, ?_⟩, hb, hn⟩
    have e : cur = ([] ++ u32s xs ++ cur.toList.drop n).toArray := by
      rw [← ht, Nat.mul_one, List.nil_append, List.take_append_drop]
    unfold Blk
    rw [← e]
    exact hg

set_option maxHeartbeats 1000000 in
set_option maxRecDepth 100000 in
theorem clone_any (A : Option Addr) (n c : Nat) (xs : List Nat) (w : World) (hl : xs.length = n) (hn : n ≤ 1000) (hr : Rd w w.heap.size A xs) :
    Calls Tryd.prog 45 #[.slice A n c] w fun e w' => GivesClone w n xs e w' := by
  obtain ⟨i0, hi, hz0, hz1, hz2⟩ := info_parts info_u32
  subst hl
  have HR := Lib.hid hr
  clear hr
  cases A with
  | none =>
    have h0 : xs.length = 0 := by
      rcases Nat.eq_zero_or_pos xs.length with h | h
      · exact h
      · obtain ⟨b, off, e, _⟩ := HR.out h
        cases e
    have H0 := Lib.hid h0
    clear h0
    have hnil : ∀ W : World, (binOp .eql 22 (.slice none xs.length c) (.slice none 0 0)).run Tryd.prog W = .ok (.bool true) W := fun W => Lib.run_eql_slice_nil W 22 58 none _ _ _ _ Tryd.underlying22
    go_enter Tryd.func45, Tryd.ntmps45
    go_wp2
    go_ret
    exact .inr ⟨none, 0, H0.out, rfl, Below.refl _ _⟩
  | some ad =>
    have hown : (w.alloc (.cells #[] 58)).ownsRow w.heap.size 58 1 (.slice (some ⟨w.heap.size, 0, none⟩) 0 0) 0 [] := World.ownsRow_made w #[] 0 (Nat.le_refl _) (by unfold maxLen; omega) rfl
    have HOWN := Lib.hid hown
    clear hown
    have hnil : ∀ W : World, (binOp .eql 22 (.slice (some ad) xs.length c) (.slice none 0 0)).run Tryd.prog W = .ok (.bool false) W := fun W => Lib.run_eql_slice_nil W 22 58 (some ad) _ _ _ _ Tryd.underlying22
    go_enter Tryd.func45, Tryd.ntmps45
    go_wp2_with (at_builtin; refine wpList_append_own _ rfl (.tmp 5) (.tmp 6) 22 rfl w.heap.size 58 i0 (.int .u32 0) 1 4 Tryd.underlying22 hi hz0 hz1 hz2 rfl (by decide) _ _ _ rfl HOWN.out ad xs.length c (u32s xs) rfl ?c0 ?c1 ?c2 ?c3 ?c4 ?c5 ?_)
    case c0 => rw [u32s_length, Nat.mul_one]
    case c1 =>
      intro j u hj
      have hjl : j < xs.length := by
        have := (List.getElem?_eq_some_iff.1 hj).1
        rwa [u32s_length] at this
      obtain ⟨b, off, e, _, hc⟩ := (HR.out.alloc (Nat.le_refl _) (.cells #[] 58)) (by omega)
      injection e with e
      subst e
      rw [u32s_get hjl] at hj
      injection hj with hj
      subst hj
      rw [← hc j hjl]
      unfold Addr.add
      by_cases hj0 : j = 0 <;> simp [hj0]
    case c2 =>
      intro v hv
      simp only [u32s, List.mem_map] at hv
      obtain ⟨_, _, rfl⟩ := hv
      rfl
    case c3 => unfold maxLen; omega
    case c4 => omega
    case c5 => simp
    intro v' w1 hown' hgrow hnn
    have hb1 : Below w.heap.size w w1 := ((Below.refl _ _).alloc (Nat.le_refl _) _).grown hgrow (by simp) (fun g hg => by simp [Value.ownBlock] at hg; omega)
    have HOWN' := Lib.hid hown'
    clear hown' hgrow hnn
    go_wp2
    go_ret
    rcases own_cases HOWN'.out with ⟨rfl, h⟩ | ⟨g, cap, post, rfl, hsg, hg, hcap⟩
    · exact .inr ⟨none, 0, h, rfl, hb1⟩
    · exact .inl ⟨g, cap, post, rfl, hsg, hg, hcap, hb1⟩

theorem subtract_none (A B : Option Addr) (c d t : Nat) (w : World) :
    Calls Tryd.prog 59 #[.slice A 0 c, .slice B 0 d, .int .u64 t] w fun e w' => e = .returned (.bool false) ∧ w = w' := by
  go_enter Tryd.func59, Tryd.ntmps59
  go_wp2
  go_loop [7, 13] (fun u i => u = .int .u64 0 ∧ i = .int .i64 0) (fun _ _ => 0)
  case atStart => exact ⟨rfl, rfl⟩
  case round =>
    obtain ⟨rfl, rfl⟩ := hrel
    go_wp2
    go_ret
    exact ⟨rfl, rfl⟩

theorem diff_done {xs bs ys : List Nat} {q : Nat} (h : Subbed xs bs 1 ys q) (hle : val bs ≤ val xs) : val ys = val xs - val bs := by
  obtain ⟨h1, h2, h3, h4⟩ := h
  have hlt := val_lt h2
  rw [h1] at hlt
  rcases Nat.eq_zero_or_pos q with e | e
  · subst e; omega
  · obtain rfl : q = 1 := by omega
    omega

set_option maxRecDepth 100000 in
set_option maxHeartbeats 1000000 in
theorem difference_any (A B : Option Addr) (n c m d : Nat) (xs bs : List Nat) (w : World) (hlx : xs.length = n) (hlb : bs.length = m) (hn : n ≤ 1000) (hmn : m ≤ n) (hle : val bs ≤ val xs)
    (ha : Rd w w.heap.size A xs) (hb : Rd w w.heap.size B bs) (hdx : Dig xs) (hdb : Dig bs) :
    Calls Tryd.prog 37 #[.slice A n c, .slice B m d] w fun e w' => GivesRow w n (val xs - val bs) e w' := by
  have HRA := Lib.hid ha
  have HRB := Lib.hid hb
  have HX := Lib.hid hdx
  have HB := Lib.hid hdb
  have HLX := Lib.hid hlx
  have HLB := Lib.hid hlb
  have HLE := Lib.hid hle
  clear ha hb hdx hdb hlx hlb hle
  go_enter Tryd.func37, Tryd.ntmps37
  go_wp2_with fail
  refine (clone_any A n c xs w HLX.out hn HRA.out).mono ?_
  rintro e w1 (⟨g, cap, post, rfl, hsg, hg, hcap, hb1⟩ | ⟨A', cap, h0, rfl, hb1⟩)
  · have HSG := Lib.hid hsg
    clear hsg
    go_wp2_with fail
    refine (subtract_any g 0 n cap m d 1 [] post B xs bs w1 HLX.out HLB.out hmn (by unfold maxLen; omega) (by omega) HSG.out (HRB.out.over hb1) (by have h := HRB.out.away_of hg; rw [HLB.out] at h; exact h) HX.out HB.out).mono ?_
    rintro e w2 ⟨ys, q, rfl, hsub, hseg, honly⟩
    have HSUB := Lib.hid hsub
    clear hsub
    go_wp2
    go_ret
    exact ⟨_, _, ys, rfl, by rw [HSUB.out.1, HLX.out], hcap, hseg.rd, HSUB.out.2.1, diff_done HSUB.out HLE.out, only_below hb1 honly hb1.size hg⟩
  · subst h0
    obtain rfl : m = 0 := by omega
    go_wp2_with fail
    refine (subtract_none _ _ _ _ 1 _).mono ?_
    rintro e w' ⟨rfl, rfl⟩
    go_wp2
    go_ret
    have hx := List.eq_nil_of_length_eq_zero HLX.out
    subst hx
    exact ⟨_, _, [], rfl, rfl, Nat.zero_le _, Rd.nil, Dig.nil, by simp [val], hb1⟩
end Go.Proofs.YtgmnpajecpjklaaDoor.wh
