/- Package whole: split, join, Of, Small: numbers of the machine as digits, and back. -/
import Derived.Test.YtgmnpajecpjklaaDoorTrim
namespace Go.Proofs.YtgmnpajecpjklaaDoor.wh
open Go.RowKit

theorem info_u32 : (Tryd.prog.info? 58).map (fun i => (i.zero, i.size, i.bytes)) = some (some (.int .u32 0), 1, 4) := by kernel_rfl

/-- what stands in a loop of split: the digits so far, and what is left -/
def SplitAt (n : Nat) (ds : List Nat) (q : Nat) : Prop := Dig ds ∧ val ds + 1000000000 ^ ds.length * q = n
theorem split_step {n q : Nat} {ds : List Nat} (h : SplitAt n ds q) : SplitAt n (ds ++ [q % 1000000000]) (q / 1000000000) := by
  obtain ⟨h1, h2⟩ := h
  refine ⟨h1.append (Dig.cons (Nat.mod_lt _ (by omega)) Dig.nil), ?_⟩
  rw [val_snoc, List.length_append, List.length_singleton, Nat.pow_succ]
  rw [← h2, Nat.add_assoc, Nat.mul_assoc, ← Nat.mul_add, Nat.mod_add_div]
/-- a uint64 has it -/
def W64 (n : Nat) : Prop := n < 18446744073709551616
theorem W64.le {n : Nat} (h : W64 n) : (n : Int) ≤ 18446744073709551615 := by unfold W64 at h; omega
theorem W64.of {n : Nat} (h : n < 18446744073709551616) : W64 n := h
theorem split_len {n q : Nat} {ds : List Nat} (h : SplitAt n ds q) (hq : 0 < q) (hn : W64 n) : ds.length ≤ 2 := by
  obtain ⟨_, h2⟩ := h
  unfold W64 at hn
  rcases Nat.lt_or_ge 2 ds.length with hlt | hge
  · have h3 : 1000000000 ^ 3 ≤ 1000000000 ^ ds.length := pow_mono (by omega)
    have h4 : 1000000000 ^ ds.length * 1 ≤ 1000000000 ^ ds.length * q := Nat.mul_le_mul_left _ hq
    omega
  · exact hge

def GivesDigits (W : World) (n : Nat) (e : Ending) (w' : World) : Prop :=
  ∃ A m c ds, e = .returned (.slice A m c) ∧ ds.length = m ∧ Rd w' w'.heap.size A ds ∧ m ≤ c ∧ m ≤ 3 ∧ Dig ds ∧ val ds = n ∧ Below W.heap.size W w'

set_option maxRecDepth 100000 in
set_option maxHeartbeats 400000 in
theorem split_any (n : Nat) (w : World) (hn : W64 n) :
    Calls Tryd.prog 47 #[.int .u64 n] w fun e w' => GivesDigits w n e w' := by
  obtain ⟨i0, hi, hz0, hz1, hz2⟩ := info_parts info_u32
  go_enter Tryd.func47, Tryd.ntmps47
  go_wp2
  go_loopw [0, 3] (fun u v wr => ∃ (q : Nat) (ds : List Nat), W64 q ∧ u = .int .u64 q ∧ wr.ownsRow w.heap.size 58 1 v ds.length (u32s ds) ∧ Hid (SplitAt n ds q) ∧ ds.length ≤ 3 ∧ Below w.heap.size w wr) (fun u _ _ => (intOf u).toNat)
  case atStart => exact ⟨n, [], hn, rfl, World.ownsRow_nil _ _ _ _, ⟨Dig.nil, by simp [val]⟩, by simp, Below.refl _ _⟩
  case round =>
    obtain ⟨q, ds, hq, rfl, hown, hsp, hl3, hb⟩ := hrel
    by_cases h0 : 0 < q
    · have hl := split_len hsp.out h0 hn
      have hq1 : (0 : Int) < (q : Int) := by omega
      have hq2 := hq.le
      obtain ⟨r, hr⟩ : ∃ r : Nat, r = q % 1000000000 := ⟨_, rfl⟩
      obtain ⟨p, hp⟩ : ∃ p : Nat, p = q / 1000000000 := ⟨_, rfl⟩
      have hr1 : ((q : Int) % 1000000000) = (r : Int) := by omega
      have hp1 : ((q : Int) / 1000000000) = (p : Int) := by omega
      have hr3 : r < 1000000000 := by omega
      have hp3 : p < q := by omega
      have HR := Lib.hid hr
      have HP := Lib.hid hp
      clear hr hp
      have hbs := hb.size
      go_wp2_with (at_builtin; refine wpList_append_own _ rfl (.tmp 6) (.tmp 10) 22 rfl w.heap.size 58 i0 (.int .u32 0) 1 4 Tryd.underlying22 hi hz0 hz1 hz2 rfl (by decide) _ _ _ rfl (hown.alloc _) ⟨wr.heap.size, 0, none⟩ 1 1 [.int .u32 (r : Int)] rfl rfl ?c1 ?c2 ?c3 ?c4 ?c5 ?_)
      case c1 =>
        intro j u hj
        match j, hj with
        | 0, hj => simp at hj; subst hj; simp [Addr.add]
      case c2 => intro u hu; simp at hu; subst hu; rfl
      case c3 => unfold maxLen; omega
      case c4 => omega
      case c5 => simp; omega
      intro v' w1 hown' hgrow _
      have hb1 : Below w.heap.size w w1 := (hb.alloc hbs _).grown hgrow (by simp; omega) (fun g hg => (hown.lt g hg).1)
      clear hgrow hown
      go_wp2
      go_roundw
      case rel => exact ⟨p, ds ++ [r], W64.of (by have := hq; unfold W64 at this; omega), rfl, by rw [List.length_append, u32s_append]; exact hown', by have h := split_step hsp.out; rw [← HR.out, ← HP.out] at h; exact h, by simp; omega, hb1⟩
      case measure => simp [intOf]; omega
    · have hq1 : ¬ (0 : Int) < (q : Int) := by omega
      go_wp2
      go_ret
      obtain ⟨A, m, c, rfl⟩ : ∃ A m c, u3 = .slice A m c := by
        rcases hown.2 with ⟨h, _⟩ | ⟨g, cap, cur, h, _⟩
        · exact ⟨_, _, _, h⟩
        · exact ⟨_, _, _, h⟩
      have hm : ds.length = m := by
        rcases hown.2 with ⟨h, h'⟩ | ⟨g, cap, cur, h, _⟩
        · injection h with _ h2 _; omega
        · injection h with _ h2 _; omega
      have hmc : m ≤ c := by
        rcases hown.2 with ⟨h, h'⟩ | ⟨g, cap, cur, h, _, _, h4, _⟩
        · injection h with _ h2 h3; omega
        · injection h with _ h2 h3; omega
      have hv : val ds = n := by
        have := hsp.out.2
        have h0 : q = 0 := by omega
        rw [h0] at this; simpa using this
      exact ⟨A, m, c, ds, rfl, hm, Rd.of_own (base := w.heap.size) (n := m) (c := c) (by rw [hm] at hown; exact hown), hmc, by omega, hsp.out.1, hv, hb⟩
end Go.Proofs.YtgmnpajecpjklaaDoor.wh
