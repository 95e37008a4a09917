/- The document's answer of layer 4: are two rows of tokens one? -/
import Derived.Deep.Draws
import Derived.Laws.StructEq
import Derived.Deep.RegionHeld3
import Derived.Test.YtcikleomipbkmaaDoorTp
namespace Go.Proofs.YtcikleomipbkmaaDoor.tk
open Go.RowKit

/-- a slice that reads as tokens -/
def Tr (w : World) (A : Option Addr) (D : List Tk) : Prop := 0 < D.length → ∃ g, A = some ⟨g, 0, none⟩ ∧ ∀ j (h : j < D.length), w.cell? ⟨g, j * 3, none⟩ = some (.int .i64 (D[j].kind : Int)) ∧ w.cell? ⟨g, j * 3 + 1, none⟩ = some (.string ⟨D[j].text.toArray⟩) ∧ w.cell? ⟨g, j * 3 + 2, none⟩ = some (.int .i64 (D[j].at_ : Int))
theorem tkCells_at (D : List Tk) : ∀ j (h : j < D.length), (tkCells D)[j * 3]? = some (.int .i64 (D[j].kind : Int)) ∧ (tkCells D)[j * 3 + 1]? = some (.string ⟨D[j].text.toArray⟩) ∧ (tkCells D)[j * 3 + 2]? = some (.int .i64 (D[j].at_ : Int)) := by
  induction D with
  | nil => intro j h; simp at h
  | cons x r ih =>
    intro j h
    have e : tkCells (x :: r) = .int .i64 (x.kind : Int) :: .string ⟨x.text.toArray⟩ :: .int .i64 (x.at_ : Int) :: tkCells r := rfl
    rw [e]
    cases j with
    | zero => exact ⟨rfl, rfl, rfl⟩
    | succ j =>
      have := ih j (by simpa using h)
      rw [show (j + 1) * 3 = j * 3 + 3 by omega]
      exact this
theorem Tr.of_own {w : World} {base n c : Nat} {e : TypeId} {A : Option Addr} {D : List Tk} (h : w.ownsRow base e 3 (.slice A n c) n (tkCells D)) : Tr w A D := by
  intro h0
  have hl : D.length = n := by have := h.1; rw [tkCells_len] at this; omega
  rcases h.2 with ⟨_, e2⟩ | ⟨g, cap, cur, e1, _, e3, hn, _, hs, ht⟩
  · omega
  · have hA : A = some ⟨g, 0, none⟩ := by injection e1
    refine ⟨g, hA, fun j hj => ?_⟩
    obtain ⟨h1, h2, h3⟩ := tkCells_at D j hj
    rw [← ht] at h1 h2 h3
    have cell : ∀ i v, (cur.toList.take (n * 3))[i]? = some v → w.cell? ⟨g, i, none⟩ = some v := by
      intro i v hv
      rw [cell_of_row w g i cur e (0, 0) e3]
      rw [List.getElem?_take] at hv
      split at hv
      · simpa using hv
      · cases hv
    exact ⟨cell _ _ h1, cell _ _ h2, cell _ _ h3⟩
theorem Tr.at_ {w : World} {A : Option Addr} {D : List Tk} (h : Tr w A D) {j : Nat} (hj : j < D.length) : ∃ g, A = some ⟨g, 0, none⟩ ∧ w.cell? ⟨g, j * 3, none⟩ = some (.int .i64 (D[j].kind : Int)) ∧ w.cell? ⟨g, j * 3 + 1, none⟩ = some (.string ⟨D[j].text.toArray⟩) ∧ w.cell? ⟨g, j * 3 + 2, none⟩ = some (.int .i64 (D[j].at_ : Int)) := by
  obtain ⟨g, e, hc⟩ := h (by omega)
  exact ⟨g, e, hc j hj⟩

theorem take_one {D E : List Tk} {k : Nat} (h : k < D.length) (h2 : k < E.length) : D.take (k + 1) = E.take (k + 1) ↔ D.take k = E.take k ∧ D[k] = E[k] := by
  rw [List.take_succ_eq_append_getElem h, List.take_succ_eq_append_getElem h2]
  constructor
  · intro e
    have := List.append_inj e (by rw [List.length_take, List.length_take]; omega)
    exact ⟨this.1, by simpa using this.2⟩
  · rintro ⟨e1, e2⟩
    rw [e1, e2]
@[go_sem] theorem tok_neq (w : World) (a b a' b' : Int) (s s' : ByteArray) : (binOp .neq 23 (.agg #[.int .i64 a, .string s, .int .i64 b]) (.agg #[.int .i64 a', .string s', .int .i64 b'])).run Tryd.prog w = .ok (.bool (!(a == a' && (s.toList == s'.toList && b == b')))) w := by
  have hp : Tryd.prog.stoodInHeld 23 = false := by kernel_rfl
  have ht : Tryd.prog.underlying 23 = some (.struct (Tryd.prog.fieldsOf 23)) := by simp [Program.fieldsOf, Tryd.underlying23]
  rw [run_neq_struct, run_equalIn_agg w _ _ _ _ ht hp]
  simp [Program.fieldsOf, Tryd.underlying23, Op.eqFields, go_sem, Tryd.underlying3, Tryd.underlying9]
  by_cases h1 : a = a' <;> by_cases h2 : s.toList = s'.toList <;> by_cases h3 : b = b' <;> simp [h1, h2, h3]
@[go_sem] theorem tok_guard (w : World) (x y : Operand) (xs ys : Array Value) : (eqGuard .neq 23 x y (.agg xs) (.agg ys)).run Tryd.prog w = .ok () w := run_eqGuard_agg w _ _ _ _ _ _ (by kernel_rfl)

set_option maxRecDepth 100000 in
set_option maxHeartbeats 2000000 in
theorem refSame_any {w : World} {A B : Option Addr} {D E : List Tk} {c d : Nat} (ha : Hid (Tr w A D)) (hb : Hid (Tr w B E)) (hl : D.length ≤ 100000) (hl2 : E.length ≤ 100000) :
    Calls Tryd.prog 9 #[.slice A D.length c, .slice B E.length d] w fun e w' => e = .returned (.bool (decide (D = E))) ∧ ∃ n, w' = w.drewN n := by
  go_enter Tryd.func9, Tryd.ntmps9
  by_cases hne : D.length = E.length
  · have g0 : ((D.length : Int) != (E.length : Int)) = false := by rw [hne]; simp
    go_wp2_with fail
    go_loopw [5] (fun iv wr => ∃ (k n : Nat), k ≤ D.length ∧ iv = .int .i64 (k : Int) ∧ Hid (D.take k = E.take k) ∧ wr = w.drewN n) (fun iv _ => D.length - (intOf iv).toNat)
    case atStart => exact ⟨0, 0, Nat.zero_le _, rfl, Lib.hid rfl, rfl⟩
    case round =>
      obtain ⟨k, n, hk, rfl, HT, rfl⟩ := hrel
      by_cases hlt : k < D.length
      · obtain ⟨g, rfl, a0, a1, a2⟩ := ha.out.at_ hlt
        obtain ⟨g2, rfl, b0, b1, b2⟩ := hb.out.at_ (show k < E.length by omega)
        have HK := Lib.hid (take_one hlt (show k < E.length by omega))
        obtain ⟨x, hx⟩ : ∃ x, D[k] = x := ⟨_, rfl⟩
        obtain ⟨y, hy⟩ : ∃ y, E[k]'(by omega) = y := ⟨_, rfl⟩
        rw [hx] at a0 a1 a2
        rw [hy] at b0 b1 b2
        rw [hx, hy] at HK
        have HX : Hid (x = y ↔ (x.kind : Int) = (y.kind : Int) ∧ x.text = y.text ∧ (x.at_ : Int) = (y.at_ : Int)) := Lib.hid (by
          constructor
          · rintro rfl; exact ⟨rfl, rfl, rfl⟩
          · rintro ⟨h1, h2, h3⟩
            cases x
            cases y
            simp only at h1 h2 h3
            rw [h2, Int.ofNat_inj.1 h1, Int.ofNat_inj.1 h3])
        clear hx hy
        by_cases q1 : (x.kind : Int) = (y.kind : Int)
        · by_cases q2 : x.text = y.text
          · by_cases q3 : (x.at_ : Int) = (y.at_ : Int)
            · have HE : Hid (D.take (k + 1) = E.take (k + 1)) := Lib.hid (HK.out.2 ⟨HT.out, HX.out.2 ⟨q1, q2, q3⟩⟩)
              go_upto_region 6 with fail
              go_region
              go_wp2_with fail
              go_roundw
              case rel => exact ⟨k + 1, _, by omega, by go_num, HE, rfl⟩
              case measure => simp [intOf]; omega
            · have HE : Hid (D ≠ E) := Lib.hid (fun e => q3 (HX.out.1 (HK.out.1 (by rw [e])).2).2.2)
              go_upto_region 6 with fail
              go_region
              go_wp2_with fail
              go_ret
              exact ⟨ret_bool (decide_eq_false HE.out).symm, _, rfl⟩
          · have HE : Hid (D ≠ E) := Lib.hid (fun e => q2 (HX.out.1 (HK.out.1 (by rw [e])).2).2.1)
            go_upto_region 6 with fail
            go_region
            go_wp2_with fail
            go_ret
            exact ⟨ret_bool (decide_eq_false HE.out).symm, _, rfl⟩
        · have HE : Hid (D ≠ E) := Lib.hid (fun e => q1 (HX.out.1 (HK.out.1 (by rw [e])).2).1)
          go_upto_region 6 with fail
          go_region
          go_wp2_with fail
          go_ret
          exact ⟨ret_bool (decide_eq_false HE.out).symm, _, rfl⟩
      · obtain rfl : k = D.length := by omega
        have HE : Hid (D = E) := Lib.hid (by
          have := HT.out
          rwa [List.take_length, hne, List.take_length] at this)
        have g1 : ¬ ((D.length : Int) < (D.length : Int)) := by omega
        go_wp2_with fail
        go_ret
        exact ⟨ret_bool (decide_eq_true HE.out).symm, _, rfl⟩
  · have g0 : ((D.length : Int) != (E.length : Int)) = true := by rw [bne_iff_ne]; omega
    go_wp2_with fail
    go_ret
    exact ⟨ret_bool (by rw [decide_eq_false]; rintro rfl; exact hne rfl), 0, rfl⟩
end Go.Proofs.YtcikleomipbkmaaDoor.tk
