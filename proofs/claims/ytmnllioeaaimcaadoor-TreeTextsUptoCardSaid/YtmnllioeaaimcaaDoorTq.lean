/- The document's answer of layer 4: Read. -/
import Derived.Test.YtmnllioeaaimcaaDoorTp
namespace Go.Proofs.YtmnllioeaaimcaaDoor.tk
open Go.RowKit

theorem own_below {w w' : World} {base size n : Nat} {e : TypeId} {v : Value} {xs : List Value} (h : w.ownsRow base e size v n xs) (hb : Below w.heap.size w w') : w'.ownsRow base e size v n xs := by
  refine ⟨h.1, h.2.imp id ?_⟩
  rintro ⟨g, cap, cur, e1, e2, e3, r⟩
  have hlt : g < w.heap.size := (Array.getElem?_eq_some_iff.1 e3).1
  exact ⟨g, cap, cur, e1, e2, (hb.block g hlt).trans e3, r⟩
theorem own_row3 {w : World} {base n size : Nat} {e : TypeId} {v : Value} {xs : List Value} (h : w.ownsRow base e size v n xs) : ∃ A c, v = .slice A n c ∧ n ≤ c := by
  rcases h.2 with ⟨rfl, rfl⟩ | ⟨g, cap, cur, rfl, _, _, hn, _⟩
  · exact ⟨_, _, rfl, Nat.le_refl _⟩
  · exact ⟨_, _, rfl, hn⟩
theorem Rb.blt {w : World} {b off : Nat} {bs : List UInt8} (h : Rb w (some ⟨b, off, none⟩) bs) (hn : 0 < bs.length) : b < w.heap.size := by
  obtain ⟨b2, off2, e, hlt, _⟩ := h hn
  injection e with e; injection e with e1 e2
  subst e1
  exact hlt
theorem three_cells (W : World) (t : TypeId) (x y z : Value) : ∀ j u, [x, y, z][j]? = some u → (W.alloc (.cells #[x, y, z] t)).cell? ((⟨W.heap.size, 0, none⟩ : Addr).add j) = some u := by
  intro j u hj
  match j, hj with
  | 0, hj => simp at hj; subst hj; simp [Addr.add]
  | 1, hj => simp at hj; subst hj; simp [Addr.add]
  | 2, hj => simp at hj; subst hj; simp [Addr.add]
theorem three_one (a b : Int) (s : ByteArray) : ∀ u ∈ [Value.int .i64 a, .string s, .int .i64 b], u.oneCell' = true := by
  intro u hu
  simp at hu
  rcases hu with rfl | rfl | rfl <;> rfl

theorem skip_at {w : World} {A : Option Addr} {bs : List UInt8} {cb p : Nat} {z : Int} (hz : z = (p : Int)) (hb : Hid (Rb w A bs)) (hl : bs.length ≤ 100000000) (hp : p ≤ bs.length) :
    Calls Tryd.prog 43 #[.slice A bs.length cb, .int .i64 z] w fun e w' => e = .returned (.int .i64 (skipAt bs p : Int)) ∧ w = w' := by
  subst hz
  exact skip_any hb hl hp
/-- what Read answers of a text and a bound -/
def ReadIs (bs : List UInt8) (M B : Nat) (e : Ending) (w' : World) : Prop :=
  (M < bs.length ∧ e = .returned (.tuple #[.slice none 0 0, .int .i64 4, .int .i64 (M : Int)])) ∨
  (bs.length ≤ M ∧ ∃ q, readL bs = .error q ∧ e = .returned (.tuple #[.slice none 0 0, .int .i64 10, .int .i64 (q : Int)])) ∨
  (bs.length ≤ M ∧ ∃ D A c, readL bs = .ok D ∧ D.length ≤ bs.length ∧ e = .returned (.tuple #[.slice A D.length c, .int .i64 0, .int .i64 0]) ∧ w'.ownsRow B 35 3 (.slice A D.length c) D.length (tkCells D))

set_option maxRecDepth 100000 in
set_option maxHeartbeats 2000000 in
theorem refRead_any {w : World} {A : Option Addr} {bs : List UInt8} {cb : Nat} {m : Int} (hb : Hid (Rb w A bs)) (hl : bs.length ≤ 100000000) (hcap : bs.length ≤ cb) :
    Calls Tryd.prog 33 #[.slice A bs.length cb, .int .i64 m] w fun e w' => Hid (ReadIs bs m.toNat w.heap.size e w') ∧ Hid (Below w.heap.size w w') := by
  obtain ⟨M, hM⟩ : ∃ M, m.toNat = M := ⟨_, rfl⟩
  rw [hM]
  obtain ⟨i0, hi, hz0, hz1, hz2⟩ := info_parts info_tk
  go_enter Tryd.func33, Tryd.ntmps33
  go_upto_if 13 with fail
  go_cut [1] from 12 to 13 (fun v wx => v = .int .i64 (M : Int) ∧ wx = w)
  case first =>
    by_cases h0 : m < 0
    · go_wp2_with fail
      go_meet
      exact ⟨by rw [← hM, show m.toNat = 0 by omega]; rfl, rfl⟩
    · go_wp2_with fail
      go_meet
      exact ⟨by rw [← hM, show ((m.toNat : Nat) : Int) = m by omega], rfl⟩
  case rest =>
    obtain ⟨rfl, rfl⟩ := hcut
    clear hM
    by_cases hM : bs.length ≤ M
    · have g0 : ¬ ((M : Int) < (bs.length : Int)) := by omega
      go_upto_region 6 with fail
      generalize hW : wc.alloc _ = W1
      have HB1 : Hid (Below wc.heap.size wc W1) := Lib.hid (hW ▸ (Below.refl _ _).alloc (Nat.le_refl _) _)
      have HO1 : Hid (W1.ownsRow wc.heap.size 35 3 (.slice (some ⟨wc.heap.size, 0, none⟩) 0 0) 0 (tkCells [])) := Lib.hid (hW ▸ World.ownsRow_made wc (base := wc.heap.size) (e := 35) (size := 3) #[] 0 (Nat.le_refl _) (by unfold maxLen; omega) rfl)
      clear hW
      have RB1 := Lib.hid (hb.out.below HB1.out)
      go_wp2_with (go_at_call 43; refine (skip_any (p := 0) RB1 hl (Nat.zero_le _)).mono ?_; rintro e w' ⟨rfl, rfl⟩)
      clear RB1
      go_loopw [7, 8] (fun ov av wr => ∃ (q : Nat) (D : List Tk) (A3 : Option Addr) (c3 : Nat), q ≤ bs.length ∧ av = .int .i64 (skipAt bs q : Int) ∧ ov = .slice A3 D.length c3 ∧ D.length ≤ q ∧ Hid (Pre bs q D) ∧ Hid (wr.ownsRow wc.heap.size 35 3 (.slice A3 D.length c3) D.length (tkCells D)) ∧ Hid (Below wc.heap.size wc wr)) (fun _ av _ => bs.length - (intOf av).toNat)
      case atStart => exact ⟨0, [], _, _, Nat.zero_le _, rfl, rfl, Nat.le_refl _, Lib.hid (Pre.start bs), HO1, HB1⟩
      case round =>
        obtain ⟨q, D, A3, c3, hq, rfl, rfl, hDq, HP, hown, HB⟩ := hrel
        obtain ⟨hs1, hs2, hs3⟩ := skip_drop hq
        clear hs1
        have RB := Lib.hid (hb.out.below HB.out)
        obtain ⟨a, ha⟩ : ∃ a, skipAt bs q = a := ⟨_, rfl⟩
        by_cases hlt : a < bs.length
        · obtain ⟨b, off, rfl, _⟩ := hb.out.at_ hlt
          have hbl2 : b < wr.heap.size := RB.out.blt (by omega)
          obtain ⟨r, hr⟩ : ∃ r, scan (bs.drop a) = r := ⟨_, rfl⟩
          cases r with
          | bad n =>
            have HS := Lib.hid hr
            have HE := Lib.hid (HP.out.bad hq (ha ▸ hlt) (ha ▸ hr))
            rw [ha] at HE
            clear hr
            simp only [ha]
            go_wp2_with (go_at_call 44; refine (token_bad HS RB hl hcap hlt hbl2).mono ?_; rintro e w' ⟨k9, t9, rfl, HB9⟩)
            go_ret3
            exact ⟨Lib.hid (Or.inr (Or.inl ⟨hM, _, HE.out, rfl⟩)), Lib.hid ((HB.out.trans (HB9.out.mono HB.out.size)).alloc (by have := (HB.out.trans (HB9.out.mono HB.out.size)).size; omega) _)⟩
          | tok k t n =>
            have HS := Lib.hid hr
            obtain ⟨h1, h2, h3⟩ := HP.out.step hq (ha ▸ hlt) (ha ▸ hr)
            rw [ha] at h1 h3
            have HP2 := Lib.hid h1
            clear h1 hr
            simp only [ha]
            go_upto_region 11 with (go_at_call 44; refine (token_tok HS RB hl hcap hlt hbl2).mono ?_; rintro e w' ⟨rfl, HB9⟩)
            generalize hW : w'.alloc _ = W5
            have HBw : Hid (Below wc.heap.size wc w') := Lib.hid (HB.out.trans (HB9.out.mono HB.out.size))
            have HB5 : Hid (Below wc.heap.size wc W5) := Lib.hid (hW ▸ HBw.out.alloc HBw.out.size _)
            have HO5 : Hid (W5.ownsRow wc.heap.size 35 3 (.slice A3 D.length c3) D.length (tkCells D)) := Lib.hid (hW ▸ (own_below hown.out HB9.out).alloc _)
            have hB5 : Bk W5 w'.heap.size 35 #[.int .i64 (k : Int), .string ⟨t.toArray⟩, .int .i64 (a : Int)] := hW ▸ Bk.new w' _ _
            have k0 : W5.cell? ⟨w'.heap.size, 0, none⟩ = some (.int .i64 (k : Int)) := hB5.cell 0
            have k1 : W5.cell? ⟨w'.heap.size, 1, none⟩ = some (.string ⟨t.toArray⟩) := hB5.cell 1
            have k2 : W5.cell? ⟨w'.heap.size, 2, none⟩ = some (.int .i64 (a : Int)) := hB5.cell 2
            clear hW hB5
            have HM : Hid (D.length + 1 ≤ maxLen ∧ (D.length + 1) * 32 ≤ 140737488355328) := by constructor <;> (try unfold maxLen) <;> omega
            have HT : Hid (wc.heap.size ≤ W5.heap.size) := Lib.hid HB5.out.size
            go_wp2_with (at_builtin; refine wpList_append_own _ rfl _ _ 22 rfl wc.heap.size 35 i0 _ 3 32 Tryd.underlying22 hi hz0 hz1 hz2 rfl (by decide) _ _ _ rfl (HO5.out.alloc _) ⟨W5.heap.size, 0, none⟩ 1 1 [.int .i64 (k : Int), .string ⟨t.toArray⟩, .int .i64 (a : Int)] rfl rfl (three_cells _ _ _ _ _) (three_one _ _ _) HM.out.1 HM.out.2 (by have := HT.out; simp at this ⊢; try omega) ?_)
            intro v' w6 hown' hgrow _
            obtain ⟨A4, c4, rfl, hc4⟩ := own_row3 hown'
            have HB6 : Hid (Below wc.heap.size wc w6) := Lib.hid ((HB5.out.alloc HB5.out.size _).grown hgrow (by have := HB5.out.size; simp; omega) (fun g hg => (HO5.out.lt g hg).1))
            have e6 : (D ++ [(⟨k, t, a⟩ : Tk)]).length = D.length + 1 := by rw [List.length_append]; rfl
            have HO6 : Hid (w6.ownsRow wc.heap.size 35 3 (.slice A4 (D ++ [(⟨k, t, a⟩ : Tk)]).length c4) (D ++ [(⟨k, t, a⟩ : Tk)]).length (tkCells (D ++ [(⟨k, t, a⟩ : Tk)]))) := Lib.hid (by
              rw [e6, tkCells_append]
              exact hown')
            have HL6 := Lib.hid e6
            have RB6 := Lib.hid (hb.out.below HB6.out)
            clear hgrow hown' k0 k1 k2 e6
            go_wp2_with (go_at_call 43; refine (skip_at (p := a + n) (by omega) RB6 hl h3).mono ?_; rintro e w' ⟨rfl, rfl⟩)
            go_roundw
            case rel => exact ⟨a + n, _, A4, c4, h3, rfl, by rw [HL6.out], by have := HL6.out; omega, HP2, HO6, HB6⟩
            case measure =>
              have := (skip_drop h3).2.1
              simp [intOf]; omega
        · have hE : a = bs.length := by omega
          have HE := Lib.hid (HP.out.done hq (ha.trans hE))
          have hDl : D.length ≤ bs.length := by omega
          have g1 : ¬ ((a : Int) < (bs.length : Int)) := by omega
          simp only [ha]
          clear hE
          go_wp2_with fail
          go_ret3
          exact ⟨Lib.hid (Or.inr (Or.inr ⟨hM, D, A3, c3, HE.out, hDl, rfl, hown.out⟩)), HB⟩
    · have g0 : (M : Int) < (bs.length : Int) := by omega
      go_wp2_with fail
      go_ret3
      exact ⟨Lib.hid (Or.inl ⟨by omega, rfl⟩), Lib.hid (Below.refl _ _)⟩
end Go.Proofs.YtmnllioeaaimcaaDoor.tk
