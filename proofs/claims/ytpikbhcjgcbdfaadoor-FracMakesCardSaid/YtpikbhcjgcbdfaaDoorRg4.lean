/- The document's answers of layer 2: Of, Right (of integers that may be). -/
import Derived.Test.YtpikbhcjgcbdfaaDoorRg3
import Derived.Test.YtpikbhcjgcbdfaaDoorFr5
import Derived.Deep.DeepCutAuto
namespace Go.Proofs.YtpikbhcjgcbdfaaDoor.wh
open Go.RowKit

section
variable {W w1 : World} {t : TypeId} {g : Nat} {u0 u1 u2 u3 v0 v1 v2 v3 : Value}
theorem blk_four (h : Blk W g t #[u0, u1, u2, u3]) : (W.cell? ⟨g, 0, none⟩ = some u0 ∧ W.cell? ⟨g, 1, none⟩ = some u1 ∧ W.cell? ⟨g, 2, none⟩ = some u2 ∧ W.cell? ⟨g, 3, none⟩ = some u3) ∧ W.frozen? ⟨g, 0, none⟩ = false ∧ W.frozen? ⟨g, 1, none⟩ = false ∧ W.frozen? ⟨g, 2, none⟩ = false ∧ W.frozen? ⟨g, 3, none⟩ = false := ⟨⟨h.cell 0, h.cell 1, h.cell 2, h.cell 3⟩, h.frozen 0, h.frozen 1, h.frozen 2, h.frozen 3⟩
theorem blk_fillz4 (h : Blk W g t #[.bool false, .slice none 0 0, .bool false, .slice none 0 0]) : Blk ((((W.setCell ⟨g, 0, none⟩ v0).setCell ⟨g, 1, none⟩ v1).setCell ⟨g, 2, none⟩ v2).setCell ⟨g, 3, none⟩ v3) g t #[v0, v1, v2, v3] := (((h.set_ 0 v0).set_ 1 v1).set_ 2 v2).set_ 3 v3
theorem kept_fillz4 {x y : Bool} {a b : Option Addr} {n c m d : Nat} (h : Kept w1 W) (hg : Blk W g t #[.bool false, .slice none 0 0, .bool false, .slice none 0 0]) : Kept w1 ((((W.setCell ⟨g, 0, none⟩ (.bool x)).setCell ⟨g, 1, none⟩ (.slice a n c)).setCell ⟨g, 2, none⟩ (.bool y)).setCell ⟨g, 3, none⟩ (.slice b m d)) :=
  (((h.trans (Kept.set_ (cs := [.bool false, .slice none 0 0, .bool false, .slice none 0 0]) hg rfl 0 _)).trans (Kept.set_ (cs := [.bool x, .slice none 0 0, .bool false, .slice none 0 0]) (hg.set_ 0 _) rfl 1 _)).trans (Kept.set_ (cs := [.bool x, .slice a n c, .bool false, .slice none 0 0]) ((hg.set_ 0 _).set_ 1 _) rfl 2 _)).trans (Kept.set_ (cs := [.bool x, .slice a n c, .bool y, .slice none 0 0]) (((hg.set_ 0 _).set_ 1 _).set_ 2 _) rfl 3 _)
end
section
variable {w w' : World} {L : List (Nat × TypeId × List Value)}
theorem Mem.fill4 (h : Mem w L w') {b : Nat} (h0 : w.heap.size ≤ b) (hd : ∀ x ∈ L, x.1 ≠ b) (v0 v1 v2 v3 : Value) : Mem w L ((((w'.setCell ⟨b, 0, none⟩ v0).setCell ⟨b, 1, none⟩ v1).setCell ⟨b, 2, none⟩ v2).setCell ⟨b, 3, none⟩ v3) := (((h.store h0 hd 0 v0).store h0 hd 1 v1).store h0 hd 2 v2).store h0 hd 3 v3
/-- a block more -/
theorem Mem.plus1' (h : Mem w L w') {g1 : Nat} {t1 : TypeId} {c1 : List Value} (b1 : Blk w' g1 t1 c1.toArray) (l1 : w.heap.size ≤ g1) (d1 : ∀ x ∈ L, x.1 ≠ g1) (n1 : noInt c1 = true) : Mem w (L ++ [(g1, t1, c1)]) w' := by
  refine ⟨h.below, fun x hx => ?_, fun x hx => ?_, fun x hx => ?_, ?_⟩
  · rcases List.mem_append.1 hx with hx | hx
    · exact h.blk x hx
    · simp only [List.mem_singleton] at hx
      subst hx
      exact b1
  · rcases List.mem_append.1 hx with hx | hx
    · exact h.ge x hx
    · simp only [List.mem_singleton] at hx
      subst hx
      exact l1
  · rcases List.mem_append.1 hx with hx | hx
    · exact h.ni x hx
    · simp only [List.mem_singleton] at hx
      subst hx
      exact n1
  · rw [List.pairwise_append]
    refine ⟨h.dis, List.pairwise_singleton _ _, fun x hx y hy => ?_⟩
    simp only [List.mem_singleton] at hy
    subst hy
    exact d1 x hx
end
def GivesPair (W : World) (m : Nat) (a b : Int) (e : Ending) (w' : World) : Prop :=
  ∃ n1 A1 l1 c1 n2 A2 l2 c2, e = .returned (.agg #[.bool n1, .slice A1 l1 c1, .bool n2, .slice A2 l2 c2]) ∧ Hid (IsNum w' w'.heap.size m (.agg #[.bool n1, .slice A1 l1 c1]) a) ∧ Hid (IsNum w' w'.heap.size m (.agg #[.bool n2, .slice A2 l2 c2]) b) ∧ Hid (Below W.heap.size W w')
/-- what stands under the line, 1 where nothing is written -/
def orOne (b : Int) : Int := if b = 0 then 1 else b

set_option maxRecDepth 100000 in
set_option maxHeartbeats 4000000 in
theorem of2_any {no nu : Bool} {Ao Au : Option Addr} {lo co lu cu p : Nat} {a b : Int} {w : World} (hp1 : 1 ≤ p) (hp : p ≤ 50) (ha : IsInt w w.heap.size p (.agg #[.bool no, .slice Ao lo co]) a) (hb : IsInt w w.heap.size p (.agg #[.bool nu, .slice Au lu cu]) b) :
    Calls Tryd.prog 39 #[.agg #[.bool no, .slice Ao lo co, .bool nu, .slice Au lu cu]] w fun e w' => GivesPair w (9 * p) a (orOne b) e w' := by
  have IA := Lib.hid ha
  have IB := Lib.hid hb
  clear ha hb
  have HT : Hid (Mem w [(w.heap.size, 58, [.bool no, .slice Ao lo co, .bool nu, .slice Au lu cu]), (w.heap.size + 1, 61, [.bool false, .slice none 0 0, .bool false, .slice none 0 0])] ((w.alloc (.cells #[.bool no, .slice Ao lo co, .bool nu, .slice Au lu cu] 58)).alloc (.cells #[.bool false, .slice none 0 0, .bool false, .slice none 0 0] 61))) := (((Mem.new w).push (by simp) 58 [.bool no, .slice Ao lo co, .bool nu, .slice Au lu cu] rfl).push (by simp) 61 [.bool false, .slice none 0 0, .bool false, .slice none 0 0] rfl)
  have A0 : Hid (∀ w' : World, Mem w [(w.heap.size, 58, [.bool no, .slice Ao lo co, .bool nu, .slice Au lu cu]), (w.heap.size + 1, 61, [.bool false, .slice none 0 0, .bool false, .slice none 0 0])] w' → (w'.cell? ⟨w.heap.size, 0, none⟩ = some (.bool no) ∧ w'.cell? ⟨w.heap.size, 1, none⟩ = some (.slice Ao lo co) ∧ w'.cell? ⟨w.heap.size, 2, none⟩ = some (.bool nu) ∧ w'.cell? ⟨w.heap.size, 3, none⟩ = some (.slice Au lu cu) ∧ w'.cell? ⟨w.heap.size + 1, 0, none⟩ = some (.bool false) ∧ w'.cell? ⟨w.heap.size + 1, 1, none⟩ = some (.slice none 0 0) ∧ w'.cell? ⟨w.heap.size + 1, 2, none⟩ = some (.bool false) ∧ w'.cell? ⟨w.heap.size + 1, 3, none⟩ = some (.slice none 0 0)) ∧ (w'.frozen? ⟨w.heap.size, 0, none⟩ = false ∧ w'.frozen? ⟨w.heap.size, 1, none⟩ = false ∧ w'.frozen? ⟨w.heap.size, 2, none⟩ = false ∧ w'.frozen? ⟨w.heap.size, 3, none⟩ = false ∧ w'.frozen? ⟨w.heap.size + 1, 0, none⟩ = false ∧ w'.frozen? ⟨w.heap.size + 1, 1, none⟩ = false ∧ w'.frozen? ⟨w.heap.size + 1, 2, none⟩ = false ∧ w'.frozen? ⟨w.heap.size + 1, 3, none⟩ = false) ∧ Hid (Mem w [(w.heap.size, 58, [.bool no, .slice Ao lo co, .bool nu, .slice Au lu cu]), (w.heap.size + 1, 61, [.bool false, .slice none 0 0, .bool false, .slice none 0 0])] w')) := fun w' h => ⟨⟨h.c 0 rfl 0 rfl, h.c 0 rfl 1 rfl, h.c 0 rfl 2 rfl, h.c 0 rfl 3 rfl, h.c 1 rfl 0 rfl, h.c 1 rfl 1 rfl, h.c 1 rfl 2 rfl, h.c 1 rfl 3 rfl⟩, ⟨h.f 0 rfl 0, h.f 0 rfl 1, h.f 0 rfl 2, h.f 0 rfl 3, h.f 1 rfl 0, h.f 1 rfl 1, h.f 1 rfl 2, h.f 1 rfl 3⟩, h⟩
  have C0 := (A0.out _ HT.out).1
  go_enter Tryd.func39, Tryd.ntmps39
  go_wp2
  generalize hW : ((w.alloc (.cells #[.bool no, .slice Ao lo co, .bool nu, .slice Au lu cu] 58)).alloc (.cells #[.bool false, .slice none 0 0, .bool false, .slice none 0 0] 61)) = V0 at *
  clear hW C0
  go_cut [3] (fun sp wx => ∃ gs x5 A5 n5 c5 x6 A6 n6 c6, sp = .pointer (some ⟨gs, 0, none⟩) ∧ Hid (Mem w [(w.heap.size, 58, [.bool no, .slice Ao lo co, .bool nu, .slice Au lu cu]), (w.heap.size + 1, 61, [.bool false, .slice none 0 0, .bool false, .slice none 0 0]), (gs, 61, [.bool x5, .slice A5 n5 c5, .bool x6, .slice A6 n6 c6])] wx) ∧ Hid (IsNum wx wx.heap.size (9 * p) (.agg #[.bool x5, .slice A5 n5 c5]) a) ∧ Hid (IsNum wx wx.heap.size (9 * p) (.agg #[.bool x6, .slice A6 n6 c6]) b) ∧ Hid (Kept V0 wx) ∧ Hid (w.heap.size + 1 < gs))
  case first =>
    have hzl0 : w.heap.size < V0.heap.size := HT.out.lt 0 rfl
    have hzl1 : w.heap.size + 1 < V0.heap.size := HT.out.lt 1 rfl
    go_region_held3 (fun w' => (w'.cell? ⟨w.heap.size, 0, none⟩ = some (.bool no) ∧ w'.cell? ⟨w.heap.size, 1, none⟩ = some (.slice Ao lo co) ∧ w'.cell? ⟨w.heap.size, 2, none⟩ = some (.bool nu) ∧ w'.cell? ⟨w.heap.size, 3, none⟩ = some (.slice Au lu cu) ∧ w'.cell? ⟨w.heap.size + 1, 0, none⟩ = some (.bool false) ∧ w'.cell? ⟨w.heap.size + 1, 1, none⟩ = some (.slice none 0 0) ∧ w'.cell? ⟨w.heap.size + 1, 2, none⟩ = some (.bool false) ∧ w'.cell? ⟨w.heap.size + 1, 3, none⟩ = some (.slice none 0 0)) ∧ (w'.frozen? ⟨w.heap.size, 0, none⟩ = false ∧ w'.frozen? ⟨w.heap.size, 1, none⟩ = false ∧ w'.frozen? ⟨w.heap.size, 2, none⟩ = false ∧ w'.frozen? ⟨w.heap.size, 3, none⟩ = false ∧ w'.frozen? ⟨w.heap.size + 1, 0, none⟩ = false ∧ w'.frozen? ⟨w.heap.size + 1, 1, none⟩ = false ∧ w'.frozen? ⟨w.heap.size + 1, 2, none⟩ = false ∧ w'.frozen? ⟨w.heap.size + 1, 3, none⟩ = false) ∧ Hid (Mem w [(w.heap.size, 58, [.bool no, .slice Ao lo co, .bool nu, .slice Au lu cu]), (w.heap.size + 1, 61, [.bool false, .slice none 0 0, .bool false, .slice none 0 0])] w')) (first | (with_reducible exact A0.out _ HT.out.drew) | (with_reducible exact A0.out _ (Mem.over hb (Mem.get (by assumption)))) | (refine A0.out _ ?_; (repeat' (first | (with_reducible exact HT.out) | (with_reducible exact HMw6.out) | (with_reducible exact HMw5.out) | (with_reducible exact (Mem.over hb (Mem.get (by assumption)))) | (with_reducible apply Mem.drew) | (with_reducible apply Mem.alloc) | (with_reducible refine Mem.fill4 ?_ ?_ ?_ _ _ _ _) | omega | (simp <;> omega))))) (first | (go_at_call_of 13 Ao; refine (refOf_any (m := p) (z := a) (by omega) (IA.out.over (Mem.get (by assumption)).below)).mono ?_; rintro e w5 ⟨x5, A5, n5, c5, rfl, hi5, hb⟩; have hbw5 := hb; have HMw5 := Lib.hid (Mem.over hb (Mem.get (by assumption))); (first | (with_reducible (have hzw5 : V0.heap.size + 1 ≤ w5.heap.size := sz1 hb)) | (with_reducible (have hzw5 : V0.heap.size + 1 ≤ w5.heap.size := sz1D hb)) | (with_reducible (have hzw5 : V0.heap.size ≤ w5.heap.size := sz0D hb)) | (have hzw5 : V0.heap.size ≤ w5.heap.size := sz0 hb)); (first | (with_reducible (have zq := blk_over zq hb)) | (with_reducible (have zq := blk_under (t := 61) (cs := #[.bool false, .slice none 0 0, .bool false, .slice none 0 0]) hb)) | (with_reducible (have zq := blk_underD (t := 61) (cs := #[.bool false, .slice none 0 0, .bool false, .slice none 0 0]) hb)) | skip); (try (have qa0 := (blk_four zq).1.1; have qa1 := (blk_four zq).1.2.1; have qa2 := (blk_four zq).1.2.2.1; have qa3 := (blk_four zq).1.2.2.2; have qa4 := (blk_four zq).2.1; have qa5 := (blk_four zq).2.2.1; have qa6 := (blk_four zq).2.2.2.1; have qa7 := (blk_four zq).2.2.2.2; have qal := zq.lt))) | (go_at_call_of 13 Au; refine (refOf_any (m := p) (z := b) (by omega) (IB.out.over (Mem.get (by assumption)).below)).mono ?_; rintro e w6 ⟨x6, A6, n6, c6, rfl, hi6, hb⟩; have hbw6 := hb; have HMw6 := Lib.hid (Mem.over hb (Mem.get (by assumption))); (first | (with_reducible (have hzw6 : w5.heap.size + 1 ≤ w6.heap.size := sz1 hb)) | (with_reducible (have hzw6 : w5.heap.size + 1 ≤ w6.heap.size := sz1D hb)) | (with_reducible (have hzw6 : w5.heap.size ≤ w6.heap.size := sz0D hb)) | (have hzw6 : w5.heap.size ≤ w6.heap.size := sz0 hb)); (first | (with_reducible (have zq := blk_over zq hb)) | (with_reducible (have zq := blk_under (t := 61) (cs := #[.bool false, .slice none 0 0, .bool false, .slice none 0 0]) hb)) | (with_reducible (have zq := blk_underD (t := 61) (cs := #[.bool false, .slice none 0 0, .bool false, .slice none 0 0]) hb)) | skip); (try (have qa0 := (blk_four zq).1.1; have qa1 := (blk_four zq).1.2.1; have qa2 := (blk_four zq).1.2.2.1; have qa3 := (blk_four zq).1.2.2.2; have qa4 := (blk_four zq).2.1; have qa5 := (blk_four zq).2.2.1; have qa6 := (blk_four zq).2.2.2.1; have qa7 := (blk_four zq).2.2.2.2; have qal := zq.lt))))
    all_goals
      go_wp2_with fail
      go_meet
      refine ⟨_, x5, A5, n5, c5, x6, A6, n6, c6, rfl, ?mm, hi5.out.kept ?k0, hi6.out.kept ?k1, ?kv, (by omega : w.heap.size + 1 < _)⟩
      case mm =>
        refine Mem.plus1' (L := [(w.heap.size, 58, [.bool no, .slice Ao lo co, .bool nu, .slice Au lu cu]), (w.heap.size + 1, 61, [.bool false, .slice none 0 0, .bool false, .slice none 0 0])]) (t1 := 61) (c1 := [.bool x5, .slice A5 n5 c5, .bool x6, .slice A6 n6 c6]) ?m ?b1 (by omega) (by simp <;> omega) rfl
        case m => (repeat' (first | (with_reducible exact HT.out) | (with_reducible exact HMw6.out) | (with_reducible exact HMw5.out) | (with_reducible exact (Mem.over hb (Mem.get (by assumption)))) | (with_reducible apply Mem.drew) | (with_reducible apply Mem.alloc) | (with_reducible refine Mem.fill4 ?_ ?_ ?_ _ _ _ _) | omega | (simp <;> omega)))
        case b1 => (repeat' (first | (with_reducible assumption) | (with_reducible exact Blk.new _ _ _) | (with_reducible apply Blk.alloc) | (with_reducible refine blk_fillz4 ?_) | omega))
      case k0 => (repeat' (first | (with_reducible exact Kept.refl _) | (with_reducible apply Kept.drew) | (with_reducible apply Kept.alloc) | (with_reducible refine kept_fillz4 (t := 61) ?_ ?_) | (with_reducible refine kept_over hbw6 ?_) | (with_reducible refine kept_over hbw5 ?_) | (with_reducible assumption) | (with_reducible exact Blk.new _ _ _) | (with_reducible apply Blk.alloc) | (with_reducible refine blk_fillz4 ?_) | omega))
      case k1 => (repeat' (first | (with_reducible exact Kept.refl _) | (with_reducible apply Kept.drew) | (with_reducible apply Kept.alloc) | (with_reducible refine kept_fillz4 (t := 61) ?_ ?_) | (with_reducible refine kept_over hbw6 ?_) | (with_reducible refine kept_over hbw5 ?_) | (with_reducible assumption) | (with_reducible exact Blk.new _ _ _) | (with_reducible apply Blk.alloc) | (with_reducible refine blk_fillz4 ?_) | omega))
      case kv => (show Kept _ _; (repeat' (first | (with_reducible exact Kept.refl _) | (with_reducible apply Kept.drew) | (with_reducible apply Kept.alloc) | (with_reducible refine kept_fillz4 (t := 61) ?_ ?_) | (with_reducible refine kept_over hbw6 ?_) | (with_reducible refine kept_over hbw5 ?_) | (with_reducible assumption) | (with_reducible exact Blk.new _ _ _) | (with_reducible apply Blk.alloc) | (with_reducible refine blk_fillz4 ?_) | omega)))
  obtain ⟨gs, x5, A5, n5, c5, x6, A6, n6, c6, rfl, T6, J5, J6, K6, HG6⟩ := hcut
  generalize hwc : wc = W6 at *
  clear hwc
  have A6H : Hid (∀ w' : World, Mem w [(w.heap.size, 58, [.bool no, .slice Ao lo co, .bool nu, .slice Au lu cu]), (w.heap.size + 1, 61, [.bool false, .slice none 0 0, .bool false, .slice none 0 0]), (gs, 61, [.bool x5, .slice A5 n5 c5, .bool x6, .slice A6 n6 c6])] w' → (w'.cell? ⟨w.heap.size, 0, none⟩ = some (.bool no) ∧ w'.cell? ⟨w.heap.size, 1, none⟩ = some (.slice Ao lo co) ∧ w'.cell? ⟨w.heap.size, 2, none⟩ = some (.bool nu) ∧ w'.cell? ⟨w.heap.size, 3, none⟩ = some (.slice Au lu cu) ∧ w'.cell? ⟨w.heap.size + 1, 0, none⟩ = some (.bool false) ∧ w'.cell? ⟨w.heap.size + 1, 1, none⟩ = some (.slice none 0 0) ∧ w'.cell? ⟨w.heap.size + 1, 2, none⟩ = some (.bool false) ∧ w'.cell? ⟨w.heap.size + 1, 3, none⟩ = some (.slice none 0 0) ∧ w'.cell? ⟨gs, 0, none⟩ = some (.bool x5) ∧ w'.cell? ⟨gs, 1, none⟩ = some (.slice A5 n5 c5) ∧ w'.cell? ⟨gs, 2, none⟩ = some (.bool x6) ∧ w'.cell? ⟨gs, 3, none⟩ = some (.slice A6 n6 c6)) ∧ (w'.frozen? ⟨w.heap.size, 0, none⟩ = false ∧ w'.frozen? ⟨w.heap.size, 1, none⟩ = false ∧ w'.frozen? ⟨w.heap.size, 2, none⟩ = false ∧ w'.frozen? ⟨w.heap.size, 3, none⟩ = false ∧ w'.frozen? ⟨w.heap.size + 1, 0, none⟩ = false ∧ w'.frozen? ⟨w.heap.size + 1, 1, none⟩ = false ∧ w'.frozen? ⟨w.heap.size + 1, 2, none⟩ = false ∧ w'.frozen? ⟨w.heap.size + 1, 3, none⟩ = false ∧ w'.frozen? ⟨gs, 0, none⟩ = false ∧ w'.frozen? ⟨gs, 1, none⟩ = false ∧ w'.frozen? ⟨gs, 2, none⟩ = false ∧ w'.frozen? ⟨gs, 3, none⟩ = false) ∧ Hid (Mem w [(w.heap.size, 58, [.bool no, .slice Ao lo co, .bool nu, .slice Au lu cu]), (w.heap.size + 1, 61, [.bool false, .slice none 0 0, .bool false, .slice none 0 0]), (gs, 61, [.bool x5, .slice A5 n5 c5, .bool x6, .slice A6 n6 c6])] w')) := fun w' h => ⟨⟨h.c 0 rfl 0 rfl, h.c 0 rfl 1 rfl, h.c 0 rfl 2 rfl, h.c 0 rfl 3 rfl, h.c 1 rfl 0 rfl, h.c 1 rfl 1 rfl, h.c 1 rfl 2 rfl, h.c 1 rfl 3 rfl, h.c 2 rfl 0 rfl, h.c 2 rfl 1 rfl, h.c 2 rfl 2 rfl, h.c 2 rfl 3 rfl⟩, ⟨h.f 0 rfl 0, h.f 0 rfl 1, h.f 0 rfl 2, h.f 0 rfl 3, h.f 1 rfl 0, h.f 1 rfl 1, h.f 1 rfl 2, h.f 1 rfl 3, h.f 2 rfl 0, h.f 2 rfl 1, h.f 2 rfl 2, h.f 2 rfl 3⟩, h⟩
  have C6 := (A6H.out _ T6.out).1
  have F6 := (A6H.out _ T6.out).2.1
  have NZ := num_none J6.out
  by_cases hn : n6 = 0
  · have hn1 : ((n6 : Int) == 0) = true := by rw [beq_iff_eq]; omega
    have HO : Hid (orOne b = 1) := by show _ = _; unfold orOne; rw [if_pos (NZ.1 hn)]
    clear NZ hn
    go_wp2_with fail
    refine (int_any 1 _ (by omega) (by omega)).mono ?_
    rintro e w7 ⟨x7, A7, n7, c7, rfl, hi7, hb7⟩
    have T7 := Lib.hid (Mem.over hb7 T6.out)
    have C7 := (A6H.out _ T7.out).1
    have F7 := (A6H.out _ T7.out).2.1
    have T8 : Hid (Mem w [(w.heap.size, 58, [.bool no, .slice Ao lo co, .bool nu, .slice Au lu cu]), (w.heap.size + 1, 61, [.bool false, .slice none 0 0, .bool false, .slice none 0 0]), (gs, 61, [.bool x5, .slice A5 n5 c5, .bool x7, .slice A7 n7 c7])] ((w7.setCell ⟨gs, 2, none⟩ (.bool x7)).setCell ⟨gs, 3, none⟩ (.slice A7 n7 c7))) := ((T7.out.set_ 2 rfl 2 (v := .bool x7) rfl).set_ 2 rfl 3 (v := .slice A7 n7 c7) rfl)
    have K8 : Hid (Kept w7 ((w7.setCell ⟨gs, 2, none⟩ (.bool x7)).setCell ⟨gs, 3, none⟩ (.slice A7 n7 c7))) := ((T7.out.kept_set 2 rfl 2 (.bool x7)).trans ((T7.out.set_ 2 rfl 2 (v := .bool x7) rfl).kept_set 2 rfl 3 (.slice A7 n7 c7)))
    have JJ5 := Lib.hid ((J5.out.over hb7.out).kept K8.out)
    have JJ7 := Lib.hid ((hi7.out.kept K8.out).tight (k := 1) (by decide))
    clear C6 F6
    have A8H : Hid (∀ w' : World, Mem w [(w.heap.size, 58, [.bool no, .slice Ao lo co, .bool nu, .slice Au lu cu]), (w.heap.size + 1, 61, [.bool false, .slice none 0 0, .bool false, .slice none 0 0]), (gs, 61, [.bool x5, .slice A5 n5 c5, .bool x7, .slice A7 n7 c7])] w' → (w'.cell? ⟨w.heap.size, 0, none⟩ = some (.bool no) ∧ w'.cell? ⟨w.heap.size, 1, none⟩ = some (.slice Ao lo co) ∧ w'.cell? ⟨w.heap.size, 2, none⟩ = some (.bool nu) ∧ w'.cell? ⟨w.heap.size, 3, none⟩ = some (.slice Au lu cu) ∧ w'.cell? ⟨w.heap.size + 1, 0, none⟩ = some (.bool false) ∧ w'.cell? ⟨w.heap.size + 1, 1, none⟩ = some (.slice none 0 0) ∧ w'.cell? ⟨w.heap.size + 1, 2, none⟩ = some (.bool false) ∧ w'.cell? ⟨w.heap.size + 1, 3, none⟩ = some (.slice none 0 0) ∧ w'.cell? ⟨gs, 0, none⟩ = some (.bool x5) ∧ w'.cell? ⟨gs, 1, none⟩ = some (.slice A5 n5 c5) ∧ w'.cell? ⟨gs, 2, none⟩ = some (.bool x7) ∧ w'.cell? ⟨gs, 3, none⟩ = some (.slice A7 n7 c7)) ∧ (w'.frozen? ⟨w.heap.size, 0, none⟩ = false ∧ w'.frozen? ⟨w.heap.size, 1, none⟩ = false ∧ w'.frozen? ⟨w.heap.size, 2, none⟩ = false ∧ w'.frozen? ⟨w.heap.size, 3, none⟩ = false ∧ w'.frozen? ⟨w.heap.size + 1, 0, none⟩ = false ∧ w'.frozen? ⟨w.heap.size + 1, 1, none⟩ = false ∧ w'.frozen? ⟨w.heap.size + 1, 2, none⟩ = false ∧ w'.frozen? ⟨w.heap.size + 1, 3, none⟩ = false ∧ w'.frozen? ⟨gs, 0, none⟩ = false ∧ w'.frozen? ⟨gs, 1, none⟩ = false ∧ w'.frozen? ⟨gs, 2, none⟩ = false ∧ w'.frozen? ⟨gs, 3, none⟩ = false) ∧ Hid (Mem w [(w.heap.size, 58, [.bool no, .slice Ao lo co, .bool nu, .slice Au lu cu]), (w.heap.size + 1, 61, [.bool false, .slice none 0 0, .bool false, .slice none 0 0]), (gs, 61, [.bool x5, .slice A5 n5 c5, .bool x7, .slice A7 n7 c7])] w')) := fun w' h => ⟨⟨h.c 0 rfl 0 rfl, h.c 0 rfl 1 rfl, h.c 0 rfl 2 rfl, h.c 0 rfl 3 rfl, h.c 1 rfl 0 rfl, h.c 1 rfl 1 rfl, h.c 1 rfl 2 rfl, h.c 1 rfl 3 rfl, h.c 2 rfl 0 rfl, h.c 2 rfl 1 rfl, h.c 2 rfl 2 rfl, h.c 2 rfl 3 rfl⟩, ⟨h.f 0 rfl 0, h.f 0 rfl 1, h.f 0 rfl 2, h.f 0 rfl 3, h.f 1 rfl 0, h.f 1 rfl 1, h.f 1 rfl 2, h.f 1 rfl 3, h.f 2 rfl 0, h.f 2 rfl 1, h.f 2 rfl 2, h.f 2 rfl 3⟩, h⟩
    have C8 := (A8H.out _ T8.out).1
    have F8 := (A8H.out _ T8.out).2.1
    have T9 := Lib.hid ((((T8.out.set_ 1 rfl 0 (v := .bool x5) rfl).set_ 1 rfl 1 (v := .slice A5 n5 c5) rfl).set_ 1 rfl 2 (v := .bool x7) rfl).set_ 1 rfl 3 (v := .slice A7 n7 c7) rfl)
    have KT9 := Lib.hid ((((T8.out.kept_set 1 rfl 0 (.bool x5)).trans ((T8.out.set_ 1 rfl 0 (v := .bool x5) rfl).kept_set 1 rfl 1 (.slice A5 n5 c5))).trans (((T8.out.set_ 1 rfl 0 (v := .bool x5) rfl).set_ 1 rfl 1 (v := .slice A5 n5 c5) rfl).kept_set 1 rfl 2 (.bool x7))).trans ((((T8.out.set_ 1 rfl 0 (v := .bool x5) rfl).set_ 1 rfl 1 (v := .slice A5 n5 c5) rfl).set_ 1 rfl 2 (v := .bool x7) rfl).kept_set 1 rfl 3 (.slice A7 n7 c7)))
    have e0 := T9.out.c 1 rfl 0 rfl
    have e1 := T9.out.c 1 rfl 1 rfl
    have e2 := T9.out.c 1 rfl 2 rfl
    have e3 := T9.out.c 1 rfl 3 rfl
    go_wp2
    (try simp only [Exit.inBlock, Exit.then])
    refine bodyPost_ret (v := .agg #[.bool x5, .slice A5 n5 c5, .bool x7, .slice A7 n7 c7]) (by simp [results, Tryd.results39, go_sem, e0, e1, e2, e3]) rfl ⟨x5, A5, n5, c5, x7, A7, n7, c7, rfl, ?_, ?_, T9.out.below⟩
    · exact JJ5.out.kept KT9.out
    · rw [HO.out]; exact (JJ7.out.kept KT9.out).more (Nat.le_refl _) (by omega)
  · have hn1 : ((n6 : Int) == 0) = false := by rw [beq_eq_false_iff_ne]; omega
    have HO : Hid (orOne b = b) := by show _ = _; unfold orOne; rw [if_neg (NZ.2 hn)]
    clear NZ hn
    have T9 := Lib.hid ((((T6.out.set_ 1 rfl 0 (v := .bool x5) rfl).set_ 1 rfl 1 (v := .slice A5 n5 c5) rfl).set_ 1 rfl 2 (v := .bool x6) rfl).set_ 1 rfl 3 (v := .slice A6 n6 c6) rfl)
    have KT9 := Lib.hid ((((T6.out.kept_set 1 rfl 0 (.bool x5)).trans ((T6.out.set_ 1 rfl 0 (v := .bool x5) rfl).kept_set 1 rfl 1 (.slice A5 n5 c5))).trans (((T6.out.set_ 1 rfl 0 (v := .bool x5) rfl).set_ 1 rfl 1 (v := .slice A5 n5 c5) rfl).kept_set 1 rfl 2 (.bool x6))).trans ((((T6.out.set_ 1 rfl 0 (v := .bool x5) rfl).set_ 1 rfl 1 (v := .slice A5 n5 c5) rfl).set_ 1 rfl 2 (v := .bool x6) rfl).kept_set 1 rfl 3 (.slice A6 n6 c6)))
    have e0 := T9.out.c 1 rfl 0 rfl
    have e1 := T9.out.c 1 rfl 1 rfl
    have e2 := T9.out.c 1 rfl 2 rfl
    have e3 := T9.out.c 1 rfl 3 rfl
    go_wp2
    (try simp only [Exit.inBlock, Exit.then])
    refine bodyPost_ret (v := .agg #[.bool x5, .slice A5 n5 c5, .bool x6, .slice A6 n6 c6]) (by simp [results, Tryd.results39, go_sem, e0, e1, e2, e3]) rfl ⟨x5, A5, n5, c5, x6, A6, n6, c6, rfl, ?_, ?_, T9.out.below⟩
    · exact J5.out.kept KT9.out
    · rw [HO.out]; exact J6.out.kept KT9.out
theorem fr_parts {w : World} {m : Nat} {q : Rat} {n1 n2 : Bool} {A1 A2 : Option Addr} {l1 c1 l2 c2 : Nat} (h : IsFr w m (.agg #[.bool n1, .slice A1 l1 c1, .bool n2, .slice A2 l2 c2]) q) : Hid (IsInt w w.heap.size m (.agg #[.bool n1, .slice A1 l1 c1]) q.num) ∧ Hid (IsInt w w.heap.size m (.agg #[.bool n2, .slice A2 l2 c2]) (undZ q)) := by
  obtain ⟨m1, B1, k1, d1, m2, B2, k2, d2, e, h1, h2⟩ := h
  cases e
  exact ⟨h1, h2⟩
theorem refRight_yes {v : Value} {m : Nat} {z : Int} {w : World} (hm : m ≤ 1000) (h : IsInt w w.heap.size m v z) :
    Calls Tryd.prog 33 #[v] w fun e w' => e = .returned (.bool true) ∧ Hid (Below w.heap.size w w') := by
  obtain ⟨neg, A, n, c, ds, rfl, rfl, h3, h4, h5, h6, h7⟩ := h
  refine (refRight_any neg A c ds w (by unfold maxLen; omega) h3).mono ?_
  rintro e w' ⟨rfl, hb⟩
  exact ⟨by rw [h6], hb⟩
/-- the fraction that two integers stand for -/
def quoQ (a b : Int) : Rat := Rat.divInt a (orOne b)
def rightQ (a b : Int) : Bool := decide (0 ≤ b) && decide (a = (quoQ a b).num ∧ b = undZ (quoQ a b))

set_option maxRecDepth 100000 in
set_option maxHeartbeats 4000000 in
theorem right2_any {no nu : Bool} {Ao Au : Option Addr} {lo co lu cu p : Nat} {a b : Int} {w : World} {r : Bool} (hp1 : 1 ≤ p) (hp : p ≤ 50) (ha : IsInt w w.heap.size p (.agg #[.bool no, .slice Ao lo co]) a) (hb : IsInt w w.heap.size p (.agg #[.bool nu, .slice Au lu cu]) b) (hr : rightQ a b = r) :
    Calls Tryd.prog 57 #[.agg #[.bool no, .slice Ao lo co, .bool nu, .slice Au lu cu]] w fun e w' => e = .returned (.bool r) ∧ Hid (Below w.heap.size w w') := by
  have IA := Lib.hid ha
  have IB := Lib.hid hb
  have SB := int_signs hb
  clear ha hb
  have HT : Hid (Mem w [(w.heap.size, 58, [.bool no, .slice Ao lo co, .bool nu, .slice Au lu cu])] (w.alloc (.cells #[.bool no, .slice Ao lo co, .bool nu, .slice Au lu cu] 58))) := ((Mem.new w).push (by simp) 58 [.bool no, .slice Ao lo co, .bool nu, .slice Au lu cu] rfl)
  have A0 : Hid (∀ w' : World, Mem w [(w.heap.size, 58, [.bool no, .slice Ao lo co, .bool nu, .slice Au lu cu])] w' → (w'.cell? ⟨w.heap.size, 0, none⟩ = some (.bool no) ∧ w'.cell? ⟨w.heap.size, 1, none⟩ = some (.slice Ao lo co) ∧ w'.cell? ⟨w.heap.size, 2, none⟩ = some (.bool nu) ∧ w'.cell? ⟨w.heap.size, 3, none⟩ = some (.slice Au lu cu)) ∧ (w'.frozen? ⟨w.heap.size, 0, none⟩ = false ∧ w'.frozen? ⟨w.heap.size, 1, none⟩ = false ∧ w'.frozen? ⟨w.heap.size, 2, none⟩ = false ∧ w'.frozen? ⟨w.heap.size, 3, none⟩ = false) ∧ Hid (Mem w [(w.heap.size, 58, [.bool no, .slice Ao lo co, .bool nu, .slice Au lu cu])] w')) := fun w' h => ⟨⟨h.c 0 rfl 0 rfl, h.c 0 rfl 1 rfl, h.c 0 rfl 2 rfl, h.c 0 rfl 3 rfl⟩, ⟨h.f 0 rfl 0, h.f 0 rfl 1, h.f 0 rfl 2, h.f 0 rfl 3⟩, h⟩
  have C0 := (A0.out _ HT.out).1
  cases nu with
  | true =>
    obtain rfl : r = false := by
      rw [← hr]
      unfold rightQ
      rw [decide_eq_false (by have := SB.1 rfl; omega)]
      rfl
    clear SB hr
    go_enter Tryd.func57, Tryd.ntmps57
    go_wp2_with fail
    refine (refRight_yes (by omega) (IA.out.over HT.out.below)).mono ?_
    rintro e w1 ⟨rfl, hb1⟩
    have T1 := Lib.hid (Mem.over hb1 HT.out)
    have C1 := (A0.out _ T1.out).1
    clear C0
    go_wp2_with fail
    refine (refRight_yes (by omega) (IB.out.over T1.out.below)).mono ?_
    rintro e w2 ⟨rfl, hb2⟩
    have T2 := Lib.hid (Mem.over hb2 T1.out)
    have C2 := (A0.out _ T2.out).1
    clear C1
    go_wp2
    (try simp only [Exit.inBlock, Exit.then])
    go_ret
    exact ⟨rfl, T2.out.below⟩
  | false =>
    have HR : Hid (decide (a = (quoQ a b).num ∧ b = undZ (quoQ a b)) = r) := by
      show _ = _
      rw [← hr]
      unfold rightQ
      rw [decide_eq_true (SB.2 rfl), Bool.true_and]
    clear SB hr
    go_enter Tryd.func57, Tryd.ntmps57
    go_wp2_with fail
    refine (refRight_yes (by omega) (IA.out.over HT.out.below)).mono ?_
    rintro e w1 ⟨rfl, hb1⟩
    have T1 := Lib.hid (Mem.over hb1 HT.out)
    have C1 := (A0.out _ T1.out).1
    clear C0
    go_wp2_with fail
    refine (refRight_yes (by omega) (IB.out.over T1.out.below)).mono ?_
    rintro e w2 ⟨rfl, hb2⟩
    have T2 := Lib.hid (Mem.over hb2 T1.out)
    have C2 := (A0.out _ T2.out).1
    clear C1
    go_wp2_with fail
    refine (of2_any hp1 hp (IA.out.over T2.out.below) (IB.out.over T2.out.below)).mono ?_
    rintro e w3 ⟨x3, A3, n3, c3, y3, B3, m3, d3, rfl, hi3, hj3, hb3⟩
    have T3 : Hid (Mem w [(w.heap.size, 58, [.bool no, .slice Ao lo co, .bool false, .slice Au lu cu]), (w3.heap.size, 61, [.bool x3, .slice A3 n3 c3, .bool y3, .slice B3 m3 d3])] (w3.alloc (.cells #[.bool x3, .slice A3 n3 c3, .bool y3, .slice B3 m3 d3] 61))) := ((Mem.over hb3 T2.out).push rfl 61 [.bool x3, .slice A3 n3 c3, .bool y3, .slice B3 m3 d3] rfl)
    have K3 : Hid (Kept w3 (w3.alloc (.cells #[.bool x3, .slice A3 n3 c3, .bool y3, .slice B3 m3 d3] 61))) := (Kept.refl _).alloc _
    have I3 := Lib.hid (hi3.out.kept K3.out)
    have J3 := Lib.hid (hj3.out.kept K3.out)
    clear C2
    go_wp2
    generalize hW : (w3.alloc (.cells #[.bool x3, .slice A3 n3 c3, .bool y3, .slice B3 m3 d3] 61)) = V3 at *
    clear hW
    have A3H : Hid (∀ w' : World, Mem w [(w.heap.size, 58, [.bool no, .slice Ao lo co, .bool false, .slice Au lu cu]), (w3.heap.size, 61, [.bool x3, .slice A3 n3 c3, .bool y3, .slice B3 m3 d3])] w' → (w'.cell? ⟨w.heap.size, 0, none⟩ = some (.bool no) ∧ w'.cell? ⟨w.heap.size, 1, none⟩ = some (.slice Ao lo co) ∧ w'.cell? ⟨w.heap.size, 2, none⟩ = some (.bool false) ∧ w'.cell? ⟨w.heap.size, 3, none⟩ = some (.slice Au lu cu) ∧ w'.cell? ⟨w3.heap.size, 0, none⟩ = some (.bool x3) ∧ w'.cell? ⟨w3.heap.size, 1, none⟩ = some (.slice A3 n3 c3) ∧ w'.cell? ⟨w3.heap.size, 2, none⟩ = some (.bool y3) ∧ w'.cell? ⟨w3.heap.size, 3, none⟩ = some (.slice B3 m3 d3)) ∧ (w'.frozen? ⟨w.heap.size, 0, none⟩ = false ∧ w'.frozen? ⟨w.heap.size, 1, none⟩ = false ∧ w'.frozen? ⟨w.heap.size, 2, none⟩ = false ∧ w'.frozen? ⟨w.heap.size, 3, none⟩ = false ∧ w'.frozen? ⟨w3.heap.size, 0, none⟩ = false ∧ w'.frozen? ⟨w3.heap.size, 1, none⟩ = false ∧ w'.frozen? ⟨w3.heap.size, 2, none⟩ = false ∧ w'.frozen? ⟨w3.heap.size, 3, none⟩ = false) ∧ Hid (Mem w [(w.heap.size, 58, [.bool no, .slice Ao lo co, .bool false, .slice Au lu cu]), (w3.heap.size, 61, [.bool x3, .slice A3 n3 c3, .bool y3, .slice B3 m3 d3])] w')) := fun w' h => ⟨⟨h.c 0 rfl 0 rfl, h.c 0 rfl 1 rfl, h.c 0 rfl 2 rfl, h.c 0 rfl 3 rfl, h.c 1 rfl 0 rfl, h.c 1 rfl 1 rfl, h.c 1 rfl 2 rfl, h.c 1 rfl 3 rfl⟩, ⟨h.f 0 rfl 0, h.f 0 rfl 1, h.f 0 rfl 2, h.f 0 rfl 3, h.f 1 rfl 0, h.f 1 rfl 1, h.f 1 rfl 2, h.f 1 rfl 3⟩, h⟩
    go_region_held3 (fun w' => (w'.cell? ⟨w.heap.size, 0, none⟩ = some (.bool no) ∧ w'.cell? ⟨w.heap.size, 1, none⟩ = some (.slice Ao lo co) ∧ w'.cell? ⟨w.heap.size, 2, none⟩ = some (.bool false) ∧ w'.cell? ⟨w.heap.size, 3, none⟩ = some (.slice Au lu cu) ∧ w'.cell? ⟨w3.heap.size, 0, none⟩ = some (.bool x3) ∧ w'.cell? ⟨w3.heap.size, 1, none⟩ = some (.slice A3 n3 c3) ∧ w'.cell? ⟨w3.heap.size, 2, none⟩ = some (.bool y3) ∧ w'.cell? ⟨w3.heap.size, 3, none⟩ = some (.slice B3 m3 d3)) ∧ (w'.frozen? ⟨w.heap.size, 0, none⟩ = false ∧ w'.frozen? ⟨w.heap.size, 1, none⟩ = false ∧ w'.frozen? ⟨w.heap.size, 2, none⟩ = false ∧ w'.frozen? ⟨w.heap.size, 3, none⟩ = false ∧ w'.frozen? ⟨w3.heap.size, 0, none⟩ = false ∧ w'.frozen? ⟨w3.heap.size, 1, none⟩ = false ∧ w'.frozen? ⟨w3.heap.size, 2, none⟩ = false ∧ w'.frozen? ⟨w3.heap.size, 3, none⟩ = false) ∧ Hid (Mem w [(w.heap.size, 58, [.bool no, .slice Ao lo co, .bool false, .slice Au lu cu]), (w3.heap.size, 61, [.bool x3, .slice A3 n3 c3, .bool y3, .slice B3 m3 d3])] w')) (first | (with_reducible exact A3H.out _ T3.out.drew) | (with_reducible exact A3H.out _ (Mem.over hb (Mem.get (by assumption))))) (first | (go_at_call 59; refine (make2_any (p := 9 * p) (by omega) (by omega) (I3.out.kept ((Kept.refl _).drew)) (J3.out.kept ((Kept.refl _).drew))).mono ?_; rintro e w4 ⟨x4, A4, n4, c4, y4, B4, m4, d4, rfl, hi4, hb⟩) | (go_at_call 44; refine (form2_any (p := 9 * p) (by omega) hi4.out).mono ?_; rintro e w5 ⟨x5, A5, n5, c5, y5, B5, m5, d5, rfl, hi5, hb⟩; obtain ⟨hp5, hq5⟩ := fr_parts hi5.out) | (go_at_call 42; refine (same2_any (p := 9 * p) (by omega) ((IA.out.over (Mem.get (by assumption)).below).more (Nat.le_refl _) (by omega)) ((IB.out.over (Mem.get (by assumption)).below).more (Nat.le_refl _) (by omega)) hp5.out hq5.out HR.out).mono ?_; rintro e w6 ⟨rfl, hb⟩))
    have TS := Lib.hid (Mem.get (by assumption)).below
    go_wp2
    (try simp only [Exit.inBlock, Exit.then])
    go_ret
    exact ⟨rfl, TS.out⟩
end Go.Proofs.YtpikbhcjgcbdfaaDoor.wh
