/- Package dag: a term's hash. -/
import Derived.IntWalk
import Derived.Test.YtdnhhfhjjimcgaaDoorGl
namespace Go.Proofs.YtdnhhfhjjimcgaaDoor.dg
open Go Go.RowKit

theorem mixL_take {h : Int} {l : List Int} {k : Nat} (hk : k < l.length) : mixL h (l.take (k + 1)) = mix (mixL h (l.take k)) (l[k]'hk) := by
  unfold mixL
  rw [List.take_succ_eq_append_getElem hk, List.foldl_append]
  rfl
theorem mixL_append (h : Int) (a b : List Int) : mixL h (a ++ b) = mixL (mixL h a) b := by
  unfold mixL
  rw [List.foldl_append]
set_option maxRecDepth 100000 in
set_option maxHeartbeats 4000000 in
theorem mixed_any {w : World} {G : Nat → Prop} {xs : List Int} {A : Option Addr} {c : Nat} (hr : Hid (Ri w G xs A c)) (hl : xs.length ≤ 1000000) (h : Int) :
    Calls Tryd.prog 40 #[.int .u64 h, .slice A xs.length c] w fun e w' => e = .returned (.int .u64 (mixL h xs)) ∧ w = w' := by
  go_enter Tryd.func40, Tryd.ntmps40
  go_upto_region 2 with fail
  go_loopw [0, 9] (fun hv iv wr => ∃ (k : Nat) (z : Int), k ≤ xs.length ∧ iv = .int .i64 (k : Int) ∧ hv = .int .u64 z ∧ Hid (z = mixL h (xs.take k)) ∧ Hid (Eqw w wr)) (fun _ iv _ => xs.length - (intOf iv).toNat)
  case atStart => exact ⟨0, h, Nat.zero_le _, rfl, rfl, Lib.hid rfl, Lib.hid (Eqw.rfl _)⟩
  case round =>
    obtain ⟨k, z, hk, rfl, rfl, HK, HB⟩ := hrel
    obtain rfl : w = wr := HB.out
    clear HB
    by_cases hlt : k < xs.length
    · have g7 : (k : Int) < (xs.length : Int) := by omega
      obtain ⟨g, off, rfl, _, _, hc⟩ := hr.out.get hlt
      go_wp2_with fail
      go_roundw
      case rel => exact ⟨k + 1, mix z (xs[k]'hlt), by omega, by go_num, by rfl, Lib.hid (by rw [mixL_take hlt, HK.out]), Lib.hid (Eqw.rfl _)⟩
      case measure => simp [intOf]; omega
    · obtain rfl : k = xs.length := by omega
      have g7 : ¬ ((xs.length : Int) < (xs.length : Int)) := by omega
      obtain rfl : z = mixL h xs := by rw [HK.out, List.take_length]
      go_wp2_with fail
      go_ret
      exact ⟨rfl, rfl⟩

theorem Ri.one (w : World) (G : Nat → Prop) {cs : Array Value} {xs : List Int} {g : Nat} {e : TypeId} (h : Bk w g e cs) (hG : G g) (hc : ∀ j (h : j < xs.length), cs[j]? = some (.int .i64 (xs[j]'h))) : Ri w G xs (some ⟨g, 0, none⟩) xs.length :=
  ⟨Nat.le_refl _, fun _ => ⟨g, 0, rfl, hG, h.lt, fun j hj => by rw [Nat.zero_add, h.cell j]; exact hc j hj⟩⟩
theorem bytesL (h : Int) (s : ByteArray) (k : Nat) (hk : k < s.size) : mixL h ((s.data.toList.map fun c => (c.toNat : Int)).take (k + 1)) = mix (mixL h ((s.data.toList.map fun c => (c.toNat : Int)).take k)) (s[k].toNat : Int) := by
  rw [mixL_take (by simpa using hk)]
  congr 1
  simp only [List.getElem_map]
  rw [byte_at hk]
set_option maxRecDepth 100000 in
set_option maxHeartbeats 4000000 in
theorem hash_any {w : World} {G : Nat → Prop} {t : Tm} {A : Option Addr} {c : Nat} (hr : Hid (Ri w G t.kids A c)) (hl : t.kids.length ≤ 1000000) (hs : t.num.size ≤ 1000000) :
    Calls Tryd.prog 23 #[.agg #[.int .i64 t.op, .int .i64 t.fn, .slice A t.kids.length c, .string t.num]] w fun e w' => e = .returned (.int .u64 (hash t)) ∧ Hid (Below w.heap.size w w') := by
  obtain ⟨s, hs2⟩ : ∃ s, t.num = s := ⟨_, rfl⟩
  have HS2 := Lib.hid hs2
  rw [hs2] at hs ⊢
  clear hs2
  go_enter Tryd.func23, Tryd.ntmps23
  go_upto_region 1 with fail
  generalize hW : World.alloc _ _ = W1
  have HB : Hid (Below w.heap.size w W1) := Lib.hid (hW ▸ (Below.refl _ w).alloc (Nat.le_refl _) _)
  have HX : Hid (Bk W1 w.heap.size 41 #[.int .i64 t.op, .int .i64 t.fn, .slice A t.kids.length c, .string s]) := Lib.hid (hW ▸ Bk.new w _ _)
  clear hW
  have x0 := HX.out.cell 0
  have x1 := HX.out.cell 1
  have x2 := HX.out.cell 2
  have x3 := HX.out.cell 3
  have HL1 := HX.out.lt
  have H3 : Hid (Bk (W1.alloc (.cells #[.int .i64 t.op, .int .i64 t.fn, .int .i64 (t.kids.length : Int)] 3)) W1.heap.size 3 #[.int .i64 t.op, .int .i64 t.fn, .int .i64 (t.kids.length : Int)]) := Lib.hid (Bk.new _ _ _)
  have HR3 : Hid (Ri (W1.alloc (.cells #[.int .i64 t.op, .int .i64 t.fn, .int .i64 (t.kids.length : Int)] 3)) (fun _ => True) [t.op, t.fn, (t.kids.length : Int)] (some ⟨W1.heap.size, 0, none⟩) 3) := Lib.hid (Ri.one _ _ H3.out trivial (fun j hj => by
    match j, hj with
    | 0, _ => rfl
    | 1, _ => rfl
    | 2, _ => rfl))
  have hr2 : Hid (Ri (W1.alloc (.cells #[.int .i64 t.op, .int .i64 t.fn, .int .i64 (t.kids.length : Int)] 3)) G t.kids A c) := Lib.hid ((hr.out.below HB.out).below ((Below.refl _ _).alloc (Nat.le_refl _) _))
  have HB2 : Hid (Below w.heap.size w (W1.alloc (.cells #[.int .i64 t.op, .int .i64 t.fn, .int .i64 (t.kids.length : Int)] 3))) := Lib.hid (HB.out.alloc HB.out.size _)
  have HX2 : Hid (Bk (W1.alloc (.cells #[.int .i64 t.op, .int .i64 t.fn, .int .i64 (t.kids.length : Int)] 3)) w.heap.size 41 #[.int .i64 t.op, .int .i64 t.fn, .slice A t.kids.length c, .string s]) := Lib.hid (HX.out.alloc _)
  go_upto_region 2 with (go_at_call 40; refine (mixed_any (xs := [t.op, t.fn, (t.kids.length : Int)]) HR3 (by simp) _).mono ?_; rintro e w5 ⟨rfl, rfl⟩)
  clear x0 x1 x2 x3 H3 HR3 HX HB
  generalize World.alloc _ _ = W2 at *
  have y2 := HX2.out.cell 2
  have y3 := HX2.out.cell 3
  go_upto_region 3 with (go_at_call 40; refine (mixed_any hr2 hl _).mono ?_; rintro e w5 ⟨rfl, rfl⟩)
  go_upto_region 4 with fail
  obtain ⟨h0, hh0⟩ : ∃ h0, mixL (mixL 14695981039346656037 [t.op, t.fn, (t.kids.length : Int)]) t.kids = h0 := ⟨_, rfl⟩
  have HH0 := Lib.hid hh0
  rw [hh0]
  clear hh0
  have HEND : Hid (hash t = mixL h0 (s.data.toList.map fun c => (c.toNat : Int))) := Lib.hid (by unfold hash; rw [HS2.out, HH0.out])
  clear y2 y3
  go_loopw [3, 21] (fun hv iv wr => ∃ (k : Nat) (z : Int), k ≤ s.size ∧ iv = .int .i64 (k : Int) ∧ hv = .int .u64 z ∧ Hid (z = mixL h0 ((s.data.toList.map fun c => (c.toNat : Int)).take k)) ∧ Hid (Below w.heap.size w wr) ∧ Hid (Bk wr w.heap.size 41 #[.int .i64 t.op, .int .i64 t.fn, .slice A t.kids.length c, .string s])) (fun _ iv _ => s.size - (intOf iv).toNat)
  case atStart => exact ⟨0, h0, Nat.zero_le _, rfl, rfl, Lib.hid rfl, HB2, HX2⟩
  case round =>
    clear HB2 HX2 hr2
    obtain ⟨k, z, hk, rfl, rfl, HK, HB, HX⟩ := hrel
    have y3 := HX.out.cell 3
    by_cases hlt : k < s.size
    · have g7 : (k : Int) < (s.size : Int) := by omega
      have hw : wrap64 ((s[k].toNat : Nat) : Int) = ((s[k].toNat : Nat) : Int) := by have := s[k].toNat_lt; unfold wrap64; omega
      have H1 : Hid (Bk (wr.alloc (.cells #[.int .i64 (s[k].toNat : Int)] 3)) wr.heap.size 3 #[.int .i64 (s[k].toNat : Int)]) := Lib.hid (Bk.new _ _ _)
      have HR1 : Hid (Ri (wr.alloc (.cells #[.int .i64 (s[k].toNat : Int)] 3)) (fun _ => True) [(s[k].toNat : Int)] (some ⟨wr.heap.size, 0, none⟩) 1) := Lib.hid (Ri.one _ _ H1.out trivial (fun j hj => by
        match j, hj with
        | 0, _ => rfl))
      go_wp2_with (go_at_call 40; refine (mixed_any (xs := [(s[k].toNat : Int)]) HR1 (by simp) _).mono ?_; rintro e w5 ⟨rfl, rfl⟩)
      go_roundw
      case rel => exact ⟨k + 1, mixL z [(s[k].toNat : Int)], by omega, by go_num, by rfl, Lib.hid (by rw [bytesL _ _ _ hlt, ← HK.out]; rfl), Lib.hid (HB.out.alloc HB.out.size _), Lib.hid (HX.out.alloc _)⟩
      case measure => simp [intOf]; omega
    · obtain rfl : k = s.size := by omega
      have g7 : ¬ ((s.size : Int) < (s.size : Int)) := by omega
      obtain rfl : z = hash t := by
        rw [HK.out, HEND.out, List.take_of_length_le (by simp)]
      go_wp2_with fail
      go_ret
      exact ⟨rfl, HB⟩
end Go.Proofs.YtdnhhfhjjimcgaaDoor.dg
