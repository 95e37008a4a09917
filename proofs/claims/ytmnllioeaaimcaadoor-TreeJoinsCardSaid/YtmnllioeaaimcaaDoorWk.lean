/- The statement TreeJoins, walked. -/
import Derived.Test.YtmnllioeaaimcaaDoorWi
import Derived.Test.YtmnllioeaaimcaaDoorWj
namespace Go.Proofs.YtmnllioeaaimcaaDoor.tr
open Go Go.RowKit Go.Proofs.YtmnllioeaaimcaaDoor.tk

theorem info_tok : (Tryd.prog.info? 35).map (fun i => (i.zero, i.size, i.bytes)) = some (some (.agg #[.int .i64 0, .string ⟨#[]⟩, .int .i64 0]), 3, 32) := by kernel_rfl
set_option maxRecDepth 100000 in
set_option maxHeartbeats 4000000 in
theorem joins_long {w : World} (hsh : w.ShapedOpen Tryd.prog) {A A2 : Option Addr} {Na Nb cb db : Nat} (h : 1000 < Na ∨ 1000 < Nb) :
    Calls Tryd.prog 5 #[.slice A Na cb, .slice A2 Nb db] w fun e w' => e = .returned (.bool true) ∧ Hid (Below w.heap.size w w') := by
  have SP := Lib.hid (speaks_any hsh)
  clear hsh
  by_cases h1 : 1000 < Na
  · have g0 : (1000 : Int) < (Na : Int) := by omega
    go_enter Tryd.func5, Tryd.ntmps5
    go_wp2_with (go_at_call 6; refine SP.out.mono ?_; rintro e w1 ⟨rfl, hb1⟩)
    go_ret
    exact ⟨rfl, hb1⟩
  · have g0 : ¬ (1000 : Int) < (Na : Int) := by omega
    have g1 : (1000 : Int) < (Nb : Int) := by omega
    go_enter Tryd.func5, Tryd.ntmps5
    go_wp2_with (go_at_call 6; refine SP.out.mono ?_; rintro e w1 ⟨rfl, hb1⟩)
    go_ret
    exact ⟨rfl, hb1⟩
set_option maxRecDepth 100000 in
set_option maxHeartbeats 8000000 in
theorem joins_short {w : World} (hsh : w.ShapedOpen Tryd.prog) {A A2 : Option Addr} {la lb : List Tok} {Na Nb cb db : Nat} (HA : Hid (Tm w w.heap.size A la)) (HB : Hid (Tm w w.heap.size A2 lb)) (hna : la.length = Na) (hnb : lb.length = Nb) (h1 : Na ≤ 1000) (h2 : Nb ≤ 1000) :
    Calls Tryd.prog 5 #[.slice A Na cb, .slice A2 Nb db] w fun e w' => e = .returned (.bool true) ∧ Hid (Below w.heap.size w w') := by
  have SP := Lib.hid (speaks_any hsh)
  have HNA := Lib.hid hna
  have HNB := Lib.hid hnb
  obtain ⟨i1, hj, hy0, hy1, hy2⟩ := info_parts info_tok
  obtain ⟨i0, hi, hz0, hz1, hz2⟩ := info_parts infoT
  clear hsh hna hnb
  have g0 : ¬ (1000 : Int) < (Na : Int) := by omega
  have g1 : ¬ (1000 : Int) < (Nb : Int) := by omega
  have HLA : Hid (la.length ≤ 80000000) := Lib.hid (by rw [HNA.out]; omega)
  have HLB : Hid (lb.length ≤ 80000000) := Lib.hid (by rw [HNB.out]; omega)
  cases hra : read 100 la with
  | error ea =>
    obtain ⟨codex, px⟩ := ea
    have HEx := Lib.hid hra
    clear hra
    cases hrb : read 100 lb with
    | error eb =>
      obtain ⟨codey, py⟩ := eb
      have HEy := Lib.hid hrb
      clear hrb
      go_enter Tryd.func5, Tryd.ntmps5
      go_upto_region 5 with (go_at_call 6; refine SP.out.mono ?_; rintro e w1 ⟨rfl, HBL1⟩)
      have HT1 := Lib.hid ((HA.out.below HBL1.out).mono HBL1.out.size)
      have P1 : Hid (Calls Tryd.prog 7 #[.slice A Na cb, .int .i64 100] w1 fun e w' => e = .returned (.tuple #[.slice none 0 0, .agg #[.int .i64 (codex : Int), .int .i64 px]]) ∧ Hid (Below w1.heap.size w1 w')) := Lib.hid (HNA.out ▸ tread_bad HT1 HLA.out HEx.out)
      go_upto_region 6 with (go_at_call 7; refine P1.out.mono ?_; rintro e wq ⟨rfl, hbq⟩)
      generalize hW : World.alloc _ _ = W2
      have HF1 : Hid (Bk W2 wq.heap.size 27 #[.int .i64 (codex : Int), .int .i64 px]) := Lib.hid (hW ▸ Bk.new wq _ _)
      have HQ : Hid (Below w1.heap.size w1 W2) := Lib.hid (hbq.out.trans (hW ▸ (Below.refl _ wq).alloc hbq.out.size _))
      have HBL2 : Hid (Below w.heap.size w W2) := Lib.hid (HBL1.out.trans (HQ.out.mono HBL1.out.size))
      obtain ⟨q1, hq1⟩ : ∃ q, wq.heap.size = q := ⟨_, rfl⟩
      rw [hq1] at HF1 ⊢
      clear hW hbq HT1 P1 hq1
      clear HQ
      have HT2 := Lib.hid ((HB.out.below HBL2.out).mono HBL2.out.size)
      have P2 : Hid (Calls Tryd.prog 7 #[.slice A2 Nb db, .int .i64 100] W2 fun e w' => e = .returned (.tuple #[.slice none 0 0, .agg #[.int .i64 (codey : Int), .int .i64 py]]) ∧ Hid (Below W2.heap.size W2 w')) := Lib.hid (HNB.out ▸ tread_bad HT2 HLB.out HEy.out)
      go_upto_region 7 with (go_at_call 7; refine P2.out.mono ?_; rintro e wq ⟨rfl, hbq⟩)
      generalize hW : World.alloc _ _ = W4
      have HF2 : Hid (Bk W4 wq.heap.size 27 #[.int .i64 (codey : Int), .int .i64 py]) := Lib.hid (hW ▸ Bk.new wq _ _)
      have HQ : Hid (Below W2.heap.size W2 W4) := Lib.hid (hbq.out.trans (hW ▸ (Below.refl _ wq).alloc hbq.out.size _))
      have HBL3 : Hid (Below w.heap.size w W4) := Lib.hid (HBL2.out.trans (HQ.out.mono HBL2.out.size))
      obtain ⟨q2, hq2⟩ : ∃ q, wq.heap.size = q := ⟨_, rfl⟩
      rw [hq2] at HF2 ⊢
      clear hW hbq HT2 P2 hq2
      have HF1 : Hid (Bk W4 q1 27 #[.int .i64 (codex : Int), .int .i64 px]) := Lib.hid (HF1.out.below HQ.out HF1.out.lt)
      clear HQ
      have f0 := HF1.out.cell 0
      have k0 := HF2.out.cell 0
      have n1 : ¬ ((codex : Int) = 0) := by have := read_code HEx.out; omega
      go_wp2
      go_ret
      exact ⟨rfl, HBL3⟩
    | ok y =>
      have HEy := Lib.hid hrb
      clear hrb
      go_enter Tryd.func5, Tryd.ntmps5
      go_upto_region 5 with (go_at_call 6; refine SP.out.mono ?_; rintro e w1 ⟨rfl, HBL1⟩)
      have HT1 := Lib.hid ((HA.out.below HBL1.out).mono HBL1.out.size)
      have P1 : Hid (Calls Tryd.prog 7 #[.slice A Na cb, .int .i64 100] w1 fun e w' => e = .returned (.tuple #[.slice none 0 0, .agg #[.int .i64 (codex : Int), .int .i64 px]]) ∧ Hid (Below w1.heap.size w1 w')) := Lib.hid (HNA.out ▸ tread_bad HT1 HLA.out HEx.out)
      go_upto_region 6 with (go_at_call 7; refine P1.out.mono ?_; rintro e wq ⟨rfl, hbq⟩)
      generalize hW : World.alloc _ _ = W2
      have HF1 : Hid (Bk W2 wq.heap.size 27 #[.int .i64 (codex : Int), .int .i64 px]) := Lib.hid (hW ▸ Bk.new wq _ _)
      have HQ : Hid (Below w1.heap.size w1 W2) := Lib.hid (hbq.out.trans (hW ▸ (Below.refl _ wq).alloc hbq.out.size _))
      have HBL2 : Hid (Below w.heap.size w W2) := Lib.hid (HBL1.out.trans (HQ.out.mono HBL1.out.size))
      obtain ⟨q1, hq1⟩ : ∃ q, wq.heap.size = q := ⟨_, rfl⟩
      rw [hq1] at HF1 ⊢
      clear hW hbq HT1 P1 hq1
      clear HQ
      have HT2 := Lib.hid ((HB.out.below HBL2.out).mono HBL2.out.size)
      have P2 : Hid (Calls Tryd.prog 7 #[.slice A2 Nb db, .int .i64 100] W2 fun e w' => ∃ A3 M c3, e = .returned (.tuple #[.slice A3 M c3, .agg #[.int .i64 0, .int .i64 0]]) ∧ Hid (Rw w' (fun _ => True) y (.slice A3 M c3)) ∧ Hid (Below W2.heap.size W2 w')) := Lib.hid (HNB.out ▸ tread_ok HT2 HLB.out HEy.out)
      go_upto_region 7 with (go_at_call 7; refine P2.out.mono ?_; rintro e wq ⟨Ay, My, cy, rfl, hvy, hbq⟩)
      generalize hW : World.alloc _ _ = W4
      have HF2 : Hid (Bk W4 wq.heap.size 27 #[.int .i64 0, .int .i64 0]) := Lib.hid (hW ▸ Bk.new wq _ _)
      have HQ : Hid (Below W2.heap.size W2 W4) := Lib.hid (hbq.out.trans (hW ▸ (Below.refl _ wq).alloc hbq.out.size _))
      have HBL3 : Hid (Below w.heap.size w W4) := Lib.hid (HBL2.out.trans (HQ.out.mono HBL2.out.size))
      have HVy : Hid (Rw W4 (fun _ => True) y (.slice Ay My cy)) := Lib.hid (hvy.out.stays (by rw [← hW]; simp) (fun g _ hl => ⟨trivial, by rw [← hW]; exact Below.heap_alloc wq _ g hl⟩))
      clear hvy
      obtain ⟨q2, hq2⟩ : ∃ q, wq.heap.size = q := ⟨_, rfl⟩
      rw [hq2] at HF2 ⊢
      clear hW hbq HT2 P2 hq2
      have HF1 : Hid (Bk W4 q1 27 #[.int .i64 (codex : Int), .int .i64 px]) := Lib.hid (HF1.out.below HQ.out HF1.out.lt)
      clear HQ
      have f0 := HF1.out.cell 0
      have k0 := HF2.out.cell 0
      have n1 : ¬ ((codex : Int) = 0) := by have := read_code HEx.out; omega
      go_wp2
      go_ret
      exact ⟨rfl, HBL3⟩
  | ok x =>
    have HEx := Lib.hid hra
    clear hra
    cases hrb : read 100 lb with
    | error eb =>
      obtain ⟨codey, py⟩ := eb
      have HEy := Lib.hid hrb
      clear hrb
      go_enter Tryd.func5, Tryd.ntmps5
      go_upto_region 5 with (go_at_call 6; refine SP.out.mono ?_; rintro e w1 ⟨rfl, HBL1⟩)
      have HT1 := Lib.hid ((HA.out.below HBL1.out).mono HBL1.out.size)
      have P1 : Hid (Calls Tryd.prog 7 #[.slice A Na cb, .int .i64 100] w1 fun e w' => ∃ A3 M c3, e = .returned (.tuple #[.slice A3 M c3, .agg #[.int .i64 0, .int .i64 0]]) ∧ Hid (Rw w' (fun _ => True) x (.slice A3 M c3)) ∧ Hid (Below w1.heap.size w1 w')) := Lib.hid (HNA.out ▸ tread_ok HT1 HLA.out HEx.out)
      go_upto_region 6 with (go_at_call 7; refine P1.out.mono ?_; rintro e wq ⟨Ax, Mx, cx, rfl, hvx, hbq⟩)
      generalize hW : World.alloc _ _ = W2
      have HF1 : Hid (Bk W2 wq.heap.size 27 #[.int .i64 0, .int .i64 0]) := Lib.hid (hW ▸ Bk.new wq _ _)
      have HQ : Hid (Below w1.heap.size w1 W2) := Lib.hid (hbq.out.trans (hW ▸ (Below.refl _ wq).alloc hbq.out.size _))
      have HBL2 : Hid (Below w.heap.size w W2) := Lib.hid (HBL1.out.trans (HQ.out.mono HBL1.out.size))
      have HVx : Hid (Rw W2 (fun _ => True) x (.slice Ax Mx cx)) := Lib.hid (hvx.out.stays (by rw [← hW]; simp) (fun g _ hl => ⟨trivial, by rw [← hW]; exact Below.heap_alloc wq _ g hl⟩))
      clear hvx
      obtain ⟨q1, hq1⟩ : ∃ q, wq.heap.size = q := ⟨_, rfl⟩
      rw [hq1] at HF1 ⊢
      clear hW hbq HT1 P1 hq1
      clear HQ
      have HT2 := Lib.hid ((HB.out.below HBL2.out).mono HBL2.out.size)
      have P2 : Hid (Calls Tryd.prog 7 #[.slice A2 Nb db, .int .i64 100] W2 fun e w' => e = .returned (.tuple #[.slice none 0 0, .agg #[.int .i64 (codey : Int), .int .i64 py]]) ∧ Hid (Below W2.heap.size W2 w')) := Lib.hid (HNB.out ▸ tread_bad HT2 HLB.out HEy.out)
      go_upto_region 7 with (go_at_call 7; refine P2.out.mono ?_; rintro e wq ⟨rfl, hbq⟩)
      generalize hW : World.alloc _ _ = W4
      have HF2 : Hid (Bk W4 wq.heap.size 27 #[.int .i64 (codey : Int), .int .i64 py]) := Lib.hid (hW ▸ Bk.new wq _ _)
      have HQ : Hid (Below W2.heap.size W2 W4) := Lib.hid (hbq.out.trans (hW ▸ (Below.refl _ wq).alloc hbq.out.size _))
      have HBL3 : Hid (Below w.heap.size w W4) := Lib.hid (HBL2.out.trans (HQ.out.mono HBL2.out.size))
      obtain ⟨q2, hq2⟩ : ∃ q, wq.heap.size = q := ⟨_, rfl⟩
      rw [hq2] at HF2 ⊢
      clear hW hbq HT2 P2 hq2
      have HF1 : Hid (Bk W4 q1 27 #[.int .i64 0, .int .i64 0]) := Lib.hid (HF1.out.below HQ.out HF1.out.lt)
      have HVx : Hid (Rw W4 (fun _ => True) x (.slice Ax Mx cx)) := Lib.hid (HVx.out.stays HQ.out.size (fun g _ hl => ⟨trivial, HQ.out.block g hl⟩))
      clear HQ
      have f0 := HF1.out.cell 0
      have k0 := HF2.out.cell 0
      have n1 : ¬ ((codey : Int) = 0) := by have := read_code HEy.out; omega
      go_wp2
      go_ret
      exact ⟨rfl, HBL3⟩
    | ok y =>
      have HEy := Lib.hid hrb
      clear hrb
      go_enter Tryd.func5, Tryd.ntmps5
      go_upto_region 5 with (go_at_call 6; refine SP.out.mono ?_; rintro e w1 ⟨rfl, HBL1⟩)
      have HT1 := Lib.hid ((HA.out.below HBL1.out).mono HBL1.out.size)
      have P1 : Hid (Calls Tryd.prog 7 #[.slice A Na cb, .int .i64 100] w1 fun e w' => ∃ A3 M c3, e = .returned (.tuple #[.slice A3 M c3, .agg #[.int .i64 0, .int .i64 0]]) ∧ Hid (Rw w' (fun _ => True) x (.slice A3 M c3)) ∧ Hid (Below w1.heap.size w1 w')) := Lib.hid (HNA.out ▸ tread_ok HT1 HLA.out HEx.out)
      go_upto_region 6 with (go_at_call 7; refine P1.out.mono ?_; rintro e wq ⟨Ax, Mx, cx, rfl, hvx, hbq⟩)
      generalize hW : World.alloc _ _ = W2
      have HF1 : Hid (Bk W2 wq.heap.size 27 #[.int .i64 0, .int .i64 0]) := Lib.hid (hW ▸ Bk.new wq _ _)
      have HQ : Hid (Below w1.heap.size w1 W2) := Lib.hid (hbq.out.trans (hW ▸ (Below.refl _ wq).alloc hbq.out.size _))
      have HBL2 : Hid (Below w.heap.size w W2) := Lib.hid (HBL1.out.trans (HQ.out.mono HBL1.out.size))
      have HVx : Hid (Rw W2 (fun _ => True) x (.slice Ax Mx cx)) := Lib.hid (hvx.out.stays (by rw [← hW]; simp) (fun g _ hl => ⟨trivial, by rw [← hW]; exact Below.heap_alloc wq _ g hl⟩))
      clear hvx
      obtain ⟨q1, hq1⟩ : ∃ q, wq.heap.size = q := ⟨_, rfl⟩
      rw [hq1] at HF1 ⊢
      clear hW hbq HT1 P1 hq1
      clear HQ
      have HT2 := Lib.hid ((HB.out.below HBL2.out).mono HBL2.out.size)
      have P2 : Hid (Calls Tryd.prog 7 #[.slice A2 Nb db, .int .i64 100] W2 fun e w' => ∃ A3 M c3, e = .returned (.tuple #[.slice A3 M c3, .agg #[.int .i64 0, .int .i64 0]]) ∧ Hid (Rw w' (fun _ => True) y (.slice A3 M c3)) ∧ Hid (Below W2.heap.size W2 w')) := Lib.hid (HNB.out ▸ tread_ok HT2 HLB.out HEy.out)
      go_upto_region 7 with (go_at_call 7; refine P2.out.mono ?_; rintro e wq ⟨Ay, My, cy, rfl, hvy, hbq⟩)
      generalize hW : World.alloc _ _ = W4
      have HF2 : Hid (Bk W4 wq.heap.size 27 #[.int .i64 0, .int .i64 0]) := Lib.hid (hW ▸ Bk.new wq _ _)
      have HQ : Hid (Below W2.heap.size W2 W4) := Lib.hid (hbq.out.trans (hW ▸ (Below.refl _ wq).alloc hbq.out.size _))
      have HBL3 : Hid (Below w.heap.size w W4) := Lib.hid (HBL2.out.trans (HQ.out.mono HBL2.out.size))
      have HVy : Hid (Rw W4 (fun _ => True) y (.slice Ay My cy)) := Lib.hid (hvy.out.stays (by rw [← hW]; simp) (fun g _ hl => ⟨trivial, by rw [← hW]; exact Below.heap_alloc wq _ g hl⟩))
      clear hvy
      obtain ⟨q2, hq2⟩ : ∃ q, wq.heap.size = q := ⟨_, rfl⟩
      rw [hq2] at HF2 ⊢
      clear hW hbq HT2 P2 hq2
      have HF1 : Hid (Bk W4 q1 27 #[.int .i64 0, .int .i64 0]) := Lib.hid (HF1.out.below HQ.out HF1.out.lt)
      have HVx : Hid (Rw W4 (fun _ => True) x (.slice Ax Mx cx)) := Lib.hid (HVx.out.stays HQ.out.size (fun g _ hl => ⟨trivial, HQ.out.block g hl⟩))
      clear HQ
      have f0 := HF1.out.cell 0
      have k0 := HF2.out.cell 0
      have HEz : Hid (read 100 (la ++ lb) = .ok (x ++ y)) := Lib.hid (read_join HEx.out HEy.out)
      have HSZ : Hid (sizes (x ++ y) = Na + Nb) := Lib.hid (by have := read_size HEz.out; rw [List.length_append, HNA.out, HNB.out] at this; exact this)
      have HPT : Hid (partss (x ++ y) ≤ 100000000) := Lib.hid (by have := read_parts HEz.out; rw [List.length_append, HNA.out, HNB.out] at this; omega)
      have HB5 : Hid (Below w.heap.size w (W4.alloc (.cells #[] 35))) := Lib.hid (HBL3.out.alloc HBL3.out.size _)
      have HA5 : Hid (Tm (W4.alloc (.cells #[] 35)) w.heap.size A la) := Lib.hid (HA.out.below HB5.out)
      have hAn : A = none → Na = 0 := fun e => by have h := HA.out; rw [e] at h; rw [← HNA.out]; exact tm_none h
      have hBn : A2 = none → Nb = 0 := fun e => by have h := HB.out; rw [e] at h; rw [← HNB.out]; exact tm_none h
      have HAN := Lib.hid hAn
      have HBN := Lib.hid hBn
      clear hAn hBn
      go_upto_region 10 with (first | (at_builtin; refine wpList_append_row _ (by first | rfl | simp [Region.wanted, yielded]) (Operand.tmp 43) (Operand.tmp 44) 22 rfl W4.heap.size 35 i1 _ 3 32 Tryd.underlying22 hj hy0 hy1 hy2 rfl (by decide) _ 0 [] rfl (World.ownsRow_made W4 #[] 0 (Nat.le_refl _) (by unfold maxLen; omega) rfl) A Na cb (tokCells la) rfl HAN.out (by rw [tokCells_len, HNA.out]) (tm_news HA5.out) (tokCells_one _) (by unfold maxLen; omega) (by omega) (by simp) ?_; intro v1 w5 ho5 hg5; have HO5 : Hid (w5.ownsRow W4.heap.size 35 3 v1 Na (tokCells la)) := Lib.hid (by simpa using ho5); obtain ⟨A5, c5, e5, _, _⟩ := own_slice HO5.out; subst e5; have HB6 : Hid (Below W4.heap.size W4 w5) := Lib.hid (((Below.refl _ W4).alloc (Nat.le_refl _) _).grown hg5 (by simp) (fun k e => ((World.ownsRow_made (base := W4.heap.size) (e := 35) (size := 3) W4 #[] 0 (Nat.le_refl _) (by unfold maxLen; omega) rfl).lt k e).1)); have HB7 : Hid (Below w.heap.size w w5) := Lib.hid (HBL3.out.trans (HB6.out.mono HBL3.out.size)); clear ho5 hg5) | (at_builtin; refine wpList_append_row _ (by first | rfl | simp [Region.wanted, yielded]) (Operand.tmp 45) (Operand.tmp 46) 22 rfl W4.heap.size 35 i1 _ 3 32 Tryd.underlying22 hj hy0 hy1 hy2 rfl (by decide) _ Na (tokCells la) rfl HO5.out A2 Nb db (tokCells lb) rfl HBN.out (by rw [tokCells_len, HNB.out]) (tm_news (HB.out.below HB7.out)) (tokCells_one _) (by unfold maxLen; omega) (by omega) HB6.out.size ?_; intro v2 w6 ho6 hg6; have HO6 : Hid (w6.ownsRow W4.heap.size 35 3 v2 (Na + Nb) (tokCells (la ++ lb))) := Lib.hid (by rw [tokCells_append]; simpa using ho6); obtain ⟨A6, c6, e6, _, _⟩ := own_slice HO6.out; subst e6; have HB8 : Hid (Below W4.heap.size W4 w6) := Lib.hid (HB6.out.grown hg6 HB6.out.size (fun k e => (HO5.out.lt k e).1)); have P6 : Hid (Calls Tryd.prog 7 #[.slice A6 (Na + Nb) c6, .int .i64 100] w6 fun e w' => ∃ A3 M c3, e = .returned (.tuple #[.slice A3 M c3, .agg #[.int .i64 0, .int .i64 0]]) ∧ Hid (Rw w' (fun _ => True) (x ++ y) (.slice A3 M c3)) ∧ Hid (Below w6.heap.size w6 w')) := Lib.hid (by have h := tread_ok (cb := c6) (Lib.hid (tm_own HO6.out)) (by rw [List.length_append, HNA.out, HNB.out]; omega) HEz.out; rw [List.length_append, HNA.out, HNB.out] at h; exact h); clear ho6 hg6) | (go_at_call 7; refine P6.out.mono ?_; rintro e w7 ⟨A7, M7, c7, rfl, hv7, hb7⟩))
      generalize hW : World.alloc _ _ = W8
      obtain ⟨q3, hq3⟩ : ∃ q, w7.heap.size = q := ⟨_, rfl⟩
      have HB9 : Hid (Below W4.heap.size W4 W8) := Lib.hid (HB8.out.trans ((hb7.out.mono HB8.out.size).trans (hW ▸ (Below.refl _ w7).alloc (Nat.le_trans HB8.out.size hb7.out.size) _)))
      have HF3 : Hid (Bk W8 q3 27 #[.int .i64 0, .int .i64 0]) := Lib.hid (by rw [← hq3]; exact hW ▸ Bk.new w7 _ _)
      have HVz : Hid (Rw W8 (fun _ => True) (x ++ y) (.slice A7 M7 c7)) := Lib.hid (hv7.out.stays (by rw [← hW]; simp) (fun g _ hl => ⟨trivial, by rw [← hW]; exact Below.heap_alloc w7 _ g hl⟩))
      have HVX8 : Hid (Rw W8 (fun _ => True) x (.slice Ax Mx cx)) := Lib.hid (HVx.out.stays HB9.out.size (fun g _ hl => ⟨trivial, HB9.out.block g hl⟩))
      have HVY8 : Hid (Rw W8 (fun _ => True) y (.slice Ay My cy)) := Lib.hid (HVy.out.stays HB9.out.size (fun g _ hl => ⟨trivial, HB9.out.block g hl⟩))
      have HBW8 : Hid (Below w.heap.size w W8) := Lib.hid (HBL3.out.trans (HB9.out.mono HBL3.out.size))
      rw [hq3]
      clear hW hq3 hv7 hb7 HB5 HA5 HAN HBN HB6 HB7 HB8 HB9 HO5 HO6 P6 HF1 HF2 f0 k0 HVx HVy HBL3 HBL2 HBL1
      have hMz : M7 = (x ++ y).length := by obtain ⟨_, _, e, _⟩ := HVz.out; injection e
      have HMZ := Lib.hid hMz
      clear hMz
      have hm7 : M7 ≤ 2000 := by have k1 := len_sizes (x ++ y); have k2 := HSZ.out; have k3 := HMZ.out; omega
      go_upto_region 12 with fail
      go_loopw [11, 13, 53] (fun nv _ iv wr => ∃ k : Nat, k ≤ M7 ∧ iv = .int .i64 (k : Int) ∧ nv = .int .i64 ((sizes ((x ++ y).take k) : Nat) : Int) ∧ Hid (Below W8.heap.size W8 wr)) (fun _ _ iv _ => M7 - (intOf iv).toNat)
      case atStart => exact ⟨0, Nat.zero_le _, rfl, by simp [sizes], Lib.hid (Below.refl _ _)⟩
      case round =>
        obtain ⟨k, hk, rfl, rfl, HBr⟩ := hrel
        by_cases hlt : k < M7
        · have g7 : (k : Int) < (M7 : Int) := by omega
          have hk' : k < (x ++ y).length := by rw [← HMZ.out]; exact hlt
          obtain ⟨A8, c8, e8, _, hr8⟩ := HVz.out
          obtain ⟨g, off, eA, hF, hg, hr⟩ := hr8 (by omega)
          have e81 : A7 = A8 := by injection e8
          clear e8
          rw [eA] at e81
          subst e81
          have hr2 := Vr.stays HBr.out.size (fun g hF hg => ⟨hF, HBr.out.block g hg⟩) hF hg _ hr
          obtain ⟨l', u, kids, A', c', e, hvk, s0, s1, s2, s3, s4⟩ := hr2.get hk'
          have HVK := Lib.hid hvk
          obtain ⟨a, ha⟩ : ∃ a, sizes ((x ++ y).take k) = a := ⟨_, rfl⟩
          obtain ⟨b, hb⟩ : ∃ b, size (.mk l' u kids) = b := ⟨_, rfl⟩
          have HAB : Hid (a + b ≤ 2000 ∧ sizes ((x ++ y).take (k + 1)) = a + b) := Lib.hid (by
            have t1 := sizes_take (ks := x ++ y) hk'
            have t2 := sizes_le (x ++ y) (k + 1)
            have t3 := HSZ.out
            rw [e, hb, ha] at t1
            omega)
          rw [ha]
          have hab := HAB.out.1
          clear hr hr8 hr2 hvk e ha eA
          go_upto_region 14 with fail
          clear s0 s1 s2 s3 s4
          generalize hW : wr.alloc _ = W9
          have HT9 : Hid (Bk W9 wr.heap.size 37 #[.bool l', .int .i64 u.k, .string ⟨u.s.toArray⟩, .int .i64 u.p, .slice A' kids.length c']) := Lib.hid (hW ▸ Bk.new wr _ _)
          have HB9 : Hid (Below W8.heap.size W8 W9) := Lib.hid (HBr.out.trans (hW ▸ (Below.refl _ wr).alloc HBr.out.size _))
          have P9 : Hid (Calls Tryd.prog 13 #[.agg #[.bool l', .int .i64 u.k, .string ⟨u.s.toArray⟩, .int .i64 u.p, .slice A' kids.length c']] W9 fun e w' => e = .returned (.int .i64 (b : Int)) ∧ Hid (Below W9.heap.size W9 w')) := Lib.hid (hb ▸ size_any (HVK.out.stays (by rw [← hW]; simp) (fun g _ hl => ⟨by rw [← hW]; simp; omega, by rw [← hW]; exact Below.heap_alloc wr _ g hl⟩)) (by rw [hb]; omega))
          clear hW hb
          have t0 := HT9.out.cell 0
          have t1 := HT9.out.cell 1
          have t2 := HT9.out.cell 2
          have t3 := HT9.out.cell 3
          have t4 := HT9.out.cell 4
          go_wp2_with (go_at_call 13; refine P9.out.mono ?_; rintro e w9 ⟨rfl, hb9⟩)
          go_roundw
          case rel => exact ⟨k + 1, by omega, by go_num, by rw [HAB.out.2]; go_num, Lib.hid (HB9.out.trans (hb9.out.mono HB9.out.size))⟩
          case measure => simp [intOf]; omega
        · obtain rfl : k = M7 := by omega
          have g7 : ¬ ((k : Int) < (k : Int)) := by omega
          have eS : sizes ((x ++ y).take k) = Na + Nb := by rw [HMZ.out, List.take_length]; exact HSZ.out
          rw [eS]
          have hf3 := HF3.out.below HBr.out HF3.out.lt
          have r0 : wr.cell? ⟨q3, 0, none⟩ = some (.int .i64 0) := hf3.cell 0
          have HVZr : Hid (Rw wr (fun b => b < wr.heap.size) (x ++ y) (.slice A7 k c7)) := Lib.hid (HVz.out.stays HBr.out.size (fun g _ hl => ⟨by have := HBr.out.size; omega, HBr.out.block g hl⟩))
          have HVXr : Hid (Rw wr (fun b => b < wr.heap.size) x (.slice Ax Mx cx)) := Lib.hid (HVX8.out.stays HBr.out.size (fun g _ hl => ⟨by have := HBr.out.size; omega, HBr.out.block g hl⟩))
          have HVYr : Hid (Rw wr (fun b => b < wr.heap.size) y (.slice Ay My cy)) := Lib.hid (HVY8.out.stays HBr.out.size (fun g _ hl => ⟨by have := HBr.out.size; omega, HBr.out.block g hl⟩))
          have HBF : Hid (Below w.heap.size w wr) := Lib.hid (HBW8.out.trans (HBr.out.mono HBW8.out.size))
          have HWA : Hid (Below wr.heap.size wr (wr.alloc (.cells #[] 37))) := Lib.hid ((Below.refl _ wr).alloc (Nat.le_refl _) _)
          obtain ⟨ex, nx, xs, lx, avx, ncx, onx⟩ := (HVXr.out.stays (w' := wr.alloc (.cells #[] 37)) HWA.out.size (fun g hg hl => ⟨hg, HWA.out.block g hl⟩)).cells
          have HLX : Hid (Mx = x.length ∧ My = y.length ∧ Mx + My ≤ 2000) := Lib.hid (by
            have k1 := len_sizes (x ++ y)
            have k2 := HSZ.out
            obtain ⟨_, _, ey, _⟩ := HVYr.out
            have ey : My = y.length := by injection ey
            rw [List.length_append] at k1
            omega)
          have hxy := HLX.out.2.2
          have HX1 := Lib.hid nx
          have HX2 := Lib.hid lx
          have HX3 := Lib.hid avx
          have HX4 := Lib.hid ncx
          have HX5 := Lib.hid onx
          clear hf3 ex nx lx avx ncx onx eS
          go_wp2_with (first | (at_builtin; refine wpList_append_row _ (by first | rfl | simp [Region.wanted, yielded]) (Operand.tmp 67) (Operand.tmp 68) 24 rfl wr.heap.size 37 i0 _ 5 64 Tryd.underlying24 hi hz0 hz1 hz2 rfl (by decide) _ 0 [] rfl (World.ownsRow_made wr #[] 0 (Nat.le_refl _) (by unfold maxLen; omega) rfl) Ax Mx cx xs rfl HX1.out HX2.out HX4.out HX5.out (by unfold maxLen; omega) (by omega) (by simp) ?_; intro v1 w5 ho5 hg5; have HO5 : Hid (w5.ownsRow wr.heap.size 37 5 v1 Mx xs) := Lib.hid (by simpa using ho5); obtain ⟨A5, c5, e5, _, _⟩ := own_slice HO5.out; subst e5; have HB6 : Hid (Below wr.heap.size wr w5) := Lib.hid (HWA.out.grown hg5 (by simp) (fun k e => ((World.ownsRow_made (base := wr.heap.size) (e := 37) (size := 5) wr #[] 0 (Nat.le_refl _) (by unfold maxLen; omega) rfl).lt k e).1)); have HAVx : Hid (Av w5 (fun b => b < wr.heap.size) x xs) := Lib.hid (HX3.out.stays (hg5.size) (fun g hg hl => ⟨hg, hg5.block g hl (fun e => by have := ((World.ownsRow_made (base := wr.heap.size) (e := 37) (size := 5) wr #[] 0 (Nat.le_refl _) (by unfold maxLen; omega) rfl).lt g e.symm).1; omega)⟩)); obtain ⟨ey, ny, ys, ly, avy, ncy, ony⟩ := (HVYr.out.stays (w' := w5) HB6.out.size (fun g hg hl => ⟨hg, HB6.out.block g hl⟩)).cells; have HY1 := Lib.hid ny; have HY2 := Lib.hid ly; have HY3 := Lib.hid avy; have HY4 := Lib.hid ncy; have HY5 := Lib.hid ony; clear ho5 hg5 ey ny ly avy ncy ony) | (at_builtin; refine wpList_append_row _ (by first | rfl | simp [Region.wanted, yielded]) (Operand.tmp 69) (Operand.tmp 70) 24 rfl wr.heap.size 37 i0 _ 5 64 Tryd.underlying24 hi hz0 hz1 hz2 rfl (by decide) _ Mx xs rfl HO5.out Ay My cy ys rfl HY1.out HY2.out HY4.out HY5.out (by unfold maxLen; omega) (by omega) HB6.out.size ?_; intro v2 w6 ho6 hg6; have HB8 : Hid (Below wr.heap.size wr w6) := Lib.hid (HB6.out.grown hg6 HB6.out.size (fun k e => (HO5.out.lt k e).1)); have HKD : Hid (Kd w6 wr.heap.size (fun b => b < wr.heap.size) (x ++ y) v2) := Lib.hid ⟨xs ++ ys, by rw [List.length_append, ← HLX.out.1, ← HLX.out.2.1]; exact ho6, (HAVx.out.append HY3.out).stays hg6.size (fun g hg hl => ⟨hg, hg6.block g hl (fun e => by have := (HO5.out.lt g e.symm).1; omega)⟩)⟩; have HRW : Hid (Rw w6 (fun _ => True) (x ++ y) v2) := Lib.hid (HKD.out.rw (fun _ _ => trivial) (fun _ _ => trivial)); have PS := Lib.hid (same_any (w := w6) (at_ := true) (Lib.hid (HVZr.out.stays (w' := w6) (F' := fun _ => True) HB8.out.size (fun g hg hl => ⟨trivial, HB8.out.block g hl⟩))) HRW HPT.out); rw [show samesB true (x ++ y) (x ++ y) = true from (sames_iff _ _).2 rfl] at PS; clear ho6 hg6) | (go_at_call 9; refine PS.out.mono ?_; rintro e w7 ⟨rfl, hb7⟩))
          go_ret
          exact ⟨rfl, Lib.hid (HBF.out.trans ((HB8.out.mono HBF.out.size).trans (hb7.out.mono (Nat.le_trans HBF.out.size HB8.out.size))))⟩
/-- the statement TreeJoins: for all two rows of tokens -/
theorem treeJoins_any {w : World} (hsh : w.ShapedOpen Tryd.prog) {A A2 : Option Addr} {la lb : List Tok} {cb db : Nat} (ha : Tm w w.heap.size A la) (hb : Tm w w.heap.size A2 lb) :
    Calls Tryd.prog 5 #[.slice A la.length cb, .slice A2 lb.length db] w fun e w' => e = .returned (.bool true) ∧ Hid (Below w.heap.size w w') := by
  by_cases h : la.length ≤ 1000 ∧ lb.length ≤ 1000
  · exact joins_short hsh (Lib.hid ha) (Lib.hid hb) rfl rfl h.1 h.2
  · exact joins_long hsh (by omega)
end Go.Proofs.YtmnllioeaaimcaaDoor.tr
