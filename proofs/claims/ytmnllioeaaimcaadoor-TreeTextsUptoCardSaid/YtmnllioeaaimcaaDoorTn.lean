/- The document's answer of layer 4: the token at a place: texts within quotes. -/
import Derived.Test.YtmnllioeaaimcaaDoorTk
import Derived.Laws.OwnMore
import Derived.Laws.AppendOwn
import Derived.Deep.AppendLies
import Derived.Deep.LoopGhost
import Derived.Lib.UnsafeStr
namespace Go.Proofs.YtmnllioeaaimcaaDoor.tk
open Go.RowKit

theorem str_end {bs : List UInt8} {n : Nat} {acc : List UInt8} : strL (bs.drop bs.length) n acc = .bad n := by rw [List.drop_length]; rfl
theorem str_stop {bs : List UInt8} {k n : Nat} {acc : List UInt8} (hk : k < bs.length) (h : isPlain bs[k] = false) : strL (bs.drop k) n acc = .bad n := by
  rw [drop_cons hk]; unfold strL; rw [h]; rfl
theorem str_char {bs : List UInt8} {k n : Nat} {acc : List UInt8} (hk : k < bs.length) (h : isPlain bs[k] = true) (h2 : bs[k].toNat ≠ 34) : strL (bs.drop k) n acc = strL (bs.drop (k + 1)) (n + 1) (bs[k] :: acc) := by
  rw [drop_cons hk]; conv => lhs; unfold strL
  rw [h, if_pos rfl, if_neg h2]
theorem str_last {bs : List UInt8} {k n : Nat} {acc : List UInt8} (hk : k < bs.length) (h : isPlain bs[k] = true) (h2 : bs[k].toNat = 34) (h3 : k + 1 = bs.length) : strL (bs.drop k) n acc = .tok 9 acc.reverse (n + 1) := by
  rw [drop_cons hk, h3, List.drop_length]; unfold strL
  rw [h, if_pos rfl, if_pos h2]
theorem str_shut {bs : List UInt8} {k n : Nat} {acc : List UInt8} (hk : k < bs.length) (h : isPlain bs[k] = true) (h2 : bs[k].toNat = 34) (h3 : k + 1 < bs.length) (h4 : bs[k + 1].toNat ≠ 34) : strL (bs.drop k) n acc = .tok 9 acc.reverse (n + 1) := by
  rw [drop_cons hk, drop_cons h3]; unfold strL
  rw [h, if_pos rfl, if_pos h2]
  simp only
  rw [if_neg h4]
theorem str_two {bs : List UInt8} {k n : Nat} {acc : List UInt8} (hk : k < bs.length) (h : isPlain bs[k] = true) (h2 : bs[k].toNat = 34) (h3 : k + 1 < bs.length) (h4 : bs[k + 1].toNat = 34) : strL (bs.drop k) n acc = strL (bs.drop (k + 2)) (n + 2) (bs[k + 1] :: acc) := by
  have e : bs[k + 1] = 34 := UInt8.toNat_inj.1 h4
  rw [e, drop_cons hk, drop_cons h3]; conv => lhs; unfold strL
  rw [h, if_pos rfl, if_pos h2]
  simp only
  rw [if_pos h4]
theorem info_u8 : (Tryd.prog.info? 5).map (fun i => (i.zero, i.size, i.bytes)) = some (some (.int .u8 0), 1, 1) := by kernel_rfl
theorem byteCells_len (a : List UInt8) : (Lib.byteCells a).length = a.length := by simp [Lib.byteCells]
theorem byteCells_append (a b : List UInt8) : Lib.byteCells a ++ Lib.byteCells b = Lib.byteCells (a ++ b) := by simp [Lib.byteCells]
theorem one_cell (W : World) (t : TypeId) (u : Value) : ∀ j x, [u][j]? = some x → (W.alloc (.cells #[u] t)).cell? ((⟨W.heap.size, 0, none⟩ : Addr).add j) = some x := by
  intro j x hj
  match j, hj with
  | 0, hj => simp at hj; subst hj; simp [Addr.add]
theorem one_one (k : IntKind) (z : Int) : ∀ u ∈ [Value.int k z], u.oneCell' = true := by
  intro u hu
  simp at hu
  subst hu
  rfl
theorem own_row {w : World} {base n : Nat} {e : TypeId} {v : Value} {xs : List Value} (h : w.ownsRow base e 1 v n xs) : ∃ A c, v = .slice A n c ∧ n ≤ c := by
  rcases h.2 with ⟨rfl, rfl⟩ | ⟨g, cap, cur, rfl, _, _, hn, _⟩
  · exact ⟨_, _, rfl, Nat.le_refl _⟩
  · exact ⟨_, _, rfl, hn⟩
theorem own_conv {w : World} {base n c : Nat} {A : Option Addr} {l : List UInt8} (h : w.ownsRow base 5 1 (.slice A n c) n (Lib.byteCells l)) (h0 : n = 0 → ∃ g, A = some ⟨g, 0, none⟩) :
    (convert 44 9 (.slice A n c)).run Tryd.prog w = .ok (.string ⟨l.toArray⟩) w := by
  have hl : l.length = n := by have := h.1; rw [byteCells_len] at this; omega
  obtain ⟨g, rfl, hc⟩ : ∃ g, A = some ⟨g, 0, none⟩ ∧ ∀ j (hj : j < l.length), w.cell? ((⟨g, 0, none⟩ : Addr).add j) = some (.int .u8 (l[j].toNat : Int)) := by
    rcases Nat.eq_zero_or_pos n with e | e
    · obtain ⟨g, rfl⟩ := h0 e
      exact ⟨g, rfl, fun j hj => by omega⟩
    · obtain ⟨g, cap, hv, _, hlt⟩ := h.form (by omega)
      have hA : A = some ⟨g, 0, none⟩ := by injection hv
      subst hA
      exact ⟨g, rfl, fun j hj => h.cells (g := g) rfl j _ (by simp [Lib.byteCells, hj])⟩
  have := run_convert_bytes_back (P := Tryd.prog) w 44 9 5 ⟨g, 0, none⟩ c l Tryd.underlying44 Tryd.underlying5 Tryd.underlying9 hc
  rwa [hl] at this
theorem St.alloc {w W : World} {A : Option Addr} {bs : List UInt8} {k p : Nat} {t : List UInt8} (h : St w W A bs k t p) (o : Obj) : St w (W.alloc o) A bs k t p :=
  h.on ((Below.refl _ _).alloc (Nat.le_refl _) _)
theorem St.grown {w W W' : World} {A : Option Addr} {bs : List UInt8} {k p : Nat} {t : List UInt8} {row : Option Nat} (h : St w W A bs k t p) (h0 : Rb w A bs) (hg : W.grownBy W' row) (hr : ∀ g, row = some g → w.heap.size + 2 ≤ g) : St w W' A bs k t p := by
  have hB : Below w.heap.size w W' := h.below.grown hg h.below.size (fun g e => by have := hr g e; omega)
  exact ⟨(hg.block _ h.res.lt (fun e => by have := hr _ e.symm; omega)).trans h.res, (hg.block _ h.tok.lt (fun e => by have := hr _ e.symm; omega)).trans h.tok, h0.below hB, hB⟩

set_option maxRecDepth 100000 in
set_option maxHeartbeats 2000000 in
theorem token_str {w : World} {b off : Nat} {bs : List UInt8} {cb p : Nat} (hb : Hid (Rb w (some ⟨b, off, none⟩) bs)) (hl : bs.length ≤ 100000000) (hcap : bs.length ≤ cb) (hp : p < bs.length) (hblt : b < w.heap.size) (H : bs[p].toNat = 34) :
    Calls Tryd.prog 44 #[.slice (some ⟨b, off, none⟩) bs.length cb, .int .i64 (p : Int)] w fun e w' => Hid (ScEnds (scan (bs.drop p)) p e) ∧ Hid (Below w.heap.size w w') := by
  have this := And.intro hl hcap
  clear this
  have HS := scan_str_at hp H
  replace HS := Lib.hid HS
  obtain ⟨i0, hi, hz0, hz1, hz2⟩ := info_parts info_u8
  obtain ⟨c, hc⟩ : ∃ c, bs[p] = c := ⟨_, rfl⟩
  rw [hc] at H
  have hA : ∀ a, some (⟨b, off, none⟩ : Addr) = some a → a.block < w.heap.size := by rintro a ⟨rfl⟩; exact hblt
  go_enter Tryd.func44, Tryd.ntmps44
  go_upto_region 2 with fail
  generalize hW : (w.alloc _).alloc _ = W
  have S0 := Lib.hid (St.start hb.out hW)
  clear hW
  have hck := S0.out.rb.cells hp
  rw [hc] at hck
  have HC := Lib.hid hc
  have d40 : ((c.toNat : Int) == 40) = false := by rw [beq_eq_false_iff_ne]; omega
  have d41 : ((c.toNat : Int) == 41) = false := by rw [beq_eq_false_iff_ne]; omega
  have d35 : ((c.toNat : Int) == 35) = false := by rw [beq_eq_false_iff_ne]; omega
  have d34 : ((c.toNat : Int) == 34) = true := by rw [H]; rfl
  have hd : isDigit c = false := digit_no (Or.inl (by omega))
  clear hc H
  have f0 := S0.out.tf 0
  have c0 := S0.out.t0
  go_upto_region 41 with (first | (go_at_call 61; refine (digit_any _ _).mono ?_; rintro e w' ⟨rfl, rfl⟩) | (go_at_call 62; refine (inner_any _ _).mono ?_; rintro e w' ⟨rfl, rfl⟩) | (go_at_call 63; refine (hex_any _ _).mono ?_; rintro e w' ⟨rfl, rfl⟩) | (go_at_call 64; refine (plain_any _ _).mono ?_; rintro e w' ⟨rfl, rfl⟩))
  clear f0 c0 hck d40 d41 d35 d34 hd
  generalize hW : World.setCell _ _ _ = W1
  have S1 := Lib.hid (S0.out.kind hA 9 hW)
  clear hW
  clear S0
  have HOWN : Hid ((W1.alloc (.cells #[] 5)).ownsRow (w.heap.size + 2) 5 1 (.slice (some ⟨W1.heap.size, 0, none⟩) 0 0) 0 (Lib.byteCells [])) :=
    Lib.hid (World.ownsRow_made W1 (base := w.heap.size + 2) (e := 5) (size := 1) #[] 0 (by have := S1.out.tok.lt; omega) (by unfold maxLen; omega) rfl)
  have SA := Lib.hid (S1.out.alloc (.cells #[] 5))
  clear S1
  go_wp2_with fail
  go_loopw [9, 11] (fun ev tv wr => ∃ (k L : Nat) (acc : List UInt8) (A3 : Option Addr) (c3 : Nat), p + 1 ≤ k ∧ k ≤ bs.length ∧ ev = .int .i64 (k : Int) ∧ tv = .slice A3 L c3 ∧ L ≤ k ∧ (L = 0 → ∃ g, A3 = some ⟨g, 0, none⟩) ∧ Hid (scan (bs.drop p) = strL (bs.drop k) (k - p) acc.reverse) ∧ Hid (wr.ownsRow (w.heap.size + 2) 5 1 (.slice A3 L c3) L (Lib.byteCells acc)) ∧ Hid (St w wr (some ⟨b, off, none⟩) bs 9 [] p)) (fun ev _ _ => bs.length - (intOf ev).toNat)
  case atStart => exact ⟨p + 1, 0, [], _, _, Nat.le_refl _, by omega, by go_num, rfl, by omega, fun _ => ⟨_, rfl⟩, Lib.hid (by rw [HS.out, show p + 1 - p = 1 by omega]; rfl), HOWN, SA⟩
  case round =>
    obtain ⟨k, L, acc, A3, c3, hk1, hk2, rfl, rfl, hLk, h0, HQ, hown, S1⟩ := hrel
    have HT : Hid (w.heap.size + 2 ≤ wr.heap.size) := Lib.hid (by have := S1.out.tok.lt; omega)
    have HM : Hid (L + 1 ≤ maxLen ∧ (L + 1) * 1 ≤ 140737488355328) := by constructor <;> (try unfold maxLen) <;> omega
    by_cases hlt : k < bs.length
    · have hcc := S1.out.rb.cells hlt
      obtain ⟨d, hd⟩ : ∃ d, bs[k] = d := ⟨_, rfl⟩
      cases hpl : isPlain d
      · have HS2 := Lib.hid (HQ.out.trans (str_stop hlt (by rw [hd]; exact hpl)))
        rw [hd] at hcc
        clear hd
        go_upto_region 50 with (first | (go_at_call 61; refine (digit_any _ _).mono ?_; rintro e w' ⟨rfl, rfl⟩) | (go_at_call 62; refine (inner_any _ _).mono ?_; rintro e w' ⟨rfl, rfl⟩) | (go_at_call 63; refine (hex_any _ _).mono ?_; rintro e w' ⟨rfl, rfl⟩) | (go_at_call 64; refine (plain_any _ _).mono ?_; rintro e w' ⟨rfl, rfl⟩))
        have t0 := S1.out.t0
        have t1 := S1.out.t1
        have t2 := S1.out.t2
        have r0 := S1.out.r0
        have r1 := S1.out.r1
        have r2 := S1.out.r2
        have rf := S1.out.rf
        go_wp2_with fail
        clear t0 t1 t2 r0 r1 r2 rf
        generalize hW : World.setCell _ _ _ = W9
        obtain ⟨e0, e1, e2, HB⟩ := S1.out.fin hW
        clear hW
        (try simp only [Exit.inBlock, Exit.then])
        refine bodyPost_ret (v := .tuple #[Tv 9 [] p, .int .i64 0, .int .i64 (k : Int)]) (by simp [results, Tv, Tryd.results44, go_sem, e0, e1, e2]) rfl ⟨Lib.hid ?_, HB⟩
        rw [HS2.out]; exact bad_ret (by omega)
      · cases d34 : ((d.toNat : Int) == 34)
        · have HS2 : Hid (scan (bs.drop p) = strL (bs.drop (k + 1)) (k + 1 - p) (acc ++ [d]).reverse) := Lib.hid (by
            rw [HQ.out, str_char hlt (by rw [hd]; exact hpl) (by rw [hd]; rw [beq_eq_false_iff_ne] at d34; omega), hd, List.reverse_append, show k - p + 1 = k + 1 - p by omega]; rfl)
          rw [hd] at hcc
          clear hd
          go_upto_region 48 with (first | (go_at_call 61; refine (digit_any _ _).mono ?_; rintro e w' ⟨rfl, rfl⟩) | (go_at_call 62; refine (inner_any _ _).mono ?_; rintro e w' ⟨rfl, rfl⟩) | (go_at_call 63; refine (hex_any _ _).mono ?_; rintro e w' ⟨rfl, rfl⟩) | (go_at_call 64; refine (plain_any _ _).mono ?_; rintro e w' ⟨rfl, rfl⟩))
          go_wp2_with (at_builtin; refine wpList_append_own _ rfl _ _ 44 rfl (w.heap.size + 2) 5 i0 (.int .u8 0) 1 1 Tryd.underlying44 hi hz0 hz1 hz2 rfl (by decide) _ _ _ rfl (hown.out.alloc _) ⟨wr.heap.size, 0, none⟩ 1 1 [byV d] rfl rfl (one_cell _ _ _) (one_one _ _) HM.out.1 HM.out.2 (by have := HT.out; simp at this ⊢; try omega) ?_)
          intro v' w3 hown' hgrow _
          obtain ⟨A4, c4, rfl, hc4⟩ := own_row hown'
          have S3 := Lib.hid ((S1.out.alloc (.cells #[byV d] 5)).grown hb.out hgrow (fun g hg => (hown.out.lt g hg).1))
          have HO3 : Hid (w3.ownsRow (w.heap.size + 2) 5 1 (.slice A4 (L + 1) c4) (L + 1) (Lib.byteCells (acc ++ [d]))) := by
            rw [← byteCells_append]
            exact hown'
          clear hgrow hown'
          go_wp2_with fail
          go_roundw
          case rel => exact ⟨k + 1, L + 1, acc ++ [d], A4, c4, by omega, by omega, by go_num, rfl, by omega, fun h => by omega, HS2, HO3, S3⟩
          case measure => simp [intOf]; omega
        · have h34 : d.toNat = 34 := by rw [beq_iff_eq] at d34; omega
          by_cases hlt2 : k + 1 < bs.length
          · have hcc2 := S1.out.rb.cells hlt2
            obtain ⟨d2, hd2⟩ : ∃ d2, bs[k + 1] = d2 := ⟨_, rfl⟩
            have g0 : ((k : Int) + 1 == (bs.length : Int)) = false := by rw [beq_eq_false_iff_ne]; omega
            cases e34 : ((d2.toNat : Int) != 34)
            · have h342 : d2.toNat = 34 := by simp at e34; omega
              have HS2 : Hid (scan (bs.drop p) = strL (bs.drop (k + 2)) (k + 2 - p) (acc ++ [d2]).reverse) := Lib.hid (by
                rw [HQ.out, str_two hlt (by rw [hd]; exact hpl) (by rw [hd]; exact h34) hlt2 (by rw [hd2]; exact h342), hd2, List.reverse_append, show k - p + 2 = k + 2 - p by omega]; rfl)
              rw [hd] at hcc
              rw [hd2] at hcc2
              clear hd hd2 h34 h342
              go_upto_region 48 with (first | (go_at_call 61; refine (digit_any _ _).mono ?_; rintro e w' ⟨rfl, rfl⟩) | (go_at_call 62; refine (inner_any _ _).mono ?_; rintro e w' ⟨rfl, rfl⟩) | (go_at_call 63; refine (hex_any _ _).mono ?_; rintro e w' ⟨rfl, rfl⟩) | (go_at_call 64; refine (plain_any _ _).mono ?_; rintro e w' ⟨rfl, rfl⟩))
              go_wp2_with (at_builtin; refine wpList_append_own _ rfl _ _ 44 rfl (w.heap.size + 2) 5 i0 (.int .u8 0) 1 1 Tryd.underlying44 hi hz0 hz1 hz2 rfl (by decide) _ _ _ rfl (hown.out.alloc _) ⟨wr.heap.size, 0, none⟩ 1 1 [byV d2] rfl rfl (one_cell _ _ _) (one_one _ _) HM.out.1 HM.out.2 (by have := HT.out; simp at this ⊢; try omega) ?_)
              intro v' w3 hown' hgrow _
              obtain ⟨A4, c4, rfl, hc4⟩ := own_row hown'
              have S3 := Lib.hid ((S1.out.alloc (.cells #[byV d2] 5)).grown hb.out hgrow (fun g hg => (hown.out.lt g hg).1))
              have HO3 : Hid (w3.ownsRow (w.heap.size + 2) 5 1 (.slice A4 (L + 1) c4) (L + 1) (Lib.byteCells (acc ++ [d2]))) := by
                rw [← byteCells_append]
                exact hown'
              clear hgrow hown'
              go_wp2_with fail
              go_roundw
              case rel => exact ⟨k + 2, L + 1, acc ++ [d2], A4, c4, by omega, by omega, by go_num, rfl, by omega, fun h => by omega, HS2, HO3, S3⟩
              case measure => simp [intOf]; omega
            · have HS2 := Lib.hid (HQ.out.trans (str_shut hlt (by rw [hd]; exact hpl) (by rw [hd]; exact h34) hlt2 (by rw [hd2]; simp at e34; omega)))
              rw [hd] at hcc
              rw [hd2] at hcc2
              clear hd hd2 h34
              have hcv := own_conv hown.out h0
              have f1 := S1.out.tf 1
              have c1 := S1.out.t1
              go_upto_region 46 with (first | (go_at_call 61; refine (digit_any _ _).mono ?_; rintro e w' ⟨rfl, rfl⟩) | (go_at_call 62; refine (inner_any _ _).mono ?_; rintro e w' ⟨rfl, rfl⟩) | (go_at_call 63; refine (hex_any _ _).mono ?_; rintro e w' ⟨rfl, rfl⟩) | (go_at_call 64; refine (plain_any _ _).mono ?_; rintro e w' ⟨rfl, rfl⟩))
              clear f1 c1 hcv
              generalize hW : World.setCell _ _ _ = W2
              have S2 := Lib.hid (S1.out.text hA acc hW)
              clear hW
              have t0 := S2.out.t0
              have t1 := S2.out.t1
              have t2 := S2.out.t2
              have r0 := S2.out.r0
              have r1 := S2.out.r1
              have r2 := S2.out.r2
              have rf := S2.out.rf
              go_wp2_with fail
              clear t0 t1 t2 r0 r1 r2 rf
              generalize hW : World.setCell _ _ _ = W9
              obtain ⟨e0, e1, e2, HB⟩ := S2.out.fin hW
              clear hW
              (try simp only [Exit.inBlock, Exit.then])
              refine bodyPost_ret (v := .tuple #[Tv 9 acc p, .int .i64 ((k : Int) + 1), .int .i64 (-1)]) (by simp [results, Tv, Tryd.results44, go_sem, e0, e1, e2]) rfl ⟨Lib.hid ?_, HB⟩
              rw [HS2.out, List.reverse_reverse]; exact tok_ret rfl (by omega)
          · have g0 : ((k : Int) + 1 == (bs.length : Int)) = true := by rw [beq_iff_eq]; omega
            have HS2 := Lib.hid (HQ.out.trans (str_last hlt (by rw [hd]; exact hpl) (by rw [hd]; exact h34) (by omega)))
            rw [hd] at hcc
            clear hd h34
            have hcv := own_conv hown.out h0
            have f1 := S1.out.tf 1
            have c1 := S1.out.t1
            go_upto_region 46 with (first | (go_at_call 61; refine (digit_any _ _).mono ?_; rintro e w' ⟨rfl, rfl⟩) | (go_at_call 62; refine (inner_any _ _).mono ?_; rintro e w' ⟨rfl, rfl⟩) | (go_at_call 63; refine (hex_any _ _).mono ?_; rintro e w' ⟨rfl, rfl⟩) | (go_at_call 64; refine (plain_any _ _).mono ?_; rintro e w' ⟨rfl, rfl⟩))
            clear f1 c1 hcv
            generalize hW : World.setCell _ _ _ = W2
            have S2 := Lib.hid (S1.out.text hA acc hW)
            clear hW
            have t0 := S2.out.t0
            have t1 := S2.out.t1
            have t2 := S2.out.t2
            have r0 := S2.out.r0
            have r1 := S2.out.r1
            have r2 := S2.out.r2
            have rf := S2.out.rf
            go_wp2_with fail
            clear t0 t1 t2 r0 r1 r2 rf
            generalize hW : World.setCell _ _ _ = W9
            obtain ⟨e0, e1, e2, HB⟩ := S2.out.fin hW
            clear hW
            (try simp only [Exit.inBlock, Exit.then])
            refine bodyPost_ret (v := .tuple #[Tv 9 acc p, .int .i64 ((k : Int) + 1), .int .i64 (-1)]) (by simp [results, Tv, Tryd.results44, go_sem, e0, e1, e2]) rfl ⟨Lib.hid ?_, HB⟩
            rw [HS2.out, List.reverse_reverse]; exact tok_ret rfl (by omega)
    · obtain rfl : k = bs.length := by omega
      have HS2 := Lib.hid (HQ.out.trans str_end)
      go_upto_region 50 with fail
      have t0 := S1.out.t0
      have t1 := S1.out.t1
      have t2 := S1.out.t2
      have r0 := S1.out.r0
      have r1 := S1.out.r1
      have r2 := S1.out.r2
      have rf := S1.out.rf
      go_wp2_with fail
      clear t0 t1 t2 r0 r1 r2 rf
      generalize hW : World.setCell _ _ _ = W9
      obtain ⟨e0, e1, e2, HB⟩ := S1.out.fin hW
      clear hW
      (try simp only [Exit.inBlock, Exit.then])
      refine bodyPost_ret (v := .tuple #[Tv 9 [] p, .int .i64 0, .int .i64 (bs.length : Int)]) (by simp [results, Tv, Tryd.results44, go_sem, e0, e1, e2]) rfl ⟨Lib.hid ?_, HB⟩
      rw [HS2.out]; exact bad_ret (by omega)
end Go.Proofs.YtmnllioeaaimcaaDoor.tk
