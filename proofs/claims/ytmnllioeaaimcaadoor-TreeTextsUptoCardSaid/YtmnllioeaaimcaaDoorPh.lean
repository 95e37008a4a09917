/- Package token: strings. -/
import Derived.Deep.LoopGhost
import Derived.Test.YtmnllioeaaimcaaDoorPu
import Derived.Test.YtmnllioeaaimcaaDoorTn
namespace Go.Proofs.YtmnllioeaaimcaaDoor.tk
open Go.RowKit

theorem bld_lt {B b : Nat} {bs : List Value} {w : World} (h : Bld B b bs w) : b < w.heap.size := by
  rcases h with h | h <;> exact h.lt
/-- what a method that reads a token comes to, by what stands there -/
def TokIs (R : Nat) (A : Option Addr) (bs : List UInt8) (cb : Nat) (S : Sc) (p : Nat) (e : Ending) (w' : World) : Prop :=
  match S with
  | .tok k t n => e = .returned (Tv k t p) ∧ Rs w' R A bs cb (p + n)
  | .bad n => e = Pan (p + n)

theorem strL_run : ∀ (l : List UInt8) (m : Nat) (acc : List UInt8), strL l m acc = strL (l.dropWhile isQuo) (m + (l.takeWhile isQuo).length) ((l.takeWhile isQuo).reverse ++ acc)
  | [], m, acc => by simp
  | c :: r, m, acc => by
    cases h : isQuo c
    · rw [List.dropWhile_cons_of_neg (by simp [h]), List.takeWhile_cons_of_neg (by simp [h])]
      simp
    · rw [List.dropWhile_cons_of_pos h, List.takeWhile_cons_of_pos h]
      have h1 : isPlain c = true := by unfold isQuo at h; simp at h; exact h.1
      have h2 : c.toNat ≠ 34 := by unfold isQuo at h; simp at h; exact h.2
      have e : strL (c :: r) m acc = strL r (m + 1) (c :: acc) := by
        conv => lhs; unfold strL
        rw [if_pos h1, if_neg h2]
      rw [e, strL_run r (m + 1) (c :: acc)]
      simp only [List.length_cons, List.reverse_cons, List.append_assoc, List.singleton_append]
      rw [show m + 1 + (List.takeWhile isQuo r).length = m + ((List.takeWhile isQuo r).length + 1) by omega]
theorem runE_not {f : UInt8 → Bool} {bs : List UInt8} {i : Nat} (h : runE f bs i < bs.length) : f (bs[runE f bs i]'h) = false := by
  have hd := drop_run f bs i
  rw [drop_cons h] at hd
  have := List.head?_dropWhile_not f (bs.drop i)
  rw [hd] at this
  simp only [List.head?_cons] at this
  exact this
section
variable {bs : List UInt8} {p q Q : Nat} {a : List UInt8} {S : Sc}
theorem qstr_go (hS : strL (bs.drop (q + 1)) (q + 1 - p) a.reverse = S) (hQ : runE isQuo bs (q + 1) = Q) (hpq : p ≤ q) : strL (bs.drop Q) (Q - p) (a ++ cutL bs (q + 1) Q).reverse = S := by
  have hQ1 : q + 1 ≤ Q := hQ ▸ runE_ge
  rw [strL_run, drop_run, ← cut_run, hQ] at hS
  have hl : (cutL bs (q + 1) Q).length = Q - (q + 1) := by rw [← hQ, cut_run, run_len]
  rw [hl, show q + 1 - p + (Q - (q + 1)) = Q - p by omega] at hS
  rw [List.reverse_append]
  exact hS
theorem here34 (h : hereB bs Q = 34) : ∃ h : Q < bs.length, bs[Q] = 34 := by
  unfold hereB at h
  split at h
  · rename_i hq; exact ⟨hq, h⟩
  · cases h
theorem qstr_bad (hS : strL (bs.drop Q) (Q - p) a.reverse = S) (hr : runE isQuo bs q = Q) (hle : Q ≤ bs.length) (h : hereB bs Q ≠ 34) : S = .bad (Q - p) := by
  rw [← hS]
  rcases Nat.lt_or_ge Q bs.length with hq | hq
  · have hn : isQuo bs[Q] = false := by
      subst hr
      exact runE_not hq
    rw [here_at hq] at h
    have h34 : bs[Q].toNat ≠ 34 := fun e => h (UInt8.toNat_inj.1 e)
    have hp : isPlain bs[Q] = false := by
      unfold isQuo at hn
      simpa [h34] using hn
    exact str_stop hq hp
  · rw [show Q = bs.length by omega]
    exact str_end
theorem plain34 : isPlain 34 = true := by decide
theorem qstr_end (hS : strL (bs.drop Q) (Q - p) a.reverse = S) (h : hereB bs Q = 34) (h2 : hereB bs (Q + 1) ≠ 34) : S = .tok 9 a (Q - p + 1) := by
  obtain ⟨hq, e⟩ := here34 h
  have hp : isPlain bs[Q] = true := by rw [e]; exact plain34
  have h34 : bs[Q].toNat = 34 := by rw [e]; rfl
  rw [← hS]
  rcases Nat.lt_or_ge (Q + 1) bs.length with hq2 | hq2
  · rw [here_at hq2] at h2
    rw [str_shut hq hp h34 hq2 (fun e => h2 (UInt8.toNat_inj.1 e)), List.reverse_reverse]
  · rw [str_last hq hp h34 (by omega), List.reverse_reverse]
theorem qstr_two (hS : strL (bs.drop Q) (Q - p) a.reverse = S) (hpq : p ≤ Q) (h : hereB bs Q = 34) (h2 : hereB bs (Q + 1) = 34) : strL (bs.drop (Q + 1 + 1)) (Q + 1 + 1 - p) (a ++ [34]).reverse = S := by
  obtain ⟨hq, e⟩ := here34 h
  obtain ⟨hq2, e2⟩ := here34 h2
  have hp : isPlain bs[Q] = true := by rw [e]; exact plain34
  have h34 : bs[Q].toNat = 34 := by rw [e]; rfl
  have h342 : bs[Q + 1].toNat = 34 := by rw [e2]; rfl
  rw [← hS, drop_cons hq, drop_cons hq2]
  conv => rhs; unfold strL
  rw [if_pos hp, if_pos h34]
  simp only [h342, if_true]
  rw [show Q + 1 + 1 - p = Q - p + 2 by omega]
  simp
end

set_option maxRecDepth 100000 in
set_option maxHeartbeats 2000000 in
theorem tquo {w : World} {R : Nat} {A : Option Addr} {bs : List UInt8} {cb p : Nat} (H : Hid (Rs w R A bs cb p)) (hl : bs.length ≤ 100000000) (hcap : bs.length ≤ cb) (hp : p < bs.length) :
    Calls Tryd.prog 53 #[.pointer (some ⟨R, 0, none⟩)] w fun e w' => Hid (TokIs R A bs cb (strL (bs.drop (p + 1)) 1 []) p e w') ∧ Hid (But R w w') := by
  have this := And.intro hp (And.intro hl hcap)
  clear this
  have hA := H.out.lts (by omega)
  obtain ⟨S, hS⟩ : ∃ S, strL (bs.drop (p + 1)) 1 [] = S := ⟨_, rfl⟩
  rw [hS]
  have HS : Hid (strL (bs.drop (p + 1)) (p + 1 - p) ([] : List UInt8).reverse = S) := Lib.hid (by rw [show p + 1 - p = 1 by omega]; exact hS)
  clear hS
  go_enter Tryd.func53, Tryd.ntmps53
  go_upto_region 1 with fail
  generalize hW : w.alloc _ = W0
  have S0 := Lib.hid (P0.start H.out hW)
  clear hW
  have c1 := S0.out.rs.c1
  have sz := S0.out.sz
  go_upto_region 2 with fail
  generalize hW : W0.alloc _ = W1
  have S1 := Lib.hid (Pt.start S0.out 9 [] hW)
  have sz1 : W1.heap.size = w.heap.size + 2 := by rw [← hW]; simp [sz]
  clear hW c1 sz
  go_wp2_with fail
  generalize hW : W1.alloc _ = W2
  have HD0 : Hid (Bld (w.heap.size + 2) (w.heap.size + 2) (Lib.byteCells []) W2) := Lib.hid (by
    have := Lib.fresh_isBuilder 54 5 W1
    rw [sz1] at this
    rw [← hW]
    exact this)
  have S2 := Lib.hid (S1.out.over hA (hW ▸ (Below.refl _ _).alloc (by omega) _))
  clear hW sz1
  go_loopw [] (fun wr => ∃ (q : Nat) (a : List UInt8), p ≤ q ∧ q < bs.length ∧ a.length ≤ q ∧ Hid (Pt w wr R A bs cb q 9 [] p) ∧ Hid (Bld (w.heap.size + 2) (w.heap.size + 2) (Lib.byteCells a) wr) ∧ Hid (strL (bs.drop (q + 1)) (q + 1 - p) a.reverse = S)) (fun wr => bs.length - plc wr R)
  case atStart => exact ⟨p, [], Nat.le_refl _, hp, Nat.zero_le _, S2, HD0, HS⟩
  case round =>
    clear HS HD0 S2 S1 S0 H
    obtain ⟨q, a, hpq, hq, ha, S3, HD, HK⟩ := hrel
    have hR := S3.out.lt
    obtain ⟨Q, hQ⟩ : ∃ Q, runE isQuo bs (q + 1) = Q := ⟨_, rfl⟩
    have hQ1 : q + 1 ≤ Q := hQ ▸ runE_ge
    have hQ2 : Q ≤ bs.length := hQ ▸ runE_le (by omega)
    have HQ := Lib.hid hQ
    clear hQ
    have HG := Lib.hid (qstr_go HK.out HQ.out hpq)
    have c1 := S3.out.rs.c1
    have f1 := S3.out.rs.f1
    go_upto_region 4 with fail
    clear c1 f1
    generalize hW : World.setCell _ _ _ = W_S4
    have S4 := Lib.hid (S3.out.go (q + 1) hW)
    have HD1 : Hid (Bld (w.heap.size + 2) (w.heap.size + 2) (Lib.byteCells a) W_S4) := Lib.hid (hW ▸ bld_far HD.out (p := ⟨R, 1, none⟩) (by show R < _; omega) _)
    clear hW HD HK
    have P := run_any (Lib.hid isT_quo) (Lib.hid S4.out.rs) hl hcap (by omega) (by omega)
    rw [HQ.out] at P
    have P := Lib.hid P
    have hcl : (cutL bs (q + 1) Q).length = Q - (q + 1) := cut_len hQ2
    generalize cutL bs (q + 1) Q = T at *
    go_upto_region 5 with (first | (go_at_call 72; refine P.out.mono ?_; rintro e w1 ⟨rfl, H1, B1⟩; have S5 := Lib.hid (S4.out.call H1.out B1.out); have HD2 := Lib.hid (bld_but HD1.out B1.out (by omega))) | (go_at_call 22; refine (writeString_any (w.heap.size + 2) (w.heap.size + 2) (Lib.byteCells a) ⟨T.toArray⟩ w1 HD2.out (by rw [byteCells_len]; omega) (by show T.toArray.size ≤ _; rw [List.size_toArray]; omega) (by have := bld_lt HD2.out; omega)).mono ?_; rintro e w2 ⟨rfl, HD3, B2⟩))
    rw [strCells_mk, byteCells_append] at HD3
    have S6 := Lib.hid (S5.out.over hA B2.out)
    by_cases h34 : hereB bs Q = 34
    · obtain ⟨hql, _⟩ := here34 h34
      have P2 := Lib.hid (pass_ok (c := 34) (Lib.hid S6.out.rs) hl hcap hQ2 h34)
      go_upto_region 6 with (go_at_call 74; refine P2.out.mono ?_; rintro e w3 ⟨rfl, H3, B3⟩)
      have S7 := Lib.hid (S6.out.call H3.out B3.out)
      have HD4 := Lib.hid (bld_but HD3.out B3.out (by omega))
      have P3 := here_any (Lib.hid S7.out.rs) hl hcap
      by_cases h2 : hereB bs (Q + 1) = 34
      · have HK2 := Lib.hid (qstr_two HG.out (by omega) h34 h2)
        obtain ⟨hql2, _⟩ := here34 h2
        rw [h2] at P3
        have P3 := Lib.hid P3
        clear h34 h2
        go_wp2_with (first | (go_at_call 47; refine P3.out.mono ?_; rintro e w4 ⟨rfl, n, rfl⟩; have S8 := Lib.hid (S7.out.drewN n)) | (go_at_call 21; refine (writeByte_any (w.heap.size + 2) (w.heap.size + 2) (Lib.byteCells (a ++ T)) 34 _ (bld_but HD4.out ((But.refl R w3).drewN n) (by omega)) (by rw [byteCells_len, List.length_append]; omega) (by have := bld_lt HD4.out; simp; omega)).mono ?_; rintro e w5 ⟨rfl, HD5, B5⟩))
        have S9 := Lib.hid (S8.out.over hA B5.out)
        have HD6 : Hid (Bld (w.heap.size + 2) (w.heap.size + 2) (Lib.byteCells (a ++ T ++ [34])) w5) := Lib.hid (by
          rw [← byteCells_append (a ++ T) [34]]
          exact HD5.out)
        go_roundw
        case rel => exact ⟨Q + 1, a ++ T ++ [34], by omega, hql2, by simp only [List.length_append, List.length_singleton]; omega, S9, HD6, HK2⟩
        case measure => rw [S3.out.rs.plc, S9.out.rs.plc]; omega
      · have HK2 := qstr_end HG.out h34 h2
        obtain ⟨d, hd⟩ : ∃ d, hereB bs (Q + 1) = d := ⟨_, rfl⟩
        rw [hd] at P3 h2
        have g2 : (((d.toNat : Int) != 34) : Bool) = true := by
          rw [bne_iff_ne]
          intro e
          exact h2 (UInt8.toNat_inj.1 (show d.toNat = 34 by omega))
        have P3 := Lib.hid P3
        have HK2 := Lib.hid HK2
        clear h34 h2 hd
        go_upto_region 8 with (first | (go_at_call 47; refine P3.out.mono ?_; rintro e w4 ⟨rfl, n, rfl⟩; have S8 := Lib.hid (S7.out.drewN n)) | (go_at_call 23; refine (Tryd.Builder_String_any (w.heap.size + 2) (w.heap.size + 2) (a ++ T) _ (bld_but HD4.out ((But.refl R w3).drewN n) (by omega)) (by have := bld_lt HD4.out; simp; omega)).mono ?_; rintro e w5 ⟨rfl, hB5⟩; have S9 := Lib.hid (S8.out.over hA hB5); have t1 := S9.out.t1; have tf := S9.out.tf))
        clear t1 tf g2
        generalize hW : World.setCell _ _ _ = W_T
        have S10 := Lib.hid (S9.out.text hA (a ++ T) hW)
        clear hW
        have t0 := S10.out.t0
        have t1 := S10.out.t1
        have t2 := S10.out.t2
        have r0 := S10.out.r0
        have r1 := S10.out.r1
        have r2 := S10.out.r2
        have rf := S10.out.rf
        go_wp2_with fail
        clear t0 t1 t2 r0 r1 r2 rf
        generalize hW : World.setCell _ _ _ = W9
        obtain ⟨e0, e1, e2, HR, HB⟩ := S10.out.fin hA hW
        clear hW
        (try simp only [Exit.inBlock, Exit.then])
        refine bodyPost_ret (v := Tv 9 (a ++ T) p) (by simp [results, Tv, Tryd.results53, go_sem, e0, e1, e2]) rfl ⟨Lib.hid ?_, HB⟩
        rw [HK2.out]
        exact ⟨rfl, by rw [show p + (Q - p + 1) = Q + 1 by omega]; exact HR.out⟩
    · have HK2 := qstr_bad HG.out HQ.out hQ2 h34
      have P2 := Lib.hid (pass_no (c := 34) (Lib.hid S6.out.rs) hl hcap h34)
      clear h34
      go_wp2_with (go_at_call 74; refine P2.out.mono ?_; rintro e w3 ⟨rfl, B3⟩)
      refine ⟨rfl, Lib.hid ?_, S6.out.but.trans B3.out⟩
      rw [HK2]
      show _ = Pan _
      rw [show p + (Q - p) = Q by omega]
end Go.Proofs.YtmnllioeaaimcaaDoor.tk
