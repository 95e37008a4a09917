/- The document's answer Text. -/
import Derived.Test.YtpikbhcjgcbdfaaDoorRfB
import Derived.Test.YtpikbhcjgcbdfaaDoorWhD
namespace Go.Proofs.YtpikbhcjgcbdfaaDoor.wh
open Go.RowKit

/-- a decimal digit as a byte -/
def db (d : Nat) : UInt8 := UInt8.ofNat (48 + d)
theorem db_nat {d : Nat} (h : d < 10) : ((db d).toNat : Int) = 48 + (d : Int) := by
  unfold db
  rw [UInt8.toNat_ofNat']
  omega
def textD (neg : Bool) (ds : List Nat) (j : Nat) : List UInt8 := (if neg then [45] else []) ++ (ds.drop j).reverse.map db
theorem textD_step {neg : Bool} {ds : List Nat} {j : Nat} (h : j < ds.length) : textD neg ds j = textD neg ds (j + 1) ++ [db ds[j]] := by
  unfold textD
  rw [List.drop_eq_getElem_cons h, List.reverse_cons, List.map_append, List.append_assoc]
  rfl
theorem bytes_own {w : World} {base e n c : Nat} {A : Option Addr} {l : List UInt8} (h : w.ownsRow base e 1 (.slice A n c) n (Lib.byteCells l)) (hn : 0 < n) : ∃ g, A = some ⟨g, 0, none⟩ ∧ l.length = n ∧ ∀ j (hj : j < l.length), w.cell? ((⟨g, 0, none⟩ : Addr).add j) = some (.int .u8 (l[j].toNat : Int)) := by
  have hl : l.length = n := by have := h.1; rw [byteCells_len] at this; omega
  obtain ⟨g, cap, hv, _, hlt⟩ := h.form (by omega)
  have hA : A = some ⟨g, 0, none⟩ := by injection hv
  subst hA
  exact ⟨g, rfl, hl, fun j hj => h.cells (g := g) rfl j _ (by simp [Lib.byteCells, hj])⟩

theorem one_cell_at {W : World} {k : Nat} (h : W.heap.size = k) (t : TypeId) (u : Value) : ∀ j x, [u][j]? = some x → (W.alloc (.cells #[u] t)).cell? ((⟨k, 0, none⟩ : Addr).add j) = some x := by
  subst h
  exact one_cell W t u

set_option maxRecDepth 100000 in
set_option maxHeartbeats 2000000 in
theorem refText_any {v : Value} {m : Nat} {z : Int} {w : World} (hm : m ≤ 1000) (hv : IsNum w w.heap.size m v z) :
    Calls Tryd.prog 29 #[v] w fun e w' => ∃ neg ds, e = .returned (.string ⟨(if ds.length = 0 then [48] else textD neg ds 0).toArray⟩) ∧ Hid (tz neg ds = z) ∧ Hid (Ten ds) ∧ Hid (Top ds) ∧ Hid (neg = true → 0 < tval ds) ∧ Hid (Below w.heap.size w w') := by
  obtain ⟨i0, hi, hz0, hz1, hz2⟩ := info_parts info_u8
  obtain ⟨neg, A, n, c, ds, rfl, hnm, TX, ZX, PX⟩ := hv.tens
  clear hv
  have HB : Hid (Below w.heap.size w ((w.alloc (.cells #[.bool neg, .slice A n c] 29)).alloc (.cells #[] 5))) := ((Below.refl _ _).alloc (Nat.le_refl _) _).alloc (by simp) _
  have HN : Hid (BoxN ((w.alloc (.cells #[.bool neg, .slice A n c] 29)).alloc (.cells #[] 5)) w.heap.size neg A n c) := (BoxN.new _ _ _ _ _).alloc _
  have HOWN : Hid (((w.alloc (.cells #[.bool neg, .slice A n c] 29)).alloc (.cells #[] 5)).ownsRow (w.heap.size + 1) 5 1 (.slice (some ⟨w.heap.size + 1, 0, none⟩) 0 0) 0 (Lib.byteCells [])) := by
    have h := World.ownsRow_made (w.alloc (.cells #[.bool neg, .slice A n c] 29)) (base := w.heap.size + 1) (e := 5) (size := 1) #[] 0 (by simp) (by unfold maxLen; omega) rfl
    rwa [World.size_alloc] at h
  have wn : IntKind.i64.wrap ((n : Int) - 1) = (n : Int) - 1 := IntWalk.i64_in _ (by omega)
  cases neg with
  | false =>
    have HO0 : Hid (((w.alloc (.cells #[.bool false, .slice A n c] 29)).alloc (.cells #[] 5)).ownsRow (w.heap.size + 1) 5 1 (.slice (some ⟨w.heap.size + 1, 0, none⟩) 0 0) 0 (Lib.byteCells (textD false ds n))) := by
      have e : textD false ds n = [] := by unfold textD; rw [List.drop_eq_nil_of_le (by rw [TX.out.len]; exact Nat.le_refl _)]; rfl
      rw [e]
      exact HOWN
    go_enter Tryd.func29, Tryd.ntmps29
    have N0 := HN.out.c0
    have N1 := HN.out.c1
    go_wp2
    go_loopw [3, 4] (fun dv iv wr => (∃ (j L : Nat) (z1 : Int) (A3 : Option Addr) (c3 : Nat), j ≤ n ∧ L ≤ 1001 ∧ iv = .int .i64 z1 ∧ Hid (z1 = (j : Int) - 1) ∧ dv = .slice A3 L c3 ∧ Hid (L = n - j + 0) ∧ Hid (wr.ownsRow (w.heap.size + 1) 5 1 (.slice A3 L c3) L (Lib.byteCells (textD false ds j)))) ∧ Hid (BoxN wr w.heap.size false A n c) ∧ Hid (Below w.heap.size w wr)) (fun _ iv _ => (intOf iv + 1).toNat)
    case atStart => exact ⟨⟨n, 0, _, _, _, Nat.le_refl _, by omega, rfl, rfl, rfl, by show _ = _; omega, HO0.out⟩, HN, HB⟩
    case round =>
      obtain ⟨⟨j, L, z1, A3, c3, hj, hL, rfl, hz, rfl, hLj, hown⟩, hn, hb⟩ := hrel
      have c0 := hn.out.c0
      have c1 := hn.out.c1
      cases j with
      | zero =>
        obtain rfl : z1 = -1 := by have := hz.out; omega
        by_cases hn0 : n = 0
        · have hn1 : ((n : Int) == 0) = true := by rw [beq_iff_eq]; omega
          have HL0 : Hid (ds.length = 0) := by show _ = _; rw [TX.out.len]; exact hn0
          go_wp2
          (try simp only [Exit.inBlock, Exit.then])
          go_ret
          exact ⟨false, ds, by rw [if_pos HL0.out]; rfl, ZX, TX.out.ten, TX.out.top, PX, hb⟩
        · have hn1 : ((n : Int) == 0) = false := by rw [beq_eq_false_iff_ne]; omega
          have HL0 : Hid (ds.length ≠ 0) := by show _ ≠ _; rw [TX.out.len]; exact hn0
          obtain ⟨g, rfl, hlen, hcells⟩ := bytes_own hown.out (by have := hLj.out; omega)
          have hcv := run_convert_bytes_back (P := Tryd.prog) wr 97 9 5 ⟨g, 0, none⟩ c3 (textD false ds 0) Tryd.underlying97 Tryd.underlying5 Tryd.underlying9 hcells
          rw [hlen] at hcv
          clear hcells hlen
          go_wp2
          (try simp only [Exit.inBlock, Exit.then])
          go_ret
          exact ⟨false, ds, by rw [if_neg HL0.out]; rfl, ZX, TX.out.ten, TX.out.top, PX, hb⟩
      | succ j =>
        obtain rfl : z1 = (j : Int) := by have := hz.out; omega
        have hjl : j < ds.length := by rw [TX.out.len]; omega
        obtain ⟨b1, o1, rfl, _, cd⟩ := (TX.out.over hb.out).rd.at_ hjl
        obtain ⟨x, hxx⟩ : ∃ x, x = ds[j] := ⟨_, rfl⟩
        rw [← hxx] at cd
        have hx9 : x < 10 := by rw [hxx]; exact TX.out.ten.get _ _
        have HST : Hid (Lib.byteCells (textD false ds j) = Lib.byteCells (textD false ds (j + 1)) ++ [.int .u8 (48 + (x : Int))]) := by
          show _ = _
          rw [textD_step hjl, ← byteCells_append, ← hxx]
          simp [Lib.byteCells, db_nat hx9]
        have kb : (j : Int) < (n : Int) := by omega
        have k0 : (0 : Int) ≤ (j : Int) := by omega
        have u8 : IntKind.u8.wrap (48 + (x : Int)) = 48 + (x : Int) := by simp [IntKind.wrap, IntKind.bits, IntKind.signed]; omega
        have HM : Hid (L + 1 ≤ maxLen ∧ (L + 1) * 1 ≤ 140737488355328) := by constructor <;> (try unfold maxLen) <;> omega
        have HLJ : Hid (L + 1 = n - j + 0) := by have := hLj.out; show _ = _; omega
        have hL2 : L + 1 ≤ 1001 := by have := HLJ.out; omega
        clear hxx
        go_wp2_with (at_builtin; refine wpList_append_own _ rfl _ _ 97 rfl (w.heap.size + 1) 5 i0 (.int .u8 0) 1 1 Tryd.underlying97 hi hz0 hz1 hz2 rfl (by decide) _ _ _ rfl (hown.out.alloc _) ⟨wr.heap.size, 0, none⟩ 1 1 [.int .u8 (48 + (x : Int))] rfl rfl (one_cell _ _ _) (one_one _ _) HM.out.1 HM.out.2 (by have := hn.out.lt; simp at this ⊢; try omega) ?_)
        intro v' w3 hown' hgrow _
        obtain ⟨A4, c4, rfl, hc4⟩ := own_row hown'
        have HN3 : Hid (BoxN w3 w.heap.size false (some ⟨b1, o1, none⟩) n c) := (hn.out.alloc _).grown hgrow (fun e => by have := (hown.out.lt _ e.symm).1; omega)
        have HB3 : Hid (Below w.heap.size w w3) := (hb.out.alloc hb.out.size _).grown hgrow (by have := hb.out.size; simp; omega) (fun g hg => by have := (hown.out.lt g hg).1; omega)
        have HO3 : Hid (w3.ownsRow (w.heap.size + 1) 5 1 (.slice A4 (L + 1) c4) (L + 1) (Lib.byteCells (textD false ds j))) := by
          show World.ownsRow _ _ _ _ _ _ _
          rw [HST.out]
          exact hown'
        clear hgrow hown'
        go_wp2
        go_roundw
        case rel => exact ⟨⟨j, L + 1, _, A4, c4, by omega, hL2, rfl, rfl, rfl, HLJ, HO3⟩, HN3, HB3⟩
        case measure => simp [intOf]
  | true =>
    have HSZ2 : Hid (((w.alloc (.cells #[.bool true, .slice A n c] 29)).alloc (.cells #[] 5)).heap.size = w.heap.size + 1 + 1) := by show _ = _; rw [World.size_alloc, World.size_alloc]
    go_enter Tryd.func29, Tryd.ntmps29
    have N0 := HN.out.c0
    have N1 := HN.out.c1
    go_wp2_with (at_builtin; refine wpList_append_own _ rfl _ _ 97 rfl (w.heap.size + 1) 5 i0 (.int .u8 0) 1 1 Tryd.underlying97 hi hz0 hz1 hz2 rfl (by decide) _ _ _ rfl (HOWN.out.alloc _) ⟨w.heap.size + 1 + 1, 0, none⟩ 1 1 [.int .u8 45] rfl rfl (one_cell_at HSZ2.out _ _) (one_one _ _) (by unfold maxLen; omega) (by omega) (by simp) ?_)
    intro v' w3 hown' hgrow _
    obtain ⟨A4, c4, rfl, hc4⟩ := own_row hown'
    have HN3 : Hid (BoxN w3 w.heap.size true A n c) := (HN.out.alloc _).grown hgrow (fun e => by have := (HOWN.out.lt _ e.symm).1; omega)
    have HB3 : Hid (Below w.heap.size w w3) := (HB.out.alloc HB.out.size _).grown hgrow (by simp; omega) (fun g hg => by have := (HOWN.out.lt g hg).1; omega)
    have HO1 : Hid (w3.ownsRow (w.heap.size + 1) 5 1 (.slice A4 1 c4) 1 (Lib.byteCells (textD true ds n))) := by
      have e : textD true ds n = [45] := by unfold textD; rw [List.drop_eq_nil_of_le (by rw [TX.out.len]; exact Nat.le_refl _)]; rfl
      rw [e]
      exact hown'
    have M0 := HN3.out.c0
    have M1 := HN3.out.c1
    clear hgrow hown' N0 N1
    go_wp2
    go_loopw [3, 4] (fun dv iv wr => (∃ (j L : Nat) (z1 : Int) (A3 : Option Addr) (c3 : Nat), j ≤ n ∧ L ≤ 1001 ∧ iv = .int .i64 z1 ∧ Hid (z1 = (j : Int) - 1) ∧ dv = .slice A3 L c3 ∧ Hid (L = n - j + 1) ∧ Hid (wr.ownsRow (w.heap.size + 1) 5 1 (.slice A3 L c3) L (Lib.byteCells (textD true ds j)))) ∧ Hid (BoxN wr w.heap.size true A n c) ∧ Hid (Below w.heap.size w wr)) (fun _ iv _ => (intOf iv + 1).toNat)
    case atStart => exact ⟨⟨n, 1, _, _, _, Nat.le_refl _, by omega, rfl, rfl, rfl, by show _ = _; omega, HO1.out⟩, HN3, HB3⟩
    case round =>
      obtain ⟨⟨j, L, z1, A3, c3, hj, hL, rfl, hz, rfl, hLj, hown⟩, hn, hb⟩ := hrel
      have c0 := hn.out.c0
      have c1 := hn.out.c1
      cases j with
      | zero =>
        obtain rfl : z1 = -1 := by have := hz.out; omega
        by_cases hn0 : n = 0
        · have hn1 : ((n : Int) == 0) = true := by rw [beq_iff_eq]; omega
          have HL0 : Hid (ds.length = 0) := by show _ = _; rw [TX.out.len]; exact hn0
          go_wp2
          (try simp only [Exit.inBlock, Exit.then])
          go_ret
          exact ⟨true, ds, by rw [if_pos HL0.out]; rfl, ZX, TX.out.ten, TX.out.top, fun _ => PX.out trivial, hb⟩
        · have hn1 : ((n : Int) == 0) = false := by rw [beq_eq_false_iff_ne]; omega
          have HL0 : Hid (ds.length ≠ 0) := by show _ ≠ _; rw [TX.out.len]; exact hn0
          obtain ⟨g, rfl, hlen, hcells⟩ := bytes_own hown.out (by have := hLj.out; omega)
          have hcv := run_convert_bytes_back (P := Tryd.prog) wr 97 9 5 ⟨g, 0, none⟩ c3 (textD true ds 0) Tryd.underlying97 Tryd.underlying5 Tryd.underlying9 hcells
          rw [hlen] at hcv
          clear hcells hlen
          go_wp2
          (try simp only [Exit.inBlock, Exit.then])
          go_ret
          exact ⟨true, ds, by rw [if_neg HL0.out]; rfl, ZX, TX.out.ten, TX.out.top, fun _ => PX.out trivial, hb⟩
      | succ j =>
        obtain rfl : z1 = (j : Int) := by have := hz.out; omega
        have hjl : j < ds.length := by rw [TX.out.len]; omega
        obtain ⟨b1, o1, rfl, _, cd⟩ := (TX.out.over hb.out).rd.at_ hjl
        obtain ⟨x, hxx⟩ : ∃ x, x = ds[j] := ⟨_, rfl⟩
        rw [← hxx] at cd
        have hx9 : x < 10 := by rw [hxx]; exact TX.out.ten.get _ _
        have HST : Hid (Lib.byteCells (textD true ds j) = Lib.byteCells (textD true ds (j + 1)) ++ [.int .u8 (48 + (x : Int))]) := by
          show _ = _
          rw [textD_step hjl, ← byteCells_append, ← hxx]
          simp [Lib.byteCells, db_nat hx9]
        have kb : (j : Int) < (n : Int) := by omega
        have k0 : (0 : Int) ≤ (j : Int) := by omega
        have u8 : IntKind.u8.wrap (48 + (x : Int)) = 48 + (x : Int) := by simp [IntKind.wrap, IntKind.bits, IntKind.signed]; omega
        have HM : Hid (L + 1 ≤ maxLen ∧ (L + 1) * 1 ≤ 140737488355328) := by constructor <;> (try unfold maxLen) <;> omega
        have HLJ : Hid (L + 1 = n - j + 1) := by have := hLj.out; show _ = _; omega
        have hL2 : L + 1 ≤ 1001 := by have := HLJ.out; omega
        clear hxx
        go_wp2_with (at_builtin; refine wpList_append_own _ rfl _ _ 97 rfl (w.heap.size + 1) 5 i0 (.int .u8 0) 1 1 Tryd.underlying97 hi hz0 hz1 hz2 rfl (by decide) _ _ _ rfl (hown.out.alloc _) ⟨wr.heap.size, 0, none⟩ 1 1 [.int .u8 (48 + (x : Int))] rfl rfl (one_cell _ _ _) (one_one _ _) HM.out.1 HM.out.2 (by have := hn.out.lt; simp at this ⊢; try omega) ?_)
        intro v' w3 hown' hgrow _
        obtain ⟨A4, c4, rfl, hc4⟩ := own_row hown'
        have HN3 : Hid (BoxN w3 w.heap.size true (some ⟨b1, o1, none⟩) n c) := (hn.out.alloc _).grown hgrow (fun e => by have := (hown.out.lt _ e.symm).1; omega)
        have HB3 : Hid (Below w.heap.size w w3) := (hb.out.alloc hb.out.size _).grown hgrow (by have := hb.out.size; simp; omega) (fun g hg => by have := (hown.out.lt g hg).1; omega)
        have HO3 : Hid (w3.ownsRow (w.heap.size + 1) 5 1 (.slice A4 (L + 1) c4) (L + 1) (Lib.byteCells (textD true ds j))) := by
          show World.ownsRow _ _ _ _ _ _ _
          rw [HST.out]
          exact hown'
        clear hgrow hown'
        go_wp2
        go_roundw
        case rel => exact ⟨⟨j, L + 1, _, A4, c4, by omega, hL2, rfl, rfl, rfl, HLJ, HO3⟩, HN3, HB3⟩
        case measure => simp [intOf]
end Go.Proofs.YtpikbhcjgcbdfaaDoor.wh
