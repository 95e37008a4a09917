/- Package whole: decimal, for every digit. -/
import Derived.Test.YtgmnpajecpjklaaDoorGcd
import Derived.Test.YtgmnpajecpjklaaDoorTextZ
import Derived.Shelf.Strconv.Itoa1
import Derived.Shelf.Strconv.Itoa2
import Derived.Lib.AppendIntMem
import Derived.Lib.ItoaMem
namespace Go.Proofs.YtgmnpajecpjklaaDoor.wh
open Go.RowKit Go.Sort Go.Lib

/-- the table of the library's -/
def Tab (w : World) : Prop := Lib.TabIs Tryd.prog w "internal/strconv.uint64pow10" .u64 Lib.pow10Tab
theorem Tab.below {w W : World} (h : Tab w) (hb : Below w.heap.size w W) : Tab W := by
  unfold Tab Lib.TabIs World.var? at *
  cases hg : Tryd.prog.globalNamed "internal/strconv.uint64pow10" with
  | none => simp [hg] at h
  | some g =>
    simp only [hg, Option.bind_some] at h ⊢
    have hlt : g < w.heap.size := by
      rcases Nat.lt_or_ge g w.heap.size with h' | h'
      · exact h'
      · rw [Array.getElem?_eq_none h'] at h
        cases h
    rw [hb.block g hlt]
    exact h
theorem below_grow (w : World) (k : Nat) (os : Array Obj) : Below w.heap.size w (grow (w.drewN k) os) :=
  ⟨rfl, rfl, rfl, by simp [grow, World.drewN], fun i hi => heap_grow_old (w.drewN k) os hi⟩
theorem fin_zero (w : World) (o : Obj) (dk : Array UInt8) (k : Nat) : ∃ os, (putRow (fun (b : UInt8) => Value.int .u8 (b.toNat : Int)) (w.alloc o) w.heap.size 0 dk).drewN k = grow (w.drewN k) os := by
  rw [alloc_eq_grow]
  obtain ⟨os', _, e⟩ := putRow_grow_new (fun (b : UInt8) => Value.int .u8 (b.toNat : Int)) w #[o] w.heap.size 0 dk (Nat.le_refl _)
  exact ⟨os', by rw [e]; rfl⟩
theorem nums_any (u : Nat) (h1 : 1 ≤ u) (h2 : u < 18446744073709551616) (w : World) (h : Tab w) :
    Calls Tryd.prog 67 #[.int .u64 u] w fun e w' => e = .returned (.int .i64 (Lib.nDigits u)) ∧ w' = w := Any.internal_strconv_numDigits Tryd.laysM284 u h1 h2 w h
theorem base10_any (blk off cap u : Nat) (d : Array UInt8) (w : World) (hH : Holds (fun (b : UInt8) => Value.int .u8 (b.toNat : Int)) w blk off d) (hu : u < 10 ^ d.size) (hu64 : u < 18446744073709551616) (hsz : d.size < 4611686018427387904) :
    Calls Tryd.prog 68 #[.slice (some ⟨blk, off, none⟩) d.size cap, .int .u64 u] w fun e w' =>
      e = .returned (.tuple #[]) ∧ ∃ (n v' : Nat) (dk : Array UInt8), w' = (putRow (fun (b : UInt8) => Value.int .u8 (b.toNat : Int)) w blk off dk).drewN n ∧ FmtInv d.size u 0 v' dk := Any.internal_strconv_formatBase10 Tryd.lays285 blk off cap u d w hH hu hu64 hsz

set_option maxHeartbeats 4000000 in
set_option maxRecDepth 100000 in
theorem format_any (u : Nat) (h100 : 100 ≤ u) (hu9 : u < 1000000000) (w : World) (htab : Tab w) :
    Calls Tryd.prog 64 #[.int .u64 u, .int .i64 10] w fun e w' => e = .returned (.string ⟨(Lib.decDigits u).toArray⟩) ∧ Hid (Below w.heap.size w w') := by
  have HT := Lib.hid htab
  clear htab
  have hnd := nDigits9 hu9
  rw [Lib.decDigits_length] at hnd
  obtain ⟨nd, hn⟩ : ∃ nd, nd = Lib.nDigits u := ⟨_, rfl⟩
  rw [← hn] at hnd
  have hal : Tryd.prog.arrayLen 98 = 24 := by kernel_rfl
  have hel : Tryd.prog.elem 98 = 5 := by kernel_rfl
  have hsl : ∀ W, (Instr.sliceAt 98 (.pointer (some ⟨w.heap.size, 0, none⟩)) none (some (.int .i64 (nd : Int))) none).run Tryd.prog W = .ok (.slice (some ⟨w.heap.size, 0, none⟩) nd 24) W := fun W => by
    rw [run_sliceAt_array_h W 98 ⟨w.heap.size, 0, none⟩ (by kernel_rfl) .i64 (nd : Int) (by omega) (by rw [hal]; omega), hel, hal]
    go_simp
  have hH0 := Lib.holds_zero0 w 98 nd (by omega)
  have hfmt := base10_any w.heap.size 0 24 u (Array.replicate nd 0) (w.alloc (.cells Lib.zeros24 98)) hH0 (by rw [Array.size_replicate, hn]; exact Lib.lt_pow_nDigits u) (by omega) (by rw [Array.size_replicate]; omega)
  rw [Array.size_replicate] at hfmt
  have HH0 := Lib.hid hH0
  have HF := Lib.hid hfmt
  have HN := Lib.hid hn
  have HTA : Hid (Tab (w.alloc (.cells Lib.zeros24 98))) := Lib.tabIs_alloc HT.out _
  have hu100 : ¬ (u : Int) < 100 := by omega
  clear hH0 hfmt hn hal hel
  go_enter Tryd.func64, Tryd.ntmps64
  go_wp2_with fail
  refine (nums_any u (by omega) (by omega) _ HTA.out).mono ?_
  rintro e w' ⟨rfl, rfl⟩
  rw [← HN.out]
  go_wp2_with fail
  refine HF.out.mono ?_
  rintro e w' ⟨rfl, k, v', dk, rfl, hF⟩
  have hF2 : Hid (FmtInv (Lib.nDigits u) u 0 v' dk) := by rw [← HN.out]; exact hF
  have hlen : (Lib.decDigits u).length = nd := by rw [Lib.decDigits_length]; exact HN.out.symm
  have hcv : (convert 73 9 (.slice (some ⟨w.heap.size, 0, none⟩) nd 24)).run Tryd.prog ((putRow (fun (b : UInt8) => Value.int .u8 (b.toNat : Int)) (w.alloc (.cells Lib.zeros24 98)) w.heap.size 0 dk).drewN k) = .ok (.string ⟨(Lib.decDigits u).toArray⟩) ((putRow (fun (b : UInt8) => Value.int .u8 (b.toNat : Int)) (w.alloc (.cells Lib.zeros24 98)) w.heap.size 0 dk).drewN k) := by
    have h := run_convert_bytes_back (P := Tryd.prog) ((putRow (fun (b : UInt8) => Value.int .u8 (b.toNat : Int)) (w.alloc (.cells Lib.zeros24 98)) w.heap.size 0 dk).drewN k) 73 9 5 ⟨w.heap.size, 0, none⟩ 24 (Lib.decDigits u) Tryd.underlying73 Tryd.underlying5 Tryd.underlying9 (fun j hj => by
      rw [Lib.row_is_numeral hF2.out j hj, Lib.add_plain, World.cell?_drewN]
      exact cell?_putRow (fun (b : UInt8) => Value.int .u8 (b.toNat : Int)) _ w.heap.size 0 _ dk HH0.out (by rw [hF.size, Array.size_replicate]) j (by rw [hF.size]; omega))
    rw [hlen] at h
    exact h
  obtain ⟨os, eo⟩ := fin_zero w (.cells Lib.zeros24 98) dk k
  have EO := Lib.hid eo
  clear eo hF
  go_wp2
  go_ret
  exact ⟨rfl, by show Below _ _ _; rw [EO.out]; exact below_grow w k os⟩
/-- decimal of every digit -/
theorem decimal_any (d : Nat) (w : World) (hd : d < 1000000000) (htab : Tab w) :
    Calls Tryd.prog 50 #[.int .u32 d] w fun e w' => e = .returned (.string ⟨(Lib.decDigits d).toArray⟩) ∧ Below w.heap.size w w' := by
  by_cases h100 : d < 100
  · exact (small_dec d w h100).mono fun e w' h => ⟨h.1, by rw [← h.2]; exact Below.refl _ _⟩
  · have H1 := Lib.hid (format_any d (by omega) hd w htab)
    have h2 : Calls Tryd.prog 61 #[.int .u64 d, .int .i64 10] w fun e w' => e = .returned (.string ⟨(Lib.decDigits d).toArray⟩) ∧ Hid (Below w.heap.size w w') := by
      go_enter Tryd.func61, Tryd.ntmps61
      go_wp2_with fail
      refine H1.out.mono ?_
      rintro e w' ⟨rfl, hb⟩
      go_wp2
      go_ret
      exact ⟨rfl, hb⟩
    have H2 := Lib.hid h2
    clear h2 htab
    go_enter Tryd.func50, Tryd.ntmps50
    go_wp2_with fail
    refine H2.out.mono ?_
    rintro e w' ⟨rfl, hb⟩
    go_wp2
    go_ret
    exact ⟨rfl, hb⟩
/-- Text of any integer -/
theorem text_all {v : Value} {m : Nat} {z : Int} {w : World} (hm : m ≤ 1000) (hi : IsInt w w.heap.size m v z) (htab : Tab w) :
    Calls Tryd.prog 24 #[v] w fun e w' => ∃ neg ds, GivesText w (textOf neg ds) e w' ∧ Hid (rightB neg ds = true) ∧ Hid (zval neg ds = z) ∧ ds.length ≤ m := by
  obtain ⟨neg, A, n, c, ds, rfl, hnm, HC, HZ⟩ := hi.cells
  refine (text_any neg A n c ds w (by omega) HC.out (fun d hd W hb => ?_)).mono fun e w' h => ⟨neg, ds, h, HC.out.right, HZ, by rw [HC.out.len]; exact hnm⟩
  exact decimal_any d W (right_dig HC.out.right d hd) (htab.below hb)
end Go.Proofs.YtgmnpajecpjklaaDoor.wh
