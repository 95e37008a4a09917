/- Package whole: decimal, for every digit. A text of an integer reads as that integer. -/
import Derived.Test.YtpikbhcjgcbdfaaDoorWhE
import Derived.Test.YtpikbhcjgcbdfaaDoorWhD
import Derived.Shelf.Strconv.Itoa1
import Derived.Shelf.Strconv.Itoa2
import Derived.Lib.AppendIntMem
import Derived.Lib.ItoaMem
import Derived.Test.YtpikbhcjgcbdfaaDoorRfA
/- Package whole: decimal, for every digit. -/
namespace Go.Proofs.YtpikbhcjgcbdfaaDoor.wh
open Go.RowKit Go.Sort Go.Lib

/-- the table of the library's -/
def Tab (w : World) : Prop := Lib.TabIs Tryd.prog w "internal/strconv.uint64pow10" .u64 Lib.pow10Tab
theorem Tab.below {w W : World} (h : Tab w) (hb : Below w.heap.size w W) : Tab W := by
  unfold Tab Lib.TabIs World.var? at *
  cases hg : Tryd.prog.globalNamed "internal/strconv.uint64pow10" with
  | none => simp [hg] at h
  | some g =>
    simp only [hg, Option.bind_some] at h ⊢
    have hlt : g < w.heap.size := by
      rcases Nat.lt_or_ge g w.heap.size with h' | h'
      · exact h'
      · rw [Array.getElem?_eq_none h'] at h
        cases h
    rw [hb.block g hlt]
    exact h
theorem below_grow (w : World) (k : Nat) (os : Array Obj) : Below w.heap.size w (grow (w.drewN k) os) :=
  ⟨rfl, rfl, rfl, by simp [grow, World.drewN], fun i hi => heap_grow_old (w.drewN k) os hi⟩
theorem fin_zero (w : World) (o : Obj) (dk : Array UInt8) (k : Nat) : ∃ os, (putRow (fun (b : UInt8) => Value.int .u8 (b.toNat : Int)) (w.alloc o) w.heap.size 0 dk).drewN k = grow (w.drewN k) os := by
  rw [alloc_eq_grow]
  obtain ⟨os', _, e⟩ := putRow_grow_new (fun (b : UInt8) => Value.int .u8 (b.toNat : Int)) w #[o] w.heap.size 0 dk (Nat.le_refl _)
  exact ⟨os', by rw [e]; rfl⟩
theorem nums_any (u : Nat) (h1 : 1 ≤ u) (h2 : u < 18446744073709551616) (w : World) (h : Tab w) :
    Calls Tryd.prog 103 #[.int .u64 u] w fun e w' => e = .returned (.int .i64 (Lib.nDigits u)) ∧ w' = w := Any.internal_strconv_numDigits Tryd.laysM284 u h1 h2 w h
theorem base10_any (blk off cap u : Nat) (d : Array UInt8) (w : World) (hH : Holds (fun (b : UInt8) => Value.int .u8 (b.toNat : Int)) w blk off d) (hu : u < 10 ^ d.size) (hu64 : u < 18446744073709551616) (hsz : d.size < 4611686018427387904) :
    Calls Tryd.prog 104 #[.slice (some ⟨blk, off, none⟩) d.size cap, .int .u64 u] w fun e w' =>
      e = .returned (.tuple #[]) ∧ ∃ (n v' : Nat) (dk : Array UInt8), w' = (putRow (fun (b : UInt8) => Value.int .u8 (b.toNat : Int)) w blk off dk).drewN n ∧ FmtInv d.size u 0 v' dk := Any.internal_strconv_formatBase10 Tryd.lays285 blk off cap u d w hH hu hu64 hsz

set_option maxHeartbeats 4000000 in
set_option maxRecDepth 100000 in
theorem format_any (u : Nat) (h100 : 100 ≤ u) (hu9 : u < 1000000000) (w : World) (htab : Tab w) :
    Calls Tryd.prog 100 #[.int .u64 u, .int .i64 10] w fun e w' => e = .returned (.string ⟨(Lib.decDigits u).toArray⟩) ∧ Hid (Below w.heap.size w w') := by
  have HT := Lib.hid htab
  clear htab
  have hnd := nDigits9 hu9
  rw [Lib.decDigits_length] at hnd
  obtain ⟨nd, hn⟩ : ∃ nd, nd = Lib.nDigits u := ⟨_, rfl⟩
  rw [← hn] at hnd
  have hal : Tryd.prog.arrayLen 125 = 24 := by kernel_rfl
  have hel : Tryd.prog.elem 125 = 5 := by kernel_rfl
  have hsl : ∀ W, (Instr.sliceAt 125 (.pointer (some ⟨w.heap.size, 0, none⟩)) none (some (.int .i64 (nd : Int))) none).run Tryd.prog W = .ok (.slice (some ⟨w.heap.size, 0, none⟩) nd 24) W := fun W => by
    rw [run_sliceAt_array_h W 125 ⟨w.heap.size, 0, none⟩ (by kernel_rfl) .i64 (nd : Int) (by omega) (by rw [hal]; omega), hel, hal]
    go_simp
  have hH0 := Lib.holds_zero0 w 125 nd (by omega)
  have hfmt := base10_any w.heap.size 0 24 u (Array.replicate nd 0) (w.alloc (.cells Lib.zeros24 125)) hH0 (by rw [Array.size_replicate, hn]; exact Lib.lt_pow_nDigits u) (by omega) (by rw [Array.size_replicate]; omega)
  rw [Array.size_replicate] at hfmt
  have HH0 := Lib.hid hH0
  have HF := Lib.hid hfmt
  have HN := Lib.hid hn
  have HTA : Hid (Tab (w.alloc (.cells Lib.zeros24 125))) := Lib.tabIs_alloc HT.out _
  have hu100 : ¬ (u : Int) < 100 := by omega
  clear hH0 hfmt hn hal hel
  go_enter Tryd.func100, Tryd.ntmps100
  go_wp2_with fail
  refine (nums_any u (by omega) (by omega) _ HTA.out).mono ?_
  rintro e w' ⟨rfl, rfl⟩
  rw [← HN.out]
  go_wp2_with fail
  refine HF.out.mono ?_
  rintro e w' ⟨rfl, k, v', dk, rfl, hF⟩
  have hF2 : Hid (FmtInv (Lib.nDigits u) u 0 v' dk) := by rw [← HN.out]; exact hF
  have hlen : (Lib.decDigits u).length = nd := by rw [Lib.decDigits_length]; exact HN.out.symm
  have hcv : (convert 97 9 (.slice (some ⟨w.heap.size, 0, none⟩) nd 24)).run Tryd.prog ((putRow (fun (b : UInt8) => Value.int .u8 (b.toNat : Int)) (w.alloc (.cells Lib.zeros24 125)) w.heap.size 0 dk).drewN k) = .ok (.string ⟨(Lib.decDigits u).toArray⟩) ((putRow (fun (b : UInt8) => Value.int .u8 (b.toNat : Int)) (w.alloc (.cells Lib.zeros24 125)) w.heap.size 0 dk).drewN k) := by
    have h := run_convert_bytes_back (P := Tryd.prog) ((putRow (fun (b : UInt8) => Value.int .u8 (b.toNat : Int)) (w.alloc (.cells Lib.zeros24 125)) w.heap.size 0 dk).drewN k) 97 9 5 ⟨w.heap.size, 0, none⟩ 24 (Lib.decDigits u) Tryd.underlying97 Tryd.underlying5 Tryd.underlying9 (fun j hj => by
      rw [Lib.row_is_numeral hF2.out j hj, Lib.add_plain, World.cell?_drewN]
      exact cell?_putRow (fun (b : UInt8) => Value.int .u8 (b.toNat : Int)) _ w.heap.size 0 _ dk HH0.out (by rw [hF.size, Array.size_replicate]) j (by rw [hF.size]; omega))
    rw [hlen] at h
    exact h
  obtain ⟨os, eo⟩ := fin_zero w (.cells Lib.zeros24 125) dk k
  have EO := Lib.hid eo
  clear eo hF
  go_wp2
  go_ret
  exact ⟨rfl, by show Below _ _ _; rw [EO.out]; exact below_grow w k os⟩
/-- decimal of every digit -/
theorem decimal_any (d : Nat) (w : World) (hd : d < 1000000000) (htab : Tab w) :
    Calls Tryd.prog 78 #[.int .u32 d] w fun e w' => e = .returned (.string ⟨(Lib.decDigits d).toArray⟩) ∧ Below w.heap.size w w' := by
  by_cases h100 : d < 100
  · exact (small_dec d w h100).mono fun e w' h => ⟨h.1, by rw [← h.2]; exact Below.refl _ _⟩
  · have H1 := Lib.hid (format_any d (by omega) hd w htab)
    have h2 : Calls Tryd.prog 97 #[.int .u64 d, .int .i64 10] w fun e w' => e = .returned (.string ⟨(Lib.decDigits d).toArray⟩) ∧ Hid (Below w.heap.size w w') := by
      go_enter Tryd.func97, Tryd.ntmps97
      go_wp2_with fail
      refine H1.out.mono ?_
      rintro e w' ⟨rfl, hb⟩
      go_wp2
      go_ret
      exact ⟨rfl, hb⟩
    have H2 := Lib.hid h2
    clear h2 htab
    go_enter Tryd.func78, Tryd.ntmps78
    go_wp2_with fail
    refine H2.out.mono ?_
    rintro e w' ⟨rfl, hb⟩
    go_wp2
    go_ret
    exact ⟨rfl, hb⟩
/-- Text of any integer -/
theorem text_all {v : Value} {m : Nat} {z : Int} {w : World} (hm : m ≤ 1000) (hi : IsInt w w.heap.size m v z) (htab : Tab w) :
    Calls Tryd.prog 28 #[v] w fun e w' => ∃ neg ds, GivesText w (textOf neg ds) e w' ∧ Hid (rightB neg ds = true) ∧ Hid (zval neg ds = z) ∧ ds.length ≤ m := by
  obtain ⟨neg, A, n, c, ds, rfl, hnm, HC, HZ⟩ := hi.cells
  refine (text_any neg A n c ds w (by omega) HC.out (fun d hd W hb => ?_)).mono fun e w' h => ⟨neg, ds, h, HC.out.right, HZ, by rw [HC.out.len]; exact hnm⟩
  exact decimal_any d W (right_dig HC.out.right d hd) (htab.below hb)
end Go.Proofs.YtpikbhcjgcbdfaaDoor.wh

/- A text of an integer reads as that integer. -/
namespace Go.Proofs.YtpikbhcjgcbdfaaDoor.wh
open Go.RowKit

theorem dg_of {k : Nat} (h : k < 10) : dg (UInt8.ofNat (48 + k)) = k ∧ isDg (UInt8.ofNat (48 + k)) = true := by
  have e : (UInt8.ofNat (48 + k)).toNat = 48 + k := by
    rw [UInt8.toNat_ofNat']
    omega
  unfold dg isDg
  rw [e]
  refine ⟨by omega, ?_⟩
  rw [Bool.and_eq_true]
  exact ⟨decide_eq_true (by omega), decide_eq_true (by omega)⟩
theorem dec_reads (d : Nat) : (∀ b ∈ Lib.decDigits d, isDg b = true) ∧ nval (Lib.decDigits d) = d ∧ Lib.decDigits d ≠ [] := by
  induction d using Nat.strongRecOn with
  | _ u ih =>
    by_cases h : u < 10
    · rw [Lib.decDigits_one h]
      have hd := dg_of h
      refine ⟨fun b hb => ?_, ?_, by simp⟩
      · rw [List.mem_singleton] at hb
        rw [hb]
        exact hd.2
      · have := nval_snoc [] (UInt8.ofNat (48 + u))
        rw [List.nil_append] at this
        rw [this, hd.1]
        simp [nval, tval]
    · rw [Lib.decDigits, dif_neg h]
      have hd := dg_of (Nat.mod_lt u (show 10 > 0 by omega))
      obtain ⟨i1, i2, i3⟩ := ih (u / 10) (by omega)
      refine ⟨fun b hb => ?_, ?_, by simp⟩
      · rcases List.mem_append.1 hb with hb | hb
        · exact i1 b hb
        · rw [List.mem_singleton] at hb
          rw [hb]
          exact hd.2
      · rw [nval_snoc, hd.1, i2]
        omega
theorem nval_append (a b : List UInt8) : nval (a ++ b) = nval b + 10 ^ b.length * nval a := by
  unfold nval
  rw [List.reverse_append, List.map_append, tval_append, List.length_map, List.length_reverse]
theorem nval_noughts (k : Nat) : nval (List.replicate k 48) = 0 := by
  induction k with
  | zero => rfl
  | succ k ih =>
    rw [List.replicate_succ', nval_snoc, ih]
    rfl
theorem pad_reads {d : Nat} (h : d < 1000000000) : (∀ b ∈ pad9 (Lib.decDigits d), isDg b = true) ∧ nval (pad9 (Lib.decDigits d)) = d ∧ (pad9 (Lib.decDigits d)).length = 9 := by
  obtain ⟨i1, i2, i3⟩ := dec_reads d
  have hl := nDigits9 h
  unfold pad9
  refine ⟨fun b hb => ?_, ?_, by rw [List.length_append, List.length_replicate]; omega⟩
  · rcases List.mem_append.1 hb with hb | hb
    · rw [List.mem_replicate] at hb
      rw [hb.2]
      rfl
    · exact i1 b hb
  · rw [nval_append, nval_noughts, i2, Nat.mul_zero, Nat.add_zero]
theorem rest_reads {xs : List Nat} (h : Dig xs) : (∀ b ∈ (xs.reverse.flatMap fun d => pad9 (Lib.decDigits d)), isDg b = true) ∧ nval (xs.reverse.flatMap fun d => pad9 (Lib.decDigits d)) = val xs ∧ (xs.reverse.flatMap fun d => pad9 (Lib.decDigits d)).length = 9 * xs.length := by
  induction xs with
  | nil => exact ⟨fun b hb => (by simp at hb), rfl, rfl⟩
  | cons x t ih =>
    obtain ⟨i1, i2, i3⟩ := ih h.tail
    obtain ⟨p1, p2, p3⟩ := pad_reads h.head
    have e : ((x :: t).reverse.flatMap fun d => pad9 (Lib.decDigits d)) = (t.reverse.flatMap fun d => pad9 (Lib.decDigits d)) ++ pad9 (Lib.decDigits x) := by
      rw [List.reverse_cons, List.flatMap_append]
      simp
    rw [e]
    refine ⟨fun b hb => ?_, ?_, ?_⟩
    · rcases List.mem_append.1 hb with hb | hb
      · exact i1 b hb
      · exact p1 b hb
    · rw [nval_append, p2, p3, i2]
      rfl
    · rw [List.length_append, i3, p3, List.length_cons]
      omega
theorem body_reads {ds : List Nat} (h : Dig ds) (hn : 0 < ds.length) : (∀ b ∈ Lib.decDigits (ds.getD (ds.length - 1) 0) ++ restOf ds 0, isDg b = true) ∧ nval (Lib.decDigits (ds.getD (ds.length - 1) 0) ++ restOf ds 0) = val ds := by
  obtain ⟨r1, r2, r3⟩ := rest_reads (h.take (ds.length - 1))
  obtain ⟨d1, d2, d3⟩ := dec_reads (ds.getD (ds.length - 1) 0)
  have e : restOf ds 0 = ((ds.take (ds.length - 1)).reverse.flatMap fun d => pad9 (Lib.decDigits d)) := by unfold restOf; rw [List.drop_zero]
  rw [e]
  refine ⟨fun b hb => ?_, ?_⟩
  · rcases List.mem_append.1 hb with hb | hb
    · exact d1 b hb
    · exact r1 b hb
  · rw [nval_append, r2, r3, d2]
    have hs := val_split ds (ds.length - 1) (by omega)
    rw [val_drop (by omega), List.drop_eq_nil_of_le (by omega)] at hs
    simp only [val, Nat.mul_zero, Nat.add_zero] at hs
    rw [hs, List.length_take, Nat.min_eq_left (by omega), Nat.pow_mul]
    rw [List.getD_eq_getElem?_getD, List.getElem?_eq_getElem (by omega), Option.getD_some]
theorem text_reads {neg : Bool} {ds : List Nat} (hR : rightB neg ds = true) : okOf (textOf neg ds) = true ∧ zOf (textOf neg ds) = zval neg ds := by
  by_cases h0 : ds.length = 0
  · have e := List.eq_nil_of_length_eq_zero h0
    subst e
    obtain rfl := right_nil hR
    exact ⟨rfl, rfl⟩
  · obtain ⟨b1, b2⟩ := body_reads (right_dig hR) (by omega)
    obtain ⟨body, hbody⟩ : ∃ body, body = Lib.decDigits (ds.getD (ds.length - 1) 0) ++ restOf ds 0 := ⟨_, rfl⟩
    have hne : body ≠ [] := by
      rw [hbody]
      intro h
      exact (dec_reads _).2.2 (List.append_eq_nil_iff.1 h).1
    have et : textOf neg ds = (if neg then [45] else []) ++ body := by
      unfold textOf headOf
      rw [if_neg h0, List.append_assoc, hbody]
    rw [← hbody] at b1 b2
    have hb : bodyOf (textOf neg ds) = body ∧ negOf (textOf neg ds) = neg := by
      rw [et]
      cases neg with
      | true => exact ⟨rfl, rfl⟩
      | false =>
        cases body with
        | nil => exact absurd rfl hne
        | cons b t =>
          have h1 := b1 b (by simp)
          have h2 : (b == 45) = false := by
            rw [beq_eq_false_iff_ne]
            intro e
            subst e
            cases h1
          exact ⟨by simp [bodyOf, h2], by simp [negOf, h2]⟩
    have hok : okOf (textOf neg ds) = true := by
      unfold okOf decL
      rw [hb.1, Bool.and_eq_true]
      exact ⟨by cases body with
        | nil => exact absurd rfl hne
        | cons b t => rfl, List.all_eq_true.2 b1⟩
    refine ⟨hok, ?_⟩
    unfold zOf zval
    rw [if_pos hok, hb.1, hb.2, b2]
theorem text_short {neg : Bool} {ds : List Nat} (hR : rightB neg ds = true) (hl : ds.length ≤ 100) : (textOf neg ds).length ≤ 1000 := by
  unfold textOf
  split
  · simp
  · obtain ⟨r1, r2, r3⟩ := rest_reads ((right_dig hR).take (ds.length - 1))
    have e : restOf ds 0 = ((ds.take (ds.length - 1)).reverse.flatMap fun d => pad9 (Lib.decDigits d)) := by unfold restOf; rw [List.drop_zero]
    have h9 : (Lib.decDigits (ds.getD (ds.length - 1) 0)).length ≤ 9 := by
      rw [List.getD_eq_getElem?_getD, List.getElem?_eq_getElem (by omega), Option.getD_some]
      exact nDigits9 ((right_dig hR).get _ (by omega))
    unfold headOf
    rw [List.length_append, List.length_append, e, r3, List.length_take]
    have hs : (if neg = true then [45] else ([] : List UInt8)).length ≤ 1 := by cases neg <;> simp
    omega
end Go.Proofs.YtpikbhcjgcbdfaaDoor.wh
