/- Package token: Word: whether a text is read as a token alone; the first of the texts that is. -/
import Derived.Laws.IdiomStrings
import Derived.Test.YtmnllioeaaimcaaDoorPw
namespace Go.Proofs.YtmnllioeaaimcaaDoor.tk
open Go.RowKit

def capOf (w : World) (X : List UInt8) : Nat := grownCap w X.length 0 5
def strWorld (w : World) (X : List UInt8) : World := w.drew.alloc (.cells (bytesRow ⟨X.toArray⟩ (capOf w X)) 5 ((bytesRow ⟨X.toArray⟩ (capOf w X)).size, (bytesRow ⟨X.toArray⟩ (capOf w X)).size + 1))
theorem conv_str (w : World) (X : List UInt8) : (convert 9 44 (.string ⟨X.toArray⟩)).run Tryd.prog w = .ok (.slice (some ⟨w.heap.size, 0, none⟩) X.length (capOf w X)) (strWorld w X) :=
  run_bytes_of_string w _ _ _ _ Tryd.underlying9 Tryd.underlying44 Tryd.underlying5
theorem strWorld_below {a w : World} (h : Below a.heap.size a w) (X : List UInt8) : Below a.heap.size a (strWorld w X) := by
  unfold strWorld
  exact (Below.drew h).alloc (Below.drew h).size _
theorem below_two {a w w' : World} (h : Below a.heap.size a w) (h5 : Below w.heap.size w w') : Below a.heap.size a w' := h.trans (h5.mono h.size)
theorem strWorld_rb (w : World) (X : List UInt8) {g : Nat} (hg : g = w.heap.size) : Rb (strWorld w X) (some ⟨g, 0, none⟩) X := by
  subst hg
  intro _
  refine ⟨_, _, rfl, by unfold strWorld; simp, fun j hj => ?_⟩
  have hb : (strWorld w X).heap[w.heap.size]? = some (.cells (bytesRow ⟨X.toArray⟩ (capOf w X)) 5 ((bytesRow ⟨X.toArray⟩ (capOf w X)).size, (bytesRow ⟨X.toArray⟩ (capOf w X)).size + 1)) := heap_alloc_new w.drew _
  rw [Nat.zero_add, cell_of_row _ w.heap.size j _ _ _ hb, bytesRow_at ⟨X.toArray⟩ (capOf w X) j (by simpa using hj)]
  simp
theorem Rb.drew {w : World} {A : Option Addr} {bs : List UInt8} (h : Rb w A bs) : Rb w.drew A bs := h
/-- what Read answers of a text with its own length as its bound -/
def Out (X : List UInt8) (A : Option Addr) (n : Nat) (kd : Int) (w' : World) : Prop :=
  (kd = 10 ∧ ∃ q, readL X = .error q) ∨ (kd = 0 ∧ ∃ D, readL X = .ok D ∧ n = D.length ∧ n ≤ 100000000 ∧ Tr w' A D)
theorem read_own {w : World} {A : Option Addr} {X : List UInt8} {cb : Nat} (hb : Hid (Rb w A X)) (hl : X.length ≤ 100000000) (hcap : X.length ≤ cb) :
    Calls Tryd.prog 33 #[.slice A X.length cb, .int .i64 (X.length : Int)] w fun e w' => ∃ A2 n c kd q, e = .returned (.tuple #[.slice A2 n c, .int .i64 kd, .int .i64 q]) ∧ Hid (Out X A2 n kd w') ∧ Hid (Below w.heap.size w w') :=
  (refRead_any hb hl hcap).mono (by
    rintro e w' ⟨h, hB⟩
    rcases h.out with ⟨h1, _⟩ | ⟨_, q, h2, rfl⟩ | ⟨_, D, A2, c, h2, h3, rfl, h4⟩
    · simp at h1
    · exact ⟨none, 0, 0, 10, q, rfl, Lib.hid (.inl ⟨rfl, q, h2⟩), hB⟩
    · exact ⟨A2, D.length, c, 0, 0, rfl, Lib.hid (.inr ⟨rfl, D, h2, rfl, by omega, Tr.of_own h4⟩), hB⟩)
theorem capOf_le (w : World) (X : List UInt8) : X.length ≤ capOf w X := by
  exact grownCap_ge _ _ _ _

theorem str_is2 {t : List UInt8} {S : ByteArray} : ((t == S.toList) : Bool) = decide (t = S.data.toList) := by
  rw [ByteArray.toList_eq, Bool.eq_iff_iff]
  simp
theorem tokd_bad {k : Int} {T X : List UInt8} {q : Nat} (h : readL X = .error q) : tokd k T X = false := by unfold tokd; rw [h]
theorem tokd_many {k : Int} {T X : List UInt8} {D : List Tk} (h : readL X = .ok D) (hd : D.length ≠ 1) : tokd k T X = false := by
  unfold tokd
  rw [h]
  match D, hd with
  | [], _ => rfl
  | x :: y :: r, _ => rfl
theorem tokd_one {k : Int} {T X : List UInt8} {x : Tk} (h : readL X = .ok [x]) : tokd k T X = (decide ((x.kind : Int) = k) && decide (x.text = T)) := by unfold tokd; rw [h]
theorem below_n {B : Nat} {w w' : World} (h : Below B w w') (n : Nat) : Below B w (w'.drewN n) := ⟨h.os, h.tape, h.output, h.size, h.block⟩

set_option maxRecDepth 100000 in
set_option maxHeartbeats 2000000 in
theorem preads_bad {w : World} {K P : Int} {S : ByteArray} {X : List UInt8} (hX : X.length ≤ 100000000) {q : Nat} (h : readL X = .error q) :
    Calls Tryd.prog 41 #[.string ⟨X.toArray⟩, .agg #[.int .i64 K, .string S, .int .i64 P]] w fun e w' => e = .returned (.bool false) ∧ Hid (Below w.heap.size w w') := by
  have HE := Lib.hid h
  clear h
  have kcv := fun w9 => conv_str w9 X
  go_enter Tryd.func41, Tryd.ntmps41
  go_upto_region 1 with fail
  generalize hW : w.alloc _ = W0
  have hB0 : Hid (Bk W0 w.heap.size 35 #[.int .i64 K, .string S, .int .i64 P]) := Lib.hid (hW ▸ Bk.new w _ _)
  have hBl : Hid (Below w.heap.size w W0) := Lib.hid (hW ▸ (Below.refl _ _).alloc (Nat.le_refl _) _)
  clear hW
  have RB := Lib.hid (strWorld_rb W0 X rfl)
  have HBS : Hid (Below W0.heap.size W0 (strWorld W0 X)) := Lib.hid (strWorld_below (Below.refl _ _) X)
  go_upto_region 2 with (go_at_call 15; refine (pread_bad RB hX (capOf_le W0 X) (by omega) HE.out).mono ?_; rintro e w3 ⟨rfl, HB3⟩)
  have HB3' : Hid (Below W0.heap.size W0 w3) := Lib.hid (HBS.out.trans (HB3.out.mono HBS.out.size))
  generalize hW : w3.alloc _ = W4
  have HX4 : Hid (Below w3.heap.size w3 W4) := Lib.hid (hW ▸ (Below.refl _ _).alloc (Nat.le_refl _) _)
  have HB4 : Hid (Below W0.heap.size W0 W4) := Lib.hid (HB3'.out.trans (HX4.out.mono HB3'.out.size))
  have HBF : Hid (Below w.heap.size w W4) := Lib.hid (hBl.out.trans (HB4.out.mono hBl.out.size))
  have HT4 := hB0.out.below HB4.out hB0.out.lt
  have t0 : W4.cell? ⟨w.heap.size, 0, none⟩ = some (.int .i64 K) := HT4.cell 0
  have t1 : W4.cell? ⟨w.heap.size, 1, none⟩ = some (.string S) := HT4.cell 1
  clear hW HT4
  go_quiet (fail)
  go_wp2_with fail
  go_ret
  exact ⟨rfl, Lib.hid (below_n HBF.out _)⟩

set_option maxRecDepth 100000 in
set_option maxHeartbeats 2000000 in
theorem preads_many {w : World} {K P : Int} {S : ByteArray} {X : List UInt8} (hX : X.length ≤ 100000000) {D : List Tk} (h : readL X = .ok D) (hd : D.length ≠ 1) :
    Calls Tryd.prog 41 #[.string ⟨X.toArray⟩, .agg #[.int .i64 K, .string S, .int .i64 P]] w fun e w' => e = .returned (.bool false) ∧ Hid (Below w.heap.size w w') := by
  have HE := Lib.hid h
  clear h
  have g1 : (((D.length : Int) == 1) : Bool) = false := by rw [beq_eq_false_iff_ne]; omega
  clear hd
  have kcv := fun w9 => conv_str w9 X
  go_enter Tryd.func41, Tryd.ntmps41
  go_upto_region 1 with fail
  generalize hW : w.alloc _ = W0
  have hB0 : Hid (Bk W0 w.heap.size 35 #[.int .i64 K, .string S, .int .i64 P]) := Lib.hid (hW ▸ Bk.new w _ _)
  have hBl : Hid (Below w.heap.size w W0) := Lib.hid (hW ▸ (Below.refl _ _).alloc (Nat.le_refl _) _)
  clear hW
  have RB := Lib.hid (strWorld_rb W0 X rfl)
  have HBS : Hid (Below W0.heap.size W0 (strWorld W0 X)) := Lib.hid (strWorld_below (Below.refl _ _) X)
  go_upto_region 2 with (go_at_call 15; refine (pread_ok RB hX (capOf_le W0 X) (by omega) HE.out).mono ?_; rintro e w3 ⟨A3, c3, rfl, hD3, hDc, HO3, HB3⟩)
  have HB3' : Hid (Below W0.heap.size W0 w3) := Lib.hid (HBS.out.trans (HB3.out.mono HBS.out.size))
  generalize hW : w3.alloc _ = W4
  have HX4 : Hid (Below w3.heap.size w3 W4) := Lib.hid (hW ▸ (Below.refl _ _).alloc (Nat.le_refl _) _)
  have HB4 : Hid (Below W0.heap.size W0 W4) := Lib.hid (HB3'.out.trans (HX4.out.mono HB3'.out.size))
  have HBF : Hid (Below w.heap.size w W4) := Lib.hid (hBl.out.trans (HB4.out.mono hBl.out.size))
  have HT4 := hB0.out.below HB4.out hB0.out.lt
  have t0 : W4.cell? ⟨w.heap.size, 0, none⟩ = some (.int .i64 K) := HT4.cell 0
  have t1 : W4.cell? ⟨w.heap.size, 1, none⟩ = some (.string S) := HT4.cell 1
  clear hW HT4
  go_quiet (fail)
  go_wp2_with fail
  go_ret
  exact ⟨rfl, Lib.hid (below_n HBF.out _)⟩

set_option maxRecDepth 100000 in
set_option maxHeartbeats 2000000 in
theorem preads_one {w : World} {K P : Int} {S : ByteArray} {X : List UInt8} (hX : X.length ≤ 100000000) {x : Tk} (h : readL X = .ok [x]) :
    Calls Tryd.prog 41 #[.string ⟨X.toArray⟩, .agg #[.int .i64 K, .string S, .int .i64 P]] w fun e w' => e = .returned (.bool (decide ((x.kind : Int) = K) && decide (x.text = S.data.toList))) ∧ Hid (Below w.heap.size w w') := by
  have HE := Lib.hid h
  clear h
  obtain ⟨b1, hb1⟩ : ∃ b, decide ((x.kind : Int) = K) = b := ⟨_, rfl⟩
  obtain ⟨b2, hb2⟩ : ∃ b, decide (x.text = S.data.toList) = b := ⟨_, rfl⟩
  rw [hb1, hb2]
  have g1 : (((x.kind : Int) == K) : Bool) = b1 := by rw [← hb1, Bool.eq_iff_iff]; simp
  have g2 : ((x.text == S.toList) : Bool) = b2 := by rw [str_is2, hb2]
  have G1 := Lib.hid g1
  have G2 := Lib.hid g2
  clear hb1 hb2 g1 g2
  have kcv := fun w9 => conv_str w9 X
  go_enter Tryd.func41, Tryd.ntmps41
  go_upto_region 1 with fail
  generalize hW : w.alloc _ = W0
  have hB0 : Hid (Bk W0 w.heap.size 35 #[.int .i64 K, .string S, .int .i64 P]) := Lib.hid (hW ▸ Bk.new w _ _)
  have hBl : Hid (Below w.heap.size w W0) := Lib.hid (hW ▸ (Below.refl _ _).alloc (Nat.le_refl _) _)
  clear hW
  have RB := Lib.hid (strWorld_rb W0 X rfl)
  have HBS : Hid (Below W0.heap.size W0 (strWorld W0 X)) := Lib.hid (strWorld_below (Below.refl _ _) X)
  go_upto_region 2 with (go_at_call 15; refine (pread_ok RB hX (capOf_le W0 X) (by omega) HE.out).mono ?_; rintro e w3 ⟨A3, c3, rfl, hD3, hDc, HO3, HB3⟩)
  have HB3' : Hid (Below W0.heap.size W0 w3) := Lib.hid (HBS.out.trans (HB3.out.mono HBS.out.size))
  generalize hW : w3.alloc _ = W4
  have HX4 : Hid (Below w3.heap.size w3 W4) := Lib.hid (hW ▸ (Below.refl _ _).alloc (Nat.le_refl _) _)
  have HB4 : Hid (Below W0.heap.size W0 W4) := Lib.hid (HB3'.out.trans (HX4.out.mono HB3'.out.size))
  have HBF : Hid (Below w.heap.size w W4) := Lib.hid (hBl.out.trans (HB4.out.mono hBl.out.size))
  have HT4 := hB0.out.below HB4.out hB0.out.lt
  have t0 : W4.cell? ⟨w.heap.size, 0, none⟩ = some (.int .i64 K) := HT4.cell 0
  have t1 : W4.cell? ⟨w.heap.size, 1, none⟩ = some (.string S) := HT4.cell 1
  clear hW HT4
  have T4 : Tr W4 A3 [x] := Tr.of_own (own_below HO3.out HX4.out)
  obtain ⟨g, rfl, hc⟩ := T4 (by simp)
  obtain ⟨k0, k1, _⟩ := hc 0 (by simp)
  simp only [Nat.zero_mul, Nat.zero_add, List.getElem_cons_zero] at k0 k1
  clear hc T4
  have g1 := G1.out
  have g2 := G2.out
  cases b1
  · go_quiet (fail)
    go_wp2_with fail
    go_ret
    exact ⟨rfl, Lib.hid (below_n HBF.out _)⟩
  · cases b2
    · go_quiet (fail)
      go_wp2_with fail
      go_ret
      exact ⟨rfl, Lib.hid (below_n HBF.out _)⟩
    · go_quiet (fail)
      go_wp2_with fail
      go_ret
      exact ⟨rfl, Lib.hid (below_n HBF.out _)⟩

theorem preads_any {w : World} {K P : Int} {S : ByteArray} {X : List UInt8} {r : Bool} (hr : Hid (tokd K S.data.toList X = r)) (hX : X.length ≤ 100000000) :
    Calls Tryd.prog 41 #[.string ⟨X.toArray⟩, .agg #[.int .i64 K, .string S, .int .i64 P]] w fun e w' => e = .returned (.bool r) ∧ Hid (Below w.heap.size w w') := by
  rw [← hr.out]
  cases h : readL X with
  | error q => rw [tokd_bad h]; exact preads_bad hX h
  | ok D =>
    by_cases hd : D.length = 1
    · match D, hd with
      | [x], _ => rw [tokd_one h]; exact preads_one hX h
    · rw [tokd_many h hd]; exact preads_many hX h hd

theorem find_upto {p : List UInt8 → Bool} {l : List (List UInt8)} {k : Nat} (hk : k ≤ l.length) (h : ∀ j (h : j < l.length), j < k → p l[j] = false) : l.find? p = (l.drop k).find? p := by
  conv => lhs; rw [← List.take_append_drop k l]
  rw [List.find?_append, List.find?_eq_none.2, Option.none_or]
  intro x hx
  obtain ⟨j, hj, e⟩ := List.mem_iff_getElem.1 hx
  rw [List.length_take] at hj
  rw [← e, List.getElem_take, h j (by omega) (by omega)]
  simp
theorem find_here {p : List UInt8 → Bool} {l : List (List UInt8)} {k : Nat} (hk : k < l.length) (h : ∀ j (h : j < l.length), j < k → p l[j] = false) (hp : p l[k] = true) : l.find? p = some l[k] := by
  rw [find_upto (by omega) h, List.drop_eq_getElem_cons hk, List.find?_cons, hp]
theorem find_no {p : List UInt8 → Bool} {l : List (List UInt8)} (h : ∀ j (h : j < l.length), j < l.length → p l[j] = false) : l.find? p = none := by
  rw [find_upto (Nat.le_refl _) h, List.drop_length]
  rfl
/-- what Word gives -/
def WordIs (r : Option (List UInt8)) (e : Ending) : Prop := match r with
  | some W => e = .returned (.tuple #[.string ⟨W.toArray⟩, .bool true])
  | none => e = .returned (.tuple #[.string ⟨#[]⟩, .bool false])

set_option maxRecDepth 100000 in
set_option maxHeartbeats 2000000 in
theorem pword_any {w : World} {K P : Int} {S : ByteArray} (hS : S.size ≤ 20000000) (hsh : w.ShapedOpen Tryd.prog) :
    Calls Tryd.prog 31 #[.agg #[.int .i64 K, .string S, .int .i64 P]] w fun e w' => Hid (WordIs (wordW K S.data.toList) e) ∧ Hid (Below w.heap.size w w') := by
  rw [word_tokd]
  have hl := cands_two K S.data.toList
  have hs9 : S.data.toList.length = S.size := by simp
  have HSH := Lib.hid hsh
  clear hsh
  obtain ⟨l, hl0⟩ : ∃ l, cands K S.data.toList = l := ⟨_, rfl⟩
  rw [hl0] at hl ⊢
  have HL0 := Lib.hid hl0
  clear hl0
  go_enter Tryd.func31, Tryd.ntmps31
  go_upto_region 1 with fail
  generalize hW : w.alloc _ = W0
  have hB0 : Hid (Bk W0 w.heap.size 35 #[.int .i64 K, .string S, .int .i64 P]) := Lib.hid (hW ▸ Bk.new w _ _)
  have hBl : Hid (Below w.heap.size w W0) := Lib.hid (hW ▸ (Below.refl _ _).alloc (Nat.le_refl _) _)
  clear hW
  have PF := forms_any (P := P) (K := K) hS (shaped_below HSH.out hBl.out)
  rw [HL0.out] at PF
  have PF := Lib.hid PF
  have t0 : W0.cell? ⟨w.heap.size, 0, none⟩ = some (.int .i64 K) := hB0.out.cell 0
  have t1 : W0.cell? ⟨w.heap.size, 1, none⟩ = some (.string S) := hB0.out.cell 1
  have t2 : W0.cell? ⟨w.heap.size, 2, none⟩ = some (.int .i64 P) := hB0.out.cell 2
  have hl1 := hl.1
  have HL := Lib.hid hl.2.2
  clear hl
  go_wp2_with (go_at_call 40; refine PF.out.mono ?_; rintro e w1 ⟨g, rfl, HG, HB1⟩)
  clear t0 t1 t2
  have HT1 := Lib.hid (hB0.out.below HB1.out hB0.out.lt)
  have HBw : Hid (Below w.heap.size w w1) := Lib.hid (hBl.out.trans (HB1.out.mono hBl.out.size))
  have HGT := Lib.hid (show w.heap.size < w1.heap.size from HT1.out.lt)
  go_loopw [9] (fun iv wr => ∃ k : Nat, k ≤ l.length ∧ iv = .int .i64 (k : Int) ∧ Hid (∀ j (h : j < l.length), j < k → tokd K S.data.toList l[j] = false) ∧ Hid (Bk wr w.heap.size 35 #[.int .i64 K, .string S, .int .i64 P] ∧ Bk wr g 9 (l.map strV).toArray) ∧ Hid (Below w.heap.size w wr)) (fun iv _ => l.length - (intOf iv).toNat)
  case atStart => exact ⟨0, Nat.zero_le _, rfl, Lib.hid (fun j _ h => by omega), Lib.hid ⟨HT1.out, HG.out⟩, HBw⟩
  case round =>
    obtain ⟨k, hk, rfl, HF, HBB, HB⟩ := hrel
    by_cases hlt : k < l.length
    · have c0 : wr.cell? ⟨w.heap.size, 0, none⟩ = some (.int .i64 K) := HBB.out.1.cell 0
      have c1 : wr.cell? ⟨w.heap.size, 1, none⟩ = some (.string S) := HBB.out.1.cell 1
      have c2 : wr.cell? ⟨w.heap.size, 2, none⟩ = some (.int .i64 P) := HBB.out.1.cell 2
      obtain ⟨X, hX⟩ : ∃ X, l[k] = X := ⟨_, rfl⟩
      have cx : wr.cell? ⟨g, k, none⟩ = some (.string ⟨X.toArray⟩) := by
        rw [HBB.out.2.cell k]; simp [hlt, hX, strV]
      have hXL : X.length ≤ 100000000 := by
        have := HL.out X (hX ▸ List.getElem_mem hlt)
        omega
      obtain ⟨r, hr⟩ : ∃ r, tokd K S.data.toList X = r := ⟨_, rfl⟩
      have P2 := Lib.hid (preads_any (w := wr) (K := K) (P := P) (S := S) (Lib.hid hr) hXL)
      have HX := Lib.hid hX
      have HR := Lib.hid hr
      clear hr hX
      have g0 : (k : Int) < (l.length : Int) := by omega
      cases r
      · go_wp2_with (go_at_call 41; refine P2.out.mono ?_; rintro e w5 ⟨rfl, HB5⟩)
        have HBB5 : Hid (Bk w5 w.heap.size 35 #[.int .i64 K, .string S, .int .i64 P] ∧ Bk w5 g 9 (l.map strV).toArray) := Lib.hid ⟨HBB.out.1.below HB5.out HBB.out.1.lt, HBB.out.2.below HB5.out HBB.out.2.lt⟩
        have HF5 : Hid (∀ j (h : j < l.length), j < k + 1 → tokd K S.data.toList l[j] = false) := Lib.hid (fun j hj hjk => by
          rcases Nat.lt_or_ge j k with h | h
          · exact HF.out j hj h
          · obtain rfl : j = k := by omega
            rw [HX.out]; exact HR.out)
        have HB6 : Hid (Below w.heap.size w w5) := Lib.hid (HB.out.trans (HB5.out.mono HB.out.size))
        go_roundw
        case rel => exact ⟨k + 1, by omega, by go_num, HF5, HBB5, HB6⟩
        case measure => simp [intOf]; omega
      · go_wp2_with (go_at_call 41; refine P2.out.mono ?_; rintro e w5 ⟨rfl, HB5⟩)
        go_ret2
        refine ⟨Lib.hid ?_, Lib.hid (HB.out.trans (HB5.out.mono HB.out.size))⟩
        rw [find_here hlt HF.out (by rw [HX.out]; exact HR.out), HX.out]
        rfl
    · obtain rfl : k = l.length := by omega
      have g0 : ¬ ((l.length : Int) < (l.length : Int)) := by omega
      have HN := Lib.hid (find_no (p := tokd K S.data.toList) HF.out)
      go_wp2_with fail
      go_ret2
      refine ⟨Lib.hid ?_, HB⟩
      rw [HN.out]
      rfl
end Go.Proofs.YtmnllioeaaimcaaDoor.tk
