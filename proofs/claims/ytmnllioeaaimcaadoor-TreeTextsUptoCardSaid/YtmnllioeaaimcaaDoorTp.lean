/- The document's answer of layer 4: the token at any place. -/
import Derived.Test.YtmnllioeaaimcaaDoorTm
import Derived.Test.YtmnllioeaaimcaaDoorTn
namespace Go.Proofs.YtmnllioeaaimcaaDoor.tk
open Go.RowKit

theorem token_any {w : World} {b off : Nat} {bs : List UInt8} {cb p : Nat} (hb : Hid (Rb w (some ⟨b, off, none⟩) bs)) (hl : bs.length ≤ 100000000) (hcap : bs.length ≤ cb) (hp : p < bs.length) (hblt : b < w.heap.size) :
    Calls Tryd.prog 44 #[.slice (some ⟨b, off, none⟩) bs.length cb, .int .i64 (p : Int)] w fun e w' => Hid (ScEnds (scan (bs.drop p)) p e) ∧ Hid (Below w.heap.size w w') := by
  by_cases h40 : bs[p].toNat = 40
  · exact token_paren hb hl hcap hp hblt (Or.inl ⟨h40, rfl⟩)
  by_cases h41 : bs[p].toNat = 41
  · exact token_paren hb hl hcap hp hblt (Or.inr ⟨h41, rfl⟩)
  by_cases hd : isDigit bs[p] = true
  · by_cases h1 : bs[p].toNat = 48 ∧ digitNext (bs.drop (p + 1)) = true
    · obtain ⟨h1, h2⟩ := h1
      have hp2 : p + 1 < bs.length := by
        rcases Nat.lt_or_ge (p + 1) bs.length with g | g
        · exact g
        · rw [List.drop_eq_nil_of_le g] at h2
          cases h2
      rw [digit_at hp2] at h2
      exact token_num0 hb hl hcap hp hblt hd h1 hp2 h2
    · exact token_num hb hl hcap hp hblt hd h1
  have hd : isDigit bs[p] = false := by simpa using hd
  by_cases h35 : bs[p].toNat = 35
  · by_cases hp2 : p + 1 < bs.length
    · by_cases h120 : bs[p + 1].toNat = 120
      · exact token_hex hb hl hcap hp hblt h35 hp2 h120
      by_cases h98 : bs[p + 1].toNat = 98
      · exact token_bin hb hl hcap hp hblt h35 hp2 h98
      exact token_hash1 hb hl hcap hp hblt h35 hp2 h120 h98
    · exact token_hash0 hb hl hcap hp hblt h35 (by omega)
  by_cases h34 : bs[p].toNat = 34
  · exact token_str hb hl hcap hp hblt h34
  by_cases h124 : bs[p].toNat = 124
  · exact token_bar hb hl hcap hp hblt h124
  by_cases h58 : bs[p].toNat = 58
  · exact token_key hb hl hcap hp hblt h58
  cases hi : isInner bs[p]
  · exact token_none hb hl hcap hp hblt hi h40 h41 hd h35 h34 h124 h58
  · exact token_word hb hl hcap hp hblt hi h40 h41 hd h35 h34 h124 h58
end Go.Proofs.YtmnllioeaaimcaaDoor.tk

/- The document's answer of layer 4: the tokens of a text. -/
namespace Go.Proofs.YtmnllioeaaimcaaDoor.tk
open Go.RowKit

theorem skip_drop {bs : List UInt8} {q : Nat} (hq : q ≤ bs.length) : skipL (bs.drop q) = bs.drop (skipAt bs q) ∧ q ≤ skipAt bs q ∧ skipAt bs q ≤ bs.length := by
  obtain ⟨a, ha⟩ := skip_suffix _ (bs.drop q) (Nat.le_refl _)
  have hl : (bs.drop q).length = a.length + (skipL (bs.drop q)).length := by
    have := congrArg List.length ha
    rwa [List.length_append] at this
  rw [List.length_drop] at hl
  have e : skipAt bs q = q + a.length := by unfold skipAt; omega
  refine ⟨?_, by omega, by omega⟩
  rw [e, ← List.drop_drop, ha, List.drop_append_of_le_length (Nat.le_refl _), List.drop_length, List.nil_append, ← ha]
/-- what is read ahead of the place q are the tokens D -/
def Pre (bs : List UInt8) (q : Nat) (D : List Tk) : Prop :=
  (∀ ts, Rd (bs.drop q) q ts → Rd bs 0 (D ++ ts)) ∧ (∀ e, Bd (bs.drop q) q e → Bd bs 0 e)
theorem Pre.start (bs : List UInt8) : Pre bs 0 [] := ⟨fun _ h => h, fun _ h => h⟩
section
variable {bs : List UInt8} {q : Nat} {D : List Tk}
theorem Pre.done (h : Pre bs q D) (hq : q ≤ bs.length) (ha : skipAt bs q = bs.length) : readL bs = .ok D := by
  have := h.1 [] (.done (by rw [(skip_drop hq).1, ha, List.drop_length]))
  rw [List.append_nil] at this
  exact readL_ok.2 this
theorem Pre.bad (h : Pre bs q D) (hq : q ≤ bs.length) (ha : skipAt bs q < bs.length) {n : Nat} (hs : scan (bs.drop (skipAt bs q)) = .bad n) : readL bs = .error (skipAt bs q + n) := by
  obtain ⟨h1, h2, h3⟩ := skip_drop hq
  have := Bd.here (p := q) h1 (by rw [drop_cons ha]; exact List.cons_ne_nil _ _) hs
  rw [List.length_drop, List.length_drop, show q + (bs.length - q - (bs.length - skipAt bs q)) + n = skipAt bs q + n by omega] at this
  exact readL_bad.2 (h.2 _ this)
theorem Pre.step (h : Pre bs q D) (hq : q ≤ bs.length) (ha : skipAt bs q < bs.length) {k n : Nat} {t : List UInt8} (hs : scan (bs.drop (skipAt bs q)) = .tok k t n) :
    Pre bs (skipAt bs q + n) (D ++ [⟨k, t, skipAt bs q⟩]) ∧ 1 ≤ n ∧ skipAt bs q + n ≤ bs.length := by
  obtain ⟨h1, h2, h3⟩ := skip_drop hq
  have hn := scan_len.1 _ _ _ hs
  rw [List.length_drop] at hn
  have e : q + ((bs.drop q).length - (bs.drop (skipAt bs q)).length) = skipAt bs q := by rw [List.length_drop, List.length_drop]; omega
  refine ⟨⟨fun ts hr => ?_, fun x hr => ?_⟩, hn.1, by omega⟩
  · rw [List.append_assoc]
    refine h.1 _ ?_
    have := Rd.step (p := q) (ts := ts) h1 (by rw [drop_cons ha]; exact List.cons_ne_nil _ _) hs (by rw [e, List.drop_drop]; exact hr)
    rw [e] at this
    exact this
  · refine h.2 _ (Bd.later h1 (by rw [drop_cons ha]; exact List.cons_ne_nil _ _) hs ?_)
    rw [e, List.drop_drop]
    exact hr
end
def tkCells (D : List Tk) : List Value := D.flatMap fun x => [.int .i64 (x.kind : Int), .string ⟨x.text.toArray⟩, .int .i64 (x.at_ : Int)]
theorem tkCells_append (a b : List Tk) : tkCells (a ++ b) = tkCells a ++ tkCells b := by unfold tkCells; rw [List.flatMap_append]
theorem tkCells_len (a : List Tk) : (tkCells a).length = a.length * 3 := by
  induction a with
  | nil => rfl
  | cons x r ih =>
    have : tkCells (x :: r) = [.int .i64 (x.kind : Int), .string ⟨x.text.toArray⟩, .int .i64 (x.at_ : Int)] ++ tkCells r := rfl
    rw [this, List.length_append, ih]
    simp; omega
theorem token_tok {w : World} {b off : Nat} {bs : List UInt8} {cb p k n : Nat} {t : List UInt8} (hs : Hid (scan (bs.drop p) = .tok k t n)) (hb : Hid (Rb w (some ⟨b, off, none⟩) bs)) (hl : bs.length ≤ 100000000) (hcap : bs.length ≤ cb) (hp : p < bs.length) (hblt : b < w.heap.size) :
    Calls Tryd.prog 44 #[.slice (some ⟨b, off, none⟩) bs.length cb, .int .i64 (p : Int)] w fun e w' => e = .returned (.tuple #[.agg #[.int .i64 (k : Int), .string ⟨t.toArray⟩, .int .i64 (p : Int)], .int .i64 ((p + n : Nat) : Int), .int .i64 (-1)]) ∧ Hid (Below w.heap.size w w') :=
  (token_any hb hl hcap hp hblt).mono (by rintro e w' ⟨hE, hB⟩; have h := hE.out; rw [hs.out] at h; exact ⟨h, hB⟩)
theorem token_bad {w : World} {b off : Nat} {bs : List UInt8} {cb p n : Nat} (hs : Hid (scan (bs.drop p) = .bad n)) (hb : Hid (Rb w (some ⟨b, off, none⟩) bs)) (hl : bs.length ≤ 100000000) (hcap : bs.length ≤ cb) (hp : p < bs.length) (hblt : b < w.heap.size) :
    Calls Tryd.prog 44 #[.slice (some ⟨b, off, none⟩) bs.length cb, .int .i64 (p : Int)] w fun e w' => ∃ k t, e = .returned (.tuple #[.agg #[.int .i64 ((k : Nat) : Int), .string ⟨(t : List UInt8).toArray⟩, .int .i64 (p : Int)], .int .i64 0, .int .i64 ((p + n : Nat) : Int)]) ∧ Hid (Below w.heap.size w w') :=
  (token_any hb hl hcap hp hblt).mono (by rintro e w' ⟨hE, hB⟩; have h := hE.out; rw [hs.out] at h; obtain ⟨k, t, h⟩ := h; exact ⟨k, t, h, hB⟩)
theorem info_tk : (Tryd.prog.info? 35).map (fun i => (i.zero, i.size, i.bytes)) = some (some (.agg #[.int .i64 0, .string ⟨#[]⟩, .int .i64 0]), 3, 32) := by kernel_rfl
end Go.Proofs.YtmnllioeaaimcaaDoor.tk
