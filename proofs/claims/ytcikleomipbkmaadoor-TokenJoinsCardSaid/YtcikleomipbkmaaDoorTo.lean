/- The document's answer of layer 4: the token at any place. -/
import Derived.Test.YtcikleomipbkmaaDoorTm
import Derived.Test.YtcikleomipbkmaaDoorTn
namespace Go.Proofs.YtcikleomipbkmaaDoor.tk
open Go.RowKit

theorem token_any {w : World} {b off : Nat} {bs : List UInt8} {cb p : Nat} (hb : Hid (Rb w (some ⟨b, off, none⟩) bs)) (hl : bs.length ≤ 100000) (hcap : bs.length ≤ cb) (hp : p < bs.length) (hblt : b < w.heap.size) :
    Calls Tryd.prog 16 #[.slice (some ⟨b, off, none⟩) bs.length cb, .int .i64 (p : Int)] w fun e w' => Hid (ScEnds (scan (bs.drop p)) p e) ∧ Hid (Below w.heap.size w w') := by
  by_cases h40 : bs[p].toNat = 40
  · exact token_paren hb hl hcap hp hblt (Or.inl ⟨h40, rfl⟩)
  by_cases h41 : bs[p].toNat = 41
  · exact token_paren hb hl hcap hp hblt (Or.inr ⟨h41, rfl⟩)
  by_cases hd : isDigit bs[p] = true
  · by_cases h1 : bs[p].toNat = 48 ∧ digitNext (bs.drop (p + 1)) = true
    · obtain ⟨h1, h2⟩ := h1
      have hp2 : p + 1 < bs.length := by
        rcases Nat.lt_or_ge (p + 1) bs.length with g | g
        · exact g
        · rw [List.drop_eq_nil_of_le g] at h2
          cases h2
      rw [digit_at hp2] at h2
      exact token_num0 hb hl hcap hp hblt hd h1 hp2 h2
    · exact token_num hb hl hcap hp hblt hd h1
  have hd : isDigit bs[p] = false := by simpa using hd
  by_cases h35 : bs[p].toNat = 35
  · by_cases hp2 : p + 1 < bs.length
    · by_cases h120 : bs[p + 1].toNat = 120
      · exact token_hex hb hl hcap hp hblt h35 hp2 h120
      by_cases h98 : bs[p + 1].toNat = 98
      · exact token_bin hb hl hcap hp hblt h35 hp2 h98
      exact token_hash1 hb hl hcap hp hblt h35 hp2 h120 h98
    · exact token_hash0 hb hl hcap hp hblt h35 (by omega)
  by_cases h34 : bs[p].toNat = 34
  · exact token_str hb hl hcap hp hblt h34
  by_cases h124 : bs[p].toNat = 124
  · exact token_bar hb hl hcap hp hblt h124
  by_cases h58 : bs[p].toNat = 58
  · exact token_key hb hl hcap hp hblt h58
  cases hi : isInner bs[p]
  · exact token_none hb hl hcap hp hblt hi h40 h41 hd h35 h34 h124 h58
  · exact token_word hb hl hcap hp hblt hi h40 h41 hd h35 h34 h124 h58
end Go.Proofs.YtcikleomipbkmaaDoor.tk
