/- Package dag: a term is sought in its bucket. -/
import Derived.Test.YtdnhhfhjjimcgaaDoorGp
namespace Go.Proofs.YtdnhhfhjjimcgaaDoor.dg
open Go Go.RowKit

theorem Nb.le {n len : Nat} (h : Nb n len) (hl : len ≤ 1000000) : n ≤ 4000000 := by
  obtain ⟨k, e, h1, h2⟩ := h
  rcases h2 with rfl | h2
  · simp at e; omega
  · omega
/-- what is read of the table -/
theorem Tb.read {w : World} {F J : Nat → Prop} {ib : Nat} {hs : List Int} {n k : Nat} (h : Tb w F J ib hs n k) (hn : 0 < n) {b : Nat} (hb : b < n) : ∃ gb cb Ah ch A c, Bk w ib 86 #[.slice Ah hs.length ch, .slice (some ⟨gb, 0, none⟩) n cb] ∧ gb < w.heap.size ∧
    w.cell? ⟨gb, b, none⟩ = some (.slice A (bucket hs n b k).length c) ∧ Ri w J (bucket hs n b k) A c ∧ (∀ i (hi : i < hs.length), ∃ g, Ah = some ⟨g, 0, none⟩ ∧ w.cell? ⟨g, i, none⟩ = some (.int .u64 (hs[i]'hi))) := by
  obtain ⟨hv, bv, bs, h1, h2, h3, h4, h5, h6, h7, h8⟩ := h
  obtain ⟨v, k1, k2, k3⟩ := h7 b hb
  obtain ⟨gb, cb, rfl, hgb, _, hcb, _⟩ := own_pos h5 hn
  obtain ⟨Ah, ch, rfl, _, _⟩ := own_slice h3
  obtain ⟨A, c, rfl, _, _⟩ := own_slice k2
  refine ⟨gb, cb, Ah, ch, A, c, h1, hgb, ?_, (Ri.of_own k2 k3).2, fun i hi => ?_⟩
  · rw [hcb b (by omega)]; exact k1
  · obtain ⟨g, c2, e, _, _, hc, _⟩ := own_pos h3 (by omega)
    injection e with e _ _
    exact ⟨g, e, by rw [hc i (by omega)]; simp [hi]⟩
theorem Tb.drewN {w : World} {F J : Nat → Prop} {ib : Nat} {hs : List Int} {n k : Nat} (h : Tb w F J ib hs n k) (m : Nat) : Tb (w.drewN m) F J ib hs n k := h
theorem Tb.lens {w : World} {F J : Nat → Prop} {ib : Nat} {hs : List Int} {n k : Nat} (h : Tb w F J ib hs n k) (hn : 0 < n) : ∃ gb cb Ah ch, Bk w ib 86 #[.slice Ah hs.length ch, .slice (some ⟨gb, 0, none⟩) n cb] := by
  obtain ⟨gb, cb, Ah, ch, A, c, h1, _⟩ := h.read hn hn
  exact ⟨gb, cb, Ah, ch, h1⟩
theorem slot_wrap {h : Int} {n : Nat} (h0 : 0 ≤ h) (hn : 0 < n) (hn2 : n ≤ 4000000) : wrap64 (h.tmod (n : Int)) = (slot h n : Int) := by
  obtain ⟨m, rfl⟩ : ∃ m : Nat, h = (m : Int) := ⟨h.toNat, by omega⟩
  have e : ((m : Int)).tmod (n : Int) = ((m % n : Nat) : Int) := rfl
  have hl : m % n < n := Nat.mod_lt _ hn
  rw [e]
  unfold slot wrap64
  rw [Int.toNat_natCast]
  omega
set_option maxRecDepth 100000 in
set_option maxHeartbeats 4000000 in
theorem at_any {w : World} {F J : Nat → Prop} {ib : Nat} {hs : List Int} {n k : Nat} (H : Hid (Tb w F J ib hs n k)) (hn : 0 < n) (hn2 : n ≤ 4000000) {h : Int} (h0 : Hid (0 ≤ h ∧ h < 18446744073709551616)) :
    Calls Tryd.prog 67 #[.pointer (some ⟨ib, 0, none⟩), .int .u64 h] w fun e w' => e = .returned (.int .i64 (slot h n : Int)) ∧ w = w' := by
  obtain ⟨gb, cb, Ah, ch, hb⟩ := H.out.lens hn
  have c0 := hb.cell 0
  have c1 := hb.cell 1
  have hlt := hb.lt
  have hm : Hid (wrap64 (h.tmod (n : Int)) = (slot h n : Int)) := Lib.hid (slot_wrap h0.out.1 hn hn2)
  have g0 : ¬ (n : Int) = 0 := by omega
  have g1 : (n : Int) < 18446744073709551616 := by omega
  clear hb
  go_enter Tryd.func67, Tryd.ntmps67
  go_wp2_with fail
  rw [hm.out]
  go_ret
  exact ⟨rfl, rfl⟩

theorem slot_lt (h : Int) {n : Nat} (hn : 0 < n) : slot h n < n := Nat.mod_lt _ hn
theorem bucket_mem {hs : List Int} {n b k : Nat} {z : Int} (h : z ∈ bucket hs n b k) : ∃ i : Nat, z = (i : Int) ∧ i < k ∧ slot (hs.getD i 0) n = b := by
  unfold bucket at h
  rw [List.mem_map] at h
  obtain ⟨i, h1, rfl⟩ := h
  rw [List.mem_filter] at h1
  exact ⟨i, rfl, by simpa using h1.1, by simpa using h1.2⟩
theorem bucket_has {hs : List Int} {n k i : Nat} (hi : i < k) : (i : Int) ∈ bucket hs n (slot (hs.getD i 0) n) k := by
  unfold bucket
  rw [List.mem_map]
  exact ⟨i, List.mem_filter.2 ⟨by simpa using hi, by simp⟩, rfl⟩
theorem bucket_len {hs : List Int} {n b k : Nat} : (bucket hs n b k).length ≤ k := by
  unfold bucket
  rw [List.length_map]
  exact Nat.le_trans (List.length_filter_le _ _) (by simp)
theorem hash_at {S : St} {i : Nat} (h : i < S.terms.length) : (hashes S).getD i 0 = hash S.terms[i].t := by
  simp [hashes, List.getD, h]
theorem hashes_len (S : St) : (hashes S).length = S.terms.length := by simp [hashes]
/-- places rise in a bucket -/
theorem bucket_rise {hs : List Int} {n b k : Nat} : (bucket hs n b k).Pairwise (· < ·) := by
  unfold bucket
  rw [List.pairwise_map]
  refine List.Pairwise.filter _ ?_
  have := List.pairwise_lt_range (n := k)
  exact this.imp fun h => by omega
end Go.Proofs.YtdnhhfhjjimcgaaDoor.dg
