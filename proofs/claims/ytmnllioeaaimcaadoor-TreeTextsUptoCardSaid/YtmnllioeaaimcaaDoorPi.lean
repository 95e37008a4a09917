/- Package token: the method that reads the token at a place. -/
import Derived.Test.YtmnllioeaaimcaaDoorPh
import Derived.Test.YtmnllioeaaimcaaDoorTm
namespace Go.Proofs.YtmnllioeaaimcaaDoor.tk
open Go.RowKit

/-- a method that reads what stands at place p -/
structure Meth (K : FuncId) (R : Nat) (A : Option Addr) (bs : List UInt8) (cb p : Nat) : Prop where
  enters : ∀ (args : Array Value) (w : World), (callFunc K args).run Tryd.prog w = .ok (.enter K args) w
  calls : ∀ W, Rs W R A bs cb p → Calls Tryd.prog K #[.pointer (some ⟨R, 0, none⟩)] W fun e w' => Hid (TokIs R A bs cb (scan (bs.drop p)) p e w') ∧ Hid (But R W w')
section
variable {R : Nat} {A : Option Addr} {bs : List UInt8} {cb p : Nat}
theorem here_inner {q : Nat} : innerNext (bs.drop q) = isInner (hereB bs q) := by
  rcases Nat.lt_or_ge q bs.length with h | h
  · rw [inner_at h, here_at h]
  · rw [List.drop_eq_nil_of_le h, here_end h]
    decide
theorem EndIs.tok {k Q : Nat} {T : List UInt8} {e : Ending} {w' : World} (h : EndIs R A bs cb k T Q p e w') (hpq : p ≤ Q) : TokIs R A bs cb (endsAt k T (Q - p) (bs.drop Q)) p e w' := by
  rcases h with ⟨h, rfl⟩ | ⟨h, rfl, hr⟩
  · rw [ends_no (by rw [here_inner]; exact h)]
    show _ = Pan _
    rw [show p + (Q - p) = Q by omega]
  · rw [ends_yes (by rw [here_inner]; exact h)]
    exact ⟨rfl, by rw [show p + (Q - p) = Q by omega]; exact hr⟩
theorem tokIs_ok {k n Q : Nat} {T : List UInt8} {w' : World} (hn : p + n = Q) (hr : Rs w' R A bs cb Q) : TokIs R A bs cb (.tok k T n) p (.returned (Tv k T p)) w' := ⟨rfl, by rw [hn]; exact hr⟩
theorem tokIs_no {n Q : Nat} {w' : World} (hn : p + n = Q) : TokIs R A bs cb (.bad n) p (Pan Q) w' := by
  show _ = Pan _
  rw [hn]
theorem u8 {a b : UInt8} (h : a.toNat = b.toNat) : a = b := UInt8.toNat_inj.1 h
theorem meth_paren (hl : bs.length ≤ 100000000) (hcap : bs.length ≤ cb) (hp : p < bs.length) (h : bs[p].toNat = 40 ∨ bs[p].toNat = 41) : Meth 49 R A bs cb p := by
  refine ⟨enters_of Tryd.func49 (by kernel_rfl) (by kernel_rfl), fun W hr => ?_⟩
  have H := Lib.hid hr
  rcases h with h | h
  · refine (tparen1 H hl hcap hp (u8 h)).mono ?_
    rintro e w' ⟨rfl, HR, HB⟩
    rw [scan_paren hp (Or.inl ⟨h, rfl⟩), u8 (b := 40) h]
    exact ⟨Lib.hid (tokIs_ok rfl HR.out), HB⟩
  · refine (tparen2 H hl hcap hp (u8 h)).mono ?_
    rintro e w' ⟨rfl, HR, HB⟩
    rw [scan_paren hp (Or.inr ⟨h, rfl⟩), u8 (b := 41) h]
    exact ⟨Lib.hid (tokIs_ok rfl HR.out), HB⟩
theorem meth_key (hl : bs.length ≤ 100000000) (hcap : bs.length ≤ cb) (hp : p < bs.length) (h : bs[p].toNat = 58) : Meth 54 R A bs cb p := by
  refine ⟨enters_of Tryd.func54 (by kernel_rfl) (by kernel_rfl), fun W hr => ?_⟩
  have H := Lib.hid hr
  have hg := runE_ge (f := isInner) (bs := bs) (i := p + 1)
  rw [scan_key_at hp h]
  by_cases e : runE isInner bs (p + 1) = p + 1
  · rw [if_pos e]
    refine (tkey_no H hl hcap hp e).mono ?_
    rintro e w' ⟨rfl, HB⟩
    exact ⟨Lib.hid (tokIs_no rfl), HB⟩
  · rw [if_neg e]
    refine (tkey_ok H hl hcap hp e).mono ?_
    rintro e w' ⟨rfl, HR, HB⟩
    exact ⟨Lib.hid (tokIs_ok (by omega) HR.out), HB⟩
theorem meth_bar (hl : bs.length ≤ 100000000) (hcap : bs.length ≤ cb) (hp : p < bs.length) (h : bs[p].toNat = 124) : Meth 55 R A bs cb p := by
  refine ⟨enters_of Tryd.func55 (by kernel_rfl) (by kernel_rfl), fun W hr => ?_⟩
  have H := Lib.hid hr
  have hg := runE_ge (f := isBar) (bs := bs) (i := p + 1)
  rw [scan_bar_q hp h rfl]
  by_cases e : hereB bs (runE isBar bs (p + 1)) = 124
  · obtain ⟨hq, e2⟩ : ∃ hq : runE isBar bs (p + 1) < bs.length, bs[runE isBar bs (p + 1)] = 124 := by
      unfold hereB at e
      split at e
      · rename_i hq; exact ⟨hq, e⟩
      · cases e
    rw [dif_pos hq, if_pos (by rw [e2]; rfl)]
    refine (tbar_ok H hl hcap hp e).mono ?_
    rintro e w' ⟨rfl, HR, HB⟩
    exact ⟨Lib.hid (tokIs_ok (by omega) HR.out), HB⟩
  · have e3 : (if hq : runE isBar bs (p + 1) < bs.length then (if (bs[runE isBar bs (p + 1)]'hq).toNat = 124 then Sc.tok 3 (cutL bs (p + 1) (runE isBar bs (p + 1))) (runE isBar bs (p + 1) + 1 - p) else .bad (runE isBar bs (p + 1) - p)) else .bad (runE isBar bs (p + 1) - p)) = .bad (runE isBar bs (p + 1) - p) := by
      split
      · rename_i hq
        rw [if_neg (fun e4 => e (by rw [here_at hq]; exact u8 e4))]
      · rfl
    rw [e3]
    refine (tbar_no H hl hcap hp e).mono ?_
    rintro e w' ⟨rfl, HB⟩
    exact ⟨Lib.hid (tokIs_no (by omega)), HB⟩
theorem meth_quo (hl : bs.length ≤ 100000000) (hcap : bs.length ≤ cb) (hp : p < bs.length) (h : bs[p].toNat = 34) : Meth 53 R A bs cb p := by
  refine ⟨enters_of Tryd.func53 (by kernel_rfl) (by kernel_rfl), fun W hr => ?_⟩
  have H := Lib.hid hr
  rw [scan_str_at hp h]
  exact tquo H hl hcap hp
theorem meth_word (hl : bs.length ≤ 100000000) (hcap : bs.length ≤ cb) (hp : p < bs.length) (hi : isInner bs[p] = true) (h40 : bs[p].toNat ≠ 40) (h41 : bs[p].toNat ≠ 41) (hd : isDigit bs[p] = false) (h35 : bs[p].toNat ≠ 35) (h34 : bs[p].toNat ≠ 34) (h124 : bs[p].toNat ≠ 124) (h58 : bs[p].toNat ≠ 58) : Meth 57 R A bs cb p := by
  refine ⟨enters_of Tryd.func57 (by kernel_rfl) (by kernel_rfl), fun W hr => ?_⟩
  have H := Lib.hid hr
  have hg : p + 1 ≤ runE isInner bs p := by rw [runE_step hp hi]; exact runE_ge
  rw [scan_word_at hp hi h40 h41 hd h35 h34 h124 h58]
  cases hr : reservedWords.contains (cutL bs p (runE isInner bs p))
  · refine (tword_sym H hl hcap hp hr).mono ?_
    rintro e w' ⟨rfl, HR, HB⟩
    exact ⟨Lib.hid (tokIs_ok (by omega) HR.out), HB⟩
  · refine (tword_res H hl hcap hp hr).mono ?_
    rintro e w' ⟨rfl, HR, HB⟩
    exact ⟨Lib.hid (tokIs_ok (by omega) HR.out), HB⟩
theorem meth_none (hl : bs.length ≤ 100000000) (hcap : bs.length ≤ cb) (hp : p < bs.length) (hi : isInner bs[p] = false) (h40 : bs[p].toNat ≠ 40) (h41 : bs[p].toNat ≠ 41) (hd : isDigit bs[p] = false) (h35 : bs[p].toNat ≠ 35) (h34 : bs[p].toNat ≠ 34) (h124 : bs[p].toNat ≠ 124) (h58 : bs[p].toNat ≠ 58) : Meth 58 R A bs cb p := by
  refine ⟨enters_of Tryd.func58 (by kernel_rfl) (by kernel_rfl), fun W hr => ?_⟩
  have H := Lib.hid hr
  rw [scan_none_at hp hi h40 h41 hd h35 h34 h124 h58]
  refine (tnone H hl hcap hp).mono ?_
  rintro e w' ⟨rfl, HB⟩
  exact ⟨Lib.hid (tokIs_no rfl), HB⟩
theorem meth_bits (hl : bs.length ≤ 100000000) (hcap : bs.length ≤ cb) (hp : p < bs.length) (h : bs[p].toNat = 35) : Meth 52 R A bs cb p := by
  refine ⟨enters_of Tryd.func52 (by kernel_rfl) (by kernel_rfl), fun W hr => ?_⟩
  have H := Lib.hid hr
  rw [scan_hash_at hp h]
  by_cases hx : hereB bs (p + 1) = 120
  · have hp2 : p + 1 < bs.length := by
      rcases Nat.lt_or_ge (p + 1) bs.length with g | g
      · exact g
      · rw [here_end g] at hx; cases hx
    rw [hash_run (f := isHex) (k := 7) hp2 (Or.inl ⟨by rw [here_at hp2] at hx; rw [hx]; rfl, rfl, rfl⟩)]
    by_cases e : runE isHex bs (p + 2) = p + 2
    · rw [if_pos e]
      refine (tbits_hex_no H hl hcap hp hx hp2 e).mono ?_
      rintro e w' ⟨rfl, HB⟩
      exact ⟨Lib.hid (tokIs_no rfl), HB⟩
    · rw [if_neg e]
      refine (tbits_hex_some H hl hcap hp hx hp2 e).mono ?_
      rintro e w' ⟨HE, HB⟩
      have := runE_ge (f := isHex) (bs := bs) (i := p + 2)
      exact ⟨Lib.hid (HE.out.tok (by omega)), HB⟩
  · by_cases hy : hereB bs (p + 1) = 98
    · have hp2 : p + 1 < bs.length := by
        rcases Nat.lt_or_ge (p + 1) bs.length with g | g
        · exact g
        · rw [here_end g] at hy; cases hy
      rw [hash_run (f := isBin) (k := 8) hp2 (Or.inr ⟨by rw [here_at hp2] at hy; rw [hy]; rfl, rfl, rfl⟩)]
      by_cases e : runE isBin bs (p + 2) = p + 2
      · rw [if_pos e]
        refine (tbits_bin_no H hl hcap hp hy hp2 e).mono ?_
        rintro e w' ⟨rfl, HB⟩
        exact ⟨Lib.hid (tokIs_no rfl), HB⟩
      · rw [if_neg e]
        refine (tbits_bin_some H hl hcap hp hy hp2 e).mono ?_
        rintro e w' ⟨HE, HB⟩
        have := runE_ge (f := isBin) (bs := bs) (i := p + 2)
        exact ⟨Lib.hid (HE.out.tok (by omega)), HB⟩
    · refine (tbits_none H hl hcap hp hx hy).mono ?_
      rintro e w' ⟨rfl, HB⟩
      rcases Nat.lt_or_ge (p + 1) bs.length with g | g
      · rw [here_at g] at hx hy
        rw [hash_none g (fun e => hx (u8 e)) (fun e => hy (u8 e))]
        exact ⟨Lib.hid (tokIs_no rfl), HB⟩
      · rw [hash_short (by omega)]
        exact ⟨Lib.hid (tokIs_no rfl), HB⟩
theorem inner_digit {c : UInt8} (h : isDigit c = true) : isInner c = true := by
  unfold isInner
  rw [h]
  simp
theorem num_sel {Q : Nat} (hp : p < bs.length) (hd : isDigit bs[p] = true) (h1 : ¬ (bs[p].toNat = 48 ∧ digitNext (bs.drop (p + 1)) = true)) (hQ : runE isDigit bs (p + 1) = Q) :
    (∃ h2 : Q + 1 < bs.length, hereB bs Q = 46 ∧ isDigit (bs[Q + 1]'h2) = true ∧ scan (bs.drop p) = endsAt 6 (cutL bs p (runE isDigit bs (Q + 1))) (runE isDigit bs (Q + 1) - p) (bs.drop (runE isDigit bs (Q + 1)))) ∨
    ((hereB bs Q ≠ 46 ∨ (hereB bs Q = 46 ∧ (bs.length ≤ Q + 1 ∨ ∃ h2 : Q + 1 < bs.length, isDigit (bs[Q + 1]'h2) = false))) ∧ scan (bs.drop p) = endsAt 5 (cutL bs p Q) (Q - p) (bs.drop Q)) := by
  rw [num_run hp hd h1 hQ]
  by_cases hq : Q + 1 < bs.length
  · rw [dif_pos hq]
    by_cases hB : bs[Q].toNat = 46 ∧ isDigit bs[Q + 1] = true
    · rw [if_pos hB]
      exact Or.inl ⟨hq, by rw [here_at (by omega)]; exact u8 hB.1, hB.2, rfl⟩
    · rw [if_neg hB]
      refine Or.inr ⟨?_, rfl⟩
      by_cases h46 : hereB bs Q = 46
      · refine Or.inr ⟨h46, Or.inr ⟨hq, ?_⟩⟩
        rw [here_at (by omega)] at h46
        cases hx : isDigit bs[Q + 1]
        · rfl
        · exact absurd ⟨by rw [h46]; rfl, hx⟩ hB
      · exact Or.inl h46
  · rw [dif_neg hq]
    refine Or.inr ⟨?_, rfl⟩
    by_cases h46 : hereB bs Q = 46
    · exact Or.inr ⟨h46, Or.inl (by omega)⟩
    · exact Or.inl h46
theorem meth_num (hl : bs.length ≤ 100000000) (hcap : bs.length ≤ cb) (hp : p < bs.length) (hd : isDigit bs[p] = true) : Meth 51 R A bs cb p := by
  refine ⟨enters_of Tryd.func51 (by kernel_rfl) (by kernel_rfl), fun W hr => ?_⟩
  have H := Lib.hid hr
  by_cases h0 : bs[p] = 48
  · by_cases hdn : digitNext (bs.drop (p + 1)) = true
    · have hp2 : p + 1 < bs.length := by
        rcases Nat.lt_or_ge (p + 1) bs.length with g | g
        · exact g
        · rw [List.drop_eq_nil_of_le g] at hdn
          cases hdn
      rw [digit_at hp2] at hdn
      rw [num_bad hp hd (by rw [h0]; rfl) hp2 hdn]
      have hn46 : hereB bs (p + 1) ≠ 46 := by
        rw [here_at hp2]
        intro e
        rw [e] at hdn
        revert hdn
        decide
      refine (tnum_z_a H hl hcap hp h0 hn46).mono ?_
      rintro e w' ⟨HE, HB⟩
      refine ⟨Lib.hid ?_, HB⟩
      rcases HE.out with ⟨_, rfl⟩ | ⟨h, _⟩
      · exact tokIs_no rfl
      · rw [here_at hp2, inner_digit hdn] at h
        cases h
    · have h1 : ¬ (bs[p].toNat = 48 ∧ digitNext (bs.drop (p + 1)) = true) := fun e => hdn e.2
      have hQ : runE isDigit bs (p + 1) = p + 1 := by
        rcases Nat.lt_or_ge (p + 1) bs.length with g | g
        · exact runE_stop g (by rw [digit_at g] at hdn; simpa using hdn)
        · rw [show p + 1 = bs.length by omega]
          exact runE_end
      rcases num_sel hp hd h1 hQ with ⟨h2, h46, h3, hs⟩ | ⟨hv, hs⟩
      · rw [hs]
        refine (tnum_z_dot H hl hcap hp h0 h46 h2 h3 (Lib.hid rfl)).mono ?_
        rintro e w' ⟨HE, HB⟩
        have := runE_ge (f := isDigit) (bs := bs) (i := (p + 1) + 1)
        exact ⟨Lib.hid (HE.out.tok (by omega)), HB⟩
      · rw [hs]
        rcases hv with hv | ⟨h46, hv | ⟨h2, h3⟩⟩
        · exact (tnum_z_a H hl hcap hp h0 hv).mono fun _ _ ⟨HE, HB⟩ => ⟨Lib.hid (HE.out.tok (by omega)), HB⟩
        · exact (tnum_z_b H hl hcap hp h0 h46 hv).mono fun _ _ ⟨HE, HB⟩ => ⟨Lib.hid (HE.out.tok (by omega)), HB⟩
        · exact (tnum_z_c H hl hcap hp h0 h46 h2 h3).mono fun _ _ ⟨HE, HB⟩ => ⟨Lib.hid (HE.out.tok (by omega)), HB⟩
  · have h1 : ¬ (bs[p].toNat = 48 ∧ digitNext (bs.drop (p + 1)) = true) := fun e => h0 (u8 e.1)
    obtain ⟨Q, hQ⟩ : ∃ Q, runE isDigit bs (p + 1) = Q := ⟨_, rfl⟩
    have HQ : Hid (runE isDigit bs p = Q) := Lib.hid ((runE_step hp hd).trans hQ)
    have hQ1 : p + 1 ≤ Q := hQ ▸ runE_ge
    have hQ2 : Q ≤ bs.length := hQ ▸ runE_le (by omega)
    rcases num_sel hp hd h1 hQ with ⟨h2, h46, h3, hs⟩ | ⟨hv, hs⟩
    · rw [hs]
      refine (tnum_d_dot H hl hcap hp h0 HQ h46 h2 h3 (Lib.hid rfl)).mono ?_
      rintro e w' ⟨HE, HB⟩
      have := runE_ge (f := isDigit) (bs := bs) (i := Q + 1)
      exact ⟨Lib.hid (HE.out.tok (by omega)), HB⟩
    · rw [hs]
      rcases hv with hv | ⟨h46, hv | ⟨h2, h3⟩⟩
      · exact (tnum_d_a H hl hcap hp h0 HQ hv).mono fun _ _ ⟨HE, HB⟩ => ⟨Lib.hid (HE.out.tok (by omega)), HB⟩
      · exact (tnum_d_b H hl hcap hp h0 HQ h46 hv).mono fun _ _ ⟨HE, HB⟩ => ⟨Lib.hid (HE.out.tok (by omega)), HB⟩
      · exact (tnum_d_c H hl hcap hp h0 HQ h46 h2 h3).mono fun _ _ ⟨HE, HB⟩ => ⟨Lib.hid (HE.out.tok (by omega)), HB⟩
end

/-- what 'way' gives -/
def WayIs (R : Nat) (A : Option Addr) (bs : List UInt8) (cb p : Nat) (w : World) (e : Ending) (w' : World) : Prop :=
  ∃ K, e = .returned (.func (.func K) #[.pointer (some ⟨R, 0, none⟩)] #[]) ∧ Meth K R A bs cb p ∧ ∃ n, w' = w.drewN n
set_option maxRecDepth 100000 in
set_option maxHeartbeats 2000000 in
theorem way_paren40 {w : World} {R : Nat} {A : Option Addr} {bs : List UInt8} {cb p : Nat} (H : Hid (Rs w R A bs cb p)) (hl : bs.length ≤ 100000000) (hcap : bs.length ≤ cb) (hp : p < bs.length) (h : bs[p].toNat = 40) :
    Calls Tryd.prog 36 #[.pointer (some ⟨R, 0, none⟩)] w fun e w' => Hid (WayIs R A bs cb p w e w') := by
  have HM := Lib.hid (meth_paren (R := R) (A := A) (cb := cb) hl hcap hp (Or.inl h))
  have P := here_any H hl hcap
  rw [here_at hp] at P
  have P := Lib.hid P
  obtain ⟨c, hc⟩ : ∃ c, bs[p] = c := ⟨_, rfl⟩
  simp only [hc] at *
  have hmf : ∀ (fn : Fn) (first cap : Array Value) (w : World), (Instr.makeFunc fn first cap).run Tryd.prog w = .ok (.func fn first cap) w := fun _ _ _ _ => rfl
  have d40 : (((c.toNat : Int) == 40) : Bool) = true := by rw [beq_iff_eq]; omega
  clear h
  go_enter Tryd.func36, Tryd.ntmps36
  go_wp2_with (first | (go_at_call 47; refine P.out.mono ?_; rintro e w1 ⟨rfl, n, rfl⟩))
  go_ret
  exact Lib.hid ⟨_, rfl, HM.out, _, rfl⟩
set_option maxRecDepth 100000 in
set_option maxHeartbeats 2000000 in
theorem way_paren41 {w : World} {R : Nat} {A : Option Addr} {bs : List UInt8} {cb p : Nat} (H : Hid (Rs w R A bs cb p)) (hl : bs.length ≤ 100000000) (hcap : bs.length ≤ cb) (hp : p < bs.length) (h : bs[p].toNat = 41) :
    Calls Tryd.prog 36 #[.pointer (some ⟨R, 0, none⟩)] w fun e w' => Hid (WayIs R A bs cb p w e w') := by
  have HM := Lib.hid (meth_paren (R := R) (A := A) (cb := cb) hl hcap hp (Or.inr h))
  have P := here_any H hl hcap
  rw [here_at hp] at P
  have P := Lib.hid P
  obtain ⟨c, hc⟩ : ∃ c, bs[p] = c := ⟨_, rfl⟩
  simp only [hc] at *
  have hmf : ∀ (fn : Fn) (first cap : Array Value) (w : World), (Instr.makeFunc fn first cap).run Tryd.prog w = .ok (.func fn first cap) w := fun _ _ _ _ => rfl
  have d40 : (((c.toNat : Int) == 40) : Bool) = false := by rw [beq_eq_false_iff_ne]; omega
  have d41 : (((c.toNat : Int) == 41) : Bool) = true := by rw [beq_iff_eq]; omega
  clear h
  go_enter Tryd.func36, Tryd.ntmps36
  go_wp2_with (first | (go_at_call 47; refine P.out.mono ?_; rintro e w1 ⟨rfl, n, rfl⟩))
  go_ret
  exact Lib.hid ⟨_, rfl, HM.out, _, rfl⟩
set_option maxRecDepth 100000 in
set_option maxHeartbeats 2000000 in
theorem way_num {w : World} {R : Nat} {A : Option Addr} {bs : List UInt8} {cb p : Nat} (H : Hid (Rs w R A bs cb p)) (hl : bs.length ≤ 100000000) (hcap : bs.length ≤ cb) (hp : p < bs.length) (hd : isDigit bs[p] = true) :
    Calls Tryd.prog 36 #[.pointer (some ⟨R, 0, none⟩)] w fun e w' => Hid (WayIs R A bs cb p w e w') := by
  have HM := Lib.hid (meth_num (R := R) (A := A) (cb := cb) hl hcap hp hd)
  have P := here_any H hl hcap
  rw [here_at hp] at P
  have P := Lib.hid P
  obtain ⟨c, hc⟩ : ∃ c, bs[p] = c := ⟨_, rfl⟩
  simp only [hc] at *
  have hmf : ∀ (fn : Fn) (first cap : Array Value) (w : World), (Instr.makeFunc fn first cap).run Tryd.prog w = .ok (.func fn first cap) w := fun _ _ _ _ => rfl
  have hr := digit_rng hd
  have d40 : (((c.toNat : Int) == 40) : Bool) = false := by rw [beq_eq_false_iff_ne]; omega
  have d41 : (((c.toNat : Int) == 41) : Bool) = false := by rw [beq_eq_false_iff_ne]; omega
  have PD : Hid (∀ W, Calls Tryd.prog 50 #[byV c] W fun e w' => e = .returned (.bool true) ∧ W = w') := Lib.hid fun W => hd ▸ pdigit_any c W
  clear hd hr
  go_enter Tryd.func36, Tryd.ntmps36
  go_wp2_with (first | (go_at_call 47; refine P.out.mono ?_; rintro e w1 ⟨rfl, n, rfl⟩) | (go_at_call 50; refine (PD.out _).mono ?_; rintro e w1 ⟨rfl, rfl⟩))
  go_ret
  exact Lib.hid ⟨_, rfl, HM.out, _, rfl⟩
set_option maxRecDepth 100000 in
set_option maxHeartbeats 2000000 in
theorem way_bits {w : World} {R : Nat} {A : Option Addr} {bs : List UInt8} {cb p : Nat} (H : Hid (Rs w R A bs cb p)) (hl : bs.length ≤ 100000000) (hcap : bs.length ≤ cb) (hp : p < bs.length) (h : bs[p].toNat = 35) :
    Calls Tryd.prog 36 #[.pointer (some ⟨R, 0, none⟩)] w fun e w' => Hid (WayIs R A bs cb p w e w') := by
  have HM := Lib.hid (meth_bits (R := R) (A := A) (cb := cb) hl hcap hp h)
  have P := here_any H hl hcap
  rw [here_at hp] at P
  have P := Lib.hid P
  obtain ⟨c, hc⟩ : ∃ c, bs[p] = c := ⟨_, rfl⟩
  simp only [hc] at *
  have hmf : ∀ (fn : Fn) (first cap : Array Value) (w : World), (Instr.makeFunc fn first cap).run Tryd.prog w = .ok (.func fn first cap) w := fun _ _ _ _ => rfl
  have hd : isDigit c = false := digit_no (by omega)
  have d40 : (((c.toNat : Int) == 40) : Bool) = false := by rw [beq_eq_false_iff_ne]; omega
  have d41 : (((c.toNat : Int) == 41) : Bool) = false := by rw [beq_eq_false_iff_ne]; omega
  have PD : Hid (∀ W, Calls Tryd.prog 50 #[byV c] W fun e w' => e = .returned (.bool false) ∧ W = w') := Lib.hid fun W => hd ▸ pdigit_any c W
  have d35 : (((c.toNat : Int) == 35) : Bool) = true := by rw [beq_iff_eq]; omega
  clear h hd
  go_enter Tryd.func36, Tryd.ntmps36
  go_wp2_with (first | (go_at_call 47; refine P.out.mono ?_; rintro e w1 ⟨rfl, n, rfl⟩) | (go_at_call 50; refine (PD.out _).mono ?_; rintro e w1 ⟨rfl, rfl⟩))
  go_ret
  exact Lib.hid ⟨_, rfl, HM.out, _, rfl⟩
set_option maxRecDepth 100000 in
set_option maxHeartbeats 2000000 in
theorem way_quo {w : World} {R : Nat} {A : Option Addr} {bs : List UInt8} {cb p : Nat} (H : Hid (Rs w R A bs cb p)) (hl : bs.length ≤ 100000000) (hcap : bs.length ≤ cb) (hp : p < bs.length) (h : bs[p].toNat = 34) :
    Calls Tryd.prog 36 #[.pointer (some ⟨R, 0, none⟩)] w fun e w' => Hid (WayIs R A bs cb p w e w') := by
  have HM := Lib.hid (meth_quo (R := R) (A := A) (cb := cb) hl hcap hp h)
  have P := here_any H hl hcap
  rw [here_at hp] at P
  have P := Lib.hid P
  obtain ⟨c, hc⟩ : ∃ c, bs[p] = c := ⟨_, rfl⟩
  simp only [hc] at *
  have hmf : ∀ (fn : Fn) (first cap : Array Value) (w : World), (Instr.makeFunc fn first cap).run Tryd.prog w = .ok (.func fn first cap) w := fun _ _ _ _ => rfl
  have hd : isDigit c = false := digit_no (by omega)
  have d40 : (((c.toNat : Int) == 40) : Bool) = false := by rw [beq_eq_false_iff_ne]; omega
  have d41 : (((c.toNat : Int) == 41) : Bool) = false := by rw [beq_eq_false_iff_ne]; omega
  have PD : Hid (∀ W, Calls Tryd.prog 50 #[byV c] W fun e w' => e = .returned (.bool false) ∧ W = w') := Lib.hid fun W => hd ▸ pdigit_any c W
  have d35 : (((c.toNat : Int) == 35) : Bool) = false := by rw [beq_eq_false_iff_ne]; omega
  have d34 : (((c.toNat : Int) == 34) : Bool) = true := by rw [beq_iff_eq]; omega
  clear h hd
  go_enter Tryd.func36, Tryd.ntmps36
  go_wp2_with (first | (go_at_call 47; refine P.out.mono ?_; rintro e w1 ⟨rfl, n, rfl⟩) | (go_at_call 50; refine (PD.out _).mono ?_; rintro e w1 ⟨rfl, rfl⟩))
  go_ret
  exact Lib.hid ⟨_, rfl, HM.out, _, rfl⟩
set_option maxRecDepth 100000 in
set_option maxHeartbeats 2000000 in
theorem way_key {w : World} {R : Nat} {A : Option Addr} {bs : List UInt8} {cb p : Nat} (H : Hid (Rs w R A bs cb p)) (hl : bs.length ≤ 100000000) (hcap : bs.length ≤ cb) (hp : p < bs.length) (h : bs[p].toNat = 58) :
    Calls Tryd.prog 36 #[.pointer (some ⟨R, 0, none⟩)] w fun e w' => Hid (WayIs R A bs cb p w e w') := by
  have HM := Lib.hid (meth_key (R := R) (A := A) (cb := cb) hl hcap hp h)
  have P := here_any H hl hcap
  rw [here_at hp] at P
  have P := Lib.hid P
  obtain ⟨c, hc⟩ : ∃ c, bs[p] = c := ⟨_, rfl⟩
  simp only [hc] at *
  have hmf : ∀ (fn : Fn) (first cap : Array Value) (w : World), (Instr.makeFunc fn first cap).run Tryd.prog w = .ok (.func fn first cap) w := fun _ _ _ _ => rfl
  have hd : isDigit c = false := digit_no (by omega)
  have d40 : (((c.toNat : Int) == 40) : Bool) = false := by rw [beq_eq_false_iff_ne]; omega
  have d41 : (((c.toNat : Int) == 41) : Bool) = false := by rw [beq_eq_false_iff_ne]; omega
  have PD : Hid (∀ W, Calls Tryd.prog 50 #[byV c] W fun e w' => e = .returned (.bool false) ∧ W = w') := Lib.hid fun W => hd ▸ pdigit_any c W
  have d35 : (((c.toNat : Int) == 35) : Bool) = false := by rw [beq_eq_false_iff_ne]; omega
  have d34 : (((c.toNat : Int) == 34) : Bool) = false := by rw [beq_eq_false_iff_ne]; omega
  have d58 : (((c.toNat : Int) == 58) : Bool) = true := by rw [beq_iff_eq]; omega
  clear h hd
  go_enter Tryd.func36, Tryd.ntmps36
  go_wp2_with (first | (go_at_call 47; refine P.out.mono ?_; rintro e w1 ⟨rfl, n, rfl⟩) | (go_at_call 50; refine (PD.out _).mono ?_; rintro e w1 ⟨rfl, rfl⟩))
  go_ret
  exact Lib.hid ⟨_, rfl, HM.out, _, rfl⟩
set_option maxRecDepth 100000 in
set_option maxHeartbeats 2000000 in
theorem way_bar {w : World} {R : Nat} {A : Option Addr} {bs : List UInt8} {cb p : Nat} (H : Hid (Rs w R A bs cb p)) (hl : bs.length ≤ 100000000) (hcap : bs.length ≤ cb) (hp : p < bs.length) (h : bs[p].toNat = 124) :
    Calls Tryd.prog 36 #[.pointer (some ⟨R, 0, none⟩)] w fun e w' => Hid (WayIs R A bs cb p w e w') := by
  have HM := Lib.hid (meth_bar (R := R) (A := A) (cb := cb) hl hcap hp h)
  have P := here_any H hl hcap
  rw [here_at hp] at P
  have P := Lib.hid P
  obtain ⟨c, hc⟩ : ∃ c, bs[p] = c := ⟨_, rfl⟩
  simp only [hc] at *
  have hmf : ∀ (fn : Fn) (first cap : Array Value) (w : World), (Instr.makeFunc fn first cap).run Tryd.prog w = .ok (.func fn first cap) w := fun _ _ _ _ => rfl
  have hd : isDigit c = false := digit_no (by omega)
  have d40 : (((c.toNat : Int) == 40) : Bool) = false := by rw [beq_eq_false_iff_ne]; omega
  have d41 : (((c.toNat : Int) == 41) : Bool) = false := by rw [beq_eq_false_iff_ne]; omega
  have PD : Hid (∀ W, Calls Tryd.prog 50 #[byV c] W fun e w' => e = .returned (.bool false) ∧ W = w') := Lib.hid fun W => hd ▸ pdigit_any c W
  have d35 : (((c.toNat : Int) == 35) : Bool) = false := by rw [beq_eq_false_iff_ne]; omega
  have d34 : (((c.toNat : Int) == 34) : Bool) = false := by rw [beq_eq_false_iff_ne]; omega
  have d58 : (((c.toNat : Int) == 58) : Bool) = false := by rw [beq_eq_false_iff_ne]; omega
  have d124 : (((c.toNat : Int) == 124) : Bool) = true := by rw [beq_iff_eq]; omega
  clear h hd
  go_enter Tryd.func36, Tryd.ntmps36
  go_wp2_with (first | (go_at_call 47; refine P.out.mono ?_; rintro e w1 ⟨rfl, n, rfl⟩) | (go_at_call 50; refine (PD.out _).mono ?_; rintro e w1 ⟨rfl, rfl⟩))
  go_ret
  exact Lib.hid ⟨_, rfl, HM.out, _, rfl⟩
set_option maxRecDepth 100000 in
set_option maxHeartbeats 2000000 in
theorem way_word {w : World} {R : Nat} {A : Option Addr} {bs : List UInt8} {cb p : Nat} (H : Hid (Rs w R A bs cb p)) (hl : bs.length ≤ 100000000) (hcap : bs.length ≤ cb) (hp : p < bs.length) (hi : isInner bs[p] = true) (h40 : bs[p].toNat ≠ 40) (h41 : bs[p].toNat ≠ 41) (hd : isDigit bs[p] = false) (h35 : bs[p].toNat ≠ 35) (h34 : bs[p].toNat ≠ 34) (h124 : bs[p].toNat ≠ 124) (h58 : bs[p].toNat ≠ 58) :
    Calls Tryd.prog 36 #[.pointer (some ⟨R, 0, none⟩)] w fun e w' => Hid (WayIs R A bs cb p w e w') := by
  have HM := Lib.hid (meth_word (R := R) (A := A) (cb := cb) hl hcap hp hi h40 h41 hd h35 h34 h124 h58)
  have P := here_any H hl hcap
  rw [here_at hp] at P
  have P := Lib.hid P
  obtain ⟨c, hc⟩ : ∃ c, bs[p] = c := ⟨_, rfl⟩
  simp only [hc] at *
  have hmf : ∀ (fn : Fn) (first cap : Array Value) (w : World), (Instr.makeFunc fn first cap).run Tryd.prog w = .ok (.func fn first cap) w := fun _ _ _ _ => rfl
  have d40 : (((c.toNat : Int) == 40) : Bool) = false := by rw [beq_eq_false_iff_ne]; omega
  have d41 : (((c.toNat : Int) == 41) : Bool) = false := by rw [beq_eq_false_iff_ne]; omega
  have PD : Hid (∀ W, Calls Tryd.prog 50 #[byV c] W fun e w' => e = .returned (.bool false) ∧ W = w') := Lib.hid fun W => hd ▸ pdigit_any c W
  have d35 : (((c.toNat : Int) == 35) : Bool) = false := by rw [beq_eq_false_iff_ne]; omega
  have d34 : (((c.toNat : Int) == 34) : Bool) = false := by rw [beq_eq_false_iff_ne]; omega
  have d58 : (((c.toNat : Int) == 58) : Bool) = false := by rw [beq_eq_false_iff_ne]; omega
  have d124 : (((c.toNat : Int) == 124) : Bool) = false := by rw [beq_eq_false_iff_ne]; omega
  have PI : Hid (∀ W, Calls Tryd.prog 56 #[byV c] W fun e w' => e = .returned (.bool true) ∧ W = w') := Lib.hid fun W => hi ▸ psymbol_any c W
  clear hd hi h40 h41 h35 h34 h124 h58
  go_enter Tryd.func36, Tryd.ntmps36
  go_wp2_with (first | (go_at_call 47; refine P.out.mono ?_; rintro e w1 ⟨rfl, n, rfl⟩) | (go_at_call 50; refine (PD.out _).mono ?_; rintro e w1 ⟨rfl, rfl⟩) | (go_at_call 56; refine (PI.out _).mono ?_; rintro e w1 ⟨rfl, rfl⟩))
  go_ret
  exact Lib.hid ⟨_, rfl, HM.out, _, rfl⟩
set_option maxRecDepth 100000 in
set_option maxHeartbeats 2000000 in
theorem way_none {w : World} {R : Nat} {A : Option Addr} {bs : List UInt8} {cb p : Nat} (H : Hid (Rs w R A bs cb p)) (hl : bs.length ≤ 100000000) (hcap : bs.length ≤ cb) (hp : p < bs.length) (hi : isInner bs[p] = false) (h40 : bs[p].toNat ≠ 40) (h41 : bs[p].toNat ≠ 41) (hd : isDigit bs[p] = false) (h35 : bs[p].toNat ≠ 35) (h34 : bs[p].toNat ≠ 34) (h124 : bs[p].toNat ≠ 124) (h58 : bs[p].toNat ≠ 58) :
    Calls Tryd.prog 36 #[.pointer (some ⟨R, 0, none⟩)] w fun e w' => Hid (WayIs R A bs cb p w e w') := by
  have HM := Lib.hid (meth_none (R := R) (A := A) (cb := cb) hl hcap hp hi h40 h41 hd h35 h34 h124 h58)
  have P := here_any H hl hcap
  rw [here_at hp] at P
  have P := Lib.hid P
  obtain ⟨c, hc⟩ : ∃ c, bs[p] = c := ⟨_, rfl⟩
  simp only [hc] at *
  have hmf : ∀ (fn : Fn) (first cap : Array Value) (w : World), (Instr.makeFunc fn first cap).run Tryd.prog w = .ok (.func fn first cap) w := fun _ _ _ _ => rfl
  have d40 : (((c.toNat : Int) == 40) : Bool) = false := by rw [beq_eq_false_iff_ne]; omega
  have d41 : (((c.toNat : Int) == 41) : Bool) = false := by rw [beq_eq_false_iff_ne]; omega
  have PD : Hid (∀ W, Calls Tryd.prog 50 #[byV c] W fun e w' => e = .returned (.bool false) ∧ W = w') := Lib.hid fun W => hd ▸ pdigit_any c W
  have d35 : (((c.toNat : Int) == 35) : Bool) = false := by rw [beq_eq_false_iff_ne]; omega
  have d34 : (((c.toNat : Int) == 34) : Bool) = false := by rw [beq_eq_false_iff_ne]; omega
  have d58 : (((c.toNat : Int) == 58) : Bool) = false := by rw [beq_eq_false_iff_ne]; omega
  have d124 : (((c.toNat : Int) == 124) : Bool) = false := by rw [beq_eq_false_iff_ne]; omega
  have PI : Hid (∀ W, Calls Tryd.prog 56 #[byV c] W fun e w' => e = .returned (.bool false) ∧ W = w') := Lib.hid fun W => hi ▸ psymbol_any c W
  clear hd hi h40 h41 h35 h34 h124 h58
  go_enter Tryd.func36, Tryd.ntmps36
  go_wp2_with (first | (go_at_call 47; refine P.out.mono ?_; rintro e w1 ⟨rfl, n, rfl⟩) | (go_at_call 50; refine (PD.out _).mono ?_; rintro e w1 ⟨rfl, rfl⟩) | (go_at_call 56; refine (PI.out _).mono ?_; rintro e w1 ⟨rfl, rfl⟩))
  go_ret
  exact Lib.hid ⟨_, rfl, HM.out, _, rfl⟩

theorem way_any {w : World} {R : Nat} {A : Option Addr} {bs : List UInt8} {cb p : Nat} (H : Hid (Rs w R A bs cb p)) (hl : bs.length ≤ 100000000) (hcap : bs.length ≤ cb) (hp : p < bs.length) :
    Calls Tryd.prog 36 #[.pointer (some ⟨R, 0, none⟩)] w fun e w' => Hid (WayIs R A bs cb p w e w') := by
  by_cases h40 : bs[p].toNat = 40
  · exact way_paren40 H hl hcap hp h40
  by_cases h41 : bs[p].toNat = 41
  · exact way_paren41 H hl hcap hp h41
  by_cases hd : isDigit bs[p] = true
  · exact way_num H hl hcap hp hd
  have hd : isDigit bs[p] = false := by simpa using hd
  by_cases h35 : bs[p].toNat = 35
  · exact way_bits H hl hcap hp h35
  by_cases h34 : bs[p].toNat = 34
  · exact way_quo H hl hcap hp h34
  by_cases h58 : bs[p].toNat = 58
  · exact way_key H hl hcap hp h58
  by_cases h124 : bs[p].toNat = 124
  · exact way_bar H hl hcap hp h124
  cases hi : isInner bs[p]
  · exact way_none H hl hcap hp hi h40 h41 hd h35 h34 h124 h58
  · exact way_word H hl hcap hp hi h40 h41 hd h35 h34 h124 h58
end Go.Proofs.YtmnllioeaaimcaaDoor.tk
