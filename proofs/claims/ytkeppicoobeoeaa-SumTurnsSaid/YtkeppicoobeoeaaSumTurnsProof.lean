/- For every text of up to 300 bytes, one bit that is turned, any of them, makes another sum: the law answers true, and changes nothing. Conditions: none. -/
import Derived.Test.YtkeppicoobeoeaaSumRef2
namespace Go.Proofs.Ytkeppicoobeoeaa
open Go.ChangeShapes Go.WideShapes Go.ChangeAt Go.RowKit
set_option linter.unusedVariables false
namespace SM
theorem turn_of (b t : Nat) (hb : b < 256) (ht : t < 8) : bits .xor .u8 (b : Int) (2 ^ t % 256) = ((b ^^^ 2 ^ t : Nat) : Int) := by
  have hlt : (2 : Nat) ^ t < 256 := Nat.lt_of_lt_of_le (Nat.pow_lt_pow_right (by omega) ht) (by decide)
  have e : (2 : Int) ^ t % 256 = ((2 ^ t : Nat) : Int) := by
    rw [Int.natCast_pow]
    exact Int.emod_eq_of_lt (Int.pow_nonneg (by decide)) (by have : ((2 ^ t : Nat) : Int) < 256 := by omega
                                                             rwa [Int.natCast_pow] at this)
  rw [e, u8_xor_nat b (2 ^ t) hb hlt]
theorem turn_bits (b t i : Nat) : (b ^^^ 2 ^ t) / 2 ^ i % 2 = if i = t then 1 - b / 2 ^ i % 2 else b / 2 ^ i % 2 := by
  rw [bit_xor]
  have hb : b / 2 ^ i % 2 = 0 ∨ b / 2 ^ i % 2 = 1 := by omega
  by_cases h : i = t
  · subst h
    rw [if_pos rfl, Nat.div_self (Nat.pow_pos (by omega))]
    rcases hb with h | h <;> rw [h] <;> rfl
  · rw [if_neg h]
    have e : 2 ^ t / 2 ^ i % 2 = 0 := by
      by_cases h2 : t < i
      · rw [Nat.div_eq_of_lt (Nat.pow_lt_pow_right (by omega) h2)]
      · have e2 : 2 ^ t = 2 ^ (t - i) * 2 ^ i := by rw [← Nat.pow_add]; congr 1; omega
        rw [e2, Nat.mul_div_cancel _ (Nat.pow_pos (by omega))]
        obtain ⟨q, hq⟩ : ∃ q, t - i = q + 1 := ⟨t - i - 1, by omega⟩
        rw [hq, Nat.pow_succ]
        omega
    rw [e]
    rcases hb with h | h <;> rw [h] <;> rfl
theorem split_at (l : List Nat) (p : Nat) (h : p < l.length) (z : Nat) : l.set p z = l.take p ++ z :: l.drop (p + 1) := List.set_eq_take_append_cons_drop.trans (by rw [if_pos h])
theorem turn_ne (xs : List Int) (p b t : Nat) (hp : p < xs.length) (hb : xs.getD p 0 = (b : Int)) (ht : t < 8) (lx : Lim xs 256) : sumOf (xs.set p ((b ^^^ 2 ^ t : Nat) : Int)) ≠ sumOf xs := by
  have hL : (xs.map Int.toNat) = (xs.map Int.toNat).take p ++ b :: (xs.map Int.toNat).drop (p + 1) := by
    have h1 : (xs.map Int.toNat).set p b = xs.map Int.toNat := by
      apply List.ext_getElem (by simp)
      intro i h1 h2
      rw [List.getElem_set]
      split
      · rename_i e
        subst e
        have : xs[p] = (b : Int) := by rw [← hb]; simp [List.getD_eq_getElem?_getD, hp]
        simp [this]
      · rfl
    rw [← split_at _ p (by simpa using hp) b, h1]
  have hR : (xs.set p ((b ^^^ 2 ^ t : Nat) : Int)).map Int.toNat = (xs.map Int.toNat).take p ++ (b ^^^ 2 ^ t) :: (xs.map Int.toNat).drop (p + 1) := by
    rw [List.map_set, Int.toNat_natCast, split_at _ p (by simpa using hp)]
  have hlt : ∀ l, bytesN 4294967295 l < 4294967296 := fun l => bytes_lt l 4294967295 (by omega)
  intro h
  have h2 : bytesN 4294967295 ((xs.set p ((b ^^^ 2 ^ t : Nat) : Int)).map Int.toNat) = bytesN 4294967295 (xs.map Int.toNat) := by
    have a1 := hlt ((xs.set p ((b ^^^ 2 ^ t : Nat) : Int)).map Int.toNat)
    have a2 := hlt (xs.map Int.toNat)
    unfold sumOf at h
    omega
  rw [hR] at h2
  rw [hL] at h2
  have hcat : ∀ (l : List Nat) (y : Nat) (m : List Nat), bytesN 4294967295 (l ++ y :: m) = bytesN (byteN (bytesN 4294967295 l) y) m := fun l y m => by unfold bytesN; rw [List.foldl_append]; rfl
  rw [List.take_append_of_le_length (by simp; omega), List.take_take, Nat.min_self] at h2
  have hd : ∀ (l : List Nat) (y : Nat) (m : List Nat), l.length = p → (l ++ y :: m).drop (p + 1) = m := fun l y m hl => by
    rw [List.drop_append, List.drop_eq_nil_of_le (by omega), List.nil_append, show p + 1 - l.length = 1 from by omega]; rfl
  rw [hd _ _ _ (by simp; omega), hcat, hcat] at h2
  have s1 := hlt ((xs.map Int.toNat).take p)
  have h3 := bytes_inj _ _ _ (byte_lt _ _ s1) (byte_lt _ _ s1) h2
  refine low_ne _ (b ^^^ 2 ^ t) b 8 s1 t ht (fun i hi => ?_) ?_ (fun i hi _ => ?_) h3
  · rw [turn_bits, if_neg (by omega)]
  · rw [turn_bits, if_pos rfl]; omega
  · rw [turn_bits, if_neg (by omega)]
theorem lim_turn (xs : List Int) (p b t : Nat) (hb : b < 256) (ht : t < 8) (lx : Lim xs 256) : Lim (xs.set p ((b ^^^ 2 ^ t : Nat) : Int)) 256 := by
  intro j hj
  rw [List.length_set] at hj
  have hlt : (2 : Nat) ^ t < 256 := Nat.lt_of_lt_of_le (Nat.pow_lt_pow_right (by omega) ht) (by decide)
  have hx : b ^^^ 2 ^ t < 2 ^ 8 := Nat.xor_lt_two_pow (by omega) (by omega)
  by_cases e : j = p
  · subst e
    rw [List.getD_eq_getElem?_getD, List.getElem?_set_self hj, Option.getD_some]
    omega
  · rw [List.getD_eq_getElem?_getD, List.getElem?_set_ne (fun h => e h.symm), ← List.getD_eq_getElem?_getD]
    exact lx j hj
end SM
theorem Row.set {w : World} {B g n c j : Nat} {e : TypeId} {k : IntKind} {zs : List Int} (h : Row w B e k (.slice (some ⟨g, 0, none⟩) n c) zs) (hn : zs.length = n) (z : Int) : Row (w.setCell ⟨g, j, none⟩ (.int k z)) B e k (.slice (some ⟨g, 0, none⟩) n c) (zs.set j z) := by
  have h' : w.ownsRow B e 1 (.slice (some ⟨g, 0, none⟩) n c) n (zs.map (Value.int k)) := by rw [← hn]; rw [← hn] at h; exact h
  have h2 := (h'.stored j (.int k z)).1
  unfold Row
  rw [List.map_set, List.length_set, hn]
  exact h2
set_option maxRecDepth 100000 in
set_option maxHeartbeats 1000000 in
theorem sumTurns_walk (A : Option Addr) (c : Nat) (xs : List Int) (at_ bit : Int) (w : World) (hx : xs.length ≤ 9223372036854775807) (h0 : -9223372036854775808 ≤ at_) (h1 : at_ < 9223372036854775808) (b0 : 0 ≤ bit) (b1 : bit < 256) (lx : Lim xs 256) (hA : Ints w .u8 A xs) :
    Calls Try.prog 12 #[.slice A xs.length c, .int .i64 at_, .int .u8 bit] w fun e w' => e = .returned (.bool true) ∧ Ext w w' := by
  by_cases g1 : 300 < xs.length
  · go_enter Try.func12, Try.ntmps12
    go_wp2_with fail
    refine (awake2_any _).mono ?_
    rintro e w1 ⟨rfl, hx1⟩
    go_wp2_with fail
    go_ret
    exact ⟨rfl, hx1⟩
  by_cases g2 : at_ < 0
  · go_enter Try.func12, Try.ntmps12
    go_wp2_with fail
    refine (awake2_any _).mono ?_
    rintro e w1 ⟨rfl, hx1⟩
    go_wp2_with fail
    go_ret
    exact ⟨rfl, hx1⟩
  by_cases g3 : (xs.length : Int) ≤ at_
  · go_enter Try.func12, Try.ntmps12
    go_wp2_with fail
    refine (awake2_any _).mono ?_
    rintro e w1 ⟨rfl, hx1⟩
    go_wp2_with fail
    go_ret
    exact ⟨rfl, hx1⟩
  obtain ⟨p, rfl⟩ := Int.eq_ofNat_of_zero_le (show 0 ≤ at_ from by omega)
  have hp : p < xs.length := by omega
  clear g2 g3 h0 h1
  have d1 : decide (300 < (xs.length : Int)) = false := by simp; omega
  have d2 : decide ((p : Int) < 0) = false := by simp
  have d3 : decide (xs.length ≤ p) = false := by simp; omega
  obtain ⟨t, ht⟩ : ∃ t : Nat, t = (bit % 8).toNat := ⟨_, rfl⟩
  have ht8 : t < 8 := by omega
  have HT8 := Lib.hid ht
  clear ht
  go_enter Try.func12, Try.ntmps12
  go_wp2_with fail
  go_loopw [7, 8] (fun v i wr => ∃ k : Nat, k ≤ xs.length ∧ i = .int .i64 k ∧ Row wr w.heap.size 5 .u8 v (xs.take k) ∧ Ext w wr) (fun _ i _ => xs.length - (intOf i).toNat)
  case atStart => exact ⟨0, Nat.zero_le _, rfl, Row.nil _ _ _ _, Ext.refl _⟩
  case round =>
    obtain ⟨k, hk, rfl, hrow, hext⟩ := hrel
    by_cases hlt : k < xs.length
    · obtain ⟨ad, rfl, hb, hc⟩ := (hA.ext hext) (by omega)
      have hcell := hc k hlt
      clear hc
      have HT := Lib.hid (List.take_succ_eq_append_getElem (l := xs) (i := k) hlt)
      have hgd : xs.getD k 0 = xs[k] := by simp [List.getD_eq_getElem?_getD, hlt]
      rw [hgd] at hcell
      clear hgd
      go_wp2_with ((at_builtin; refine Hid.out ?_))
      refine Lib.hid ?_
      refine wpList_push rfl _ _ 40 rfl 5 .u8 1 byte_info (by omega) Try.underlying40 w wr _ (xs.take k) xs[k] (by rfl) hrow hext (by rfl) (by rw [List.length_take]; omega) ?_
      intro v' w' hrow' hext'
      go_wp2_with fail
      go_roundw
      case rel => exact ⟨k + 1, by omega, by go_num, by rw [HT.out]; exact hrow', hext'⟩
      case measure => simp [intOf]; omega
    · have e : xs.take k = xs := List.take_of_length_le (by omega)
      rw [e] at hrow
      clear e
      obtain ⟨g, cg, rfl, hg, hgl, hc⟩ := hrow.at_ rfl (by omega)
      have hcell := hc p hp
      have hzk := lx p hp
      clear hc
      obtain ⟨b, hbe⟩ := Int.eq_ofNat_of_zero_le hzk.1
      rw [hbe] at hcell hzk
      have HB := Lib.hid hbe
      clear hbe
      have hfz : wr.frozen? ⟨g, p, none⟩ = false := World.ownsRow.frozenAt hrow p
      go_wp2_with fail
      rw [← HT8.out, SM.turn_of b t (by omega) ht8]
      have hrow2 := hrow.set (j := p) rfl ((b ^^^ 2 ^ t : Nat) : Int)
      have hext2 := hext.setCell (p := ⟨g, p, none⟩) hg (.int .u8 ((b ^^^ 2 ^ t : Nat) : Int))
      have hne := SM.turn_ne xs p b t hp HB.out ht8 lx
      have hlim := SM.lim_turn xs p b t (by omega) ht8 lx
      have HLn := Lib.hid (show (xs.set p ((b ^^^ 2 ^ t : Nat) : Int)).length = xs.length from List.length_set)
      generalize xs.set p ((b ^^^ 2 ^ t : Nat) : Int) = zs at *
      generalize wr.setCell ⟨g, p, none⟩ (.int .u8 ((b ^^^ 2 ^ t : Nat) : Int)) = w3 at *
      obtain ⟨A2, c2, hA2, hI, _⟩ := hrow2.form
      have HA2 := Lib.hid hA2
      clear hA2
      have hne1 : (SM.sumOf zs != SM.sumOf xs) = true := by simpa using hne
      have hne2 : (((SM.sumOf zs : Nat) : Int) != ((SM.sumOf xs : Nat) : Int)) = true := by simp; omega
      clear hne
      refine (awake2_any _).mono ?_
      rintro e w1 ⟨rfl, hx1⟩
      go_wp2_with fail
      rw [HA2.out]
      refine (bytes_n _ A2 c2 zs _ rfl (by rw [HLn.out]; omega) hlim (hI.ext hx1)).mono ?_
      rintro e w' ⟨rfl, rfl⟩
      go_wp2_with fail
      refine (bytes_any A c xs _ hx lx (hA.ext (hext2.trans hx1))).mono ?_
      rintro e w' ⟨rfl, rfl⟩
      go_wp2_with fail
      go_ret
      exact ⟨rfl, hext2.trans hx1⟩

namespace sumTurns
set_option maxRecDepth 100000 in
theorem lifted (os : Os) (started : os.Started) (H : Type) (enc : TypeId × Value → H) :
    ReturnsInHanded {} Try.checked os 12 .any (Rows.sumTurnsSpec.pre6 enc Try.prog Try.f12 Rows.sumTurnsRow.domain false) (Rows.sumTurnsSpec.post enc Try.prog Try.f12 false true false false) := by
  refine returnsInHanded_of_change (C := Try.checked) own started (by kernel_rfl) Try.func12
    (ChangeSpec.witness6 (enc := enc) (C := Try.checked) false ⟨#[], #[.slice none 0 0, .int .i64 0, .int .u8 0], []⟩ 8 (by kernel_rfl) (by kernel_rfl) (by kernel_rfl) (by kernel_rfl)) ?_
  intro W base args ds gs before hval0 hW hcnd _
  have hval : ∀ (j : Nat) t v, Try.f12.params[j]? = some t → args[j]? = some v → Value.okWide Try.prog W .any base t v := hval0
  have hW' := hW
  obtain ⟨p, q, hA0, hV, rfl, hfz, hnd⟩ := hW
  have hA : DataW.TrodAll enc Try.prog W 0 (fun _ => true) true Try.f12.params.toList args.toList ds p := hA0
  have hlt : ∀ x ∈ p ++ q, x.block < W.heap.size := fun x hx => hW'.lt x hx
  rw [Try.params12] at hA hval
  have hB := hA
  obtain ⟨v0, vs0, d0, ds0, p0, q0, hargs, rfl, rfl, h0, r0⟩ := trodAll_cons hB
  obtain ⟨v1, vs1, d1, ds1, p1, q1, rfl, rfl, rfl, h1, r1⟩ := trodAll_cons r0
  obtain ⟨v2, vs2, d2, ds2, p2, q2, rfl, rfl, rfl, h2, r2⟩ := trodAll_cons r1
  obtain ⟨rfl, rfl, rfl⟩ := trodAll_nil r2
  obtain rfl : args = #[v0, v1, v2] := by cases args; simp_all
  obtain ⟨rfl, rfl⟩ := trodVars_none hV
  obtain ⟨A0, c0, z0, rfl, lc0, mc0, I0, w0⟩ := view_ints Try.underlying40 Try.underlying5 (by kernel_rfl) (hval 0 40 v0 rfl rfl) h0
  obtain ⟨a1, rfl, rfl, rfl, w1⟩ := open_int Try.underlying3 (hval 1 3 v1 rfl rfl) h1
  obtain ⟨a2, rfl, rfl, rfl, w2⟩ := open_int Try.underlying5 (hval 2 5 v2 rfl rfl) h2
  clear hA0 hval0
  refine (sumTurns_walk A0 c0 z0 a1 a2 W (by unfold maxLen at *; omega) (wf_i64 w1).1 (wf_i64 w1).2 (wf_u8 w2).1 (wf_u8 w2).2 (lim_u8 w0) I0).mono fun e W' ⟨he, hx⟩ => ?_
  subst he
  exact ⟨_, rfl, post_ext (pv := []) hW' (fun _ _ _ => (trodAll_cons_mk (shut_bool Try.underlying4 _) trodAll_mk0)) (fun sp hsp => trodAll_stays laid hx _ _ _ _ (readable_of (by kernel_rfl)) hA (fun x hx => hlt x (by simp at hx ⊢; exact hx)) (fun x hx => hsp x (by simp at hx ⊢; exact hx))) (fun _ _ => rfl) rfl hx (ok_one (by kernel_rfl) rfl (okWide_bool_mk Try.underlying4 _))⟩

theorem over : Rows.sumTurnsRow.holds Try.pinned (OpenSpec.ofChange Rows.sumTurnsSpec) :=
  OpenClaim.holds_of_wide 12 Try.f12 rfl rfl rfl rfl rfl rfl rfl ⟨rfl, rfl, rfl, rfl, rfl⟩ rfl rfl rfl rfl rfl (by kernel_rfl) Try.func12 (by kernel_rfl)
    (of_decide_eq_true (by kernel_rfl)) (by unfold Func.isWrapper; first | (rw [if_pos (by decide +kernel)]; kernel_rfl) | (rw [if_neg (by decide +kernel)]; exact ⟨rfl, rfl⟩))
    (fun os started H enc _ => lifted os started H enc)
end sumTurns

theorem sumTurns_holds : Rows.SumTurnsSaid := sumTurns.over
#print axioms sumTurns_holds
end Go.Proofs.Ytkeppicoobeoeaa
