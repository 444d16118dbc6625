/- For all three texts, cut to one length of up to 300 bytes, the sum of their exclusive-or is the exclusive-or of their sums: the law answers true, and changes nothing. Conditions: none. -/
import Derived.Test.YtkeppicoobeoeaaSumRef2
import Derived.Deep.RegionHeld3
import Derived.Lib.QuietBelow
import Derived.BigQuiet
namespace Go.Proofs.Ytkeppicoobeoeaa
open Go.ChangeShapes Go.WideShapes Go.ChangeAt Go.RowKit
set_option linter.unusedVariables false
namespace SM
def mixN (xs ys zs : List Int) (k : Nat) : Nat := (xs.getD k 0).toNat ^^^ (ys.getD k 0).toNat ^^^ (zs.getD k 0).toNat
def mixOf (xs ys zs : List Int) : Nat → List Int
  | 0 => []
  | k + 1 => mixOf xs ys zs k ++ [((mixN xs ys zs k : Nat) : Int)]
theorem mixOf_length (xs ys zs : List Int) (k : Nat) : (mixOf xs ys zs k).length = k := by
  induction k with
  | zero => rfl
  | succ k ih => simp [mixOf, ih]
theorem byte_xor3 (a b c : Nat) (ha : a < 256) (hb : b < 256) (hc : c < 256) : bits .xor .u8 (bits .xor .u8 (a : Int) (b : Int)) (c : Int) = ((a ^^^ b ^^^ c : Nat) : Int) := by
  have h : a ^^^ b < 2 ^ 8 := Nat.xor_lt_two_pow (by omega) (by omega)
  rw [u8_xor_nat a b ha hb, u8_xor_nat (a ^^^ b) c (by omega) hc]
theorem word_xor3 (a b c : Nat) (ha : a < 4294967296) (hb : b < 4294967296) (hc : c < 4294967296) : bits .xor .u32 (bits .xor .u32 (a : Int) (b : Int)) (c : Int) = ((a ^^^ b ^^^ c : Nat) : Int) := by
  have h : a ^^^ b < 2 ^ 32 := Nat.xor_lt_two_pow (by omega) (by omega)
  rw [u32_xor_nat a b ha hb, u32_xor_nat (a ^^^ b) c (by omega) hc]
theorem mixN_lt (xs ys zs : List Int) (k : Nat) (hx : k < xs.length) (hy : k < ys.length) (hz : k < zs.length) (lx : Lim xs 256) (ly : Lim ys 256) (lz : Lim zs 256) : mixN xs ys zs k < 256 := by
  have a := lx k hx
  have b := ly k hy
  have c := lz k hz
  have h : (xs.getD k 0).toNat ^^^ (ys.getD k 0).toNat ^^^ (zs.getD k 0).toNat < 2 ^ 8 := Nat.xor_lt_two_pow (Nat.xor_lt_two_pow (by omega) (by omega)) (by omega)
  unfold mixN
  omega
theorem mixOf_lim (xs ys zs : List Int) (n : Nat) (hx : n ≤ xs.length) (hy : n ≤ ys.length) (hz : n ≤ zs.length) (lx : Lim xs 256) (ly : Lim ys 256) (lz : Lim zs 256) : Lim (mixOf xs ys zs n) 256 := by
  induction n with
  | zero => exact none_lim _
  | succ k ih =>
    have ih' := ih (by omega) (by omega) (by omega)
    intro j hj
    rw [mixOf_length] at hj
    unfold mixOf
    by_cases e : j < k
    · rw [List.getD_eq_getElem?_getD, List.getElem?_append_left (by rw [mixOf_length]; exact e), ← List.getD_eq_getElem?_getD]
      exact ih' j (by rw [mixOf_length]; exact e)
    · have : j = k := by omega
      subst this
      rw [List.getD_eq_getElem?_getD, List.getElem?_append_right (by rw [mixOf_length]; omega), mixOf_length]
      have := mixN_lt xs ys zs j (by omega) (by omega) (by omega) lx ly lz
      simp
      omega
theorem bytes_snoc (s : Nat) (l : List Nat) (b : Nat) : bytesN s (l ++ [b]) = byteN (bytesN s l) b := by unfold bytesN; rw [List.foldl_append]; rfl
theorem mix_fold (xs ys zs : List Int) (n : Nat) (hx : n ≤ xs.length) (hy : n ≤ ys.length) (hz : n ≤ zs.length) :
    bytesN 4294967295 ((mixOf xs ys zs n).map Int.toNat) = bytesN 4294967295 ((xs.map Int.toNat).take n) ^^^ bytesN 4294967295 ((ys.map Int.toNat).take n) ^^^ bytesN 4294967295 ((zs.map Int.toNat).take n) := by
  induction n with
  | zero =>
    show (4294967295 : Nat) = 4294967295 ^^^ 4294967295 ^^^ 4294967295
    decide
  | succ k ih =>
    rw [bytes_take xs k (by omega), bytes_take ys k (by omega), bytes_take zs k (by omega)]
    have e : (mixOf xs ys zs (k + 1)).map Int.toNat = (mixOf xs ys zs k).map Int.toNat ++ [mixN xs ys zs k] := by simp [mixOf]
    rw [e, bytes_snoc, ih (by omega) (by omega) (by omega)]
    exact low_mix _ _ _ _ _ _ 8
theorem mix_sum (xs ys zs : List Int) (n : Nat) (hx : n ≤ xs.length) (hy : n ≤ ys.length) (hz : n ≤ zs.length) : sumOf (mixOf xs ys zs n) = sumOf (xs.take n) ^^^ sumOf (ys.take n) ^^^ sumOf (zs.take n) := by
  have hlt : ∀ l, bytesN 4294967295 l < 4294967296 := fun l => bytes_lt l 4294967295 (by omega)
  unfold sumOf
  rw [mix_fold xs ys zs n hx hy hz, List.map_take, List.map_take, List.map_take, ← not_of _ (hlt _), ← not_of _ (hlt _), ← not_of _ (hlt _)]
  rw [← not_of _ (Nat.xor_lt_two_pow (n := 32) (Nat.xor_lt_two_pow (hlt _) (hlt _)) (hlt _))]
  generalize bytesN 4294967295 (List.take n (xs.map Int.toNat)) = a
  generalize bytesN 4294967295 (List.take n (ys.map Int.toNat)) = b
  generalize bytesN 4294967295 (List.take n (zs.map Int.toNat)) = c
  apply Nat.eq_of_testBit_eq
  intro i
  simp only [Nat.testBit_xor]
  cases Nat.testBit 4294967295 i <;> cases a.testBit i <;> cases b.testBit i <;> cases c.testBit i <;> rfl
theorem sumOf_lt (l : List Int) : sumOf l < 4294967296 := by unfold sumOf; omega
end SM
theorem Ints.take {w : World} {k : IntKind} {A : Option Addr} {zs : List Int} (h : Ints w k A zs) (n : Nat) : Ints w k A (zs.take n) := fun h0 => by
  rw [List.length_take] at h0
  obtain ⟨ad, e, hb, hc⟩ := h (by omega)
  refine ⟨ad, e, hb, fun j hj => ?_⟩
  rw [List.length_take] at hj
  rw [hc j (by omega)]
  have hjn : j < n := by omega
  simp [List.getD_eq_getElem?_getD, hjn]
theorem Lim.take {zs : List Int} {m : Int} (h : Lim zs m) (n : Nat) : Lim (zs.take n) m := fun j hj => by
  rw [List.length_take] at hj
  have hjn : j < n := by omega
  have := h j (by omega)
  simpa [List.getD_eq_getElem?_getD, hjn] using this
set_option maxRecDepth 100000 in
set_option maxHeartbeats 2000000 in
theorem sumMixes_walk (A B C : Option Addr) (c d f : Nat) (xs ys zs : List Int) (w : World) (hc : xs.length ≤ c) (hd : ys.length ≤ d) (hf : zs.length ≤ f) (hcm : c ≤ 9223372036854775807) (hdm : d ≤ 9223372036854775807) (hfm : f ≤ 9223372036854775807) (lx : Lim xs 256) (ly : Lim ys 256) (lz : Lim zs 256) (hA : Ints w .u8 A xs) (hB : Ints w .u8 B ys) (hC : Ints w .u8 C zs) :
    Calls Try.prog 11 #[.slice A xs.length c, .slice B ys.length d, .slice C zs.length f] w fun e w' => e = .returned (.bool true) ∧ Ext w w' := by
  obtain ⟨N, hN, n1, n2, n3, n4⟩ : ∃ N : Nat, N = min (min (min xs.length ys.length) zs.length) 300 ∧ N ≤ xs.length ∧ N ≤ ys.length ∧ N ≤ zs.length ∧ N ≤ 300 := ⟨_, rfl, by omega, by omega, by omega, by omega⟩
  have hmin : ∀ (ts : Array TypeId) (t : TypeId) (w : World), (Builtin.min_ ts t #[.int .i64 (xs.length : Int), .int .i64 (ys.length : Int), .int .i64 (zs.length : Int), .int .i64 300]).run Try.prog w = .ok (.int .i64 (N : Int)) w := fun ts t w => by
    simp [Builtin.min_, Builtin.min2]
    rw [hN]
    split <;> split <;> split <;> omega
  clear hN
  go_enter Try.func11, Try.ntmps11
  go_wp2_with fail
  clear hmin
  go_loopw [8, 9] (fun v i wr => ∃ k : Nat, k ≤ N ∧ i = .int .i64 k ∧ Row wr w.heap.size 5 .u8 v (SM.mixOf xs ys zs k) ∧ Ext w wr) (fun _ i _ => N - (intOf i).toNat)
  case atStart => exact ⟨0, Nat.zero_le _, rfl, Row.nil _ _ _ _, Ext.refl _⟩
  case round =>
    obtain ⟨k, hk, rfl, hrow, hext⟩ := hrel
    by_cases hlt : k < N
    · obtain ⟨ad, rfl, hb1, hc1⟩ := hA (by omega)
      obtain ⟨bd, rfl, hb2, hc2⟩ := hB (by omega)
      obtain ⟨cd, rfl, hb3, hc3⟩ := hC (by omega)
      have hw1 := hc1 k (by omega)
      have hw2 := hc2 k (by omega)
      have hw3 := hc3 k (by omega)
      have hcl1 := (Below.cell hext.below (show (ad.add k).block < w.heap.size from by rw [add_block]; exact hb1)).trans hw1
      have hcl2 := (Below.cell hext.below (show (bd.add k).block < w.heap.size from by rw [add_block]; exact hb2)).trans hw2
      have hcl3 := (Below.cell hext.below (show (cd.add k).block < w.heap.size from by rw [add_block]; exact hb3)).trans hw3
      clear hc1 hc2 hc3
      have l1 := lx k (by omega)
      have l2 := ly k (by omega)
      have l3 := lz k (by omega)
      obtain ⟨a, ha⟩ := Int.eq_ofNat_of_zero_le l1.1
      obtain ⟨b, hb⟩ := Int.eq_ofNat_of_zero_le l2.1
      obtain ⟨e3, he⟩ := Int.eq_ofNat_of_zero_le l3.1
      have HM := Lib.hid (show SM.mixOf xs ys zs (k + 1) = SM.mixOf xs ys zs k ++ [((a ^^^ b ^^^ e3 : Nat) : Int)] from by
        show SM.mixOf xs ys zs k ++ [((SM.mixN xs ys zs k : Nat) : Int)] = _
        unfold SM.mixN
        rw [ha, hb, he]; rfl)
      rw [ha] at hcl1 l1 hw1
      rw [hb] at hcl2 l2 hw2
      rw [he] at hcl3 l3 hw3
      clear ha hb he
      have i1 : (k : Int) < (xs.length : Int) := by omega
      have i2 : (k : Int) < (ys.length : Int) := by omega
      have i3 : (k : Int) < (zs.length : Int) := by omega
      have HX := Lib.hid (SM.byte_xor3 a b e3 (by omega) (by omega) (by omega))
      have HL := Lib.hid (SM.mixOf_length xs ys zs k)
      go_wp2_with fail
      go_region_held3 (fun w' => w'.cell? (ad.add k) = some (.int .u8 (a : Int)) ∧ w'.cell? (bd.add k) = some (.int .u8 (b : Int)) ∧ w'.cell? (cd.add k) = some (.int .u8 (e3 : Int)))
        (first
          | go_keep
          | exact ⟨(Below.cell hext'.below (by rw [add_block]; exact hb1)).trans hw1, (Below.cell hext'.below (by rw [add_block]; exact hb2)).trans hw2, (Below.cell hext'.below (by rw [add_block]; exact hb3)).trans hw3⟩)
        ((refine step_push (by rfl) _ _ 40 (by rfl) 5 .u8 1 byte_info (by omega) Try.underlying40 w wr _ (SM.mixOf xs ys zs k) (bits .xor .u8 (bits .xor .u8 (a : Int) (b : Int)) (e3 : Int)) (by rfl) hrow hext (by rfl) (by rw [HL.out]; omega) ?_; intro v' w' hrow' hext'))
      rw [HX.out] at hrow'
      go_wp2_with fail
      go_roundw
      case rel => exact ⟨k + 1, by omega, by go_num, by rw [HM.out]; exact hrow', hext'⟩
      case measure => simp [intOf]; omega
    · have e : k = N := by omega
      rw [e] at hrow
      clear e
      obtain ⟨A4, c4, hA4, hI, _⟩ := hrow.form
      rw [SM.mixOf_length] at hA4
      subst hA4
      clear hrow
      have hmix := SM.mix_sum xs ys zs N n1 n2 n3
      have hfin : (((SM.sumOf (SM.mixOf xs ys zs N) : Nat) : Int) == bits .xor .u32 (bits .xor .u32 ((SM.sumOf (xs.take N) : Nat) : Int) ((SM.sumOf (ys.take N) : Nat) : Int)) ((SM.sumOf (zs.take N) : Nat) : Int)) = true := by
        rw [SM.word_xor3 _ _ _ (SM.sumOf_lt _) (SM.sumOf_lt _) (SM.sumOf_lt _), hmix]; simp
      clear hmix
      have q1 : ∀ W, Ext wr W → Calls Try.prog 44 #[] W fun e w' => e = .returned (.bool true) ∧ Below W.heap.size W w' := fun W _ => awake2_any W
      have q2 : ∀ W, Ext wr W → Calls Try.prog 51 #[.slice A4 N c4] W fun e w' => e = .returned (.int .u32 (SM.sumOf (SM.mixOf xs ys zs N) : Nat)) ∧ Below W.heap.size W w' := fun W hW =>
        (bytes_n N A4 c4 _ W (SM.mixOf_length _ _ _ _) (by rw [SM.mixOf_length]; omega) (SM.mixOf_lim xs ys zs N n1 n2 n3 lx ly lz) (hI.ext hW)).mono fun _ _ ⟨he, hw⟩ => ⟨he, hw ▸ Below.refl _ _⟩
      have q3 : ∀ W, Ext wr W → Calls Try.prog 51 #[.slice A N c] W fun e w' => e = .returned (.int .u32 (SM.sumOf (xs.take N) : Nat)) ∧ Below W.heap.size W w' := fun W hW =>
        (bytes_n N A c _ W (by rw [List.length_take]; omega) (by rw [List.length_take]; omega) (lx.take N) ((hA.ext (hext.trans hW)).take N)).mono fun _ _ ⟨he, hw⟩ => ⟨he, hw ▸ Below.refl _ _⟩
      have q4 : ∀ W, Ext wr W → Calls Try.prog 51 #[.slice B N d] W fun e w' => e = .returned (.int .u32 (SM.sumOf (ys.take N) : Nat)) ∧ Below W.heap.size W w' := fun W hW =>
        (bytes_n N B d _ W (by rw [List.length_take]; omega) (by rw [List.length_take]; omega) (ly.take N) ((hB.ext (hext.trans hW)).take N)).mono fun _ _ ⟨he, hw⟩ => ⟨he, hw ▸ Below.refl _ _⟩
      have q5 : ∀ W, Ext wr W → Calls Try.prog 51 #[.slice C N f] W fun e w' => e = .returned (.int .u32 (SM.sumOf (zs.take N) : Nat)) ∧ Below W.heap.size W w' := fun W hW =>
        (bytes_n N C f _ W (by rw [List.length_take]; omega) (by rw [List.length_take]; omega) (lz.take N) ((hC.ext (hext.trans hW)).take N)).mono fun _ _ ⟨he, hw⟩ => ⟨he, hw ▸ Below.refl _ _⟩
      have s1 : N ≤ c := by omega
      have s2 : N ≤ d := by omega
      have s3 : N ≤ f := by omega
      have t1 : (N : Int) ≤ (c : Int) := by omega
      have t2 : (N : Int) ≤ (d : Int) := by omega
      have t3 : (N : Int) ≤ (f : Int) := by omega
      have Q1 := Lib.hid q1
      have Q2 := Lib.hid q2
      have Q3 := Lib.hid q3
      have Q4 := Lib.hid q4
      have Q5 := Lib.hid q5
      clear q1 q2 q3 q4 q5
      go_wp2_with fail
      refine wp_region_quiet_below (by kernel_rfl) (by kernel_rfl) ?_
      repeat (quiet_step (first
        | (with_reducible exact Calls.regrown_of (Q1.out _ (Ext.of (below_regrown _ _ _))))
        | (with_reducible exact Calls.regrown_of (Q2.out _ (Ext.of (below_regrown _ _ _))))
        | (with_reducible exact Calls.regrown_of (Q3.out _ (Ext.of (below_regrown _ _ _))))
        | (with_reducible exact Calls.regrown_of (Q4.out _ (Ext.of (below_regrown _ _ _))))
        | (with_reducible exact Calls.regrown_of (Q5.out _ (Ext.of (below_regrown _ _ _))))))
      refine wpQuiet_nil ?_
      intro _ hw'
      obtain ⟨⟨dq, osq⟩, hw2⟩ := hw'
      subst hw2
      go_wp2_with fail
      go_ret
      exact ⟨rfl, hext.trans (Ext.of (below_regrown wr dq osq))⟩

namespace sumMixes
set_option maxRecDepth 100000 in
theorem lifted (os : Os) (started : os.Started) (H : Type) (enc : TypeId × Value → H) :
    ReturnsInHanded {} Try.checked os 11 .any (Rows.sumMixesSpec.pre6 enc Try.prog Try.f11 Rows.sumMixesRow.domain false) (Rows.sumMixesSpec.post enc Try.prog Try.f11 false true false false) := by
  refine returnsInHanded_of_change (C := Try.checked) own started (by kernel_rfl) Try.func11
    (ChangeSpec.witness6 (enc := enc) (C := Try.checked) false ⟨#[], #[.slice none 0 0, .slice none 0 0, .slice none 0 0], []⟩ 8 (by kernel_rfl) (by kernel_rfl) (by kernel_rfl) (by kernel_rfl)) ?_
  intro W base args ds gs before hval0 hW hcnd _
  have hval : ∀ (j : Nat) t v, Try.f11.params[j]? = some t → args[j]? = some v → Value.okWide Try.prog W .any base t v := hval0
  have hW' := hW
  obtain ⟨p, q, hA0, hV, rfl, hfz, hnd⟩ := hW
  have hA : DataW.TrodAll enc Try.prog W 0 (fun _ => true) true Try.f11.params.toList args.toList ds p := hA0
  have hlt : ∀ x ∈ p ++ q, x.block < W.heap.size := fun x hx => hW'.lt x hx
  rw [Try.params11] at hA hval
  have hB := hA
  obtain ⟨v0, vs0, d0, ds0, p0, q0, hargs, rfl, rfl, h0, r0⟩ := trodAll_cons hB
  obtain ⟨v1, vs1, d1, ds1, p1, q1, rfl, rfl, rfl, h1, r1⟩ := trodAll_cons r0
  obtain ⟨v2, vs2, d2, ds2, p2, q2, rfl, rfl, rfl, h2, r2⟩ := trodAll_cons r1
  obtain ⟨rfl, rfl, rfl⟩ := trodAll_nil r2
  obtain rfl : args = #[v0, v1, v2] := by cases args; simp_all
  obtain ⟨rfl, rfl⟩ := trodVars_none hV
  obtain ⟨A0, c0, z0, rfl, lc0, mc0, I0, w0⟩ := view_ints Try.underlying40 Try.underlying5 (by kernel_rfl) (hval 0 40 v0 rfl rfl) h0
  obtain ⟨A1, c1, z1, rfl, lc1, mc1, I1, w1⟩ := view_ints Try.underlying40 Try.underlying5 (by kernel_rfl) (hval 1 40 v1 rfl rfl) h1
  obtain ⟨A2, c2, z2, rfl, lc2, mc2, I2, w2⟩ := view_ints Try.underlying40 Try.underlying5 (by kernel_rfl) (hval 2 40 v2 rfl rfl) h2
  clear hA0 hval0
  refine (sumMixes_walk A0 A1 A2 c0 c1 c2 z0 z1 z2 W lc0 lc1 lc2 (by unfold maxLen at *; omega) (by unfold maxLen at *; omega) (by unfold maxLen at *; omega) (lim_u8 w0) (lim_u8 w1) (lim_u8 w2) I0 I1 I2).mono fun e W' ⟨he, hx⟩ => ?_
  subst he
  exact ⟨_, rfl, post_ext (pv := []) hW' (fun _ _ _ => (trodAll_cons_mk (shut_bool Try.underlying4 _) trodAll_mk0)) (fun sp hsp => trodAll_stays laid hx _ _ _ _ (readable_of (by kernel_rfl)) hA (fun x hx => hlt x (by simp at hx ⊢; exact hx)) (fun x hx => hsp x (by simp at hx ⊢; exact hx))) (fun _ _ => rfl) rfl hx (ok_one (by kernel_rfl) rfl (okWide_bool_mk Try.underlying4 _))⟩

theorem over : Rows.sumMixesRow.holds Try.pinned (OpenSpec.ofChange Rows.sumMixesSpec) :=
  OpenClaim.holds_of_wide 11 Try.f11 rfl rfl rfl rfl rfl rfl rfl ⟨rfl, rfl, rfl, rfl, rfl⟩ rfl rfl rfl rfl rfl (by kernel_rfl) Try.func11 (by kernel_rfl)
    (of_decide_eq_true (by kernel_rfl)) (by unfold Func.isWrapper; first | (rw [if_pos (by decide +kernel)]; kernel_rfl) | (rw [if_neg (by decide +kernel)]; exact ⟨rfl, rfl⟩))
    (fun os started H enc _ => lifted os started H enc)
end sumMixes

theorem sumMixes_holds : Rows.SumMixesSaid := sumMixes.over
#print axioms sumMixes_holds
end Go.Proofs.Ytkeppicoobeoeaa
