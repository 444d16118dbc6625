/- Package hash: how many keys lie in each bucket. Conditions: those that each theorem names. -/
import Derived.Test.YtfjfeomkmhbpbaaHash2
import Derived.Test.YtfjfeomkmhbpbaaFr
import Derived.Test.YtfjfeomkmhbpbaaMem
import Derived.Test.YtfjfeomkmhbpbaaArgs
namespace Go.Proofs.Ytfjfeomkmhbpbaa
open Go.ChangeShapes Go.WideShapes Go.ChangeAt Go.RowKit
set_option linter.unusedVariables false
/-- How often each number has been met. -/
def cntV (s : Nat) (M : List Int) : List Value := (List.range s).map fun (i : Nat) => .int .i64 ((M.count (i : Int) : Nat) : Int)
theorem cntV_nil (s : Nat) : cntV s [] = List.replicate s (.int .i64 0) := by
  apply List.ext_getElem
  · simp [cntV]
  · intro i h1 h2
    simp [cntV]
theorem cntV_at {s p : Nat} {M : List Int} (h : p < s) : (cntV s M)[p]? = some (.int .i64 ((M.count (p : Int) : Nat) : Int)) := by
  unfold cntV
  rw [List.getElem?_map, List.getElem?_range h]
  rfl
theorem cntV_on (s p : Nat) (M : List Int) : (cntV s M).set p (.int .i64 (((M.count (p : Int) : Nat) : Int) + 1)) = cntV s (M ++ [(p : Int)]) := by
  apply List.ext_getElem
  · simp [cntV]
  · intro i h1 h2
    rw [List.getElem_set]
    simp only [cntV, List.getElem_map, List.getElem_range, List.count_append, List.count_singleton]
    by_cases e : p = i
    · subst e
      simp
    · rw [if_neg e, if_neg (by simp; omega)]
      simp
theorem take_on {L : List Int} {k : Nat} (h : k < L.length) : L.take (k + 1) = L.take k ++ [L.getD k 0] := by
  rw [List.take_add_one, List.getD_eq_getElem?_getD, List.getElem?_eq_getElem h]
  rfl
theorem make_ints9 (n : Nat) (hc : n ≤ 1000000000) (W : World) :
    (Instr.makeSlice 45 (.int .i64 (n : Int)) (.int .i64 (n : Int))).run Try.prog W = .ok (.slice (some ⟨W.heap.size, 0, none⟩) n n) (W.alloc (.cells (madeCells #[.int .i64 0] n) 3)) := by
  obtain ⟨i, hi, hz0, hz1, hz2⟩ := info_parts int_info
  have h := run_makeInts (k := .u8) Try.underlying45 hi hz0 hz1 n n (Nat.le_refl _) (by rw [hz2]; omega) (by unfold maxLen; omega) W
  rw [Nat.mul_one] at h
  exact h
theorem made_ints9 (n : Nat) : madeCells #[.int .i64 0] n = (List.replicate n (Value.int .i64 0)).toArray := by
  apply Array.ext
  · simp [madeCells]
  · intro i h1 h2
    simp [madeCells, Nat.mod_one]
/-- A key's bucket. -/
def bkN (mx : Nat → Nat) (m : Nat) (z : Int) : Int := ((mx z.toNat % m : Nat) : Int)
theorem bkN_nat (mx : Nat → Nat) (m a : Nat) : bkN mx m (a : Int) = ((mx a % m : Nat) : Int) := by
  unfold bkN
  rw [Int.toNat_natCast]
theorem bk_on (mx : Nat → Nat) (m a k : Nat) (zs : List Int) (h : zs.take (k + 1) = zs.take k ++ [(a : Int)]) : (zs.take (k + 1)).map (bkN mx m) = (zs.take k).map (bkN mx m) ++ [((mx a % m : Nat) : Int)] := by
  rw [h, List.map_append, List.map_cons, List.map_nil, bkN_nat]
theorem bk_count (mx : Nat → Nat) (m a k p : Nat) (zs : List Int) (h : zs.take (k + 1) = zs.take k ++ [(a : Int)]) : ((zs.take (k + 1)).map (bkN mx m)).count (p : Int) = ((zs.take k).map (bkN mx m)).count (p : Int) + (if mx a % m = p then 1 else 0) := by
  rw [bk_on mx m a k zs h, List.count_append, List.count_singleton]
  generalize mx a % m = q
  by_cases e : q = p
  · rw [if_pos e, if_pos (by rw [e]; exact beq_self_eq_true _)]
  · rw [if_neg e, if_neg (by rw [beq_iff_eq]; omega)]
theorem bucketN (a : Nat) (ha : a < 4294967296) (m : Nat) (h1 : 1 ≤ m) (h2 : m ≤ 64) (w : World) :
    Calls Try.prog 11 #[.int .u32 (a : Int), .int .i64 (m : Int)] w fun e w' => e = .returned (.int .i64 ((HM.mixN a % m : Nat) : Int)) ∧ w = w' := by
  have h := bucket_yes a ha (m : Int) (by omega) (by omega) w
  rw [← Int.natCast_emod] at h
  exact h
set_option maxHeartbeats 1000000 in
theorem spread_gen (mx : Nat → Nat) (w : World) (A : Option Addr) (n c : Nat) (zs : List Int) (hz : zs.length = n) (hn : n ≤ 300) (hI : Ints w .u32 A zs) (hr : ∀ j, j < n → ∃ a : Nat, zs.getD j 0 = (a : Int) ∧ a < 4294967296) (m : Nat) (h1 : 1 ≤ m) (h2 : m ≤ 64) (hB : ∀ (a : Nat), a < 4294967296 → ∀ W, Calls Try.prog 11 #[.int .u32 (a : Int), .int .i64 (m : Int)] W fun e w' => e = .returned (.int .i64 ((mx a % m : Nat) : Int)) ∧ W = w') :
    Calls Try.prog 18 #[.slice A n c, .int .i64 (m : Int)] w fun e w' => ∃ g, e = .returned (.slice (some ⟨g, 0, none⟩) m m) ∧ Blk w' g 3 (cntV m (zs.map (bkN mx m))) ∧ Ext w w' := by
  have HBk := Lib.hid hB
  have HI := Lib.hid hI
  have HR := Lib.hid hr
  have HZ := Lib.hid hz
  have hmk := fun W => make_ints9 m (by omega) W
  have HMd := Lib.hid (made_ints9 m)
  have d1 : decide (m < 1) = false := by simp; omega
  have d1' : decide ((m : Int) < 1) = false := by simp; omega
  have d2 : decide (64 < m) = false := by simp; omega
  have d2' : decide ((64 : Int) < (m : Int)) = false := by simp; omega
  generalize madeCells #[.int .i64 0] m = MW at *
  clear hI hr hz hB
  go_enter Try.func18, Try.ntmps18
  go_wp2
  have B2 : Hid (Blk (w.alloc (.cells MW 3)) w.heap.size 3 (cntV m ((zs.take 0).map (bkN mx m)))) := Lib.hid (by have := Blk.new w 3 (List.replicate m (Value.int .i64 0)); rw [← HMd.out] at this; rw [List.take_zero, List.map_nil, cntV_nil]; exact this)
  have X2 := Lib.hid ((Ext.refl w).alloc (.cells MW 3))
  generalize w.alloc (.cells MW 3) = w2 at *
  obtain ⟨gc, hgc⟩ : ∃ gc, w.heap.size = gc := ⟨_, rfl⟩
  rw [hgc] at B2
  have HGc := Lib.hid hgc
  rw [hgc]
  clear hmk HMd hgc d1 d1' d2 d2'
  go_loopw [18] (fun i wr => ∃ k : Nat, k ≤ n ∧ i = .int .i64 k ∧ Ext w wr ∧ Blk wr gc 3 (cntV m ((zs.take k).map (bkN mx m)))) (fun i _ => n - (intOf i).toNat)
  case atStart => exact ⟨0, Nat.zero_le _, rfl, X2.out, B2.out⟩
  case round =>
    obtain ⟨k, hk, rfl, xk, bk⟩ := hrel
    have XK := Lib.hid xk
    have BK := Lib.hid bk
    clear xk bk X2 B2
    by_cases hlt : k < n
    · have v1 : decide (k < n) = true := by simp; omega
      obtain ⟨ad, hAd, _, hcc⟩ := (HI.out.ext XK.out) (by have := HZ.out; omega)
      have p0 := hcc k (by have := HZ.out; omega)
      have HTk := Lib.hid (take_on (L := zs) (k := k) (by have := HZ.out; omega))
      obtain ⟨a, ha, hal⟩ := HR.out k hlt
      rw [ha] at p0 HTk
      subst hAd
      clear hcc ha
      have HB := Lib.hid (fun W => HBk.out a hal W)
      have hp : mx a % m < m := Nat.mod_lt _ (by omega)
      have HTk2 : Hid ((zs.take (k + 1)).map (bkN mx m) = (zs.take k).map (bkN mx m) ++ [((mx a % m : Nat) : Int)]) := Lib.hid (bk_on mx m a k zs HTk.out)
      generalize mx a % m = p at *
      obtain ⟨cc, hc⟩ : ∃ cc, ((zs.take k).map (bkN mx m)).count (p : Int) = cc := ⟨_, rfl⟩
      have hcb : cc ≤ 1000 := by
        have h1 : ((zs.take k).map (bkN mx m)).count (p : Int) ≤ ((zs.take k).map (bkN mx m)).length := List.count_le_length
        rw [List.length_map, List.length_take] at h1
        omega
      have y0 : wr.cell? ⟨gc, p, none⟩ = some (.int .i64 (cc : Int)) := by rw [BK.out.cell, cntV_at hp, hc]
      have z0 : wr.frozen? ⟨gc, p, none⟩ = false := BK.out.frozen p
      have wc : IntKind.i64.wrap ((cc : Int) + 1) = (cc : Int) + 1 := by
        unfold IntKind.wrap
        simp [IntKind.signed, IntKind.bits]
        omega
      have BN := Lib.hid (BK.out.set p (.int .i64 ((cc : Int) + 1)))
      have HE : Hid ((cntV m ((zs.take k).map (bkN mx m))).set p (.int .i64 ((cc : Int) + 1)) = cntV m ((zs.take (k + 1)).map (bkN mx m))) := Lib.hid (by rw [HTk2.out, ← cntV_on, hc])
      rw [HE.out] at BN
      have XN : Hid (Ext w (wr.setCell ⟨gc, p, none⟩ (.int .i64 ((cc : Int) + 1)))) := Lib.hid (XK.out.setCell (p := ⟨gc, p, none⟩) (by rw [HGc.out]; exact Nat.le_refl _) _)
      clear hc
      go_wp2_with fail
      refine (HB.out _).mono ?_
      rintro e w' ⟨rfl, rfl⟩
      go_wp2_with fail
      go_roundw
      case rel => exact ⟨k + 1, by omega, by go_num, XN.out, BN.out⟩
      case measure => simp [intOf]; omega
    · have v1 : decide (k < n) = false := by simp; omega
      obtain rfl : k = n := by omega
      have B3 : Hid (Blk wr gc 3 (cntV m (zs.map (bkN mx m)))) := Lib.hid (by
        have := BK.out
        rw [List.take_of_length_le (by have := HZ.out; omega)] at this
        exact this)
      go_wp2_with fail
      go_ret
      exact ⟨gc, rfl, B3.out, XK.out⟩
theorem spread_ok (w : World) (A : Option Addr) (n c : Nat) (zs : List Int) (hz : zs.length = n) (hn : n ≤ 300) (hI : Ints w .u32 A zs) (hr : ∀ j, j < n → ∃ a : Nat, zs.getD j 0 = (a : Int) ∧ a < 4294967296) (m : Nat) (h1 : 1 ≤ m) (h2 : m ≤ 64) :
    Calls Try.prog 18 #[.slice A n c, .int .i64 (m : Int)] w fun e w' => ∃ g, e = .returned (.slice (some ⟨g, 0, none⟩) m m) ∧ Blk w' g 3 (cntV m (zs.map (bkN HM.mixN m))) ∧ Ext w w' :=
  spread_gen HM.mixN w A n c zs hz hn hI hr m h1 h2 (fun a ha W => bucketN a ha m h1 h2 W)
theorem spread_no (w : World) (A : Option Addr) (n c : Nat) (m : Int) (h : m < 1 ∨ 64 < m) :
    Calls Try.prog 18 #[.slice A n c, .int .i64 m] w fun e w' => e = .returned (.slice none 0 0) ∧ w = w' := by
  by_cases h1 : m < 1
  · have d1 : decide (m < 1) = true := by simp; omega
    go_enter Try.func18, Try.ntmps18
    go_wp2
    go_ret
    exact ⟨rfl, rfl⟩
  · have d1 : decide (m < 1) = false := by simp; omega
    have d2 : decide (64 < m) = true := by simp; omega
    go_enter Try.func18, Try.ntmps18
    go_wp2
    go_ret
    exact ⟨rfl, rfl⟩
end Go.Proofs.Ytfjfeomkmhbpbaa
