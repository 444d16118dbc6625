/- Library contracts laid at this program (slices.Clone, BinarySearch, Insert at []int), in plain words. Conditions: none. -/
import Derived.Ground.Names2Prog
import Derived.Shelf.Slices.Clone
import Derived.Shelf.Slices.SearchI
import Derived.Shelf.Spec.SlicesInsert
import Derived.Shelf.Spec.SlicesInsertGrow
import Derived.Test.YtfbobdkfibhcnaaBase
import Derived.Test.YtfbobdkfibhcnaaKDevB
import Derived.Test.YtfbobdkfibhcnaaLineFns6
namespace Go.Proofs.Ytfbobdkfibhcnaa
open Go.Shelf
end Go.Proofs.Ytfbobdkfibhcnaa

/- slices.Insert at a row of the call's own; a set that is added to; Flush. Conditions: those that each theorem names. -/
namespace Go.Proofs.Ytfbobdkfibhcnaa
open Go.ChangeShapes Go.WideShapes Go.ChangeAt Go.RowKit
set_option linter.unusedVariables false
/-- Cells put one behind the other. -/
def putL (cs : List Value) : Nat → List Value → List Value
  | _, [] => cs
  | o, v :: vs => putL (cs.set o v) (o + 1) vs
theorem putL_eq : ∀ (vs : List Value) (o : Nat) (cs : List Value), o + vs.length ≤ cs.length → putL cs o vs = cs.take o ++ vs ++ cs.drop (o + vs.length)
  | [], o, cs, _ => by simp [putL]
  | v :: vs, o, cs, h => by
    simp only [List.length_cons] at h
    rw [putL, putL_eq vs (o + 1) (cs.set o v) (by rw [List.length_set]; omega)]
    have h1 : (cs.set o v).take (o + 1) = cs.take o ++ [v] := by
      rw [List.take_add_one, List.getElem?_set_self (by omega), List.take_set_of_le (Nat.le_refl _)]; rfl
    have h2 : (cs.set o v).drop (o + 1 + vs.length) = cs.drop (o + 1 + vs.length) := List.drop_set_of_lt (by omega)
    rw [h1, h2]
    simp [Nat.add_assoc, Nat.add_comm 1]
theorem Blk.setCells {g : Nat} {t : TypeId} : ∀ (vs : List Value) (o : Nat) {w : World} {cs : List Value}, Blk w g t cs → Blk (w.setCells g o vs) g t (putL cs o vs)
  | [], _, _, _, h => h
  | v :: vs, o, _, _, h => Blk.setCells vs (o + 1) (h.set o v)
theorem setCells_fr (g : Nat) : ∀ (vs : List Value) (o : Nat) (w : World), Fr (fun k => k = g) w (w.setCells g o vs)
  | [], _, w => Fr.refl _ w
  | v :: vs, o, w => ((Fr.refl (fun k => k = g) w).setCell (p := ⟨g, o, none⟩) (Or.inl rfl) v).trans (setCells_fr g vs (o + 1) _) (fun _ _ h => h)
theorem Blk.drew {g : Nat} {t : TypeId} {w : World} {cs : List Value} (h : Blk w g t cs) : Blk w.drew g t cs := h
theorem zcells (n : Nat) : (Builtin.zeroCells (Value.int .i64 0).cells n).toList.length = n := by
  show (Builtin.zeroCells #[Value.int .i64 0] n).toList.length = n
  simp [Builtin.zeroCells]
/-- The list with a word put in. -/
def insAt (zs : List Int) (i : Nat) (x : Int) : List Int := zs.take i ++ x :: zs.drop i
theorem insAt_len (zs : List Int) (i : Nat) (x : Int) (hi : i ≤ zs.length) : (insAt zs i x).length = zs.length + 1 := by unfold insAt; simp; omega
theorem one_ints (l : List Int) : ∀ v ∈ l.map (Value.int .i64), v.oneCell' = true := fun v hv => by
  obtain ⟨z, _, rfl⟩ := List.mem_map.1 hv
  rfl
theorem shape_blk {g : Nat} {t : TypeId} {w : World} {cs : List Value} (h : Blk w g t cs) : w.shape? g = some (t, cs.length) := by
  unfold Blk at h
  simp [World.shape?, h]
end Go.Proofs.Ytfbobdkfibhcnaa

/- A set that is added to; Flush. Conditions: those that each theorem names. -/
namespace Go.Proofs.Ytfbobdkfibhcnaa
open Go.ChangeShapes Go.WideShapes Go.ChangeAt Go.RowKit
set_option linter.unusedVariables false
/-- A set with a word added. -/
def setAdd (l : List Int) (x : Int) : List Int := if l.contains x = true then l else insAt l (l.countP (· < x)) x
theorem drewN_heap (w : World) (q : Nat) : (w.drewN q).heap = w.heap := by
  induction q with
  | zero => rfl
  | succ q ih => exact ih
/-- What adding to a set leaves. -/
def Added (w0 w : World) (v : Value) (gf t : Nat) (x : Int) (zs : List Int) (e : Ending) (w' : World) : Prop :=
  (∃ u, e = .returned u) ∧ ((zs.contains x = true ∧ Ext w w') ∨ (zs.contains x = false ∧ ∃ v' w1, w' = w1.setCell ⟨gf, t, none⟩ v' ∧ Row w1 w0.heap.size 3 .i64 v' (insAt zs (zs.countP (· < x)) x) ∧ Ext w0 w1 ∧ (∀ g, g < w.heap.size → v.ownBlock ≠ some g → w1.heap[g]? = w.heap[g]? ∧ v'.ownBlock ≠ some g) ∧ w.heap.size ≤ w1.heap.size))
end Go.Proofs.Ytfbobdkfibhcnaa

/- Flush, Pending, Open of the device. Conditions: those that each theorem names. -/
namespace Go.Proofs.Ytfbobdkfibhcnaa
open Go.ChangeShapes Go.WideShapes Go.ChangeAt Go.RowKit
set_option linter.unusedVariables false
theorem set_getD_self (l : List (List Int)) (t : Nat) (ht : t < l.length) : l.set t (l.getD t []) = l := by
  rw [List.getD_eq_getElem?_getD, List.getElem?_eq_getElem ht]
  simp
/-- What hands back no device, and an error. -/
def DevNone (w : World) (k : Int) (r : Ending) (w' : World) : Prop := r = .returned (.tuple #[.pointer none, .int .i64 k]) ∧ Ext w w'
theorem open_thread (w : World) (v : Value) (T : Int) (hT : T < 1 ∨ 64 < T) : Calls Try.prog 40 #[v, .int .i64 T] w (DevNone w 1) := by
  have HM : Hid (Calls Try.prog 74 #[.int .i64 T] w fun e w' => e = .returned (.bool false) ∧ w = w') := by
    rcases hT with h | h
    · exact Lib.hid (mayBe_lo T h w)
    · exact Lib.hid (mayBe_hi T h w)
  go_enter Try.func40, Try.ntmps40
  go_wp2_with fail
  refine HM.out.mono ?_
  rintro e w' ⟨rfl, rfl⟩
  go_wp2_with fail
  go_ret2
  exact ⟨rfl, Ext.refl _⟩
theorem open_form (w : World) (A : Option Addr) (n c T : Nat) (hn : n ≤ 9223372036854775807) (h8 : n % 8 ≠ 0) (T0 : 0 < T) (T1 : T ≤ 64) : Calls Try.prog 40 #[.slice A n c, .int .i64 (T : Int)] w (DevNone w 3) := by
  have HM := Lib.hid (mayBe_ok (T : Int) (by omega) (by omega) w)
  have HC := Lib.hid (cut_form A n c hn h8 w)
  go_enter Try.func40, Try.ntmps40
  go_wp2_with fail
  refine HM.out.mono ?_
  rintro e w' ⟨rfl, rfl⟩
  go_wp2_with fail
  refine HC.out.mono ?_
  rintro e w1 ⟨rfl, x1⟩
  go_wp2_with fail
  go_ret2
  exact ⟨rfl, x1⟩
theorem open_long (w : World) (A : Option Addr) (n c T : Nat) (hn : n ≤ 9223372036854775807) (h8 : n % 8 = 0) (hl : 262144 < n / 8) (T0 : 0 < T) (T1 : T ≤ 64) : Calls Try.prog 40 #[.slice A n c, .int .i64 (T : Int)] w (DevNone w 2) := by
  have HM := Lib.hid (mayBe_ok (T : Int) (by omega) (by omega) w)
  have HC := Lib.hid (cut_long A n c hn h8 hl w)
  go_enter Try.func40, Try.ntmps40
  go_wp2_with fail
  refine HM.out.mono ?_
  rintro e w' ⟨rfl, rfl⟩
  go_wp2_with fail
  refine HC.out.mono ?_
  rintro e w1 ⟨rfl, x1⟩
  go_wp2_with fail
  go_ret2
  exact ⟨rfl, x1⟩
theorem open_none (w : World) (A : Option Addr) (c T : Nat) (hc : c ≤ 9223372036854775807) (T0 : 0 < T) (T1 : T ≤ 64) : Calls Try.prog 40 #[.slice A 0 c, .int .i64 (T : Int)] w (DevNone w 3) := by
  have HM := Lib.hid (mayBe_ok (T : Int) (by omega) (by omega) w)
  have HC := Lib.hid (cut_of A 0 c [] w rfl (by decide) (by omega) hc (none_lim _) (fun h => absurd h (by decide)))
  rw [Nat.zero_mul] at HC
  go_enter Try.func40, Try.ntmps40
  go_wp2_with fail
  refine HM.out.mono ?_
  rintro e w' ⟨rfl, rfl⟩
  go_wp2_with fail
  refine HC.out.mono ?_
  rintro e w1 ⟨v, rfl, hr, x1⟩
  obtain ⟨A', c', rfl, _, _, _, _, _⟩ := hr.form (by decide)
  clear hr
  go_wp2_with fail
  go_ret2
  exact ⟨rfl, x1⟩
set_option maxHeartbeats 400000 in
theorem open_ok (w : World) (A : Option Addr) (m c T : Nat) (zs : List Int) (hl : zs.length = m * 8) (m0 : 0 < m) (m1 : m ≤ 262144) (hcap : m * 8 ≤ c) (hcm : c ≤ 9223372036854775807) (hz : Lim zs 18446744073709551616) (hA : Ints w .u64 A zs) (T0 : 0 < T) (T1 : T ≤ 64) :
    Calls Try.prog 40 #[.slice A (m * 8) c, .int .i64 (T : Int)] w (DevNew w ⟨m, T, zs, zs, List.replicate m 0, List.replicate T []⟩) := by
  have HM := Lib.hid (mayBe_ok (T : Int) (by omega) (by omega) w)
  have HC := Lib.hid (cut_of A m c zs w hl m1 hcap hcm hz hA)
  clear hA hl
  go_enter Try.func40, Try.ntmps40
  go_wp2_with fail
  refine HM.out.mono ?_
  rintro e w' ⟨rfl, rfl⟩
  go_wp2_with fail
  refine HC.out.mono ?_
  rintro e w1 ⟨v, rfl, hr, x1⟩
  obtain ⟨gk, ck, rfl, _, _, _, _⟩ := hr.at_ m0
  have HO := Lib.hid (over_of w.heap.size w1 gk ck m T zs m0 m1 T0 T1 hz x1.size hr)
  clear hr
  have t1 : decide ((m : Int) = 0) = false := by simp; omega
  go_wp2_with fail
  refine HO.out.mono ?_
  rintro e w2 ⟨D, rfl, h1, h2, h3⟩
  go_wp2_with fail
  go_ret2
  exact ⟨D, rfl, h1, x1.trans h2⟩
end Go.Proofs.Ytfbobdkfibhcnaa
