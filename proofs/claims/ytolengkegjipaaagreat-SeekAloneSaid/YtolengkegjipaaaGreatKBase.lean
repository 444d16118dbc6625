/- What every proof of this seat leans on: 'Ext', that a world is an earlier one with new blocks behind it; and the last step of a law under 'Ext'. Conditions: none. -/
import Derived.Test.YtolengkegjipaaaGreatRows
import Derived.WalkKit
import Derived.ProofKit
import Derived.OpenShut
import Derived.Handy
import Derived.Lib.Hide
import Derived.Maps.AppendAt
import Derived.Deep.AppendLies
namespace Go.Proofs.YtolengkegjipaaaGreat
open Go.ChangeShapes Go.WideShapes Go.ChangeAt Go.RowKit

/-- The later world is the earlier one, with at most new blocks. -/
def Ext (w w' : World) : Prop := Below w.heap.size w w'

theorem Ext.refl (w : World) : Ext w w := Below.refl _ _
theorem Ext.trans {a b c : World} (h : Ext a b) (k : Ext b c) : Ext a c := Below.trans h (Below.mono k h.size)
theorem Ext.drew {a b : World} (h : Ext a b) : Ext a b.drew := Below.drew h
theorem Ext.alloc {a b : World} (h : Ext a b) (o : Obj) : Ext a (b.alloc o) := Below.alloc h h.size o
theorem Ext.setCell {a b : World} (h : Ext a b) {p : Addr} (hp : a.heap.size ≤ p.block) (u : Value) : Ext a (b.setCell p u) := Below.setCell h hp u
theorem Ext.of {a b : World} (h : Below a.heap.size a b) : Ext a b := h
theorem Ext.below {a b : World} (h : Ext a b) : Below a.heap.size a b := h

theorem ext2 (w : World) (o o' : Obj) : Ext w ((w.alloc o).alloc o') := ((Ext.refl w).alloc o).alloc o'
theorem ext4 (w : World) (o o' p p' : Obj) : Ext w ((((w.alloc o).alloc o').alloc p).alloc p') := (ext2 w o o').trans (ext2 _ p p')

theorem own : ownKnob Tryz.prog.godebug = none := by kernel_rfl

section
variable {H : Type} {enc : TypeId × Value → H} {P : Program}
/-- A law's last step: what was read reads as before, the old blocks stand as they stood. -/
theorem post_ext {f : Func} {s : ChangeSpec} {apart fresh handsOn again : Bool} {W W' : World} {args : Array Value} {v : Value} {ds gs : List (DataW H)} {old pa pv : List MemPlace}
    (whole : DataW.Whole enc P f.params.toList s.vars apart W args.toList ds gs old)
    (hres : ∀ (b : Nat) (sp : Nat → Bool) (hd : Bool), DataW.TrodAll enc P W' b sp hd f.resultTypes.toList (v.resultList f.resultTypes.size) (s.fn H (ds ++ gs)).results [])
    (hargs : ∀ sp : Nat → Bool, (∀ p ∈ old, sp p.block = true) → DataW.TrodAll enc P W' 0 sp true f.params.toList args.toList (s.fn H (ds ++ gs)).args pa)
    (hvars : ∀ sp : Nat → Bool, (∀ p ∈ old, sp p.block = true) → DataW.TrodVars enc P W' sp s.vars (s.fn H (ds ++ gs)).vars pv)
    (split : old = pa ++ pv) (ext : Ext W W')
    (hok : ∀ (j : Nat) (t : TypeId) (r : Value), f.resultTypes[j]? = some t → (v.resultList f.resultTypes.size)[j]? = some r → Value.okWide P W' .any 0 t r) :
    s.post enc P f apart fresh handsOn again W args v W' := by
  have low : ∀ p ∈ old, p.block < W.heap.size := fun p hp => whole.lt p hp
  have lowB : ∀ p ∈ old, (fun b => decide (b < W.heap.size)) p.block = true := fun p hp => by simpa using low p hp
  refine ⟨ds, gs, old, [], pa, pv, whole, hres _ _ _, hargs _ lowB, hvars _ lowB, World.keptBut_mono (fun p hp => ⟨hp, ?_⟩) (Below.frame ext.below (· ∈ old)), fun _ => ?_⟩
  · rw [split, List.mem_append] at hp
    exact Or.inr hp
  · obtain ⟨_, _, _, _, _, cold, once⟩ := whole
    refine ⟨hok, _, _, ([] ++ pa) ++ pv, ⟨[] ++ pa, pv, trodAll_append (hargs _ (fun _ _ => rfl)) (hres _ _ _), hvars _ (fun _ _ => rfl), rfl, ?_, ?_⟩, ?_⟩
    · intro b off hp
      have inOld : MemPlace.cell b off ∈ old := by rw [split]; simpa using hp
      rw [Below.frozen ext.below (low _ inOld)]
      exact cold b off inOld
    · intro ha
      have h := once ha
      rw [split] at h
      simpa using h
    · intro p hp _
      rw [split]
      simpa using hp
end
theorem wf_i64 {n : Int} (h : (Lit.int .i64 n).wf = true) : -9223372036854775808 ≤ n ∧ n < 9223372036854775808 := by
  simp [Lit.wf, IntKind.min, IntKind.max, IntKind.signed, IntKind.bits] at h; omega
theorem wf_u32 {n : Int} (h : (Lit.int .u32 n).wf = true) : 0 ≤ n ∧ n < 4294967296 := by
  simp [Lit.wf, IntKind.min, IntKind.max, IntKind.signed, IntKind.bits] at h; omega
end Go.Proofs.YtolengkegjipaaaGreat


/- Numbers alone: masks, shifts and joins of 64-bit words as remainders, quotients and sums. Conditions: the bounds that each theorem names. -/
namespace Go.Proofs.YtolengkegjipaaaGreat.BM
open Go.RowKit

theorem and_mask (k : Nat) (hk : k ≤ 64) (x : Int) (h0 : 0 ≤ x) (h1 : x < 18446744073709551616) : bits .and .u64 x (((2 ^ k - 1 : Nat)) : Int) = x % ((2 ^ k : Nat) : Int) := by
  obtain ⟨n, rfl⟩ := Int.eq_ofNat_of_zero_le h0
  have h2 : (2 : Nat) ^ k ≤ 2 ^ 64 := Nat.pow_le_pow_right (by omega) hk
  have h3 : (2 : Nat) ^ k - 1 < 18446744073709551616 := by omega
  rw [u64_and_nat n (2 ^ k - 1) (by omega) h3, Nat.and_two_pow_sub_one_eq_mod]
  omega
theorem and32 (x : Int) (h0 : 0 ≤ x) (h1 : x < 18446744073709551616) : bits .and .u64 x 4294967295 = x % 4294967296 := and_mask 32 (by omega) x h0 h1
theorem and7 (x : Int) (h0 : 0 ≤ x) (h1 : x < 18446744073709551616) : bits .and .u64 x 127 = x % 128 := and_mask 7 (by omega) x h0 h1
theorem and1 (x : Int) (h0 : 0 ≤ x) (h1 : x < 18446744073709551616) : bits .and .u64 x 1 = x % 2 := and_mask 1 (by omega) x h0 h1

theorem or_join (k : Nat) (hk : k ≤ 64) (x y : Int) (hx : 0 ≤ x) (hx1 : x < 18446744073709551616) (hy : 0 ≤ y) (hy1 : y < ((2 ^ k : Nat) : Int)) (hd : x % ((2 ^ k : Nat) : Int) = 0) : bits .or .u64 x y = x + y := by
  obtain ⟨m, rfl⟩ := Int.eq_ofNat_of_zero_le hx
  obtain ⟨n, rfl⟩ := Int.eq_ofNat_of_zero_le hy
  have h2 : (2 : Nat) ^ k ≤ 2 ^ 64 := Nat.pow_le_pow_right (by omega) hk
  rw [u64_or_nat m n (by omega) (by omega), nat_join k m n (by omega) (by omega)]
  omega
theorem or_comm (x y : Int) : bits .or .u64 x y = bits .or .u64 y x := by
  show IntKind.u64.wrap ((BitVec.ofInt 64 x ||| BitVec.ofInt 64 y).toNat : Int) = IntKind.u64.wrap ((BitVec.ofInt 64 y ||| BitVec.ofInt 64 x).toNat : Int)
  rw [BitVec.or_comm]
/-- A low part below 2^32, and a high one that is a multiple of it. -/
theorem or32 (x y : Int) (hx : 0 ≤ x) (hx1 : x < 4294967296) (hy : 0 ≤ y) (hy1 : y < 18446744073709551616) (hd : y % 4294967296 = 0) : bits .or .u64 x y = x + y := by
  rw [or_comm, or_join 32 (by omega) y x hy hy1 hx hx1 hd]; omega
/-- The bit of 2^63 put in. -/
theorem or63 (x : Int) (h0 : 0 ≤ x) (h1 : x < 18446744073709551616) : bits .or .u64 x 9223372036854775808 = x % 9223372036854775808 + 9223372036854775808 := by
  obtain ⟨n, rfl⟩ := Int.eq_ofNat_of_zero_le h0
  have e := u64_or_nat n 9223372036854775808 (by omega) (by omega)
  refine e.trans ?_
  by_cases h : n < 9223372036854775808
  · rw [Nat.or_comm, nat_join 63 9223372036854775808 n (by omega) (by omega)]; omega
  · have e2 : n ||| 9223372036854775808 = n := by
      have e3 : n = 9223372036854775808 ||| (n - 9223372036854775808) := by rw [nat_join 63 9223372036854775808 (n - 9223372036854775808) (by omega) (by omega)]; omega
      rw [Nat.or_comm, e3, ← Nat.or_assoc, Nat.or_self]
    rw [e2]; omega
/-- The bit of 2^63 struck. -/
theorem not63 (x : Int) (h0 : 0 ≤ x) (h1 : x < 18446744073709551616) : bits .andNot .u64 x 9223372036854775808 = x % 9223372036854775808 := by
  obtain ⟨n, rfl⟩ := Int.eq_ofNat_of_zero_le h0
  have e := u64_andNot_nat n 9223372036854775808 (by omega) (by omega)
  refine e.trans ?_
  have e2 : n &&& (18446744073709551615 - 9223372036854775808) = n % 2 ^ 63 := Nat.and_two_pow_sub_one_eq_mod n 63
  rw [e2]; omega
/-- Whether the bit of 2^63 is there; whether that of 2^32 is. -/
def dirtyB (x : Int) : Bool := x / 9223372036854775808 == 1
theorem dirty_of (x : Int) (h0 : 0 ≤ x) (h1 : x < 18446744073709551616) : (bits .and .u64 (x / 9223372036854775808) 1 == 1) = dirtyB x := by
  rw [and1 _ (by omega) (by omega)]; unfold dirtyB
  congr 1; omega
theorem clean_of (x : Int) (h0 : 0 ≤ x) (h1 : x < 18446744073709551616) : bits .andNot .u64 x 9223372036854775808 = x % 9223372036854775808 := not63 x h0 h1
theorem soil_of (x : Int) (h0 : 0 ≤ x) (h1 : x < 18446744073709551616) : bits .or .u64 x 9223372036854775808 = x % 9223372036854775808 + 9223372036854775808 := or63 x h0 h1
theorem field32 (a : Int) : IntKind.u64.wrap (bits .and .u64 (IntKind.u64.wrap (IntKind.u64.wrap a + 1)) 4294967295) = (a + 1) % 4294967296 := by
  rw [and32 _ (by rw [IntKind.wrap_u64]; omega) (by rw [IntKind.wrap_u64]; omega)]
  simp only [IntKind.wrap_u64]
  omega
theorem high7 (a : Int) : IntKind.u64.wrap (bits .and .u64 (IntKind.u64.wrap (IntKind.u64.wrap a + 1)) 127 * 4294967296) = 4294967296 * ((a + 1) % 128) := by
  rw [and7 _ (by rw [IntKind.wrap_u64]; omega) (by rw [IntKind.wrap_u64]; omega)]
  simp only [IntKind.wrap_u64]
  omega
theorem link_of (a b : Int) : bits .or .u64 (IntKind.u64.wrap (bits .and .u64 (IntKind.u64.wrap (IntKind.u64.wrap a + 1)) 4294967295)) (IntKind.u64.wrap (bits .and .u64 (IntKind.u64.wrap (IntKind.u64.wrap b + 1)) 127 * 4294967296)) = (a + 1) % 4294967296 + 4294967296 * ((b + 1) % 128) := by
  rw [field32, high7, or32 _ _ (by omega) (by omega) (by omega) (by omega) (by omega)]
end Go.Proofs.YtolengkegjipaaaGreat.BM


/- What each function of package bits, and of the reference beside it, answers for any word and any numbers; the world has at most new blocks behind. Conditions: each argument lies in its type. -/
namespace Go.Proofs.YtolengkegjipaaaGreat
open Go.ChangeShapes Go.WideShapes Go.ChangeAt Go.RowKit
set_option linter.unusedVariables false

theorem ret_int {k : IntKind} {a b : Int} (h : a = b) : Ending.returned (.int k a) = .returned (.int k b) := by rw [h]
theorem ret_bool {a b : Bool} (h : a = b) : Ending.returned (.bool a) = .returned (.bool b) := by rw [h]
/-- What a function answers, whatever it lays behind. -/
def Tells (w : World) (v : Value) (e : Ending) (w' : World) : Prop := e = .returned v ∧ Ext w w'

theorem mkf : ∀ (fn : Fn) (first cap : Array Value) (w : World), (Instr.makeFunc fn first cap).run Tryz.prog w = .ok (.func fn first cap) w := fun _ _ _ _ => rfl

theorem less_any (f : Int) (h0 : 0 ≤ f) (h1 : f < 9223372036854775808) (w : World) :
    Calls Tryz.prog 78 #[.int .u64 f] w fun e w' => e = .returned (.int .i64 (f - 1)) ∧ w = w' := by
  by_cases hf : f = 0
  · subst hf
    go_enter Tryz.func78, Tryz.ntmps78
    go_wp2
    go_ret
    exact ⟨rfl, rfl⟩
  · have hb : ((f : Int) == 0) = false := by simpa using hf
    clear hf
    go_enter Tryz.func78, Tryz.ntmps78
    go_wp2
    go_ret
    exact ⟨ret_int (by go_arith), rfl⟩

set_option maxHeartbeats 400000 in
theorem to_any (x : Int) (h0 : 0 ≤ x) (h1 : x < 18446744073709551616) (w : World) :
    Calls Tryz.prog 59 #[.int .u64 x] w (Tells w (.int .i64 (x % 4294967296 - 1))) := by
  have hmf := mkf
  go_enter Tryz.func59, Tryz.ntmps59
  go_wp2_with (first | (go_at_call 78; (with_reducible refine (less_any _ (by rw [BM.and32 x h0 h1]; omega) (by rw [BM.and32 x h0 h1]; omega) _).mono ?_); rintro e w' ⟨rfl, rfl⟩) | go_in)
  go_ret
  exact ⟨ret_int (by rw [BM.and32 x h0 h1]), ext2 _ _ _⟩

set_option maxHeartbeats 400000 in
theorem by_any (x : Int) (h0 : 0 ≤ x) (h1 : x < 18446744073709551616) (w : World) :
    Calls Tryz.prog 89 #[.int .u64 x] w (Tells w (.int .i64 (x / 4294967296 % 128 - 1))) := by
  have hmf := mkf
  go_enter Tryz.func89, Tryz.ntmps89
  go_wp2_with (first | (go_at_call 78; (with_reducible refine (less_any _ (by rw [BM.and7 _ (by omega) (by omega)]; omega) (by rw [BM.and7 _ (by omega) (by omega)]; omega) _).mono ?_); rintro e w' ⟨rfl, rfl⟩) | go_in)
  go_ret
  exact ⟨ret_int (by rw [BM.and7 _ (by omega) (by omega)]), ext2 _ _ _⟩

set_option maxHeartbeats 400000 in
theorem dirty_any (x : Int) (h0 : 0 ≤ x) (h1 : x < 18446744073709551616) (w : World) :
    Calls Tryz.prog 102 #[.int .u64 x] w (Tells w (.bool (BM.dirtyB x))) := by
  have hmf := mkf
  go_enter Tryz.func102, Tryz.ntmps102
  go_wp2
  go_ret
  exact ⟨ret_bool (by exact BM.dirty_of x h0 h1), ext2 _ _ _⟩

set_option maxHeartbeats 400000 in
theorem clean_any (x : Int) (h0 : 0 ≤ x) (h1 : x < 18446744073709551616) (w : World) :
    Calls Tryz.prog 107 #[.int .u64 x] w (Tells w (.int .u64 (x % 9223372036854775808))) := by
  have hmf := mkf
  go_enter Tryz.func107, Tryz.ntmps107
  go_wp2
  go_ret
  exact ⟨ret_int (by exact BM.clean_of x h0 h1), ext2 _ _ _⟩

set_option maxHeartbeats 400000 in
theorem soil_any (x : Int) (h0 : 0 ≤ x) (h1 : x < 18446744073709551616) (w : World) :
    Calls Tryz.prog 22 #[.int .u64 x] w (Tells w (.int .u64 (x % 9223372036854775808 + 9223372036854775808))) := by
  have hmf := mkf
  go_enter Tryz.func22, Tryz.ntmps22
  go_wp2
  go_ret
  exact ⟨ret_int (by exact BM.soil_of x h0 h1), ext2 _ _ _⟩

set_option maxHeartbeats 400000 in
theorem link_any (a b : Int) (h0 : -9223372036854775808 ≤ a) (h1 : a < 9223372036854775808) (h2 : -9223372036854775808 ≤ b) (h3 : b < 9223372036854775808) (w : World) :
    Calls Tryz.prog 21 #[.int .i64 a, .int .i64 b] w (Tells w (.int .u64 ((a + 1) % 4294967296 + 4294967296 * ((b + 1) % 128)))) := by
  have hmf := mkf
  go_enter Tryz.func21, Tryz.ntmps21
  go_wp2
  go_ret
  exact ⟨ret_int (by exact BM.link_of a b), ext4 _ _ _ _ _⟩

end Go.Proofs.YtolengkegjipaaaGreat


/- A slice of integers that the call made itself: what it reads as, that one more may be laid behind it, and that a cell may be written. Conditions: those that each theorem names. -/
namespace Go.Proofs.YtolengkegjipaaaGreat
open Go.ChangeShapes Go.WideShapes Go.ChangeAt Go.RowKit
set_option linter.unusedVariables false

/-- A slice's cells, from its address on, hold these integers; a slice of none may lie nowhere. -/
def Ints (w : World) (k : IntKind) (A : Option Addr) (zs : List Int) : Prop :=
  0 < zs.length → ∃ ad, A = some ad ∧ ad.block < w.heap.size ∧ ∀ j, j < zs.length → w.cell? (ad.add j) = some (.int k (zs.getD j 0))
theorem add_block (a : Addr) (n : Nat) : (a.add n).block = a.block := by unfold Addr.add; split <;> rfl
theorem Ints.ext {w w' : World} {k : IntKind} {A : Option Addr} {zs : List Int} (h : Ints w k A zs) (x : Ext w w') : Ints w' k A zs := fun hn => by
  obtain ⟨ad, e, hb, hc⟩ := h hn
  exact ⟨ad, e, Nat.lt_of_lt_of_le hb x.size, fun j hj => (Below.cell x.below (by rw [add_block]; exact hb)).trans (hc j hj)⟩
theorem Ints.none (w : World) (k : IntKind) (A : Option Addr) : Ints w k A [] := fun h => absurd h (by simp)
/-- All of a list are numbers below m, not below 0. -/
def Lim (zs : List Int) (m : Int) : Prop := ∀ j, j < zs.length → 0 ≤ zs.getD j 0 ∧ zs.getD j 0 < m
/-- A row of the call's own, from block B on. -/
def Row (w : World) (B : Nat) (e : TypeId) (k : IntKind) (v : Value) (zs : List Int) : Prop := w.ownsRow B e 1 v zs.length (zs.map (Value.int k))
theorem Row.nil (w : World) (B : Nat) (e : TypeId) (k : IntKind) : Row w B e k (.slice none 0 0) [] := World.ownsRow_nil w B e 1
theorem at0 (g j : Nat) : (⟨g, 0, none⟩ : Addr).add j = ⟨g, j, none⟩ := by unfold Addr.add; split <;> simp_all

/-- What a row's value is: a slice, whose cells are the integers, in a block from B on. -/
theorem Row.form {w : World} {B : Nat} {e : TypeId} {k : IntKind} {v : Value} {zs : List Int} (h : Row w B e k v zs) :
    ∃ A c, v = .slice A zs.length c ∧ Ints w k A zs ∧ (0 < zs.length → ∃ g, A = some ⟨g, 0, none⟩ ∧ B ≤ g ∧ g < w.heap.size) := by
  rcases h.2 with ⟨hv, hn⟩ | ⟨g, cap, cur, hv, hg, hh, hnc, hcm, hcs, ht⟩
  · rw [hv, hn]
    exact ⟨none, 0, rfl, fun h0 => absurd h0 (by omega), fun h0 => absurd h0 (by omega)⟩
  · have hlt : g < w.heap.size := by
      rcases Nat.lt_or_ge g w.heap.size with hlt | hge
      · exact hlt
      · rw [Array.getElem?_eq_none hge] at hh; cases hh
    have h' : w.ownsRow B e 1 (.slice (some ⟨g, 0, none⟩) zs.length cap) zs.length (zs.map (Value.int k)) := by rw [← hv]; exact h
    refine ⟨some ⟨g, 0, none⟩, cap, hv, fun _ => ⟨_, rfl, hlt, fun j hj => ?_⟩, fun _ => ⟨g, rfl, hg, hlt⟩⟩
    rw [at0, h'.cellAt j (by omega)]
    simp [List.getD_eq_getElem?_getD, hj]

theorem Row.mono {w : World} {B B' : Nat} {e : TypeId} {k : IntKind} {v : Value} {zs : List Int} (h : Row w B e k v zs) (hB : B' ≤ B) : Row w B' e k v zs := by
  refine ⟨h.1, ?_⟩
  rcases h.2 with h2 | ⟨g, cap, cur, hv, hg, r⟩
  · exact Or.inl h2
  · exact Or.inr ⟨g, cap, cur, hv, Nat.le_trans hB hg, r⟩
/-- A row that is not empty lies at an address. -/
theorem Row.at_ {w : World} {B n : Nat} {e : TypeId} {k : IntKind} {v : Value} {zs : List Int} (h : Row w B e k v zs) (hn : zs.length = n) (h0 : 0 < n) :
    ∃ g c, v = .slice (some ⟨g, 0, none⟩) n c ∧ B ≤ g ∧ g < w.heap.size ∧ ∀ j, j < n → w.cell? ⟨g, j, none⟩ = some (.int k (zs.getD j 0)) := by
  obtain ⟨A, c, rfl, hI, hA⟩ := h.form
  obtain ⟨g, rfl, hg, hlt⟩ := hA (by omega)
  obtain ⟨ad, e1, _, hc⟩ := hI (by omega)
  obtain rfl : (⟨g, 0, none⟩ : Addr) = ad := by injection e1
  exact ⟨g, c, by rw [hn], hg, hlt, fun j hj => by rw [← at0]; exact hc j (by omega)⟩
/-- A literal of one element. -/
theorem Row.one (w : World) (e : TypeId) (k : IntKind) (z : Int) : Row (w.alloc (.cells #[.int k z] e)) w.heap.size e k (.slice (some ⟨w.heap.size, 0, none⟩) 1 1) [z] :=
  World.ownsRow_lit w #[.int k z] 1 (Nat.le_refl _) (by decide) rfl

section
variable {P : Program}
/-- append(s, z), of a row of the call's own: of the old blocks just the row's own may turn, and the new row lies there, or in a new block. -/
theorem wpList_pushOff {ops : Array Oper} {rest : List Oper} {o : Oper} {a : Act} {Q : Exit → Act → World → Prop} (hgd : o.guard = none) (s x : Operand) (t : TypeId)
    (ho : o.op = .call { callee := .builtin .append, args := #[s, x], argTypes := #[t, t] })
    (e : TypeId) (k : IntKind) (bytes : Nat) (hinfo : (P.info? e).map (fun i => (i.zero, i.size, i.bytes)) = some (some (.int k 0), 1, bytes)) (hby : bytes ≤ 8) (ht : P.underlying t = some (.slice e))
    (w0 W : World) (v : Value) (zs : List Int) (z : Int) (hs : a.eval s = v) (hrow : Row W w0.heap.size e k v zs) (ext : Ext w0 W)
    (hx : a.eval x = .slice (some ⟨W.heap.size, 0, none⟩) 1 1) (hlen : zs.length < 1000000000)
    (h : ∀ v' w', Row w' w0.heap.size e k v' (zs ++ [z]) → Ext w0 w' → (∀ g, g < W.heap.size → v.ownBlock ≠ some g → w'.heap[g]? = W.heap[g]? ∧ v'.ownBlock ≠ some g) → wpList P ops Q rest (a.put o.dst v') w') :
    wpList P ops Q (o :: rest) a (W.alloc (.cells #[.int k z] e)) := by
  obtain ⟨i, hi, hz0, hz1, hz2⟩ := info_parts hinfo
  refine wpList_append_own_at _ hgd s x t ho w0.heap.size e i (.int k 0) 1 bytes ht hi hz0 hz1 hz2 rfl (by decide) v zs.length (zs.map (Value.int k)) hs (hrow.alloc _) ⟨W.heap.size, 0, none⟩ 1 1 [.int k z] hx rfl ?_ ?_ ?_ ?_ ?_ ?_
  · intro j u hj
    match j, hj with
    | 0, hj => simp at hj; subst hj; rw [at0, World.cell?_alloc_at _ _ _ _ rfl]; rfl
  · intro u hu; simp at hu; subst hu; rfl
  · unfold maxLen; omega
  · have : (zs.length + 1) * bytes ≤ 1000000000 * 8 := Nat.mul_le_mul (by omega) hby
    omega
  · have := ext.size; simp; omega
  · intro v' w' hown hg _ hat
    refine h v' w' ?_ ?_ ?_
    · unfold Row
      rw [List.map_append, List.length_append]
      exact hown
    · have hlt := hrow.lt
      exact Ext.of ((Below.alloc ext.below ext.size _).grown hg (by have := ext.size; simp; omega) (fun q hq => (hlt q hq).1))
    · intro g hgl hne
      refine ⟨(hg.block g (by simp; omega) (fun e => hne e.symm)).trans (Below.heap_alloc _ _ _ hgl), ?_⟩
      rcases hat with e | e
      · rw [e]; exact hne
      · rw [e]
        simp
        omega
theorem wpList_push {ops : Array Oper} {rest : List Oper} {o : Oper} {a : Act} {Q : Exit → Act → World → Prop} (hgd : o.guard = none) (s x : Operand) (t : TypeId)
    (ho : o.op = .call { callee := .builtin .append, args := #[s, x], argTypes := #[t, t] })
    (e : TypeId) (k : IntKind) (bytes : Nat) (hinfo : (P.info? e).map (fun i => (i.zero, i.size, i.bytes)) = some (some (.int k 0), 1, bytes)) (hby : bytes ≤ 8) (ht : P.underlying t = some (.slice e))
    (w0 W : World) (v : Value) (zs : List Int) (z : Int) (hs : a.eval s = v) (hrow : Row W w0.heap.size e k v zs) (ext : Ext w0 W)
    (hx : a.eval x = .slice (some ⟨W.heap.size, 0, none⟩) 1 1) (hlen : zs.length < 1000000000)
    (h : ∀ v' w', Row w' w0.heap.size e k v' (zs ++ [z]) → Ext w0 w' → wpList P ops Q rest (a.put o.dst v') w') :
    wpList P ops Q (o :: rest) a (W.alloc (.cells #[.int k z] e)) :=
  wpList_pushOff hgd s x t ho e k bytes hinfo hby ht w0 W v zs z hs hrow ext hx hlen fun v' w' h1 h2 _ => h v' w' h1 h2
end
theorem Row.ext {w w' : World} {B : Nat} {e : TypeId} {k : IntKind} {v : Value} {zs : List Int} (h : Row w B e k v zs) (x : Ext w w') : Row w' B e k v zs := by
  refine ⟨h.1, ?_⟩
  rcases h.2 with h2 | ⟨g, cap, cur, hv, hg, hh, r⟩
  · exact Or.inl h2
  · refine Or.inr ⟨g, cap, cur, hv, hg, ?_, r⟩
    have hlt : g < w.heap.size := by
      rcases Nat.lt_or_ge g w.heap.size with hlt | hge
      · exact hlt
      · rw [Array.getElem?_eq_none hge] at hh; cases hh
    rw [x.block g hlt]; exact hh
/-- A row's block lies below the world's end. -/
theorem Row.off {w : World} {B g : Nat} {e : TypeId} {k : IntKind} {v : Value} {zs : List Int} (h : Row w B e k v zs) (hg : w.heap.size ≤ g) : v.ownBlock ≠ some g := fun he => by
  have := (World.ownsRow.lt h g he).2
  omega
section
variable {P : Program}
end
section
variable {P : Program}
end
end Go.Proofs.YtolengkegjipaaaGreat

