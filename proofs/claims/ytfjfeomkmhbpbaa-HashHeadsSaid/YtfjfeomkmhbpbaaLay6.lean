/- What a layout tells, by what its cells hold; of no layout, by noughts. Conditions: those that each theorem names. -/
import Derived.Test.YtfjfeomkmhbpbaaLay1
namespace Go.Proofs.Ytfjfeomkmhbpbaa
open Go.ChangeShapes Go.WideShapes Go.ChangeAt Go.RowKit
set_option linter.unusedVariables false

def noughts : List Value := [.int .i64 0, .int .i64 0, .int .i64 0, .int .i64 0, .int .i64 0, .int .i64 0, .int .i64 0, .int .i64 0, .int .i64 0, .int .i64 0, .int .i64 0, .int .i64 0, .int .i64 0, .int .i64 0, .int .i64 0, .int .i64 0, .int .i64 0, .int .i64 0, .int .i64 0, .int .i64 0, .int .i64 0, .int .i64 0, .int .i64 0, .int .i64 0, .int .i64 0, .int .i64 0, .int .i64 0, .int .i64 0, .int .i64 0]
/-- At a pointer a layout with these cells is told, or, where there is none, noughts are. -/
def LayAt (w : World) (p : Option Addr) (cs : List Value) : Prop := (∃ g, p = some ⟨g, 0, none⟩ ∧ Blk w g 71 cs) ∨ (p = none ∧ cs = noughts)
theorem LayAt.ext {w w' : World} {p : Option Addr} {cs : List Value} (h : LayAt w p cs) (x : Ext w w') : LayAt w' p cs := by
  rcases h with ⟨g, rfl, hg⟩ | h
  · exact Or.inl ⟨g, rfl, hg.ext x⟩
  · exact Or.inr h
theorem or_any (p : Option Addr) (cs : List Value) (w : World) (h : LayAt w p cs) :
    Calls Try.prog 39 #[.pointer p] w fun e w' => ∃ g, e = .returned (.pointer (some ⟨g, 0, none⟩)) ∧ Blk w' g 71 cs ∧ Ext w w' := by
  rcases h with ⟨g, rfl, hg⟩ | ⟨rfl, rfl⟩
  · go_enter Try.func39, Try.ntmps39
    go_wp2
    go_ret
    exact ⟨g, rfl, hg, Ext.refl _⟩
  · go_enter Try.func39, Try.ntmps39
    go_wp2
    go_ret
    exact ⟨w.heap.size, rfl, Blk.new w _ noughts, (Ext.refl _).alloc _⟩
theorem tLines_any (p : Option Addr) (cs : List Value) (v : Int) (w : World) (h : LayAt w p cs) (hv : cs[4]? = some (.int .i64 v)) :
    Calls Try.prog 61 #[.pointer p] w fun e w' => e = .returned (.int .i64 v) ∧ Ext w w' := by
  go_enter Try.func61, Try.ntmps61
  go_wp2_with fail
  refine (or_any p cs _ h).mono ?_
  rintro e w' ⟨g, rfl, hg, hx⟩
  have q : w'.cell? ⟨g, 4, none⟩ = some (.int .i64 v) := by rw [hg.cell]; exact hv
  clear hg hv h
  go_wp2_with fail
  go_ret
  exact ⟨rfl, hx⟩
theorem tSet_any (p : Option Addr) (cs : List Value) (v : Int) (w : World) (h : LayAt w p cs) (hv : cs[8]? = some (.int .i64 v)) :
    Calls Try.prog 37 #[.pointer p] w fun e w' => e = .returned (.int .i64 v) ∧ Ext w w' := by
  go_enter Try.func37, Try.ntmps37
  go_wp2_with fail
  refine (or_any p cs _ h).mono ?_
  rintro e w' ⟨g, rfl, hg, hx⟩
  have q : w'.cell? ⟨g, 8, none⟩ = some (.int .i64 v) := by rw [hg.cell]; exact hv
  clear hg hv h
  go_wp2_with fail
  go_ret
  exact ⟨rfl, hx⟩
theorem tNoWord_any (g : Nat) (cs : List Value) (v : Int) (w : World) (hg : Blk w g 71 cs) (hv : cs[4]? = some (.int .i64 v)) (h0 : 0 ≤ v) (h1 : v ≤ 1000000) :
    Calls Try.prog 59 #[.pointer (some ⟨g, 0, none⟩)] w fun e w' => e = .returned (.int .i64 (v * 8)) ∧ w = w' := by
  have q : w.cell? ⟨g, 4, none⟩ = some (.int .i64 v) := by rw [hg.cell]; exact hv
  clear hg hv
  go_enter Try.func59, Try.ntmps59
  go_wp2_with fail
  go_ret
  exact ⟨rfl, rfl⟩
theorem has_yes (a d m n : Int) (w : World) (h : 0 ≤ n ∧ n < m) : Calls Try.prog 58 #[.agg #[.int .i64 a, .int .i64 d, .int .i64 m], .int .i64 n] w fun e w' => e = .returned (.bool true) ∧ Ext w w' := by
  obtain ⟨h0, h1⟩ := h
  go_enter Try.func58, Try.ntmps58
  go_wp2
  go_ret
  exact ⟨rfl, (Ext.refl _).alloc _⟩
theorem has_no (a d m n : Int) (w : World) (h : ¬ (0 ≤ n ∧ n < m)) : Calls Try.prog 58 #[.agg #[.int .i64 a, .int .i64 d, .int .i64 m], .int .i64 n] w fun e w' => e = .returned (.bool false) ∧ Ext w w' := by
  by_cases h0 : 0 ≤ n
  · have h1 : ¬ n < m := fun x => h ⟨h0, x⟩
    clear h
    go_enter Try.func58, Try.ntmps58
    go_wp2
    go_ret
    exact ⟨rfl, (Ext.refl _).alloc _⟩
  · clear h
    go_enter Try.func58, Try.ntmps58
    go_wp2
    go_ret
    exact ⟨rfl, (Ext.refl _).alloc _⟩
/-- The bounds of a row, so that no number of a word is cut. -/
def Small (x : Int) : Prop := -1000000000 ≤ x ∧ x ≤ 1000000000
theorem rword_any (a d m n pl : Int) (w : World) (ha : Small a) (hp : Small pl) (hm : Small (n * d)) : Calls Try.prog 60 #[.agg #[.int .i64 a, .int .i64 d, .int .i64 m], .int .i64 n, .int .i64 pl] w fun e w' => e = .returned (.int .i64 (a + n * d + pl)) ∧ Ext w w' := by
  obtain ⟨a0, a1⟩ := ha
  obtain ⟨p0, p1⟩ := hp
  obtain ⟨m0, m1⟩ := hm
  go_enter Try.func60, Try.ntmps60
  go_wp2
  go_ret
  exact ⟨rfl, (Ext.refl _).alloc _⟩
/-- The number of a word of a thing in a row, or that of no word. -/
def wordAt (v a d m n pl : Int) : Int := if 0 ≤ n ∧ n < m then a + n * d + pl else v * 8
theorem word_at (g : Nat) (cs : List Value) (v a d m n pl : Int) (w : World) (hg : Blk w g 71 cs) (hv : cs[4]? = some (.int .i64 v)) (h0 : 0 ≤ v) (h1 : v ≤ 1000000) (ha : Small a) (hp : Small pl) (hd : -1000 ≤ d ∧ d ≤ 1000) (hm : m ≤ 65536) :
    Calls Try.prog 40 #[.pointer (some ⟨g, 0, none⟩), .agg #[.int .i64 a, .int .i64 d, .int .i64 m], .int .i64 n, .int .i64 pl] w fun e w' => e = .returned (.int .i64 (wordAt v a d m n pl)) ∧ Ext w w' := by
  by_cases h : 0 ≤ n ∧ n < m
  · have hnd : Small (n * d) := by
      obtain ⟨d0, d1⟩ := hd
      obtain ⟨n0, n1⟩ := h
      have e1 : n * d ≤ n * 1000 := Int.mul_le_mul_of_nonneg_left d1 n0
      have e2 : n * (-1000) ≤ n * d := Int.mul_le_mul_of_nonneg_left d0 n0
      unfold Small
      omega
    go_enter Try.func40, Try.ntmps40
    go_wp2_with fail
    refine (has_yes a d m n _ h).mono ?_
    rintro e w1 ⟨rfl, x1⟩
    obtain ⟨hc, hf⟩ := bcell x1.below
    go_wp2_with fail
    refine (rword_any a d m n pl _ ha hp hnd).mono ?_
    rintro e w2 ⟨rfl, x2⟩
    go_wp2_with fail
    go_ret
    exact ⟨reti (by unfold wordAt; rw [if_pos h]), (((Ext.refl _).alloc _).trans x1).trans x2⟩
  · go_enter Try.func40, Try.ntmps40
    go_wp2_with fail
    refine (has_no a d m n _ h).mono ?_
    rintro e w1 ⟨rfl, x1⟩
    have hg1 := (hg.ext ((Ext.refl w).alloc _)).ext x1
    go_wp2_with fail
    refine (tNoWord_any g cs v _ hg1 hv h0 h1).mono ?_
    rintro e w2 ⟨rfl, rfl⟩
    go_wp2_with fail
    go_ret
    exact ⟨reti (by unfold wordAt; rw [if_neg h]), ((Ext.refl _).alloc _).trans x1⟩
theorem tBucket_any (p : Option Addr) (cs : List Value) (v a d m n : Int) (w : World) (h : LayAt w p cs) (hv : cs[4]? = some (.int .i64 v)) (h0 : 0 ≤ v) (h1 : v ≤ 1000000) (ha : Small a) (hd : -1000 ≤ d ∧ d ≤ 1000) (hm : m ≤ 65536) (q0 : cs[9]? = some (.int .i64 a)) (q1 : cs[10]? = some (.int .i64 d)) (q2 : cs[11]? = some (.int .i64 m)) :
    Calls Try.prog 16 #[.pointer p, .int .i64 n] w fun e w' => e = .returned (.int .i64 (wordAt v a d m n 0)) ∧ Ext w w' := by
  go_enter Try.func16, Try.ntmps16
  go_wp2_with fail
  refine (or_any p cs _ h).mono ?_
  rintro e w' ⟨g, rfl, hg, hx⟩
  have k0 : w'.cell? ⟨g, 9, none⟩ = some (.int .i64 a) := by rw [hg.cell]; exact q0
  have k1 : w'.cell? ⟨g, 10, none⟩ = some (.int .i64 d) := by rw [hg.cell]; exact q1
  have k2 : w'.cell? ⟨g, 11, none⟩ = some (.int .i64 m) := by rw [hg.cell]; exact q2
  have HV := Lib.hid hv
  clear q0 q1 q2 h hv
  go_wp2_with fail
  refine (word_at g cs v a d m n 0 _ hg HV.out h0 h1 ha ⟨by omega, by omega⟩ hd hm).mono ?_
  rintro e w2 ⟨rfl, x2⟩
  go_wp2_with fail
  go_ret
  exact ⟨rfl, hx.trans x2⟩
end Go.Proofs.Ytfjfeomkmhbpbaa
