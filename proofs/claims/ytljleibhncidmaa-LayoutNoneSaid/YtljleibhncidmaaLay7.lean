/- More that a layout tells: its config, an entry of a log, the slot around a word. Conditions: those that each theorem names. -/
import Derived.Test.YtljleibhncidmaaLay6
namespace Go.Proofs.Ytljleibhncidmaa
open Go.ChangeShapes Go.WideShapes Go.ChangeAt Go.RowKit
set_option linter.unusedVariables false
theorem tConfig_any (p : Option Addr) (cs : List Value) (t s l b : Int) (w : World) (h : LayAt w p cs) (q0 : cs[0]? = some (.int .i64 t)) (q1 : cs[1]? = some (.int .i64 s)) (q2 : cs[2]? = some (.int .i64 l)) (q3 : cs[3]? = some (.int .i64 b)) :
    Calls Try.prog 23 #[.pointer p] w fun e w' => e = .returned (.agg #[.int .i64 t, .int .i64 s, .int .i64 l, .int .i64 b]) ∧ Ext w w' := by
  have h' := h.ext ((Ext.refl w).alloc (.cells #[.int .i64 0, .int .i64 0, .int .i64 0, .int .i64 0] 23))
  go_enter Try.func23, Try.ntmps23
  go_wp2_with fail
  refine (or_any p cs _ h').mono ?_
  rintro e w' ⟨g, rfl, hg, hx⟩
  have k0 : w'.cell? ⟨g, 0, none⟩ = some (.int .i64 t) := by rw [hg.cell]; exact q0
  have k1 : w'.cell? ⟨g, 1, none⟩ = some (.int .i64 s) := by rw [hg.cell]; exact q1
  have k2 : w'.cell? ⟨g, 2, none⟩ = some (.int .i64 l) := by rw [hg.cell]; exact q2
  have k3 : w'.cell? ⟨g, 3, none⟩ = some (.int .i64 b) := by rw [hg.cell]; exact q3
  clear q0 q1 q2 q3 h hg h'
  obtain ⟨hc, hf⟩ := bcell hx.below
  go_wp2_with fail
  refine bodyPost_ret (v := .agg #[.int .i64 t, .int .i64 s, .int .i64 l, .int .i64 b]) (by simp [results, Try.results23, go_sem, hc]) rfl ⟨rfl, ?_⟩
  have hx' := ((Ext.refl w).alloc _).trans hx
  repeat (first | exact hx' | refine Ext.alloc ?_ _ | refine Ext.setCell ?_ (by simp <;> omega) _)
/-- The number of an entry's word. -/
def logAt (v a d m c t n : Int) : Int := if 0 ≤ n ∧ n < c then wordAt v a d m t n else v * 8
theorem tLog_any (p : Option Addr) (cs : List Value) (v a d m c t n : Int) (w : World) (h : LayAt w p cs) (hv : cs[4]? = some (.int .i64 v)) (h0 : 0 ≤ v) (h1 : v ≤ 1000000) (ha : Small a) (hd : -1000 ≤ d ∧ d ≤ 1000) (hm : m ≤ 65536) (hc : c ≤ 1000) (qc : cs[2]? = some (.int .i64 c)) (q0 : cs[15]? = some (.int .i64 a)) (q1 : cs[16]? = some (.int .i64 d)) (q2 : cs[17]? = some (.int .i64 m)) :
    Calls Try.prog 34 #[.pointer p, .int .i64 t, .int .i64 n] w fun e w' => e = .returned (.int .i64 (logAt v a d m c t n)) ∧ Ext w w' := by
  have HV := Lib.hid hv
  clear hv
  by_cases hn : 0 ≤ n ∧ n < c
  · obtain ⟨n0, n1⟩ := hn
    have HN := Lib.hid (show logAt v a d m c t n = wordAt v a d m t n by unfold logAt; rw [if_pos ⟨n0, n1⟩])
    have n2 : ¬ n < 0 := by omega
    have n3 : ¬ c ≤ n := by omega
    go_enter Try.func34, Try.ntmps34
    go_wp2_with fail
    refine (or_any p cs _ h).mono ?_
    rintro e w' ⟨g, rfl, hg, hx⟩
    have k0 : w'.cell? ⟨g, 15, none⟩ = some (.int .i64 a) := by rw [hg.cell]; exact q0
    have k1 : w'.cell? ⟨g, 16, none⟩ = some (.int .i64 d) := by rw [hg.cell]; exact q1
    have k2 : w'.cell? ⟨g, 17, none⟩ = some (.int .i64 m) := by rw [hg.cell]; exact q2
    have k3 : w'.cell? ⟨g, 2, none⟩ = some (.int .i64 c) := by rw [hg.cell]; exact qc
    clear q0 q1 q2 h qc
    go_wp2_with fail
    refine (word_at g cs v a d m t n _ hg HV.out h0 h1 ha ⟨by omega, by omega⟩ hd hm).mono ?_
    rintro e w2 ⟨rfl, x2⟩
    go_wp2_with fail
    go_ret
    exact ⟨reti HN.out.symm, hx.trans x2⟩
  · have HN := Lib.hid (show logAt v a d m c t n = v * 8 by unfold logAt; rw [if_neg hn])
    by_cases n0 : n < 0
    · clear hn
      go_enter Try.func34, Try.ntmps34
      go_wp2_with fail
      refine (or_any p cs _ h).mono ?_
      rintro e w' ⟨g, rfl, hg, hx⟩
      clear q0 q1 q2 h qc
      go_wp2_with fail
      refine (tNoWord_any g cs v _ hg HV.out h0 h1).mono ?_
      rintro e w2 ⟨rfl, rfl⟩
      go_wp2_with fail
      go_ret
      exact ⟨reti HN.out.symm, hx⟩
    · have n3 : c ≤ n := by omega
      clear hn
      go_enter Try.func34, Try.ntmps34
      go_wp2_with fail
      refine (or_any p cs _ h).mono ?_
      rintro e w' ⟨g, rfl, hg, hx⟩
      have k3 : w'.cell? ⟨g, 2, none⟩ = some (.int .i64 c) := by rw [hg.cell]; exact qc
      clear q0 q1 q2 h qc
      go_wp2_with fail
      refine (tNoWord_any g cs v _ hg HV.out h0 h1).mono ?_
      rintro e w2 ⟨rfl, rfl⟩
      go_wp2_with fail
      go_ret
      exact ⟨reti HN.out.symm, hx⟩
/-- The thing among whose words one lies. -/
def aroundAt (a d m x : Int) : Int := if a ≤ x ∧ x < a + d * m then (x - a) / d else -1
theorem around_any (a d m x : Int) (w : World) (ha : Small a) (hm : Small (d * m)) (hd : 0 ≤ d) (hd1 : d ≤ 1000) (hmm : 0 ≤ m) : Calls Try.prog 52 #[.agg #[.int .i64 a, .int .i64 d, .int .i64 m], .int .i64 x] w fun e w' => e = .returned (.int .i64 (aroundAt a d m x)) ∧ Ext w w' := by
  obtain ⟨a0, a1⟩ := ha
  obtain ⟨m0, m1⟩ := hm
  by_cases h1 : x < a
  · have HN := Lib.hid (show aroundAt a d m x = -1 by unfold aroundAt; rw [if_neg (by omega)])
    go_enter Try.func52, Try.ntmps52
    go_wp2
    go_ret
    exact ⟨reti HN.out.symm, (Ext.refl _).alloc _⟩
  · by_cases h2 : a + d * m ≤ x
    · have HN := Lib.hid (show aroundAt a d m x = -1 by unfold aroundAt; rw [if_neg (by omega)])
      go_enter Try.func52, Try.ntmps52
      go_wp2
      go_ret
      exact ⟨reti HN.out.symm, (Ext.refl _).alloc _⟩
    · have HN := Lib.hid (show aroundAt a d m x = (x - a) / d by unfold aroundAt; rw [if_pos (by omega)])
      have hdp : 0 < d := by
        rcases Int.lt_or_le 0 d with h | h
        · exact h
        · obtain rfl : d = 0 := by omega
          rw [Int.zero_mul] at h2
          omega
      have hd0 : ¬ d = 0 := by omega
      have hx0 : 0 ≤ x - a := by omega
      have hx1 : x - a ≤ 1000000000 := by omega
      go_enter Try.func52, Try.ntmps52
      go_wp2
      go_ret
      exact ⟨reti (by rw [HN.out]; try rfl), (Ext.refl _).alloc _⟩
theorem tSlot_any (p : Option Addr) (cs : List Value) (a d m x : Int) (w : World) (h : LayAt w p cs) (ha : Small a) (hm : Small (d * m)) (hd : 0 ≤ d) (hd1 : d ≤ 1000) (hmm : 0 ≤ m) (q0 : cs[18]? = some (.int .i64 a)) (q1 : cs[19]? = some (.int .i64 d)) (q2 : cs[20]? = some (.int .i64 m)) :
    Calls Try.prog 28 #[.pointer p, .int .i64 x] w fun e w' => e = .returned (.int .i64 (aroundAt a d m x)) ∧ Ext w w' := by
  go_enter Try.func28, Try.ntmps28
  go_wp2_with fail
  refine (or_any p cs _ h).mono ?_
  rintro e w' ⟨g, rfl, hg, hx⟩
  have k0 : w'.cell? ⟨g, 18, none⟩ = some (.int .i64 a) := by rw [hg.cell]; exact q0
  have k1 : w'.cell? ⟨g, 19, none⟩ = some (.int .i64 d) := by rw [hg.cell]; exact q1
  have k2 : w'.cell? ⟨g, 20, none⟩ = some (.int .i64 m) := by rw [hg.cell]; exact q2
  clear q0 q1 q2 h hg
  go_wp2_with fail
  refine (around_any a d m x _ ha hm hd hd1 hmm).mono ?_
  rintro e w2 ⟨rfl, x2⟩
  go_wp2_with fail
  go_ret
  exact ⟨rfl, hx.trans x2⟩
end Go.Proofs.Ytljleibhncidmaa
