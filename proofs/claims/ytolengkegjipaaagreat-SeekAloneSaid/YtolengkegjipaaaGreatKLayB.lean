/- What a layout tells, by what its cells hold; of no layout, by noughts. Conditions: those that each theorem names. -/
import Derived.Test.YtolengkegjipaaaGreatKLayA
namespace Go.Proofs.YtolengkegjipaaaGreat
open Go.ChangeShapes Go.WideShapes Go.ChangeAt Go.RowKit
set_option linter.unusedVariables false

def noughts : List Value := [.int .i64 0, .int .i64 0, .int .i64 0, .int .i64 0, .int .i64 0, .int .i64 0, .int .i64 0, .int .i64 0, .int .i64 0, .int .i64 0, .int .i64 0, .int .i64 0, .int .i64 0, .int .i64 0, .int .i64 0, .int .i64 0, .int .i64 0, .int .i64 0, .int .i64 0, .int .i64 0, .int .i64 0, .int .i64 0, .int .i64 0, .int .i64 0, .int .i64 0, .int .i64 0, .int .i64 0, .int .i64 0, .int .i64 0]
/-- At a pointer a layout with these cells is told, or, where there is none, noughts are. -/
def LayAt (w : World) (p : Option Addr) (cs : List Value) : Prop := (∃ g, p = some ⟨g, 0, none⟩ ∧ Blk w g 97 cs) ∨ (p = none ∧ cs = noughts)
theorem LayAt.ext {w w' : World} {p : Option Addr} {cs : List Value} (h : LayAt w p cs) (x : Ext w w') : LayAt w' p cs := by
  rcases h with ⟨g, rfl, hg⟩ | h
  · exact Or.inl ⟨g, rfl, hg.ext x⟩
  · exact Or.inr h
theorem or_any (p : Option Addr) (cs : List Value) (w : World) (h : LayAt w p cs) :
    Calls Tryz.prog 57 #[.pointer p] w fun e w' => ∃ g, e = .returned (.pointer (some ⟨g, 0, none⟩)) ∧ Blk w' g 97 cs ∧ Ext w w' := by
  rcases h with ⟨g, rfl, hg⟩ | ⟨rfl, rfl⟩
  · go_enter Tryz.func57, Tryz.ntmps57
    go_wp2
    go_ret
    exact ⟨g, rfl, hg, Ext.refl _⟩
  · go_enter Tryz.func57, Tryz.ntmps57
    go_wp2
    go_ret
    exact ⟨w.heap.size, rfl, Blk.new w _ noughts, (Ext.refl _).alloc _⟩
theorem tNoWord_any (g : Nat) (cs : List Value) (v : Int) (w : World) (hg : Blk w g 97 cs) (hv : cs[4]? = some (.int .i64 v)) (h0 : 0 ≤ v) (h1 : v ≤ 1000000) :
    Calls Tryz.prog 81 #[.pointer (some ⟨g, 0, none⟩)] w fun e w' => e = .returned (.int .i64 (v * 8)) ∧ w = w' := by
  have q : w.cell? ⟨g, 4, none⟩ = some (.int .i64 v) := by rw [hg.cell]; exact hv
  clear hg hv
  go_enter Tryz.func81, Tryz.ntmps81
  go_wp2_with fail
  go_ret
  exact ⟨rfl, rfl⟩
theorem has_yes (a d m n : Int) (w : World) (h : 0 ≤ n ∧ n < m) : Calls Tryz.prog 80 #[.agg #[.int .i64 a, .int .i64 d, .int .i64 m], .int .i64 n] w fun e w' => e = .returned (.bool true) ∧ Ext w w' := by
  obtain ⟨h0, h1⟩ := h
  go_enter Tryz.func80, Tryz.ntmps80
  go_wp2
  go_ret
  exact ⟨rfl, (Ext.refl _).alloc _⟩
theorem has_no (a d m n : Int) (w : World) (h : ¬ (0 ≤ n ∧ n < m)) : Calls Tryz.prog 80 #[.agg #[.int .i64 a, .int .i64 d, .int .i64 m], .int .i64 n] w fun e w' => e = .returned (.bool false) ∧ Ext w w' := by
  by_cases h0 : 0 ≤ n
  · have h1 : ¬ n < m := fun x => h ⟨h0, x⟩
    clear h
    go_enter Tryz.func80, Tryz.ntmps80
    go_wp2
    go_ret
    exact ⟨rfl, (Ext.refl _).alloc _⟩
  · clear h
    go_enter Tryz.func80, Tryz.ntmps80
    go_wp2
    go_ret
    exact ⟨rfl, (Ext.refl _).alloc _⟩
/-- The bounds of a row, so that no number of a word is cut. -/
def Small (x : Int) : Prop := -1000000000 ≤ x ∧ x ≤ 1000000000
theorem rword_any (a d m n pl : Int) (w : World) (ha : Small a) (hp : Small pl) (hm : Small (n * d)) : Calls Tryz.prog 82 #[.agg #[.int .i64 a, .int .i64 d, .int .i64 m], .int .i64 n, .int .i64 pl] w fun e w' => e = .returned (.int .i64 (a + n * d + pl)) ∧ Ext w w' := by
  obtain ⟨a0, a1⟩ := ha
  obtain ⟨p0, p1⟩ := hp
  obtain ⟨m0, m1⟩ := hm
  go_enter Tryz.func82, Tryz.ntmps82
  go_wp2
  go_ret
  exact ⟨rfl, (Ext.refl _).alloc _⟩
/-- The number of a word of a thing in a row, or that of no word. -/
def wordAt (v a d m n pl : Int) : Int := if 0 ≤ n ∧ n < m then a + n * d + pl else v * 8
theorem word_at (g : Nat) (cs : List Value) (v a d m n pl : Int) (w : World) (hg : Blk w g 97 cs) (hv : cs[4]? = some (.int .i64 v)) (h0 : 0 ≤ v) (h1 : v ≤ 1000000) (ha : Small a) (hp : Small pl) (hd : -1000 ≤ d ∧ d ≤ 1000) (hm : m ≤ 65536) :
    Calls Tryz.prog 60 #[.pointer (some ⟨g, 0, none⟩), .agg #[.int .i64 a, .int .i64 d, .int .i64 m], .int .i64 n, .int .i64 pl] w fun e w' => e = .returned (.int .i64 (wordAt v a d m n pl)) ∧ Ext w w' := by
  by_cases h : 0 ≤ n ∧ n < m
  · have hnd : Small (n * d) := by
      obtain ⟨d0, d1⟩ := hd
      obtain ⟨n0, n1⟩ := h
      have e1 : n * d ≤ n * 1000 := Int.mul_le_mul_of_nonneg_left d1 n0
      have e2 : n * (-1000) ≤ n * d := Int.mul_le_mul_of_nonneg_left d0 n0
      unfold Small
      omega
    go_enter Tryz.func60, Tryz.ntmps60
    go_wp2_with fail
    refine (has_yes a d m n _ h).mono ?_
    rintro e w1 ⟨rfl, x1⟩
    obtain ⟨hc, hf⟩ := bcell x1.below
    go_wp2_with fail
    refine (rword_any a d m n pl _ ha hp hnd).mono ?_
    rintro e w2 ⟨rfl, x2⟩
    go_wp2_with fail
    go_ret
    exact ⟨reti (by unfold wordAt; rw [if_pos h]), (((Ext.refl _).alloc _).trans x1).trans x2⟩
  · go_enter Tryz.func60, Tryz.ntmps60
    go_wp2_with fail
    refine (has_no a d m n _ h).mono ?_
    rintro e w1 ⟨rfl, x1⟩
    have hg1 := (hg.ext ((Ext.refl w).alloc _)).ext x1
    go_wp2_with fail
    refine (tNoWord_any g cs v _ hg1 hv h0 h1).mono ?_
    rintro e w2 ⟨rfl, rfl⟩
    go_wp2_with fail
    go_ret
    exact ⟨reti (by unfold wordAt; rw [if_neg h]), ((Ext.refl _).alloc _).trans x1⟩
theorem slotWord_any (p : Option Addr) (cs : List Value) (v a d m n pl : Int) (w : World) (h : LayAt w p cs) (hv : cs[4]? = some (.int .i64 v)) (h0 : 0 ≤ v) (h1 : v ≤ 1000000) (ha : Small a) (hd : -1000 ≤ d ∧ d ≤ 1000) (hm : m ≤ 65536) (hp : Small pl) (q0 : cs[18]? = some (.int .i64 a)) (q1 : cs[19]? = some (.int .i64 d)) (q2 : cs[20]? = some (.int .i64 m)) :
    Calls Tryz.prog 38 #[.pointer p, .int .i64 n, .int .i64 pl] w fun e w' => e = .returned (.int .i64 (wordAt v a d m n pl)) ∧ Ext w w' := by
  go_enter Tryz.func38, Tryz.ntmps38
  go_wp2_with fail
  refine (or_any p cs _ h).mono ?_
  rintro e w' ⟨g, rfl, hg, hx⟩
  have k0 : w'.cell? ⟨g, 18, none⟩ = some (.int .i64 a) := by rw [hg.cell]; exact q0
  have k1 : w'.cell? ⟨g, 19, none⟩ = some (.int .i64 d) := by rw [hg.cell]; exact q1
  have k2 : w'.cell? ⟨g, 20, none⟩ = some (.int .i64 m) := by rw [hg.cell]; exact q2
  have HV := Lib.hid hv
  clear q0 q1 q2 h hv
  go_wp2_with fail
  refine (word_at g cs v a d m n pl _ hg HV.out h0 h1 ha hp hd hm).mono ?_
  rintro e w2 ⟨rfl, x2⟩
  go_wp2_with fail
  go_ret
  exact ⟨rfl, hx.trans x2⟩
theorem tKey_any (p : Option Addr) (cs : List Value) (v a d m n : Int) (w : World) (h : LayAt w p cs) (hv : cs[4]? = some (.int .i64 v)) (h0 : 0 ≤ v) (h1 : v ≤ 1000000) (ha : Small a) (hd : -1000 ≤ d ∧ d ≤ 1000) (hm : m ≤ 65536) (q0 : cs[18]? = some (.int .i64 a)) (q1 : cs[19]? = some (.int .i64 d)) (q2 : cs[20]? = some (.int .i64 m)) :
    Calls Tryz.prog 111 #[.pointer p, .int .i64 n] w fun e w' => e = .returned (.int .i64 (wordAt v a d m n 1)) ∧ Ext w w' := by
  have H := Lib.hid (fun W hW => slotWord_any p cs v a d m n 1 W hW hv h0 h1 ha hd hm ⟨by omega, by omega⟩ q0 q1 q2)
  clear q0 q1 q2 hv
  go_enter Tryz.func111, Tryz.ntmps111
  go_wp2_with fail
  refine (H.out _ h).mono ?_
  rintro e w2 ⟨rfl, x2⟩
  go_wp2_with fail
  go_ret
  exact ⟨rfl, x2⟩
theorem tNext_any (p : Option Addr) (cs : List Value) (v a d m n : Int) (w : World) (h : LayAt w p cs) (hv : cs[4]? = some (.int .i64 v)) (h0 : 0 ≤ v) (h1 : v ≤ 1000000) (ha : Small a) (hd : -1000 ≤ d ∧ d ≤ 1000) (hm : m ≤ 65536) (q0 : cs[18]? = some (.int .i64 a)) (q1 : cs[19]? = some (.int .i64 d)) (q2 : cs[20]? = some (.int .i64 m)) :
    Calls Tryz.prog 18 #[.pointer p, .int .i64 n] w fun e w' => e = .returned (.int .i64 (wordAt v a d m n 3)) ∧ Ext w w' := by
  have H := Lib.hid (fun W hW => slotWord_any p cs v a d m n 3 W hW hv h0 h1 ha hd hm ⟨by omega, by omega⟩ q0 q1 q2)
  clear q0 q1 q2 hv
  go_enter Tryz.func18, Tryz.ntmps18
  go_wp2_with fail
  refine (H.out _ h).mono ?_
  rintro e w2 ⟨rfl, x2⟩
  go_wp2_with fail
  go_ret
  exact ⟨rfl, x2⟩
end Go.Proofs.YtolengkegjipaaaGreat


/- More that a layout tells: its config, an entry of a log, the slot around a word. Conditions: those that each theorem names. -/
namespace Go.Proofs.YtolengkegjipaaaGreat
open Go.ChangeShapes Go.WideShapes Go.ChangeAt Go.RowKit
set_option linter.unusedVariables false
theorem tConfig_any (p : Option Addr) (cs : List Value) (t s l b : Int) (w : World) (h : LayAt w p cs) (q0 : cs[0]? = some (.int .i64 t)) (q1 : cs[1]? = some (.int .i64 s)) (q2 : cs[2]? = some (.int .i64 l)) (q3 : cs[3]? = some (.int .i64 b)) :
    Calls Tryz.prog 34 #[.pointer p] w fun e w' => e = .returned (.agg #[.int .i64 t, .int .i64 s, .int .i64 l, .int .i64 b]) ∧ Ext w w' := by
  have h' := h.ext ((Ext.refl w).alloc (.cells #[.int .i64 0, .int .i64 0, .int .i64 0, .int .i64 0] 23))
  go_enter Tryz.func34, Tryz.ntmps34
  go_wp2_with fail
  refine (or_any p cs _ h').mono ?_
  rintro e w' ⟨g, rfl, hg, hx⟩
  have k0 : w'.cell? ⟨g, 0, none⟩ = some (.int .i64 t) := by rw [hg.cell]; exact q0
  have k1 : w'.cell? ⟨g, 1, none⟩ = some (.int .i64 s) := by rw [hg.cell]; exact q1
  have k2 : w'.cell? ⟨g, 2, none⟩ = some (.int .i64 l) := by rw [hg.cell]; exact q2
  have k3 : w'.cell? ⟨g, 3, none⟩ = some (.int .i64 b) := by rw [hg.cell]; exact q3
  clear q0 q1 q2 q3 h hg h'
  obtain ⟨hc, hf⟩ := bcell hx.below
  go_wp2_with fail
  refine bodyPost_ret (v := .agg #[.int .i64 t, .int .i64 s, .int .i64 l, .int .i64 b]) (by simp [results, Tryz.results34, go_sem, hc]) rfl ⟨rfl, ?_⟩
  have hx' := ((Ext.refl w).alloc _).trans hx
  repeat (first | exact hx' | refine Ext.alloc ?_ _ | refine Ext.setCell ?_ (by simp <;> omega) _)
/-- The number of an entry's word. -/
def logAt (v a d m c t n : Int) : Int := if 0 ≤ n ∧ n < c then wordAt v a d m t n else v * 8
end Go.Proofs.YtolengkegjipaaaGreat


/- The number of a word by its name, as the law asks for it. Conditions: those that each theorem names. -/
namespace Go.Proofs.YtolengkegjipaaaGreat
open Go.ChangeShapes Go.WideShapes Go.ChangeAt Go.RowKit
set_option linter.unusedVariables false
/-- A layout's cells, by their numbers. -/
def cellsF (F : Nat → Int) : List Value := (List.range 29).map fun j => .int .i64 (F j)
theorem cellsF_at (F : Nat → Int) (j : Nat) (h : j < 29) : (cellsF F)[j]? = some (.int .i64 (F j)) := by
  unfold cellsF
  rw [List.getElem?_map, List.getElem?_range h]; rfl
structure RowOk (F : Nat → Int) (r : Nat) : Prop where
  a : Small (F r)
  d : -1000 ≤ F (r + 1) ∧ F (r + 1) ≤ 1000
  m : F (r + 2) ≤ 65536
/-- The numbers lie in bounds, so that none is cut. -/
structure Okay (F : Nat → Int) : Prop where
  v0 : 0 ≤ F 4
  v1 : F 4 ≤ 1000000
  r9 : RowOk F 9
  r12 : RowOk F 12
  r15 : RowOk F 15
  r18 : RowOk F 18
  r23 : RowOk F 23
  r26 : RowOk F 26
  c2 : F 2 ≤ 1000
  d0 : 0 ≤ F 19
  d1 : F 19 ≤ 1000
  m0 : 0 ≤ F 20
  dm : Small (F 19 * F 20)
/-- The number of a word by its kind and numbers. -/
def toldF (F : Nat → Int) (k a b : Int) : Int := if k = 2 then F 6 else if k = 3 then F 7 else if k = 4 then F 8 else if k = 5 then wordAt (F 4) (F 9) (F 10) (F 11) a 0 else if k = 6 then wordAt (F 4) (F 12) (F 13) (F 14) a 0 else if k = 7 then wordAt (F 4) (F 12) (F 13) (F 14) a 1 else if k = 8 then logAt (F 4) (F 15) (F 16) (F 17) (F 2) a b else if k = 9 then wordAt (F 4) (F 18) (F 19) (F 20) a 0 else if k = 10 then wordAt (F 4) (F 18) (F 19) (F 20) a 1 else if k = 11 then wordAt (F 4) (F 18) (F 19) (F 20) a 2 else if k = 12 then wordAt (F 4) (F 18) (F 19) (F 20) a 3 else if k = 13 then wordAt (F 4) (F 18) (F 19) (F 20) a 4 else if k = 14 then F 21 else if k = 15 then F 22 else if k = 16 then wordAt (F 4) (F 23) (F 24) (F 25) a 0 else wordAt (F 4) (F 26) (F 27) (F 28) a 0
end Go.Proofs.YtolengkegjipaaaGreat

