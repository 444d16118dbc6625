/- A line of the device written back; Evict, Fence, Crash. Conditions: those that each theorem names. -/
import Derived.Test.YtcelhllhdkminaaDev2
import Derived.RegionTactic
import Derived.BigRegion
namespace Go.Proofs.Ytcelhllhdkminaa
open Go.ChangeShapes Go.WideShapes Go.ChangeAt Go.RowKit
set_option linter.unusedVariables false
section
variable {B : Nat} {w : World} {D : DevB} {s : DSt}
/-- A word kept. -/
theorem IsDev.keep (h : IsDev B w D s) (p : Nat) (x : Int) (hx : 0 ≤ x ∧ x < 18446744073709551616) : IsDev B (w.setCell ⟨D.gk, p, none⟩ (.int .u64 x)) D { s with kept := s.kept.set p x } where
  n0 := h.n0
  n1 := h.n1
  T0 := h.T0
  T1 := h.T1
  lits := h.lits
  lfl := h.lfl
  bd := h.bd
  bf := h.bf
  dev := h.dev.far (p := ⟨D.gk, p, none⟩) (fun e => h.dev.ne_row h.kept (by decide) (by rw [e]; rfl)) _
  kept := h.kept.set x
  seen := h.seen.far (p := ⟨D.gk, p, none⟩) (fun e => h.ks (by injection e with e; exact e.symm)) _
  ks := h.ks
  flb := h.flb.far (p := ⟨D.gk, p, none⟩) (fun e => h.flb.ne_row h.kept (by decide) (by rw [e]; rfl)) _
  fl := fun t ht => (h.fl t ht).far (p := ⟨D.gk, p, none⟩) (fun e => RowN.ne_row h.kept (RowN.of_row (h.fl t ht)) (by decide) _ rfl e) _
  writes := h.writes.far (p := ⟨D.gk, p, none⟩) (fun e => RowN.ne_row h.kept h.writes (by decide) _ rfl e) _
  apart := h.apart
  wapart := h.wapart
  lk := lim_set h.lk hx p
  ls := h.ls
/-- A count of writes. -/
theorem IsDev.count (h : IsDev B w D s) (p : Nat) (x : Int) : IsDev B (w.setCell ⟨D.gw, p, none⟩ (.int .i64 x)) D { s with writes := s.writes.set p x } where
  n0 := h.n0
  n1 := h.n1
  T0 := h.T0
  T1 := h.T1
  lits := h.lits
  lfl := h.lfl
  bd := h.bd
  bf := h.bf
  dev := h.dev.far (p := ⟨D.gw, p, none⟩) (fun e => h.dev.ne_row h.writes (by decide) (by rw [e]; rfl)) _
  kept := h.kept.far (p := ⟨D.gw, p, none⟩) (fun e => RowN.ne_row h.writes h.kept (by decide) _ rfl e) _
  seen := h.seen.far (p := ⟨D.gw, p, none⟩) (fun e => RowN.ne_row h.writes h.seen (by decide) _ rfl e) _
  ks := h.ks
  flb := h.flb.far (p := ⟨D.gw, p, none⟩) (fun e => h.flb.ne_row h.writes (by decide) (by rw [e]; rfl)) _
  fl := fun t ht => (h.fl t ht).far (p := ⟨D.gw, p, none⟩) (h.wapart t ht) _
  writes := h.writes.set x
  apart := h.apart
  wapart := h.wapart
  lk := h.lk
  ls := h.ls
end
/-- Eight words put in the place of eight. -/
def put8 (l : List Int) (p : Nat) (a : List Int) : List Int := l.take p ++ a ++ l.drop (p + 8)
theorem set8_eq (l : List Int) (p : Nat) (h : p + 8 ≤ l.length) (a0 a1 a2 a3 a4 a5 a6 a7 : Int) :
    (((((((l.set p a0).set (p + 1) a1).set (p + 2) a2).set (p + 3) a3).set (p + 4) a4).set (p + 5) a5).set (p + 6) a6).set (p + 7) a7 = put8 l p [a0, a1, a2, a3, a4, a5, a6, a7] := by
  unfold put8
  obtain ⟨pre, post, x0, x1, x2, x3, x4, x5, x6, x7, hl, hp⟩ : ∃ pre post x0 x1 x2 x3 x4 x5 x6 x7, l = pre ++ (x0 :: x1 :: x2 :: x3 :: x4 :: x5 :: x6 :: x7 :: post) ∧ pre.length = p := by
    obtain ⟨x0, x1, x2, x3, x4, x5, x6, x7, h8⟩ := LM.eightOf (l := (l.drop p).take 8) (by rw [List.length_take, List.length_drop]; omega)
    refine ⟨l.take p, (l.drop p).drop 8, x0, x1, x2, x3, x4, x5, x6, x7, ?_, by rw [List.length_take]; omega⟩
    have e : l = l.take p ++ ((l.drop p).take 8 ++ (l.drop p).drop 8) := by rw [List.take_append_drop, List.take_append_drop]
    rw [h8] at e
    exact e
  subst hl hp
  simp [List.set_append_right, List.drop_append]
/-- Eight words kept, one behind the other. -/
theorem IsDev.keep8 {B : Nat} {w : World} {D : DevB} {s : DSt} (h : IsDev B w D s) (p : Nat) (hp : p < s.n) (a0 a1 a2 a3 a4 a5 a6 a7 : Int) (hl : Lim [a0, a1, a2, a3, a4, a5, a6, a7] 18446744073709551616) :
    IsDev B ((((((((w.setCell ⟨D.gk, p * 8, none⟩ (.int .u64 a0)).setCell ⟨D.gk, p * 8 + 1, none⟩ (.int .u64 a1)).setCell ⟨D.gk, p * 8 + 2, none⟩ (.int .u64 a2)).setCell ⟨D.gk, p * 8 + 3, none⟩ (.int .u64 a3)).setCell ⟨D.gk, p * 8 + 4, none⟩ (.int .u64 a4)).setCell ⟨D.gk, p * 8 + 5, none⟩ (.int .u64 a5)).setCell ⟨D.gk, p * 8 + 6, none⟩ (.int .u64 a6)).setCell ⟨D.gk, p * 8 + 7, none⟩ (.int .u64 a7)) D { s with kept := put8 s.kept (p * 8) [a0, a1, a2, a3, a4, a5, a6, a7] } ∧ Fr D.foot w ((((((((w.setCell ⟨D.gk, p * 8, none⟩ (.int .u64 a0)).setCell ⟨D.gk, p * 8 + 1, none⟩ (.int .u64 a1)).setCell ⟨D.gk, p * 8 + 2, none⟩ (.int .u64 a2)).setCell ⟨D.gk, p * 8 + 3, none⟩ (.int .u64 a3)).setCell ⟨D.gk, p * 8 + 4, none⟩ (.int .u64 a4)).setCell ⟨D.gk, p * 8 + 5, none⟩ (.int .u64 a5)).setCell ⟨D.gk, p * 8 + 6, none⟩ (.int .u64 a6)).setCell ⟨D.gk, p * 8 + 7, none⟩ (.int .u64 a7)) := by
  have hkl := h.kept.len
  have hj : ∀ j, j < 8 → 0 ≤ [a0, a1, a2, a3, a4, a5, a6, a7].getD j 0 ∧ [a0, a1, a2, a3, a4, a5, a6, a7].getD j 0 < 18446744073709551616 := fun j hj => hl j hj
  rw [← set8_eq s.kept (p * 8) (by omega)]
  have d0 := h
  have f0 := Fr.refl D.foot w
  clear h
  have d1 := d0.keep (p * 8) a0 (hj 0 (by omega))
  have f1 := f0.setCell (p := ⟨D.gk, p * 8, none⟩) (Or.inl (Or.inr (Or.inl rfl))) (.int .u64 a0)
  generalize w.setCell ⟨D.gk, p * 8, none⟩ (.int .u64 a0) = w1 at *
  have d2 := d1.keep (p * 8 + 1) a1 (hj 1 (by omega))
  have f2 := f1.setCell (p := ⟨D.gk, p * 8 + 1, none⟩) (Or.inl (Or.inr (Or.inl rfl))) (.int .u64 a1)
  generalize w1.setCell ⟨D.gk, p * 8 + 1, none⟩ (.int .u64 a1) = w2 at *
  have d3 := d2.keep (p * 8 + 2) a2 (hj 2 (by omega))
  have f3 := f2.setCell (p := ⟨D.gk, p * 8 + 2, none⟩) (Or.inl (Or.inr (Or.inl rfl))) (.int .u64 a2)
  generalize w2.setCell ⟨D.gk, p * 8 + 2, none⟩ (.int .u64 a2) = w3 at *
  have d4 := d3.keep (p * 8 + 3) a3 (hj 3 (by omega))
  have f4 := f3.setCell (p := ⟨D.gk, p * 8 + 3, none⟩) (Or.inl (Or.inr (Or.inl rfl))) (.int .u64 a3)
  generalize w3.setCell ⟨D.gk, p * 8 + 3, none⟩ (.int .u64 a3) = w4 at *
  have d5 := d4.keep (p * 8 + 4) a4 (hj 4 (by omega))
  have f5 := f4.setCell (p := ⟨D.gk, p * 8 + 4, none⟩) (Or.inl (Or.inr (Or.inl rfl))) (.int .u64 a4)
  generalize w4.setCell ⟨D.gk, p * 8 + 4, none⟩ (.int .u64 a4) = w5 at *
  have d6 := d5.keep (p * 8 + 5) a5 (hj 5 (by omega))
  have f6 := f5.setCell (p := ⟨D.gk, p * 8 + 5, none⟩) (Or.inl (Or.inr (Or.inl rfl))) (.int .u64 a5)
  generalize w5.setCell ⟨D.gk, p * 8 + 5, none⟩ (.int .u64 a5) = w6 at *
  have d7 := d6.keep (p * 8 + 6) a6 (hj 6 (by omega))
  have f7 := f6.setCell (p := ⟨D.gk, p * 8 + 6, none⟩) (Or.inl (Or.inr (Or.inl rfl))) (.int .u64 a6)
  generalize w6.setCell ⟨D.gk, p * 8 + 6, none⟩ (.int .u64 a6) = w7 at *
  have d8 := d7.keep (p * 8 + 7) a7 (hj 7 (by omega))
  have f8 := f7.setCell (p := ⟨D.gk, p * 8 + 7, none⟩) (Or.inl (Or.inr (Or.inl rfl))) (.int .u64 a7)
  generalize w7.setCell ⟨D.gk, p * 8 + 7, none⟩ (.int .u64 a7) = w8 at *
  exact ⟨d8, f8⟩
/-- A line written back. -/
def DSt.back (s : DSt) (p : Nat) : DSt := { s with kept := put8 s.kept (p * 8) ((s.seen.drop (p * 8)).take 8), writes := s.writes.set p (s.writes.getD p 0 + 1) }
set_option maxRecDepth 100000 in
set_option maxHeartbeats 2000000 in
theorem writeBack_of (B : Nat) (w : World) (D : DevB) (s : DSt) (h : IsDev B w D s) (p : Nat) (hp : p < s.n) (hw : -1000000000000 ≤ s.writes.getD p 0 ∧ s.writes.getD p 0 < 1000000000000) :
    Calls Try.prog 83 #[D.ptr, .int .i64 (p : Int)] w (fun e w' => (∃ v, e = .returned v) ∧ IsDev B w' D (s.back p) ∧ Fr D.foot w w') := by
  unfold DevB.ptr
  have c0 := h.c0
  have c1 := h.c1
  have c3 := h.c3
  have hn1 := h.n1
  have hkl := h.kept.len
  have hsl := h.seen.len
  obtain ⟨a0, a1, a2, a3, a4, a5, a6, a7, h8⟩ := LM.eightOf (l := (s.seen.drop (p * 8)).take 8) (by rw [List.length_take, List.length_drop]; omega)
  have hs : ∀ j, j < 8 → w.cell? ⟨D.gs, p * 8 + j, none⟩ = some (.int .u64 ([a0, a1, a2, a3, a4, a5, a6, a7].getD j 0)) := fun j hj => by
    rw [h.seen.cell (j := p * 8 + j) (by omega), LM.getD8 h8 j hj]
  have hk : ∀ j, j < 8 → w.cell? ⟨D.gk, p * 8 + j, none⟩ = some (.int .u64 (s.kept.getD (p * 8 + j) 0)) := fun j hj => h.kept.cell (j := p * 8 + j) (by omega)
  have q0 := hs 0 (by omega)
  have q1 := hs 1 (by omega)
  have q2 := hs 2 (by omega)
  have q3 := hs 3 (by omega)
  have q4 := hs 4 (by omega)
  have q5 := hs 5 (by omega)
  have q6 := hs 6 (by omega)
  have q7 := hs 7 (by omega)
  have r0 := hk 0 (by omega)
  have r1 := hk 1 (by omega)
  have r2 := hk 2 (by omega)
  have r3 := hk 3 (by omega)
  have r4 := hk 4 (by omega)
  have r5 := hk 5 (by omega)
  have r6 := hk 6 (by omega)
  have r7 := hk 7 (by omega)
  have f0 := fun j => h.kept.frozen j
  have hll : Lim [a0, a1, a2, a3, a4, a5, a6, a7] 18446744073709551616 := by rw [← h8]; exact LM.lim_sub h.ls _ _
  have hcw : w.cell? ⟨D.gw, p, none⟩ = some (.int .i64 (s.writes.getD p 0)) := h.writes.cell (j := p) (by omega)
  have hfw := fun j => h.writes.frozen j
  have hne : D.gw ≠ D.gk := fun e => RowN.ne_row h.writes h.kept (by decide) _ rfl (by rw [e]; rfl)
  have hne2 : D.gd ≠ D.gk := fun e => h.dev.ne_row h.kept (by decide) (by rw [e]; rfl)
  simp only [Nat.add_zero] at q0 r0
  simp only [List.getD_cons_zero, List.getD_cons_succ] at q0 q1 q2 q3 q4 q5 q6 q7
  clear hs hk
  have HX := Lib.hid (h.keep8 p hp a0 a1 a2 a3 a4 a5 a6 a7 hll)
  have H8 := Lib.hid h8
  clear h h8 hkl hsl
  generalize hxx : s.writes.getD p 0 = x at *
  have HXx := Lib.hid hxx
  clear hxx
  go_enter Try.func83, Try.ntmps83
  go_wp2_with fail
  go_region
  obtain ⟨hX, fX⟩ := HX.out
  generalize ((((((((w.setCell ⟨D.gk, p * 8, none⟩ (.int .u64 a0)).setCell ⟨D.gk, p * 8 + 1, none⟩ (.int .u64 a1)).setCell ⟨D.gk, p * 8 + 2, none⟩ (.int .u64 a2)).setCell ⟨D.gk, p * 8 + 3, none⟩ (.int .u64 a3)).setCell ⟨D.gk, p * 8 + 4, none⟩ (.int .u64 a4)).setCell ⟨D.gk, p * 8 + 5, none⟩ (.int .u64 a5)).setCell ⟨D.gk, p * 8 + 6, none⟩ (.int .u64 a6)).setCell ⟨D.gk, p * 8 + 7, none⟩ (.int .u64 a7)) = X at *
  clear q0 q1 q2 q3 q4 q5 q6 q7 r0 r1 r2 r3 r4 r5 r6 r7 f0 c0 c1 c3 hcw hfw
  have hX' := hX.ext ((Ext.refl X).drew)
  have fX' := fX.drew
  generalize X.drew = Y at *
  have c3 := hX'.c3
  have hcw : Y.cell? ⟨D.gw, p, none⟩ = some (.int .i64 (s.writes.getD p 0)) := hX'.writes.cell (j := p) (by have : p < s.n := hp; simpa using this)
  have hfw := hX'.writes.frozen p
  rw [HXx.out] at hcw
  have HY := Lib.hid (hX'.count p (x + 1))
  have HF := Lib.hid fX'
  clear hX hX' fX fX' HX
  go_wp2_with fail
  go_end0
  refine ⟨⟨_, rfl⟩, ?_, HF.out.setCell (Or.inl (Or.inr (Or.inr (Or.inr (Or.inr (Or.inl rfl)))))) _⟩
  unfold DSt.back
  rw [H8.out, HXx.out]
  exact HY.out
end Go.Proofs.Ytcelhllhdkminaa
