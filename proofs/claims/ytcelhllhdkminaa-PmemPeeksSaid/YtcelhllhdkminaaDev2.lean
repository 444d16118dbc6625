/- What the device of package pdev tells, and what a store does to it. Conditions: those that each theorem names. -/
import Derived.Test.YtcelhllhdkminaaDev1
namespace Go.Proofs.Ytcelhllhdkminaa
open Go.ChangeShapes Go.WideShapes Go.ChangeAt Go.RowKit
set_option linter.unusedVariables false
theorem ret2 {k l : IntKind} {a b c d : Int} (h : a = b) (h' : c = d) : Ending.returned (.tuple #[.int k a, .int l c]) = .returned (.tuple #[.int k b, .int l d]) := by rw [h, h']
section
variable {B : Nat} {w : World} {D : DevB} {s : DSt}
theorem IsDev.c0 (h : IsDev B w D s) : w.cell? ⟨D.gd, 0, none⟩ = some (.slice (some ⟨D.gk, 0, none⟩) s.n D.ck) := h.dev.cell 0
theorem IsDev.c1 (h : IsDev B w D s) : w.cell? ⟨D.gd, 1, none⟩ = some (.slice (some ⟨D.gs, 0, none⟩) s.n D.cs) := h.dev.cell 1
theorem IsDev.c2 (h : IsDev B w D s) : w.cell? ⟨D.gd, 2, none⟩ = some (.slice (some ⟨D.gf, 0, none⟩) s.T s.T) := h.dev.cell 2
theorem IsDev.c3 (h : IsDev B w D s) : w.cell? ⟨D.gd, 3, none⟩ = some (.slice (some ⟨D.gw, 0, none⟩) s.n s.n) := h.dev.cell 3
end
set_option maxHeartbeats 400000 in
theorem load_no (B : Nat) (w : World) (D : DevB) (s : DSt) (h : IsDev B w D s) (at_ : Int) (ha : at_ < 0 ∨ (s.n : Int) * 8 ≤ at_) :
    Calls Try.prog 53 #[D.ptr, .int .i64 at_] w fun e w' => e = .returned (.tuple #[.int .u64 0, .int .i64 5]) ∧ w = w' := by
  unfold DevB.ptr
  have HC : Hid (Calls Try.prog 86 #[.pointer (some ⟨D.gd, 0, none⟩), .int .i64 at_] w fun e w' => e = .returned (.int .i64 5) ∧ w = w') := by
    rcases ha with ha | ha
    · exact Lib.hid (askW_lo _ _ _ _ at_ ha w h.n1 h.c0)
    · exact Lib.hid (askW_hi _ _ _ _ at_ ha w h.n1 h.c0)
  clear ha
  go_enter Try.func53, Try.ntmps53
  go_wp2_with fail
  refine HC.out.mono ?_
  rintro e w' ⟨rfl, rfl⟩
  go_wp2_with fail
  go_ret2
  exact ⟨rfl, rfl⟩
set_option maxHeartbeats 400000 in
theorem load_ok (B : Nat) (w : World) (D : DevB) (s : DSt) (h : IsDev B w D s) (p : Nat) (ha : p < s.n * 8) :
    Calls Try.prog 53 #[D.ptr, .int .i64 (p : Int)] w fun e w' => e = .returned (.tuple #[.int .u64 (s.seen.getD p 0), .int .i64 0]) ∧ w = w' := by
  unfold DevB.ptr
  have HC := Lib.hid (askW_ok _ _ _ _ (p : Int) (by omega) (by omega) w h.n1 h.c0)
  have c1 := h.c1
  have hn1 := h.n1
  have hcell : w.cell? ⟨D.gs, p / 8 * 8 + p % 8, none⟩ = some (.int .u64 (s.seen.getD p 0)) := by rw [Nat.div_add_mod']; exact h.seen.cell (j := p) ha
  generalize s.seen.getD p 0 = x at *
  go_enter Try.func53, Try.ntmps53
  go_wp2_with fail
  refine HC.out.mono ?_
  rintro e w' ⟨rfl, rfl⟩
  go_wp2_with fail
  go_ret2
  exact ⟨rfl, rfl⟩
theorem load_nil (at_ : Int) (w : World) :
    Calls Try.prog 53 #[.pointer none, .int .i64 at_] w fun e w' => e = .returned (.tuple #[.int .u64 0, .int .i64 1]) ∧ w = w' := by
  go_enter Try.func53, Try.ntmps53
  go_wp2_with fail
  refine (askW_nil _ _).mono ?_
  rintro e w' ⟨rfl, rfl⟩
  go_wp2_with fail
  go_ret2
  exact ⟨rfl, rfl⟩
theorem RowN.ne_row {w : World} {B B' n n' size size' : Nat} {e e' : TypeId} {k k' : IntKind} {v v' : Value} {zs zs' : List Int} (h : RowN w B e size k v n zs) (h' : RowN w B' e' size' k' v' n' zs') (hne : e ≠ e') (g : Nat) (hg : v.ownBlock = some g) : v'.ownBlock ≠ some g := by
  rcases h.2 with ⟨rfl, _⟩ | ⟨g1, cap, cur, rfl, _, hh, _⟩
  · simp [Value.ownBlock] at hg
  · obtain rfl : g1 = g := by simpa [Value.ownBlock] using hg
    rcases h'.2 with ⟨rfl, _⟩ | ⟨g2, cap', cur', rfl, _, hh', _⟩
    · simp [Value.ownBlock]
    · intro he
      obtain rfl : g2 = g1 := by simpa [Value.ownBlock] using he
      rw [hh] at hh'
      injection hh' with hh'
      injection hh' with _ h2
      exact hne h2
section
variable {B : Nat} {w : World} {D : DevB} {s : DSt}
/-- The blocks of a device. -/
def DevB.foot (D : DevB) (g : Nat) : Prop := g = D.gd ∨ g = D.gk ∨ g = D.gs ∨ g = D.gf ∨ g = D.gw ∨ ∃ t, t < D.its.length ∧ (D.its.getD t undef).ownBlock = some g
theorem IsDev.foot_ge (h : IsDev B w D s) {g : Nat} (hg : D.foot g) : B ≤ g ∧ g < w.heap.size := by
  rcases hg with rfl | rfl | rfl | rfl | rfl | ⟨t, ht, hg⟩
  · exact ⟨h.bd, h.dev.lt⟩
  · exact World.ownsRow.lt h.kept _ rfl
  · exact World.ownsRow.lt h.seen _ rfl
  · exact ⟨h.bf, h.flb.lt⟩
  · exact World.ownsRow.lt h.writes _ rfl
  · exact World.ownsRow.lt (h.fl t (by rw [← h.lits]; exact ht)) _ hg
/-- A device under a change of none of its blocks. -/
theorem IsDev.fr {w' : World} {S : Nat → Prop} (h : IsDev B w D s) (x : Fr S w w') (hS : ∀ g, D.foot g → ¬ S g) : IsDev B w' D s where
  n0 := h.n0
  n1 := h.n1
  T0 := h.T0
  T1 := h.T1
  lits := h.lits
  lfl := h.lfl
  bd := h.bd
  bf := h.bf
  dev := h.dev.fr x (hS _ (Or.inl rfl))
  kept := h.kept.fr x (fun g hg => hS g (by cases hg; exact Or.inr (Or.inl rfl)))
  seen := h.seen.fr x (fun g hg => hS g (by cases hg; exact Or.inr (Or.inr (Or.inl rfl))))
  ks := h.ks
  flb := h.flb.fr x (hS _ (Or.inr (Or.inr (Or.inr (Or.inl rfl)))))
  fl := fun t ht => (h.fl t ht).fr x (fun g hg => hS g (Or.inr (Or.inr (Or.inr (Or.inr (Or.inr ⟨t, by rw [h.lits]; exact ht, hg⟩))))))
  writes := h.writes.fr x (fun g hg => hS g (by cases hg; exact Or.inr (Or.inr (Or.inr (Or.inr (Or.inl rfl))))))
  apart := h.apart
  wapart := h.wapart
  lk := h.lk
  ls := h.ls
theorem IsDev.ext {w' : World} (h : IsDev B w D s) (x : Ext w w') : IsDev B w' D s := h.fr (Fr.of_ext (S := fun _ => False) x) (fun _ _ hs => hs)
theorem lim_set {zs : List Int} {m x : Int} (h : Lim zs m) (hx : 0 ≤ x ∧ x < m) (p : Nat) : Lim (zs.set p x) m := LM.lim_of fun z hz => by
  rcases List.mem_or_eq_of_mem_set hz with h1 | h1
  · exact LM.of_lim h z h1
  · rw [h1]; exact hx
/-- A word seen. -/
theorem IsDev.see (h : IsDev B w D s) (p : Nat) (x : Int) (hx : 0 ≤ x ∧ x < 18446744073709551616) : IsDev B (w.setCell ⟨D.gs, p, none⟩ (.int .u64 x)) D { s with seen := s.seen.set p x } where
  n0 := h.n0
  n1 := h.n1
  T0 := h.T0
  T1 := h.T1
  lits := h.lits
  lfl := h.lfl
  bd := h.bd
  bf := h.bf
  dev := h.dev.far (p := ⟨D.gs, p, none⟩) (fun e => h.dev.ne_row h.seen (by decide) (by rw [e]; rfl)) _
  kept := h.kept.far (p := ⟨D.gs, p, none⟩) (fun e => h.ks (by injection e)) _
  seen := h.seen.set x
  ks := h.ks
  flb := h.flb.far (p := ⟨D.gs, p, none⟩) (fun e => h.flb.ne_row h.seen (by decide) (by rw [e]; rfl)) _
  fl := fun t ht => (h.fl t ht).far (p := ⟨D.gs, p, none⟩) (fun e => RowN.ne_row h.seen (RowN.of_row (h.fl t ht)) (by decide) _ rfl e) _
  writes := h.writes.far (p := ⟨D.gs, p, none⟩) (fun e => RowN.ne_row h.seen h.writes (by decide) _ rfl e) _
  apart := h.apart
  wapart := h.wapart
  lk := h.lk
  ls := lim_set h.ls hx p
end
/-- What a call leaves of a device: the new one, and all other blocks. -/
def DevBack (B : Nat) (w : World) (D : DevB) (s' : DSt) (r r' : Ending) (w' : World) : Prop := r' = r ∧ ∃ D' : DevB, D'.gd = D.gd ∧ IsDev B w' D' s' ∧ Fr D.foot w w' ∧ ∀ g, D'.foot g → D.foot g ∨ w.heap.size ≤ g
set_option maxHeartbeats 400000 in
theorem store_ok (B : Nat) (w : World) (D : DevB) (s : DSt) (h : IsDev B w D s) (p : Nat) (ha : p < s.n * 8) (x : Int) (hx : 0 ≤ x ∧ x < 18446744073709551616) :
    Calls Try.prog 99 #[D.ptr, .int .i64 (p : Int), .int .u64 x] w (DevBack B w D { s with seen := s.seen.set p x } (.returned (.int .i64 0))) := by
  unfold DevB.ptr
  have HC := Lib.hid (askW_ok _ _ _ _ (p : Int) (by omega) (by omega) w h.n1 h.c0)
  have c1 := h.c1
  have hn1 := h.n1
  have hcell : w.cell? ⟨D.gs, p / 8 * 8 + p % 8, none⟩ = some (.int .u64 (s.seen.getD p 0)) := by rw [Nat.div_add_mod']; exact h.seen.cell (j := p) ha
  have hfz : w.frozen? ⟨D.gs, p / 8 * 8 + p % 8, none⟩ = false := h.seen.frozen _
  have HD := Lib.hid (h.see p x hx)
  generalize s.seen.getD p 0 = y at *
  go_enter Try.func99, Try.ntmps99
  go_wp2_with fail
  refine HC.out.mono ?_
  rintro e w' ⟨rfl, rfl⟩
  go_wp2_with fail
  go_ret
  rw [Nat.div_add_mod']
  exact ⟨rfl, D, rfl, HD.out, (Fr.refl _ w).setCell (Or.inl (Or.inr (Or.inr (Or.inl rfl)))) _, fun g hg => Or.inl hg⟩
set_option maxHeartbeats 400000 in
theorem store_no (B : Nat) (w : World) (D : DevB) (s : DSt) (h : IsDev B w D s) (at_ x : Int) (ha : at_ < 0 ∨ (s.n : Int) * 8 ≤ at_) :
    Calls Try.prog 99 #[D.ptr, .int .i64 at_, .int .u64 x] w fun e w' => e = .returned (.int .i64 5) ∧ w = w' := by
  unfold DevB.ptr
  have HC : Hid (Calls Try.prog 86 #[.pointer (some ⟨D.gd, 0, none⟩), .int .i64 at_] w fun e w' => e = .returned (.int .i64 5) ∧ w = w') := by
    rcases ha with ha | ha
    · exact Lib.hid (askW_lo _ _ _ _ at_ ha w h.n1 h.c0)
    · exact Lib.hid (askW_hi _ _ _ _ at_ ha w h.n1 h.c0)
  clear ha
  go_enter Try.func99, Try.ntmps99
  go_wp2_with fail
  refine HC.out.mono ?_
  rintro e w' ⟨rfl, rfl⟩
  go_wp2_with fail
  go_ret
  exact ⟨rfl, rfl⟩
theorem store_nil (at_ x : Int) (w : World) :
    Calls Try.prog 99 #[.pointer none, .int .i64 at_, .int .u64 x] w fun e w' => e = .returned (.int .i64 1) ∧ w = w' := by
  go_enter Try.func99, Try.ntmps99
  go_wp2_with fail
  refine (askW_nil _ _).mono ?_
  rintro e w' ⟨rfl, rfl⟩
  go_wp2_with fail
  go_ret
  exact ⟨rfl, rfl⟩
set_option maxHeartbeats 400000 in
theorem writes_ok (B : Nat) (w : World) (D : DevB) (s : DSt) (h : IsDev B w D s) (p : Nat) (ha : p < s.n) :
    Calls Try.prog 55 #[D.ptr, .int .i64 (p : Int)] w fun e w' => e = .returned (.int .i64 (s.writes.getD p 0)) ∧ w = w' := by
  unfold DevB.ptr
  have HC := Lib.hid (askL_ok _ _ _ _ (p : Int) (by omega) (by omega) w h.n1 h.c0)
  have c3 := h.c3
  have hn1 := h.n1
  have hcell : w.cell? ⟨D.gw, p, none⟩ = some (.int .i64 (s.writes.getD p 0)) := h.writes.cell (j := p) (by omega)
  generalize s.writes.getD p 0 = x at *
  go_enter Try.func55, Try.ntmps55
  go_wp2_with fail
  refine HC.out.mono ?_
  rintro e w' ⟨rfl, rfl⟩
  go_wp2_with fail
  go_ret
  exact ⟨rfl, rfl⟩
theorem writes_nil (at_ : Int) (w : World) :
    Calls Try.prog 55 #[.pointer none, .int .i64 at_] w fun e w' => e = .returned (.int .i64 0) ∧ w = w' := by
  go_enter Try.func55, Try.ntmps55
  go_wp2_with fail
  refine (askL_nil _ _).mono ?_
  rintro e w' ⟨rfl, rfl⟩
  go_wp2_with fail
  go_ret
  exact ⟨rfl, rfl⟩
end Go.Proofs.Ytcelhllhdkminaa
