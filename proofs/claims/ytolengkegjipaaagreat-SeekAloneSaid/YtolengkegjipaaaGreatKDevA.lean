/- The device of package pdev in memory, and what its questions answer. Conditions: those that each theorem names. -/
import Derived.Test.YtolengkegjipaaaGreatLineLaw
import Derived.Test.YtolengkegjipaaaGreatKMF
import Derived.RegionTactic
import Derived.BigRegion
namespace Go.Proofs.YtolengkegjipaaaGreat
open Go.ChangeShapes Go.WideShapes Go.ChangeAt Go.RowKit
set_option linter.unusedVariables false
/-- Where a device lies. -/
structure DevB where
  gd : Nat
  gk : Nat
  gs : Nat
  gf : Nat
  gw : Nat
  ck : Nat
  cs : Nat
  its : List Value
/-- What a device holds. -/
structure DSt where
  n : Nat
  T : Nat
  kept : List Int
  seen : List Int
  writes : List Int
  fl : List (List Int)
def DevB.ptr (D : DevB) : Value := .pointer (some ⟨D.gd, 0, none⟩)
/-- The cells of a device's own block. -/
def DevB.cells (D : DevB) (n T : Nat) : List Value := [.slice (some ⟨D.gk, 0, none⟩) n D.ck, .slice (some ⟨D.gs, 0, none⟩) n D.cs, .slice (some ⟨D.gf, 0, none⟩) T T, .slice (some ⟨D.gw, 0, none⟩) n n]
structure IsDev (B : Nat) (w : World) (D : DevB) (s : DSt) : Prop where
  n0 : 0 < s.n
  n1 : s.n ≤ 262144
  T0 : 0 < s.T
  T1 : s.T ≤ 64
  lits : D.its.length = s.T
  lfl : s.fl.length = s.T
  bd : B ≤ D.gd
  bf : B ≤ D.gf
  dev : Blk w D.gd 122 (D.cells s.n s.T)
  kept : RowN w B 133 8 .u64 (.slice (some ⟨D.gk, 0, none⟩) s.n D.ck) s.n s.kept
  seen : RowN w B 133 8 .u64 (.slice (some ⟨D.gs, 0, none⟩) s.n D.cs) s.n s.seen
  ks : D.gk ≠ D.gs
  flb : Blk w D.gf 160 D.its
  fl : ∀ t, t < s.T → Row w B 3 .i64 (D.its.getD t undef) (s.fl.getD t [])
  writes : RowN w B 3 1 .i64 (.slice (some ⟨D.gw, 0, none⟩) s.n s.n) s.n s.writes
  apart : ∀ t t' g, t < s.T → t' < s.T → t ≠ t' → (D.its.getD t undef).ownBlock = some g → (D.its.getD t' undef).ownBlock ≠ some g
  wapart : ∀ t, t < s.T → (D.its.getD t undef).ownBlock ≠ some D.gw
  lk : Lim s.kept 18446744073709551616
  ls : Lim s.seen 18446744073709551616
theorem askL_lo0 (g n c : Nat) (A : Option Addr) (at_ : Int) (h : at_ < 0) (w : World) (hn : n ≤ 262144) (hc : w.cell? ⟨g, 0, none⟩ = some (.slice A n c)) :
    Calls Tryz.prog 93 #[.pointer (some ⟨g, 0, none⟩), .int .i64 at_, .int .i64 1] w fun e w' => e = .returned (.int .i64 5) ∧ w = w' := by
  have t1 : decide (at_ < 0) = true := by simp; omega
  go_enter Tryz.func93, Tryz.ntmps93
  go_wp2_with fail
  go_ret
  exact ⟨rfl, rfl⟩
theorem askL_lo (g n c : Nat) (A : Option Addr) (at_ : Int) (h : at_ < 0) (w : World) (hn : n ≤ 262144) (hc : w.cell? ⟨g, 0, none⟩ = some (.slice A n c)) :
    Calls Tryz.prog 123 #[.pointer (some ⟨g, 0, none⟩), .int .i64 at_] w fun e w' => e = .returned (.int .i64 5) ∧ w = w' := by
  have HC := Lib.hid (askL_lo0 g n c A at_ h w hn hc)
  go_enter Tryz.func123, Tryz.ntmps123
  go_wp2_with fail
  refine HC.out.mono ?_
  rintro e w' ⟨rfl, rfl⟩
  go_wp2_with fail
  go_ret
  exact ⟨rfl, rfl⟩
theorem askL_hi0 (g n c : Nat) (A : Option Addr) (at_ : Int) (h : (n : Int) * 1 ≤ at_) (w : World) (hn : n ≤ 262144) (hc : w.cell? ⟨g, 0, none⟩ = some (.slice A n c)) :
    Calls Tryz.prog 93 #[.pointer (some ⟨g, 0, none⟩), .int .i64 at_, .int .i64 1] w fun e w' => e = .returned (.int .i64 5) ∧ w = w' := by
  have t1 : decide (at_ < 0) = false := by simp; omega
  have t2 : decide ((n : Int) ≤ at_) = true := by simp; omega
  go_enter Tryz.func93, Tryz.ntmps93
  go_wp2_with fail
  go_ret
  exact ⟨rfl, rfl⟩
theorem askL_hi (g n c : Nat) (A : Option Addr) (at_ : Int) (h : (n : Int) * 1 ≤ at_) (w : World) (hn : n ≤ 262144) (hc : w.cell? ⟨g, 0, none⟩ = some (.slice A n c)) :
    Calls Tryz.prog 123 #[.pointer (some ⟨g, 0, none⟩), .int .i64 at_] w fun e w' => e = .returned (.int .i64 5) ∧ w = w' := by
  have HC := Lib.hid (askL_hi0 g n c A at_ h w hn hc)
  go_enter Tryz.func123, Tryz.ntmps123
  go_wp2_with fail
  refine HC.out.mono ?_
  rintro e w' ⟨rfl, rfl⟩
  go_wp2_with fail
  go_ret
  exact ⟨rfl, rfl⟩
theorem askL_ok0 (g n c : Nat) (A : Option Addr) (at_ : Int) (h0 : 0 ≤ at_) (h : at_ < (n : Int) * 1) (w : World) (hn : n ≤ 262144) (hc : w.cell? ⟨g, 0, none⟩ = some (.slice A n c)) :
    Calls Tryz.prog 93 #[.pointer (some ⟨g, 0, none⟩), .int .i64 at_, .int .i64 1] w fun e w' => e = .returned (.int .i64 0) ∧ w = w' := by
  have t1 : decide (at_ < 0) = false := by simp; omega
  have t2 : decide ((n : Int) ≤ at_) = false := by simp; omega
  go_enter Tryz.func93, Tryz.ntmps93
  go_wp2_with fail
  go_ret
  exact ⟨rfl, rfl⟩
theorem askL_ok (g n c : Nat) (A : Option Addr) (at_ : Int) (h0 : 0 ≤ at_) (h : at_ < (n : Int) * 1) (w : World) (hn : n ≤ 262144) (hc : w.cell? ⟨g, 0, none⟩ = some (.slice A n c)) :
    Calls Tryz.prog 123 #[.pointer (some ⟨g, 0, none⟩), .int .i64 at_] w fun e w' => e = .returned (.int .i64 0) ∧ w = w' := by
  have HC := Lib.hid (askL_ok0 g n c A at_ h0 h w hn hc)
  go_enter Tryz.func123, Tryz.ntmps123
  go_wp2_with fail
  refine HC.out.mono ?_
  rintro e w' ⟨rfl, rfl⟩
  go_wp2_with fail
  go_ret
  exact ⟨rfl, rfl⟩
theorem askW_lo0 (g n c : Nat) (A : Option Addr) (at_ : Int) (h : at_ < 0) (w : World) (hn : n ≤ 262144) (hc : w.cell? ⟨g, 0, none⟩ = some (.slice A n c)) :
    Calls Tryz.prog 93 #[.pointer (some ⟨g, 0, none⟩), .int .i64 at_, .int .i64 8] w fun e w' => e = .returned (.int .i64 5) ∧ w = w' := by
  have t1 : decide (at_ < 0) = true := by simp; omega
  go_enter Tryz.func93, Tryz.ntmps93
  go_wp2_with fail
  go_ret
  exact ⟨rfl, rfl⟩
theorem askW_lo (g n c : Nat) (A : Option Addr) (at_ : Int) (h : at_ < 0) (w : World) (hn : n ≤ 262144) (hc : w.cell? ⟨g, 0, none⟩ = some (.slice A n c)) :
    Calls Tryz.prog 85 #[.pointer (some ⟨g, 0, none⟩), .int .i64 at_] w fun e w' => e = .returned (.int .i64 5) ∧ w = w' := by
  have HC := Lib.hid (askW_lo0 g n c A at_ h w hn hc)
  go_enter Tryz.func85, Tryz.ntmps85
  go_wp2_with fail
  refine HC.out.mono ?_
  rintro e w' ⟨rfl, rfl⟩
  go_wp2_with fail
  go_ret
  exact ⟨rfl, rfl⟩
theorem askW_hi0 (g n c : Nat) (A : Option Addr) (at_ : Int) (h : (n : Int) * 8 ≤ at_) (w : World) (hn : n ≤ 262144) (hc : w.cell? ⟨g, 0, none⟩ = some (.slice A n c)) :
    Calls Tryz.prog 93 #[.pointer (some ⟨g, 0, none⟩), .int .i64 at_, .int .i64 8] w fun e w' => e = .returned (.int .i64 5) ∧ w = w' := by
  have t1 : decide (at_ < 0) = false := by simp; omega
  have t2 : decide ((n : Int) * 8 ≤ at_) = true := by simp; omega
  go_enter Tryz.func93, Tryz.ntmps93
  go_wp2_with fail
  go_ret
  exact ⟨rfl, rfl⟩
theorem askW_hi (g n c : Nat) (A : Option Addr) (at_ : Int) (h : (n : Int) * 8 ≤ at_) (w : World) (hn : n ≤ 262144) (hc : w.cell? ⟨g, 0, none⟩ = some (.slice A n c)) :
    Calls Tryz.prog 85 #[.pointer (some ⟨g, 0, none⟩), .int .i64 at_] w fun e w' => e = .returned (.int .i64 5) ∧ w = w' := by
  have HC := Lib.hid (askW_hi0 g n c A at_ h w hn hc)
  go_enter Tryz.func85, Tryz.ntmps85
  go_wp2_with fail
  refine HC.out.mono ?_
  rintro e w' ⟨rfl, rfl⟩
  go_wp2_with fail
  go_ret
  exact ⟨rfl, rfl⟩
theorem askW_ok0 (g n c : Nat) (A : Option Addr) (at_ : Int) (h0 : 0 ≤ at_) (h : at_ < (n : Int) * 8) (w : World) (hn : n ≤ 262144) (hc : w.cell? ⟨g, 0, none⟩ = some (.slice A n c)) :
    Calls Tryz.prog 93 #[.pointer (some ⟨g, 0, none⟩), .int .i64 at_, .int .i64 8] w fun e w' => e = .returned (.int .i64 0) ∧ w = w' := by
  have t1 : decide (at_ < 0) = false := by simp; omega
  have t2 : decide ((n : Int) * 8 ≤ at_) = false := by simp; omega
  go_enter Tryz.func93, Tryz.ntmps93
  go_wp2_with fail
  go_ret
  exact ⟨rfl, rfl⟩
theorem askW_ok (g n c : Nat) (A : Option Addr) (at_ : Int) (h0 : 0 ≤ at_) (h : at_ < (n : Int) * 8) (w : World) (hn : n ≤ 262144) (hc : w.cell? ⟨g, 0, none⟩ = some (.slice A n c)) :
    Calls Tryz.prog 85 #[.pointer (some ⟨g, 0, none⟩), .int .i64 at_] w fun e w' => e = .returned (.int .i64 0) ∧ w = w' := by
  have HC := Lib.hid (askW_ok0 g n c A at_ h0 h w hn hc)
  go_enter Tryz.func85, Tryz.ntmps85
  go_wp2_with fail
  refine HC.out.mono ?_
  rintro e w' ⟨rfl, rfl⟩
  go_wp2_with fail
  go_ret
  exact ⟨rfl, rfl⟩
theorem askT_lo (g T c : Nat) (A : Option Addr) (t : Int) (h : t < 0) (w : World) (hT : T ≤ 64) (hc : w.cell? ⟨g, 2, none⟩ = some (.slice A T c)) :
    Calls Tryz.prog 122 #[.pointer (some ⟨g, 0, none⟩), .int .i64 t] w fun e w' => e = .returned (.int .i64 1) ∧ w = w' := by
  have t1 : decide (t < 0) = true := by simp; omega
  go_enter Tryz.func122, Tryz.ntmps122
  go_wp2_with fail
  go_ret
  exact ⟨rfl, rfl⟩
theorem askT_hi (g T c : Nat) (A : Option Addr) (t : Int) (h : (T : Int) ≤ t) (w : World) (hT : T ≤ 64) (hc : w.cell? ⟨g, 2, none⟩ = some (.slice A T c)) :
    Calls Tryz.prog 122 #[.pointer (some ⟨g, 0, none⟩), .int .i64 t] w fun e w' => e = .returned (.int .i64 1) ∧ w = w' := by
  have t1 : decide (t < 0) = false := by simp; omega
  have t2 : decide ((T : Int) ≤ t) = true := by simp; omega
  go_enter Tryz.func122, Tryz.ntmps122
  go_wp2_with fail
  go_ret
  exact ⟨rfl, rfl⟩
theorem askT_ok (g T c : Nat) (A : Option Addr) (t : Int) (h0 : 0 ≤ t) (h : t < (T : Int)) (w : World) (hT : T ≤ 64) (hc : w.cell? ⟨g, 2, none⟩ = some (.slice A T c)) :
    Calls Tryz.prog 122 #[.pointer (some ⟨g, 0, none⟩), .int .i64 t] w fun e w' => e = .returned (.int .i64 0) ∧ w = w' := by
  have t1 : decide (t < 0) = false := by simp; omega
  have t2 : decide ((T : Int) ≤ t) = false := by simp; omega
  go_enter Tryz.func122, Tryz.ntmps122
  go_wp2_with fail
  go_ret
  exact ⟨rfl, rfl⟩
theorem mayBe_ok (t : Int) (h0 : 1 ≤ t) (h : t ≤ 64) (w : World) :
    Calls Tryz.prog 45 #[.int .i64 t] w fun e w' => e = .returned (.bool true) ∧ w = w' := by
  have t1 : decide (1 ≤ t) = true := by simp; omega
  have t2 : decide (t ≤ 64) = true := by simp; omega
  go_enter Tryz.func45, Tryz.ntmps45
  go_wp2_with fail
  go_ret
  exact ⟨rfl, rfl⟩
end Go.Proofs.YtolengkegjipaaaGreat


/- What the device of package pdev tells, and what a store does to it. Conditions: those that each theorem names. -/
namespace Go.Proofs.YtolengkegjipaaaGreat
open Go.ChangeShapes Go.WideShapes Go.ChangeAt Go.RowKit
set_option linter.unusedVariables false
section
variable {B : Nat} {w : World} {D : DevB} {s : DSt}
theorem IsDev.c0 (h : IsDev B w D s) : w.cell? ⟨D.gd, 0, none⟩ = some (.slice (some ⟨D.gk, 0, none⟩) s.n D.ck) := h.dev.cell 0
theorem IsDev.c1 (h : IsDev B w D s) : w.cell? ⟨D.gd, 1, none⟩ = some (.slice (some ⟨D.gs, 0, none⟩) s.n D.cs) := h.dev.cell 1
theorem IsDev.c2 (h : IsDev B w D s) : w.cell? ⟨D.gd, 2, none⟩ = some (.slice (some ⟨D.gf, 0, none⟩) s.T s.T) := h.dev.cell 2
theorem IsDev.c3 (h : IsDev B w D s) : w.cell? ⟨D.gd, 3, none⟩ = some (.slice (some ⟨D.gw, 0, none⟩) s.n s.n) := h.dev.cell 3
end
set_option maxHeartbeats 400000 in
theorem load_no (B : Nat) (w : World) (D : DevB) (s : DSt) (h : IsDev B w D s) (at_ : Int) (ha : at_ < 0 ∨ (s.n : Int) * 8 ≤ at_) :
    Calls Tryz.prog 77 #[D.ptr, .int .i64 at_] w fun e w' => e = .returned (.tuple #[.int .u64 0, .int .i64 5]) ∧ w = w' := by
  unfold DevB.ptr
  have HC : Hid (Calls Tryz.prog 85 #[.pointer (some ⟨D.gd, 0, none⟩), .int .i64 at_] w fun e w' => e = .returned (.int .i64 5) ∧ w = w') := by
    rcases ha with ha | ha
    · exact Lib.hid (askW_lo _ _ _ _ at_ ha w h.n1 h.c0)
    · exact Lib.hid (askW_hi _ _ _ _ at_ ha w h.n1 h.c0)
  clear ha
  go_enter Tryz.func77, Tryz.ntmps77
  go_wp2_with fail
  refine HC.out.mono ?_
  rintro e w' ⟨rfl, rfl⟩
  go_wp2_with fail
  go_ret2
  exact ⟨rfl, rfl⟩
set_option maxHeartbeats 400000 in
theorem load_ok (B : Nat) (w : World) (D : DevB) (s : DSt) (h : IsDev B w D s) (p : Nat) (ha : p < s.n * 8) :
    Calls Tryz.prog 77 #[D.ptr, .int .i64 (p : Int)] w fun e w' => e = .returned (.tuple #[.int .u64 (s.seen.getD p 0), .int .i64 0]) ∧ w = w' := by
  unfold DevB.ptr
  have HC := Lib.hid (askW_ok _ _ _ _ (p : Int) (by omega) (by omega) w h.n1 h.c0)
  have c1 := h.c1
  have hn1 := h.n1
  have hcell : w.cell? ⟨D.gs, p / 8 * 8 + p % 8, none⟩ = some (.int .u64 (s.seen.getD p 0)) := by rw [Nat.div_add_mod']; exact h.seen.cell (j := p) ha
  generalize s.seen.getD p 0 = x at *
  go_enter Tryz.func77, Tryz.ntmps77
  go_wp2_with fail
  refine HC.out.mono ?_
  rintro e w' ⟨rfl, rfl⟩
  go_wp2_with fail
  go_ret2
  exact ⟨rfl, rfl⟩
theorem RowN.ne_row {w : World} {B B' n n' size size' : Nat} {e e' : TypeId} {k k' : IntKind} {v v' : Value} {zs zs' : List Int} (h : RowN w B e size k v n zs) (h' : RowN w B' e' size' k' v' n' zs') (hne : e ≠ e') (g : Nat) (hg : v.ownBlock = some g) : v'.ownBlock ≠ some g := by
  rcases h.2 with ⟨rfl, _⟩ | ⟨g1, cap, cur, rfl, _, hh, _⟩
  · simp [Value.ownBlock] at hg
  · obtain rfl : g1 = g := by simpa [Value.ownBlock] using hg
    rcases h'.2 with ⟨rfl, _⟩ | ⟨g2, cap', cur', rfl, _, hh', _⟩
    · simp [Value.ownBlock]
    · intro he
      obtain rfl : g2 = g1 := by simpa [Value.ownBlock] using he
      rw [hh] at hh'
      injection hh' with hh'
      injection hh' with _ h2
      exact hne h2
section
variable {B : Nat} {w : World} {D : DevB} {s : DSt}
/-- The blocks of a device. -/
def DevB.foot (D : DevB) (g : Nat) : Prop := g = D.gd ∨ g = D.gk ∨ g = D.gs ∨ g = D.gf ∨ g = D.gw ∨ ∃ t, t < D.its.length ∧ (D.its.getD t undef).ownBlock = some g
theorem IsDev.foot_ge (h : IsDev B w D s) {g : Nat} (hg : D.foot g) : B ≤ g ∧ g < w.heap.size := by
  rcases hg with rfl | rfl | rfl | rfl | rfl | ⟨t, ht, hg⟩
  · exact ⟨h.bd, h.dev.lt⟩
  · exact World.ownsRow.lt h.kept _ rfl
  · exact World.ownsRow.lt h.seen _ rfl
  · exact ⟨h.bf, h.flb.lt⟩
  · exact World.ownsRow.lt h.writes _ rfl
  · exact World.ownsRow.lt (h.fl t (by rw [← h.lits]; exact ht)) _ hg
/-- A device under a change of none of its blocks. -/
theorem IsDev.fr {w' : World} {S : Nat → Prop} (h : IsDev B w D s) (x : Fr S w w') (hS : ∀ g, D.foot g → ¬ S g) : IsDev B w' D s where
  n0 := h.n0
  n1 := h.n1
  T0 := h.T0
  T1 := h.T1
  lits := h.lits
  lfl := h.lfl
  bd := h.bd
  bf := h.bf
  dev := h.dev.fr x (hS _ (Or.inl rfl))
  kept := h.kept.fr x (fun g hg => hS g (by cases hg; exact Or.inr (Or.inl rfl)))
  seen := h.seen.fr x (fun g hg => hS g (by cases hg; exact Or.inr (Or.inr (Or.inl rfl))))
  ks := h.ks
  flb := h.flb.fr x (hS _ (Or.inr (Or.inr (Or.inr (Or.inl rfl)))))
  fl := fun t ht => (h.fl t ht).fr x (fun g hg => hS g (Or.inr (Or.inr (Or.inr (Or.inr (Or.inr ⟨t, by rw [h.lits]; exact ht, hg⟩))))))
  writes := h.writes.fr x (fun g hg => hS g (by cases hg; exact Or.inr (Or.inr (Or.inr (Or.inr (Or.inl rfl))))))
  apart := h.apart
  wapart := h.wapart
  lk := h.lk
  ls := h.ls
theorem IsDev.ext {w' : World} (h : IsDev B w D s) (x : Ext w w') : IsDev B w' D s := h.fr (Fr.of_ext (S := fun _ => False) x) (fun _ _ hs => hs)
theorem lim_set {zs : List Int} {m x : Int} (h : Lim zs m) (hx : 0 ≤ x ∧ x < m) (p : Nat) : Lim (zs.set p x) m := LM.lim_of fun z hz => by
  rcases List.mem_or_eq_of_mem_set hz with h1 | h1
  · exact LM.of_lim h z h1
  · rw [h1]; exact hx
/-- A word seen. -/
theorem IsDev.see (h : IsDev B w D s) (p : Nat) (x : Int) (hx : 0 ≤ x ∧ x < 18446744073709551616) : IsDev B (w.setCell ⟨D.gs, p, none⟩ (.int .u64 x)) D { s with seen := s.seen.set p x } where
  n0 := h.n0
  n1 := h.n1
  T0 := h.T0
  T1 := h.T1
  lits := h.lits
  lfl := h.lfl
  bd := h.bd
  bf := h.bf
  dev := h.dev.far (p := ⟨D.gs, p, none⟩) (fun e => h.dev.ne_row h.seen (by decide) (by rw [e]; rfl)) _
  kept := h.kept.far (p := ⟨D.gs, p, none⟩) (fun e => h.ks (by injection e)) _
  seen := h.seen.set x
  ks := h.ks
  flb := h.flb.far (p := ⟨D.gs, p, none⟩) (fun e => h.flb.ne_row h.seen (by decide) (by rw [e]; rfl)) _
  fl := fun t ht => (h.fl t ht).far (p := ⟨D.gs, p, none⟩) (fun e => RowN.ne_row h.seen (RowN.of_row (h.fl t ht)) (by decide) _ rfl e) _
  writes := h.writes.far (p := ⟨D.gs, p, none⟩) (fun e => RowN.ne_row h.seen h.writes (by decide) _ rfl e) _
  apart := h.apart
  wapart := h.wapart
  lk := h.lk
  ls := lim_set h.ls hx p
end
/-- What a call leaves of a device: the new one, and all other blocks. -/
def DevBack (B : Nat) (w : World) (D : DevB) (s' : DSt) (r r' : Ending) (w' : World) : Prop := r' = r ∧ ∃ D' : DevB, D'.gd = D.gd ∧ IsDev B w' D' s' ∧ Fr D.foot w w' ∧ ∀ g, D'.foot g → D.foot g ∨ w.heap.size ≤ g
set_option maxHeartbeats 400000 in
theorem store_ok (B : Nat) (w : World) (D : DevB) (s : DSt) (h : IsDev B w D s) (p : Nat) (ha : p < s.n * 8) (x : Int) (hx : 0 ≤ x ∧ x < 18446744073709551616) :
    Calls Tryz.prog 71 #[D.ptr, .int .i64 (p : Int), .int .u64 x] w (DevBack B w D { s with seen := s.seen.set p x } (.returned (.int .i64 0))) := by
  unfold DevB.ptr
  have HC := Lib.hid (askW_ok _ _ _ _ (p : Int) (by omega) (by omega) w h.n1 h.c0)
  have c1 := h.c1
  have hn1 := h.n1
  have hcell : w.cell? ⟨D.gs, p / 8 * 8 + p % 8, none⟩ = some (.int .u64 (s.seen.getD p 0)) := by rw [Nat.div_add_mod']; exact h.seen.cell (j := p) ha
  have hfz : w.frozen? ⟨D.gs, p / 8 * 8 + p % 8, none⟩ = false := h.seen.frozen _
  have HD := Lib.hid (h.see p x hx)
  generalize s.seen.getD p 0 = y at *
  go_enter Tryz.func71, Tryz.ntmps71
  go_wp2_with fail
  refine HC.out.mono ?_
  rintro e w' ⟨rfl, rfl⟩
  go_wp2_with fail
  go_ret
  rw [Nat.div_add_mod']
  exact ⟨rfl, D, rfl, HD.out, (Fr.refl _ w).setCell (Or.inl (Or.inr (Or.inr (Or.inl rfl)))) _, fun g hg => Or.inl hg⟩
set_option maxHeartbeats 400000 in
theorem store_no (B : Nat) (w : World) (D : DevB) (s : DSt) (h : IsDev B w D s) (at_ x : Int) (ha : at_ < 0 ∨ (s.n : Int) * 8 ≤ at_) :
    Calls Tryz.prog 71 #[D.ptr, .int .i64 at_, .int .u64 x] w fun e w' => e = .returned (.int .i64 5) ∧ w = w' := by
  unfold DevB.ptr
  have HC : Hid (Calls Tryz.prog 85 #[.pointer (some ⟨D.gd, 0, none⟩), .int .i64 at_] w fun e w' => e = .returned (.int .i64 5) ∧ w = w') := by
    rcases ha with ha | ha
    · exact Lib.hid (askW_lo _ _ _ _ at_ ha w h.n1 h.c0)
    · exact Lib.hid (askW_hi _ _ _ _ at_ ha w h.n1 h.c0)
  clear ha
  go_enter Tryz.func71, Tryz.ntmps71
  go_wp2_with fail
  refine HC.out.mono ?_
  rintro e w' ⟨rfl, rfl⟩
  go_wp2_with fail
  go_ret
  exact ⟨rfl, rfl⟩
set_option maxHeartbeats 400000 in
theorem writes_ok (B : Nat) (w : World) (D : DevB) (s : DSt) (h : IsDev B w D s) (p : Nat) (ha : p < s.n) :
    Calls Tryz.prog 129 #[D.ptr, .int .i64 (p : Int)] w fun e w' => e = .returned (.int .i64 (s.writes.getD p 0)) ∧ w = w' := by
  unfold DevB.ptr
  have HC := Lib.hid (askL_ok _ _ _ _ (p : Int) (by omega) (by omega) w h.n1 h.c0)
  have c3 := h.c3
  have hn1 := h.n1
  have hcell : w.cell? ⟨D.gw, p, none⟩ = some (.int .i64 (s.writes.getD p 0)) := h.writes.cell (j := p) (by omega)
  generalize s.writes.getD p 0 = x at *
  go_enter Tryz.func129, Tryz.ntmps129
  go_wp2_with fail
  refine HC.out.mono ?_
  rintro e w' ⟨rfl, rfl⟩
  go_wp2_with fail
  go_ret
  exact ⟨rfl, rfl⟩
end Go.Proofs.YtolengkegjipaaaGreat


/- A line of the device written back; Evict, Fence, Crash. Conditions: those that each theorem names. -/
namespace Go.Proofs.YtolengkegjipaaaGreat
open Go.ChangeShapes Go.WideShapes Go.ChangeAt Go.RowKit
set_option linter.unusedVariables false
section
variable {B : Nat} {w : World} {D : DevB} {s : DSt}
/-- A word kept. -/
theorem IsDev.keep (h : IsDev B w D s) (p : Nat) (x : Int) (hx : 0 ≤ x ∧ x < 18446744073709551616) : IsDev B (w.setCell ⟨D.gk, p, none⟩ (.int .u64 x)) D { s with kept := s.kept.set p x } where
  n0 := h.n0
  n1 := h.n1
  T0 := h.T0
  T1 := h.T1
  lits := h.lits
  lfl := h.lfl
  bd := h.bd
  bf := h.bf
  dev := h.dev.far (p := ⟨D.gk, p, none⟩) (fun e => h.dev.ne_row h.kept (by decide) (by rw [e]; rfl)) _
  kept := h.kept.set x
  seen := h.seen.far (p := ⟨D.gk, p, none⟩) (fun e => h.ks (by injection e with e; exact e.symm)) _
  ks := h.ks
  flb := h.flb.far (p := ⟨D.gk, p, none⟩) (fun e => h.flb.ne_row h.kept (by decide) (by rw [e]; rfl)) _
  fl := fun t ht => (h.fl t ht).far (p := ⟨D.gk, p, none⟩) (fun e => RowN.ne_row h.kept (RowN.of_row (h.fl t ht)) (by decide) _ rfl e) _
  writes := h.writes.far (p := ⟨D.gk, p, none⟩) (fun e => RowN.ne_row h.kept h.writes (by decide) _ rfl e) _
  apart := h.apart
  wapart := h.wapart
  lk := lim_set h.lk hx p
  ls := h.ls
/-- A count of writes. -/
theorem IsDev.count (h : IsDev B w D s) (p : Nat) (x : Int) : IsDev B (w.setCell ⟨D.gw, p, none⟩ (.int .i64 x)) D { s with writes := s.writes.set p x } where
  n0 := h.n0
  n1 := h.n1
  T0 := h.T0
  T1 := h.T1
  lits := h.lits
  lfl := h.lfl
  bd := h.bd
  bf := h.bf
  dev := h.dev.far (p := ⟨D.gw, p, none⟩) (fun e => h.dev.ne_row h.writes (by decide) (by rw [e]; rfl)) _
  kept := h.kept.far (p := ⟨D.gw, p, none⟩) (fun e => RowN.ne_row h.writes h.kept (by decide) _ rfl e) _
  seen := h.seen.far (p := ⟨D.gw, p, none⟩) (fun e => RowN.ne_row h.writes h.seen (by decide) _ rfl e) _
  ks := h.ks
  flb := h.flb.far (p := ⟨D.gw, p, none⟩) (fun e => h.flb.ne_row h.writes (by decide) (by rw [e]; rfl)) _
  fl := fun t ht => (h.fl t ht).far (p := ⟨D.gw, p, none⟩) (h.wapart t ht) _
  writes := h.writes.set x
  apart := h.apart
  wapart := h.wapart
  lk := h.lk
  ls := h.ls
end
/-- Eight words put in the place of eight. -/
def put8 (l : List Int) (p : Nat) (a : List Int) : List Int := l.take p ++ a ++ l.drop (p + 8)
theorem set8_eq (l : List Int) (p : Nat) (h : p + 8 ≤ l.length) (a0 a1 a2 a3 a4 a5 a6 a7 : Int) :
    (((((((l.set p a0).set (p + 1) a1).set (p + 2) a2).set (p + 3) a3).set (p + 4) a4).set (p + 5) a5).set (p + 6) a6).set (p + 7) a7 = put8 l p [a0, a1, a2, a3, a4, a5, a6, a7] := by
  unfold put8
  obtain ⟨pre, post, x0, x1, x2, x3, x4, x5, x6, x7, hl, hp⟩ : ∃ pre post x0 x1 x2 x3 x4 x5 x6 x7, l = pre ++ (x0 :: x1 :: x2 :: x3 :: x4 :: x5 :: x6 :: x7 :: post) ∧ pre.length = p := by
    obtain ⟨x0, x1, x2, x3, x4, x5, x6, x7, h8⟩ := LM.eightOf (l := (l.drop p).take 8) (by rw [List.length_take, List.length_drop]; omega)
    refine ⟨l.take p, (l.drop p).drop 8, x0, x1, x2, x3, x4, x5, x6, x7, ?_, by rw [List.length_take]; omega⟩
    have e : l = l.take p ++ ((l.drop p).take 8 ++ (l.drop p).drop 8) := by rw [List.take_append_drop, List.take_append_drop]
    rw [h8] at e
    exact e
  subst hl hp
  simp [List.set_append_right, List.drop_append]
/-- Eight words kept, one behind the other. -/
theorem IsDev.keep8 {B : Nat} {w : World} {D : DevB} {s : DSt} (h : IsDev B w D s) (p : Nat) (hp : p < s.n) (a0 a1 a2 a3 a4 a5 a6 a7 : Int) (hl : Lim [a0, a1, a2, a3, a4, a5, a6, a7] 18446744073709551616) :
    IsDev B ((((((((w.setCell ⟨D.gk, p * 8, none⟩ (.int .u64 a0)).setCell ⟨D.gk, p * 8 + 1, none⟩ (.int .u64 a1)).setCell ⟨D.gk, p * 8 + 2, none⟩ (.int .u64 a2)).setCell ⟨D.gk, p * 8 + 3, none⟩ (.int .u64 a3)).setCell ⟨D.gk, p * 8 + 4, none⟩ (.int .u64 a4)).setCell ⟨D.gk, p * 8 + 5, none⟩ (.int .u64 a5)).setCell ⟨D.gk, p * 8 + 6, none⟩ (.int .u64 a6)).setCell ⟨D.gk, p * 8 + 7, none⟩ (.int .u64 a7)) D { s with kept := put8 s.kept (p * 8) [a0, a1, a2, a3, a4, a5, a6, a7] } ∧ Fr D.foot w ((((((((w.setCell ⟨D.gk, p * 8, none⟩ (.int .u64 a0)).setCell ⟨D.gk, p * 8 + 1, none⟩ (.int .u64 a1)).setCell ⟨D.gk, p * 8 + 2, none⟩ (.int .u64 a2)).setCell ⟨D.gk, p * 8 + 3, none⟩ (.int .u64 a3)).setCell ⟨D.gk, p * 8 + 4, none⟩ (.int .u64 a4)).setCell ⟨D.gk, p * 8 + 5, none⟩ (.int .u64 a5)).setCell ⟨D.gk, p * 8 + 6, none⟩ (.int .u64 a6)).setCell ⟨D.gk, p * 8 + 7, none⟩ (.int .u64 a7)) := by
  have hkl := h.kept.len
  have hj : ∀ j, j < 8 → 0 ≤ [a0, a1, a2, a3, a4, a5, a6, a7].getD j 0 ∧ [a0, a1, a2, a3, a4, a5, a6, a7].getD j 0 < 18446744073709551616 := fun j hj => hl j hj
  rw [← set8_eq s.kept (p * 8) (by omega)]
  have d0 := h
  have f0 := Fr.refl D.foot w
  clear h
  have d1 := d0.keep (p * 8) a0 (hj 0 (by omega))
  have f1 := f0.setCell (p := ⟨D.gk, p * 8, none⟩) (Or.inl (Or.inr (Or.inl rfl))) (.int .u64 a0)
  generalize w.setCell ⟨D.gk, p * 8, none⟩ (.int .u64 a0) = w1 at *
  have d2 := d1.keep (p * 8 + 1) a1 (hj 1 (by omega))
  have f2 := f1.setCell (p := ⟨D.gk, p * 8 + 1, none⟩) (Or.inl (Or.inr (Or.inl rfl))) (.int .u64 a1)
  generalize w1.setCell ⟨D.gk, p * 8 + 1, none⟩ (.int .u64 a1) = w2 at *
  have d3 := d2.keep (p * 8 + 2) a2 (hj 2 (by omega))
  have f3 := f2.setCell (p := ⟨D.gk, p * 8 + 2, none⟩) (Or.inl (Or.inr (Or.inl rfl))) (.int .u64 a2)
  generalize w2.setCell ⟨D.gk, p * 8 + 2, none⟩ (.int .u64 a2) = w3 at *
  have d4 := d3.keep (p * 8 + 3) a3 (hj 3 (by omega))
  have f4 := f3.setCell (p := ⟨D.gk, p * 8 + 3, none⟩) (Or.inl (Or.inr (Or.inl rfl))) (.int .u64 a3)
  generalize w3.setCell ⟨D.gk, p * 8 + 3, none⟩ (.int .u64 a3) = w4 at *
  have d5 := d4.keep (p * 8 + 4) a4 (hj 4 (by omega))
  have f5 := f4.setCell (p := ⟨D.gk, p * 8 + 4, none⟩) (Or.inl (Or.inr (Or.inl rfl))) (.int .u64 a4)
  generalize w4.setCell ⟨D.gk, p * 8 + 4, none⟩ (.int .u64 a4) = w5 at *
  have d6 := d5.keep (p * 8 + 5) a5 (hj 5 (by omega))
  have f6 := f5.setCell (p := ⟨D.gk, p * 8 + 5, none⟩) (Or.inl (Or.inr (Or.inl rfl))) (.int .u64 a5)
  generalize w5.setCell ⟨D.gk, p * 8 + 5, none⟩ (.int .u64 a5) = w6 at *
  have d7 := d6.keep (p * 8 + 6) a6 (hj 6 (by omega))
  have f7 := f6.setCell (p := ⟨D.gk, p * 8 + 6, none⟩) (Or.inl (Or.inr (Or.inl rfl))) (.int .u64 a6)
  generalize w6.setCell ⟨D.gk, p * 8 + 6, none⟩ (.int .u64 a6) = w7 at *
  have d8 := d7.keep (p * 8 + 7) a7 (hj 7 (by omega))
  have f8 := f7.setCell (p := ⟨D.gk, p * 8 + 7, none⟩) (Or.inl (Or.inr (Or.inl rfl))) (.int .u64 a7)
  generalize w7.setCell ⟨D.gk, p * 8 + 7, none⟩ (.int .u64 a7) = w8 at *
  exact ⟨d8, f8⟩
/-- A line written back. -/
def DSt.back (s : DSt) (p : Nat) : DSt := { s with kept := put8 s.kept (p * 8) ((s.seen.drop (p * 8)).take 8), writes := s.writes.set p (s.writes.getD p 0 + 1) }
set_option maxRecDepth 100000 in
set_option maxHeartbeats 2000000 in
theorem writeBack_of (B : Nat) (w : World) (D : DevB) (s : DSt) (h : IsDev B w D s) (p : Nat) (hp : p < s.n) (hw : -1000000000000 ≤ s.writes.getD p 0 ∧ s.writes.getD p 0 < 1000000000000) :
    Calls Tryz.prog 125 #[D.ptr, .int .i64 (p : Int)] w (fun e w' => (∃ v, e = .returned v) ∧ IsDev B w' D (s.back p) ∧ Fr D.foot w w') := by
  unfold DevB.ptr
  have c0 := h.c0
  have c1 := h.c1
  have c3 := h.c3
  have hn1 := h.n1
  have hkl := h.kept.len
  have hsl := h.seen.len
  obtain ⟨a0, a1, a2, a3, a4, a5, a6, a7, h8⟩ := LM.eightOf (l := (s.seen.drop (p * 8)).take 8) (by rw [List.length_take, List.length_drop]; omega)
  have hs : ∀ j, j < 8 → w.cell? ⟨D.gs, p * 8 + j, none⟩ = some (.int .u64 ([a0, a1, a2, a3, a4, a5, a6, a7].getD j 0)) := fun j hj => by
    rw [h.seen.cell (j := p * 8 + j) (by omega), LM.getD8 h8 j hj]
  have hk : ∀ j, j < 8 → w.cell? ⟨D.gk, p * 8 + j, none⟩ = some (.int .u64 (s.kept.getD (p * 8 + j) 0)) := fun j hj => h.kept.cell (j := p * 8 + j) (by omega)
  have q0 := hs 0 (by omega)
  have q1 := hs 1 (by omega)
  have q2 := hs 2 (by omega)
  have q3 := hs 3 (by omega)
  have q4 := hs 4 (by omega)
  have q5 := hs 5 (by omega)
  have q6 := hs 6 (by omega)
  have q7 := hs 7 (by omega)
  have r0 := hk 0 (by omega)
  have r1 := hk 1 (by omega)
  have r2 := hk 2 (by omega)
  have r3 := hk 3 (by omega)
  have r4 := hk 4 (by omega)
  have r5 := hk 5 (by omega)
  have r6 := hk 6 (by omega)
  have r7 := hk 7 (by omega)
  have f0 := fun j => h.kept.frozen j
  have hll : Lim [a0, a1, a2, a3, a4, a5, a6, a7] 18446744073709551616 := by rw [← h8]; exact LM.lim_sub h.ls _ _
  have hcw : w.cell? ⟨D.gw, p, none⟩ = some (.int .i64 (s.writes.getD p 0)) := h.writes.cell (j := p) (by omega)
  have hfw := fun j => h.writes.frozen j
  have hne : D.gw ≠ D.gk := fun e => RowN.ne_row h.writes h.kept (by decide) _ rfl (by rw [e]; rfl)
  have hne2 : D.gd ≠ D.gk := fun e => h.dev.ne_row h.kept (by decide) (by rw [e]; rfl)
  simp only [Nat.add_zero] at q0 r0
  simp only [List.getD_cons_zero, List.getD_cons_succ] at q0 q1 q2 q3 q4 q5 q6 q7
  clear hs hk
  have HX := Lib.hid (h.keep8 p hp a0 a1 a2 a3 a4 a5 a6 a7 hll)
  have H8 := Lib.hid h8
  clear h h8 hkl hsl
  generalize hxx : s.writes.getD p 0 = x at *
  have HXx := Lib.hid hxx
  clear hxx
  go_enter Tryz.func125, Tryz.ntmps125
  go_wp2_with fail
  go_region
  obtain ⟨hX, fX⟩ := HX.out
  generalize ((((((((w.setCell ⟨D.gk, p * 8, none⟩ (.int .u64 a0)).setCell ⟨D.gk, p * 8 + 1, none⟩ (.int .u64 a1)).setCell ⟨D.gk, p * 8 + 2, none⟩ (.int .u64 a2)).setCell ⟨D.gk, p * 8 + 3, none⟩ (.int .u64 a3)).setCell ⟨D.gk, p * 8 + 4, none⟩ (.int .u64 a4)).setCell ⟨D.gk, p * 8 + 5, none⟩ (.int .u64 a5)).setCell ⟨D.gk, p * 8 + 6, none⟩ (.int .u64 a6)).setCell ⟨D.gk, p * 8 + 7, none⟩ (.int .u64 a7)) = X at *
  clear q0 q1 q2 q3 q4 q5 q6 q7 r0 r1 r2 r3 r4 r5 r6 r7 f0 c0 c1 c3 hcw hfw
  have hX' := hX.ext ((Ext.refl X).drew)
  have fX' := fX.drew
  generalize X.drew = Y at *
  have c3 := hX'.c3
  have hcw : Y.cell? ⟨D.gw, p, none⟩ = some (.int .i64 (s.writes.getD p 0)) := hX'.writes.cell (j := p) (by have : p < s.n := hp; simpa using this)
  have hfw := hX'.writes.frozen p
  rw [HXx.out] at hcw
  have HY := Lib.hid (hX'.count p (x + 1))
  have HF := Lib.hid fX'
  clear hX hX' fX fX' HX
  go_wp2_with fail
  go_end0
  refine ⟨⟨_, rfl⟩, ?_, HF.out.setCell (Or.inl (Or.inr (Or.inr (Or.inr (Or.inr (Or.inl rfl)))))) _⟩
  unfold DSt.back
  rw [H8.out, HXx.out]
  exact HY.out
end Go.Proofs.YtolengkegjipaaaGreat


/- Evict and Fence of the device. Conditions: those that each theorem names. -/
namespace Go.Proofs.YtolengkegjipaaaGreat
open Go.ChangeShapes Go.WideShapes Go.ChangeAt Go.RowKit
set_option linter.unusedVariables false
/-- Counts of writes that are far from the ends of their type. -/
def Few (l : List Int) (m : Int) : Prop := ∀ p, -1 ≤ l.getD p 0 ∧ l.getD p 0 < m
theorem Few.set {l : List Int} {m : Int} (h : Few l m) (p : Nat) (x : Int) (hx : -1 ≤ x ∧ x < m + 1) : Few (l.set p x) (m + 1) := fun q => by
  by_cases e : q = p
  · subst e
    by_cases hq : q < l.length
    · rw [List.getD_eq_getElem?_getD, List.getElem?_set_self hq]; exact hx
    · rw [List.getD_eq_getElem?_getD, List.getElem?_eq_none (by simpa using hq)]
      have := h q
      rw [List.getD_eq_getElem?_getD, List.getElem?_eq_none (by omega)] at this
      simp at this ⊢
      omega
  · rw [List.getD_eq_getElem?_getD, List.getElem?_set_ne (fun h => e h.symm), ← List.getD_eq_getElem?_getD]
    have := h q
    omega
theorem Few.back {s : DSt} {m : Int} (h : Few s.writes m) (p : Nat) : Few (s.back p).writes (m + 1) := by
  refine h.set p _ ?_
  have := h p
  omega
theorem Few.mono {l : List Int} {m m' : Int} (h : Few l m) (hm : m ≤ m') : Few l m' := fun p => by have := h p; omega
/-- Lines written back, one behind the other. -/
def DSt.backs (s : DSt) (l : List Int) : DSt := l.foldl (fun s p => s.back p.toNat) s
theorem backs_snoc (s : DSt) (l : List Int) (x : Int) : s.backs (l ++ [x]) = (s.backs l).back x.toNat := by unfold DSt.backs; rw [List.foldl_append]; rfl
theorem backs_n (l : List Int) : ∀ s : DSt, (s.backs l).n = s.n := by
  induction l with
  | nil => intro s; rfl
  | cons a l ih => intro s; exact ih (s.back a.toNat)
theorem backs_T (l : List Int) : ∀ s : DSt, (s.backs l).T = s.T := by
  induction l with
  | nil => intro s; rfl
  | cons a l ih => intro s; exact ih (s.back a.toNat)
theorem backs_fl (l : List Int) : ∀ s : DSt, (s.backs l).fl = s.fl := by
  induction l with
  | nil => intro s; rfl
  | cons a l ih => intro s; exact ih (s.back a.toNat)
theorem backs_few (l : List Int) : ∀ (s : DSt) (m : Int), Few s.writes m → Few (s.backs l).writes (m + l.length) := by
  induction l with
  | nil => intro s m h; simpa [DSt.backs] using h
  | cons a l ih =>
    intro s m h
    have := ih (s.back a.toNat) (m + 1) (h.back a.toNat)
    rw [List.length_cons]
    exact this.mono (by omega)
section
variable {B : Nat} {w : World} {D : DevB} {s : DSt}
/-- A thread's set put anew: of a row of its own, or none. -/
theorem IsDev.putSet (h : IsDev B w D s) (t : Nat) (ht : t < s.T) (v : Value) (l : List Int) (hr : Row w B 3 .i64 v l) (hv : ∀ t' g, t' < s.T → t' ≠ t → v.ownBlock = some g → (D.its.getD t' undef).ownBlock ≠ some g) (hw : v.ownBlock ≠ some D.gw) :
    IsDev B (w.setCell ⟨D.gf, t, none⟩ v) { D with its := D.its.set t v } { s with fl := s.fl.set t l } where
  n0 := h.n0
  n1 := h.n1
  T0 := h.T0
  T1 := h.T1
  lits := by show (D.its.set t v).length = _; rw [List.length_set]; exact h.lits
  lfl := by show (s.fl.set t l).length = _; rw [List.length_set]; exact h.lfl
  bd := h.bd
  bf := h.bf
  dev := h.dev.far (p := ⟨D.gf, t, none⟩) (h.dev.ne h.flb (by decide)) _
  kept := h.kept.far (p := ⟨D.gf, t, none⟩) (h.flb.ne_row h.kept (by decide)) _
  seen := h.seen.far (p := ⟨D.gf, t, none⟩) (h.flb.ne_row h.seen (by decide)) _
  ks := h.ks
  flb := h.flb.set t v
  fl := fun t' ht' => by
    show Row _ B 3 .i64 ((D.its.set t v).getD t' undef) ((s.fl.set t l).getD t' [])
    by_cases e : t' = t
    · subst e
      rw [List.getD_eq_getElem?_getD, List.getElem?_set_self (by rw [h.lits]; exact ht), List.getD_eq_getElem?_getD, List.getElem?_set_self (by rw [h.lfl]; exact ht)]
      exact hr.far (p := ⟨D.gf, t', none⟩) (h.flb.ne_row (RowN.of_row hr) (by decide)) _
    · rw [List.getD_eq_getElem?_getD, List.getElem?_set_ne (fun h => e h.symm), ← List.getD_eq_getElem?_getD, List.getD_eq_getElem?_getD (l := s.fl.set t l), List.getElem?_set_ne (fun h => e h.symm), ← List.getD_eq_getElem?_getD]
      exact (h.fl t' ht').far (p := ⟨D.gf, t, none⟩) (h.flb.ne_row (RowN.of_row (h.fl t' ht')) (by decide)) _
  writes := h.writes.far (p := ⟨D.gf, t, none⟩) (h.flb.ne_row h.writes (by decide)) _
  apart := fun t1 t2 g h1 h2 hne hg => by
    have e1 : ∀ t', t' ≠ t → (D.its.set t v).getD t' undef = D.its.getD t' undef := fun t' e => by
      rw [List.getD_eq_getElem?_getD, List.getElem?_set_ne (fun h => e h.symm), ← List.getD_eq_getElem?_getD]
    have e2 : (D.its.set t v).getD t undef = v := by
      rw [List.getD_eq_getElem?_getD, List.getElem?_set_self (by rw [h.lits]; exact ht)]; rfl
    show ((D.its.set t v).getD t2 undef).ownBlock ≠ some g
    have hg' : ((D.its.set t v).getD t1 undef).ownBlock = some g := hg
    by_cases c1 : t1 = t
    · subst c1
      rw [e2] at hg'
      rw [e1 t2 (fun e => hne e.symm)]
      exact hv t2 g h2 (fun e => hne e.symm) hg'
    · rw [e1 t1 c1] at hg'
      by_cases c2 : t2 = t
      · subst c2
        rw [e2]
        intro hg2
        exact hv t1 g h1 c1 hg2 hg'
      · rw [e1 t2 c2]
        exact h.apart t1 t2 g h1 h2 hne hg'
  wapart := fun t' ht' => by
    show ((D.its.set t v).getD t' undef).ownBlock ≠ some D.gw
    by_cases e : t' = t
    · subst e
      rw [List.getD_eq_getElem?_getD, List.getElem?_set_self (by rw [h.lits]; exact ht)]
      exact hw
    · rw [List.getD_eq_getElem?_getD, List.getElem?_set_ne (fun h => e h.symm), ← List.getD_eq_getElem?_getD]
      exact h.wapart t' ht'
  lk := h.lk
  ls := h.ls
end
theorem foot_putSet {D : DevB} {t g : Nat} {v : Value} (hg : ({ D with its := D.its.set t v } : DevB).foot g) : D.foot g ∨ v.ownBlock = some g := by
  rcases hg with h | h | h | h | h | ⟨t', ht', h⟩
  · exact Or.inl (Or.inl h)
  · exact Or.inl (Or.inr (Or.inl h))
  · exact Or.inl (Or.inr (Or.inr (Or.inl h)))
  · exact Or.inl (Or.inr (Or.inr (Or.inr (Or.inl h))))
  · exact Or.inl (Or.inr (Or.inr (Or.inr (Or.inr (Or.inl h)))))
  · have ht2 : t' < D.its.length := by have : t' < (D.its.set t v).length := ht'; rwa [List.length_set] at this
    have h' : ((D.its.set t v).getD t' undef).ownBlock = some g := h
    by_cases e : t' = t
    · subst e
      rw [List.getD_eq_getElem?_getD, List.getElem?_set_self ht2] at h'
      exact Or.inr h'
    · rw [List.getD_eq_getElem?_getD, List.getElem?_set_ne (fun h => e h.symm), ← List.getD_eq_getElem?_getD] at h'
      exact Or.inl (Or.inr (Or.inr (Or.inr (Or.inr (Or.inr ⟨t', ht2, h'⟩)))))
set_option maxRecDepth 100000 in
set_option maxHeartbeats 1000000 in
theorem fence_ok (B : Nat) (w : World) (D : DevB) (s : DSt) (h : IsDev B w D s) (t : Nat) (ht : t < s.T) (hw : Few s.writes 10000000000) (hl : (s.fl.getD t []).length ≤ 1000000000) (hin : ∀ x ∈ s.fl.getD t [], 0 ≤ x ∧ x < (s.n : Int)) :
    Calls Tryz.prog 118 #[D.ptr, .int .i64 (t : Int)] w (DevBack B w D { s.backs (s.fl.getD t []) with fl := s.fl.set t [] } (.returned (.int .i64 0))) := by
  unfold DevB.ptr
  have hT1 := h.T1
  have HC := Lib.hid (askT_ok _ _ _ _ (t : Int) (by omega) (by omega) w h.T1 h.c2)
  have c2 := h.c2
  obtain ⟨A, c, hv, hcap, hcm, hI, hA, hN⟩ := (RowN.of_row (h.fl t ht)).form (by decide)
  have hflc : w.cell? ⟨D.gf, t, none⟩ = some (.slice A (s.fl.getD t []).length c) := by
    rw [h.flb.cell t, ← hv, List.getD_eq_getElem?_getD]
    have : t < D.its.length := by rw [h.lits]; exact ht
    simp [this]
  have HV := Lib.hid hv
  clear hv hI hA
  have H := Lib.hid h
  clear h
  generalize hL : s.fl.getD t [] = L at *
  have HL := Lib.hid hL
  clear hL
  go_enter Tryz.func118, Tryz.ntmps118
  go_wp2_with fail
  refine HC.out.mono ?_
  rintro e w' ⟨rfl, rfl⟩
  go_wp2_with fail
  go_loopw [23] (fun i wr => ∃ k : Nat, k ≤ L.length ∧ i = .int .i64 k ∧ IsDev B wr D (s.backs (L.take k)) ∧ Fr D.foot w wr) (fun i _ => L.length - (intOf i).toNat)
  case atStart => exact ⟨0, Nat.zero_le _, rfl, by simpa [DSt.backs] using H.out, Fr.refl _ _⟩
  case round =>
    obtain ⟨k, hk, rfl, hd, hf⟩ := hrel
    by_cases hlt : k < L.length
    · have t1 : decide (k < L.length) = true := by simp; omega
      obtain ⟨x, hxk, hxt⟩ := take_step L k hlt
      have hx := hin x (by rw [← hxk]; simp [List.getD_eq_getElem?_getD, hlt])
      obtain ⟨q, rfl⟩ := Int.eq_ofNat_of_zero_le hx.1
      have hI := (hd.fl t (by rw [backs_T]; exact ht))
      rw [backs_fl, HL.out, HV.out] at hI
      obtain ⟨A2, c2', hv2, _, _, hI2, _⟩ := (RowN.of_row hI).form (by decide)
      injection hv2 with e1 e2 e3
      subst e1
      obtain ⟨ad, rfl, _, hc⟩ := hI2 (by omega)
      have hcell := hc k hlt
      rw [hxk] at hcell
      clear hc hI2 hI e2 e3
      have hfew := backs_few (L.take k) s _ hw q
      have hlk : (L.take k).length ≤ 1000000000 := by rw [List.length_take]; omega
      have HWB := Lib.hid (writeBack_of B wr D (s.backs (L.take k)) hd q (by rw [backs_n]; omega) (by omega))
      unfold DevB.ptr at HWB
      have HS := Lib.hid (show s.backs (L.take (k + 1)) = (s.backs (L.take k)).back q from by rw [hxt, backs_snoc]; rfl)
      have HF := Lib.hid hf
      clear hfew hlk hxk hxt hd hf hin
      go_wp2_with fail
      refine HWB.out.mono ?_
      rintro e w2 ⟨⟨v2, rfl⟩, hd2, hf2⟩
      go_wp2_with fail
      go_roundw
      case rel => exact ⟨k + 1, by omega, by go_num, by rw [HS.out]; exact hd2, HF.out.trans hf2 (fun g _ hs => hs)⟩
      case measure => simp [intOf]; omega
    · have t1 : decide (k < L.length) = false := by simp; omega
      have e : L.take k = L := List.take_of_length_le (by omega)
      rw [e] at hd
      clear e
      have c2' := hd.c2
      rw [backs_T] at c2'
      have hcf : ∃ u, wr.cell? ⟨D.gf, t, none⟩ = some u := by
        rw [hd.flb.cell t]
        have : t < D.its.length := by have := hd.lits; rw [backs_T] at this; omega
        exact ⟨_, List.getElem?_eq_getElem this⟩
      obtain ⟨u, hcu⟩ := hcf
      have hff := hd.flb.frozen t
      have HP := Lib.hid (hd.putSet t (by rw [backs_T]; exact ht) (.slice none 0 0) [] (Row.nil _ _ _ _) (fun _ _ _ _ h => by cases h) (by simp [Value.ownBlock]))
      have HF := Lib.hid hf
      clear hd hf hin
      go_wp2_with fail
      go_ret
      refine ⟨rfl, { D with its := D.its.set t (.slice none 0 0) }, rfl, ?_, HF.out.setCell (Or.inl (Or.inr (Or.inr (Or.inr (Or.inl rfl))))) _, fun g hg => ?_⟩
      · have := HP.out
        rw [backs_fl] at this
        exact this
      · rcases foot_putSet hg with h1 | h1
        · exact Or.inl h1
        · cases h1
set_option maxHeartbeats 400000 in
theorem fence_no (B : Nat) (w : World) (D : DevB) (s : DSt) (h : IsDev B w D s) (t : Int) (ha : t < 0 ∨ (s.T : Int) ≤ t) :
    Calls Tryz.prog 118 #[D.ptr, .int .i64 t] w fun e w' => e = .returned (.int .i64 1) ∧ w = w' := by
  unfold DevB.ptr
  have HC : Hid (Calls Tryz.prog 122 #[.pointer (some ⟨D.gd, 0, none⟩), .int .i64 t] w fun e w' => e = .returned (.int .i64 1) ∧ w = w') := by
    rcases ha with ha | ha
    · exact Lib.hid (askT_lo _ _ _ _ t ha w h.T1 h.c2)
    · exact Lib.hid (askT_hi _ _ _ _ t ha w h.T1 h.c2)
  clear ha
  go_enter Tryz.func118, Tryz.ntmps118
  go_wp2_with fail
  refine HC.out.mono ?_
  rintro e w' ⟨rfl, rfl⟩
  go_wp2_with fail
  go_ret
  exact ⟨rfl, rfl⟩
end Go.Proofs.YtolengkegjipaaaGreat

