/- The device of package pdev in memory, and what its questions answer. Conditions: those that each theorem names. -/
import Derived.Test.YtcelhllhdkminaaLineLaw
import Derived.Test.YtcelhllhdkminaaFr
namespace Go.Proofs.Ytcelhllhdkminaa
open Go.ChangeShapes Go.WideShapes Go.ChangeAt Go.RowKit
set_option linter.unusedVariables false
/-- Where a device lies. -/
structure DevB where
  gd : Nat
  gk : Nat
  gs : Nat
  gf : Nat
  gw : Nat
  ck : Nat
  cs : Nat
  its : List Value
/-- What a device holds. -/
structure DSt where
  n : Nat
  T : Nat
  kept : List Int
  seen : List Int
  writes : List Int
  fl : List (List Int)
def DevB.ptr (D : DevB) : Value := .pointer (some ⟨D.gd, 0, none⟩)
/-- The cells of a device's own block. -/
def DevB.cells (D : DevB) (n T : Nat) : List Value := [.slice (some ⟨D.gk, 0, none⟩) n D.ck, .slice (some ⟨D.gs, 0, none⟩) n D.cs, .slice (some ⟨D.gf, 0, none⟩) T T, .slice (some ⟨D.gw, 0, none⟩) n n]
structure IsDev (B : Nat) (w : World) (D : DevB) (s : DSt) : Prop where
  n0 : 0 < s.n
  n1 : s.n ≤ 262144
  T0 : 0 < s.T
  T1 : s.T ≤ 64
  lits : D.its.length = s.T
  lfl : s.fl.length = s.T
  bd : B ≤ D.gd
  bf : B ≤ D.gf
  dev : Blk w D.gd 129 (D.cells s.n s.T)
  kept : RowN w B 131 8 .u64 (.slice (some ⟨D.gk, 0, none⟩) s.n D.ck) s.n s.kept
  seen : RowN w B 131 8 .u64 (.slice (some ⟨D.gs, 0, none⟩) s.n D.cs) s.n s.seen
  ks : D.gk ≠ D.gs
  flb : Blk w D.gf 151 D.its
  fl : ∀ t, t < s.T → Row w B 3 .i64 (D.its.getD t undef) (s.fl.getD t [])
  writes : RowN w B 3 1 .i64 (.slice (some ⟨D.gw, 0, none⟩) s.n s.n) s.n s.writes
  apart : ∀ t t' g, t < s.T → t' < s.T → t ≠ t' → (D.its.getD t undef).ownBlock = some g → (D.its.getD t' undef).ownBlock ≠ some g
  wapart : ∀ t, t < s.T → (D.its.getD t undef).ownBlock ≠ some D.gw
  lk : Lim s.kept 18446744073709551616
  ls : Lim s.seen 18446744073709551616
theorem askL_nil0 (at_ : Int) (w : World) :
    Calls Try.prog 104 #[.pointer none, .int .i64 at_, .int .i64 1] w fun e w' => e = .returned (.int .i64 1) ∧ w = w' := by
  go_enter Try.func104, Try.ntmps104
  go_wp2_with fail
  go_ret
  exact ⟨rfl, rfl⟩
theorem askL_nil (at_ : Int) (w : World) :
    Calls Try.prog 82 #[.pointer none, .int .i64 at_] w fun e w' => e = .returned (.int .i64 1) ∧ w = w' := by
  have HC := Lib.hid (askL_nil0 at_ w)
  go_enter Try.func82, Try.ntmps82
  go_wp2_with fail
  refine HC.out.mono ?_
  rintro e w' ⟨rfl, rfl⟩
  go_wp2_with fail
  go_ret
  exact ⟨rfl, rfl⟩
theorem askL_lo0 (g n c : Nat) (A : Option Addr) (at_ : Int) (h : at_ < 0) (w : World) (hn : n ≤ 262144) (hc : w.cell? ⟨g, 0, none⟩ = some (.slice A n c)) :
    Calls Try.prog 104 #[.pointer (some ⟨g, 0, none⟩), .int .i64 at_, .int .i64 1] w fun e w' => e = .returned (.int .i64 5) ∧ w = w' := by
  have t1 : decide (at_ < 0) = true := by simp; omega
  go_enter Try.func104, Try.ntmps104
  go_wp2_with fail
  go_ret
  exact ⟨rfl, rfl⟩
theorem askL_lo (g n c : Nat) (A : Option Addr) (at_ : Int) (h : at_ < 0) (w : World) (hn : n ≤ 262144) (hc : w.cell? ⟨g, 0, none⟩ = some (.slice A n c)) :
    Calls Try.prog 82 #[.pointer (some ⟨g, 0, none⟩), .int .i64 at_] w fun e w' => e = .returned (.int .i64 5) ∧ w = w' := by
  have HC := Lib.hid (askL_lo0 g n c A at_ h w hn hc)
  go_enter Try.func82, Try.ntmps82
  go_wp2_with fail
  refine HC.out.mono ?_
  rintro e w' ⟨rfl, rfl⟩
  go_wp2_with fail
  go_ret
  exact ⟨rfl, rfl⟩
theorem askL_hi0 (g n c : Nat) (A : Option Addr) (at_ : Int) (h : (n : Int) * 1 ≤ at_) (w : World) (hn : n ≤ 262144) (hc : w.cell? ⟨g, 0, none⟩ = some (.slice A n c)) :
    Calls Try.prog 104 #[.pointer (some ⟨g, 0, none⟩), .int .i64 at_, .int .i64 1] w fun e w' => e = .returned (.int .i64 5) ∧ w = w' := by
  have t1 : decide (at_ < 0) = false := by simp; omega
  have t2 : decide ((n : Int) ≤ at_) = true := by simp; omega
  go_enter Try.func104, Try.ntmps104
  go_wp2_with fail
  go_ret
  exact ⟨rfl, rfl⟩
theorem askL_hi (g n c : Nat) (A : Option Addr) (at_ : Int) (h : (n : Int) * 1 ≤ at_) (w : World) (hn : n ≤ 262144) (hc : w.cell? ⟨g, 0, none⟩ = some (.slice A n c)) :
    Calls Try.prog 82 #[.pointer (some ⟨g, 0, none⟩), .int .i64 at_] w fun e w' => e = .returned (.int .i64 5) ∧ w = w' := by
  have HC := Lib.hid (askL_hi0 g n c A at_ h w hn hc)
  go_enter Try.func82, Try.ntmps82
  go_wp2_with fail
  refine HC.out.mono ?_
  rintro e w' ⟨rfl, rfl⟩
  go_wp2_with fail
  go_ret
  exact ⟨rfl, rfl⟩
theorem askL_ok0 (g n c : Nat) (A : Option Addr) (at_ : Int) (h0 : 0 ≤ at_) (h : at_ < (n : Int) * 1) (w : World) (hn : n ≤ 262144) (hc : w.cell? ⟨g, 0, none⟩ = some (.slice A n c)) :
    Calls Try.prog 104 #[.pointer (some ⟨g, 0, none⟩), .int .i64 at_, .int .i64 1] w fun e w' => e = .returned (.int .i64 0) ∧ w = w' := by
  have t1 : decide (at_ < 0) = false := by simp; omega
  have t2 : decide ((n : Int) ≤ at_) = false := by simp; omega
  go_enter Try.func104, Try.ntmps104
  go_wp2_with fail
  go_ret
  exact ⟨rfl, rfl⟩
theorem askL_ok (g n c : Nat) (A : Option Addr) (at_ : Int) (h0 : 0 ≤ at_) (h : at_ < (n : Int) * 1) (w : World) (hn : n ≤ 262144) (hc : w.cell? ⟨g, 0, none⟩ = some (.slice A n c)) :
    Calls Try.prog 82 #[.pointer (some ⟨g, 0, none⟩), .int .i64 at_] w fun e w' => e = .returned (.int .i64 0) ∧ w = w' := by
  have HC := Lib.hid (askL_ok0 g n c A at_ h0 h w hn hc)
  go_enter Try.func82, Try.ntmps82
  go_wp2_with fail
  refine HC.out.mono ?_
  rintro e w' ⟨rfl, rfl⟩
  go_wp2_with fail
  go_ret
  exact ⟨rfl, rfl⟩
theorem askW_nil0 (at_ : Int) (w : World) :
    Calls Try.prog 104 #[.pointer none, .int .i64 at_, .int .i64 8] w fun e w' => e = .returned (.int .i64 1) ∧ w = w' := by
  go_enter Try.func104, Try.ntmps104
  go_wp2_with fail
  go_ret
  exact ⟨rfl, rfl⟩
theorem askW_nil (at_ : Int) (w : World) :
    Calls Try.prog 86 #[.pointer none, .int .i64 at_] w fun e w' => e = .returned (.int .i64 1) ∧ w = w' := by
  have HC := Lib.hid (askW_nil0 at_ w)
  go_enter Try.func86, Try.ntmps86
  go_wp2_with fail
  refine HC.out.mono ?_
  rintro e w' ⟨rfl, rfl⟩
  go_wp2_with fail
  go_ret
  exact ⟨rfl, rfl⟩
theorem askW_lo0 (g n c : Nat) (A : Option Addr) (at_ : Int) (h : at_ < 0) (w : World) (hn : n ≤ 262144) (hc : w.cell? ⟨g, 0, none⟩ = some (.slice A n c)) :
    Calls Try.prog 104 #[.pointer (some ⟨g, 0, none⟩), .int .i64 at_, .int .i64 8] w fun e w' => e = .returned (.int .i64 5) ∧ w = w' := by
  have t1 : decide (at_ < 0) = true := by simp; omega
  go_enter Try.func104, Try.ntmps104
  go_wp2_with fail
  go_ret
  exact ⟨rfl, rfl⟩
theorem askW_lo (g n c : Nat) (A : Option Addr) (at_ : Int) (h : at_ < 0) (w : World) (hn : n ≤ 262144) (hc : w.cell? ⟨g, 0, none⟩ = some (.slice A n c)) :
    Calls Try.prog 86 #[.pointer (some ⟨g, 0, none⟩), .int .i64 at_] w fun e w' => e = .returned (.int .i64 5) ∧ w = w' := by
  have HC := Lib.hid (askW_lo0 g n c A at_ h w hn hc)
  go_enter Try.func86, Try.ntmps86
  go_wp2_with fail
  refine HC.out.mono ?_
  rintro e w' ⟨rfl, rfl⟩
  go_wp2_with fail
  go_ret
  exact ⟨rfl, rfl⟩
theorem askW_hi0 (g n c : Nat) (A : Option Addr) (at_ : Int) (h : (n : Int) * 8 ≤ at_) (w : World) (hn : n ≤ 262144) (hc : w.cell? ⟨g, 0, none⟩ = some (.slice A n c)) :
    Calls Try.prog 104 #[.pointer (some ⟨g, 0, none⟩), .int .i64 at_, .int .i64 8] w fun e w' => e = .returned (.int .i64 5) ∧ w = w' := by
  have t1 : decide (at_ < 0) = false := by simp; omega
  have t2 : decide ((n : Int) * 8 ≤ at_) = true := by simp; omega
  go_enter Try.func104, Try.ntmps104
  go_wp2_with fail
  go_ret
  exact ⟨rfl, rfl⟩
theorem askW_hi (g n c : Nat) (A : Option Addr) (at_ : Int) (h : (n : Int) * 8 ≤ at_) (w : World) (hn : n ≤ 262144) (hc : w.cell? ⟨g, 0, none⟩ = some (.slice A n c)) :
    Calls Try.prog 86 #[.pointer (some ⟨g, 0, none⟩), .int .i64 at_] w fun e w' => e = .returned (.int .i64 5) ∧ w = w' := by
  have HC := Lib.hid (askW_hi0 g n c A at_ h w hn hc)
  go_enter Try.func86, Try.ntmps86
  go_wp2_with fail
  refine HC.out.mono ?_
  rintro e w' ⟨rfl, rfl⟩
  go_wp2_with fail
  go_ret
  exact ⟨rfl, rfl⟩
theorem askW_ok0 (g n c : Nat) (A : Option Addr) (at_ : Int) (h0 : 0 ≤ at_) (h : at_ < (n : Int) * 8) (w : World) (hn : n ≤ 262144) (hc : w.cell? ⟨g, 0, none⟩ = some (.slice A n c)) :
    Calls Try.prog 104 #[.pointer (some ⟨g, 0, none⟩), .int .i64 at_, .int .i64 8] w fun e w' => e = .returned (.int .i64 0) ∧ w = w' := by
  have t1 : decide (at_ < 0) = false := by simp; omega
  have t2 : decide ((n : Int) * 8 ≤ at_) = false := by simp; omega
  go_enter Try.func104, Try.ntmps104
  go_wp2_with fail
  go_ret
  exact ⟨rfl, rfl⟩
theorem askW_ok (g n c : Nat) (A : Option Addr) (at_ : Int) (h0 : 0 ≤ at_) (h : at_ < (n : Int) * 8) (w : World) (hn : n ≤ 262144) (hc : w.cell? ⟨g, 0, none⟩ = some (.slice A n c)) :
    Calls Try.prog 86 #[.pointer (some ⟨g, 0, none⟩), .int .i64 at_] w fun e w' => e = .returned (.int .i64 0) ∧ w = w' := by
  have HC := Lib.hid (askW_ok0 g n c A at_ h0 h w hn hc)
  go_enter Try.func86, Try.ntmps86
  go_wp2_with fail
  refine HC.out.mono ?_
  rintro e w' ⟨rfl, rfl⟩
  go_wp2_with fail
  go_ret
  exact ⟨rfl, rfl⟩
theorem askT_lo (g T c : Nat) (A : Option Addr) (t : Int) (h : t < 0) (w : World) (hT : T ≤ 64) (hc : w.cell? ⟨g, 2, none⟩ = some (.slice A T c)) :
    Calls Try.prog 102 #[.pointer (some ⟨g, 0, none⟩), .int .i64 t] w fun e w' => e = .returned (.int .i64 1) ∧ w = w' := by
  have t1 : decide (t < 0) = true := by simp; omega
  go_enter Try.func102, Try.ntmps102
  go_wp2_with fail
  go_ret
  exact ⟨rfl, rfl⟩
theorem askT_hi (g T c : Nat) (A : Option Addr) (t : Int) (h : (T : Int) ≤ t) (w : World) (hT : T ≤ 64) (hc : w.cell? ⟨g, 2, none⟩ = some (.slice A T c)) :
    Calls Try.prog 102 #[.pointer (some ⟨g, 0, none⟩), .int .i64 t] w fun e w' => e = .returned (.int .i64 1) ∧ w = w' := by
  have t1 : decide (t < 0) = false := by simp; omega
  have t2 : decide ((T : Int) ≤ t) = true := by simp; omega
  go_enter Try.func102, Try.ntmps102
  go_wp2_with fail
  go_ret
  exact ⟨rfl, rfl⟩
theorem askT_ok (g T c : Nat) (A : Option Addr) (t : Int) (h0 : 0 ≤ t) (h : t < (T : Int)) (w : World) (hT : T ≤ 64) (hc : w.cell? ⟨g, 2, none⟩ = some (.slice A T c)) :
    Calls Try.prog 102 #[.pointer (some ⟨g, 0, none⟩), .int .i64 t] w fun e w' => e = .returned (.int .i64 0) ∧ w = w' := by
  have t1 : decide (t < 0) = false := by simp; omega
  have t2 : decide ((T : Int) ≤ t) = false := by simp; omega
  go_enter Try.func102, Try.ntmps102
  go_wp2_with fail
  go_ret
  exact ⟨rfl, rfl⟩
theorem askT_nil (t : Int) (w : World) :
    Calls Try.prog 102 #[.pointer none, .int .i64 t] w fun e w' => e = .returned (.int .i64 1) ∧ w = w' := by
  go_enter Try.func102, Try.ntmps102
  go_wp2_with fail
  go_ret
  exact ⟨rfl, rfl⟩
theorem mayBe_lo (t : Int) (h : t < 1) (w : World) :
    Calls Try.prog 67 #[.int .i64 t] w fun e w' => e = .returned (.bool false) ∧ w = w' := by
  have t1 : decide (1 ≤ t) = false := by simp; omega
  go_enter Try.func67, Try.ntmps67
  go_wp2_with fail
  go_ret
  exact ⟨rfl, rfl⟩
theorem mayBe_hi (t : Int) (h : 64 < t) (w : World) :
    Calls Try.prog 67 #[.int .i64 t] w fun e w' => e = .returned (.bool false) ∧ w = w' := by
  have t1 : decide (1 ≤ t) = true := by simp; omega
  have t2 : decide (t ≤ 64) = false := by simp; omega
  go_enter Try.func67, Try.ntmps67
  go_wp2_with fail
  go_ret
  exact ⟨rfl, rfl⟩
theorem mayBe_ok (t : Int) (h0 : 1 ≤ t) (h : t ≤ 64) (w : World) :
    Calls Try.prog 67 #[.int .i64 t] w fun e w' => e = .returned (.bool true) ∧ w = w' := by
  have t1 : decide (1 ≤ t) = true := by simp; omega
  have t2 : decide (t ≤ 64) = true := by simp; omega
  go_enter Try.func67, Try.ntmps67
  go_wp2_with fail
  go_ret
  exact ⟨rfl, rfl⟩
end Go.Proofs.Ytcelhllhdkminaa
