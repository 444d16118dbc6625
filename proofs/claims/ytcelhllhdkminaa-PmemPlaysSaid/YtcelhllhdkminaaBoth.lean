/- limekilnref04.MayOpen, and limekilnlaw07.Both: a memory, and the document's. Conditions: those that each theorem names. -/
import Derived.Test.YtcelhllhdkminaaRef3
import Derived.Test.YtcelhllhdkminaaFencesWalk
namespace Go.Proofs.Ytcelhllhdkminaa
open Go.ChangeShapes Go.WideShapes Go.ChangeAt Go.RowKit
set_option linter.unusedVariables false
theorem mayOpen_thread (N : Nat) (T : Int) (h : T < 1 ∨ 64 < T) (w : World) : Calls Try.prog 11 #[.int .i64 (N : Int), .int .i64 T] w fun e w' => e = .returned (.int .i64 1) ∧ w = w' := by
  by_cases h1 : T < 1
  · have t1 : decide (T < 1) = true := by simp; omega
    go_enter Try.func11, Try.ntmps11
    go_wp2_with fail
    go_ret
    exact ⟨rfl, rfl⟩
  have t1 : decide (T < 1) = false := by simp; omega
  have t2 : decide (64 < T) = true := by simp; omega
  go_enter Try.func11, Try.ntmps11
  go_wp2_with fail
  go_ret
  exact ⟨rfl, rfl⟩
theorem mayOpen_form (N : Nat) (T : Int) (h0 : 1 ≤ T) (h1 : T ≤ 64) (hN : N ≤ 1000000) (h : N % 8 ≠ 0) (w : World) : Calls Try.prog 11 #[.int .i64 (N : Int), .int .i64 T] w fun e w' => e = .returned (.int .i64 3) ∧ w = w' := by
  have t1 : decide (T < 1) = false := by simp; omega
  have t2 : decide (64 < T) = false := by simp; omega
  obtain ⟨r, hr⟩ : ∃ r : Nat, N % 8 = r := ⟨_, rfl⟩
  have e1 : (N : Int).tmod 8 = (r : Int) := by rw [Int.tmod_eq_emod_of_nonneg (by omega)]; omega
  have e2 : (N : Int) % 8 = (r : Int) := by omega
  have t3 : decide ((r : Int) = 0) = false := by simp; omega
  have t4 : ¬ (r : Int) = 0 := by omega
  have t5 : ¬ r = 0 := by omega
  clear h hr
  go_enter Try.func11, Try.ntmps11
  go_wp2_with fail
  go_ret
  exact ⟨rfl, rfl⟩
theorem mayOpen_none (T : Int) (h0 : 1 ≤ T) (h1 : T ≤ 64) (w : World) : Calls Try.prog 11 #[.int .i64 ((0 : Nat) : Int), .int .i64 T] w fun e w' => e = .returned (.int .i64 3) ∧ w = w' := by
  have t1 : decide (T < 1) = false := by simp; omega
  have t2 : decide (64 < T) = false := by simp; omega
  go_enter Try.func11, Try.ntmps11
  go_wp2_with fail
  go_ret
  exact ⟨rfl, rfl⟩
theorem mayOpen_yes (N m : Nat) (T : Int) (h0 : 1 ≤ T) (h1 : T ≤ 64) (hN : m * 8 = N) (m0 : 0 < m) (hN2 : N ≤ 1000000) (w : World) : Calls Try.prog 11 #[.int .i64 (N : Int), .int .i64 T] w fun e w' => e = .returned (.int .i64 0) ∧ w = w' := by
  have t1 : decide (T < 1) = false := by simp; omega
  have t2 : decide (64 < T) = false := by simp; omega
  have e1 : (N : Int).tmod 8 = 0 := by rw [Int.tmod_eq_emod_of_nonneg (by omega)]; omega
  have e2 : (N : Int) % 8 = 0 := by omega
  have e3 : (N : Int).tdiv 8 = (m : Int) := by rw [Int.tdiv_eq_ediv_of_nonneg (by omega)]; omega
  have e4 : (N : Int) / 8 = (m : Int) := by omega
  have t3 : decide ((262144 : Int) < (m : Int)) = false := by simp; omega
  have t3' : ¬ (262144 : Int) < (m : Int) := by omega
  have t3'' : decide (262144 < m) = false := by simp; omega
  have t4 : decide ((N : Int) = 0) = false := by simp; omega
  have t5 : ¬ (N : Int) = 0 := by omega
  have t6 : ¬ N = 0 := by omega
  clear hN
  go_enter Try.func11, Try.ntmps11
  go_wp2_with fail
  go_ret
  exact ⟨rfl, rfl⟩
/-- Both memories, apart. -/
structure BothAt (w0 w : World) (gm : Nat) (dv pv : Value) (g : Nat) (R : RefB) (rv : Value) (s : MSt) : Prop where
  mem : IsMem (rfoot g R rv) w w0 w gm dv pv s
  ref : IsRMem w0.heap.size w g R rv s
def BothNew (w : World) (s : MSt) (e : Ending) (w' : World) : Prop := ∃ gm dv pv g R rv, e = .returned (.tuple #[.pointer (some ⟨gm, 0, none⟩), .pointer (some ⟨g, 0, none⟩), .bool true]) ∧ BothAt w w' gm dv pv g R rv s
theorem IsRMem.mono {B B' g : Nat} {w : World} {R : RefB} {pv : Value} {s : MSt} (h : IsRMem B w g R pv s) (hB : B' ≤ B) : IsRMem B' w g R pv s :=
  ⟨Nat.le_trans hB h.bg, h.blk, h.pas.mono hB, h.dev.mono hB, h.pk, h.lp⟩
set_option maxRecDepth 100000 in
set_option maxHeartbeats 2000000 in
theorem both_ok (w : World) (A : Option Addr) (N m c n : Nat) (zs : List Int) (hN : m * 8 = N) (N2 : N ≤ 60) (m0 : 0 < m) (hl : zs.length = N) (hcap : N ≤ c) (hcm : c ≤ 9223372036854775807) (hz : Lim zs 18446744073709551616) (hA : Ints w .u64 A zs) (hn : n ≤ 300) :
    Calls Try.prog 10 #[.slice A N c, .int .i64 (n : Int)] w (BothNew w (MSt.new (DSt.new m 3 zs) n)) := by
  have HM := Lib.hid (fun W => mayOpen_yes N m 3 (by decide) (by decide) hN m0 (by omega) W)
  have ho := open_ok w A m c 3 zs (by omega) m0 (by omega) (by omega) hcm hz hA (by decide) (by decide)
  rw [hN] at ho
  have HO := Lib.hid ho
  have HR := Lib.hid (fun (W : World) (x : Ext w W) => refNew_ok W A N m c 3 n zs hN (by omega) m0 hl hz (hA.ext x) (by decide) (by decide) (by omega))
  clear ho hz hl hA hN
  have u1 : ¬ (n : Int) < 0 := by omega
  have u2 : decide (300 < n) = false := by simp; omega
  go_enter Try.func10, Try.ntmps10
  go_wp2_with fail
  refine (HM.out _).mono ?_
  rintro e w' ⟨rfl, rfl⟩
  go_wp2_with fail
  refine HO.out.mono ?_
  rintro e w1 ⟨D, rfl, h, x⟩
  have a1 : At w w1 D.ptr _ := At.mk h x
  generalize D.ptr = dv at a1
  clear h x HO
  have HN := Lib.hid (memNew_ok a1 n (by omega))
  clear a1
  go_wp2_with fail
  refine HN.out.mono ?_
  rintro e w2 ⟨gm, pv, rfl, m2, x2⟩
  have M2 := Lib.hid m2
  clear m2 x2 HN
  go_wp2_with fail
  refine (HR.out _ M2.out.lt.1).mono ?_
  rintro e w3 ⟨g, R, rv, rfl, r3, x3⟩
  have R3 := Lib.hid r3
  have X3 := Lib.hid x3
  clear r3 x3 HR
  go_wp2_with fail
  go_ret3
  exact ⟨gm, dv, pv, g, R, rv, rfl, M2.out.hold X3.out (fun b hb => ⟨(R3.out.foot_lt hb).2, Or.inr (R3.out.foot_lt hb).1⟩), R3.out.mono M2.out.lt.1.size⟩
def NoBoth : Value := .tuple #[.pointer none, .pointer none, .bool false]
theorem both_no (w : World) (A : Option Addr) (N c : Nat) (n : Int) (N2 : N ≤ 60) (h : N % 8 ≠ 0 ∨ N = 0) :
    Calls Try.prog 10 #[.slice A N c, .int .i64 n] w (fun e w' => e = .returned NoBoth ∧ w = w') := by
  have HM : Hid (∀ W, Calls Try.prog 11 #[.int .i64 (N : Int), .int .i64 3] W fun e w' => e = .returned (.int .i64 3) ∧ W = w') := Lib.hid (fun W => by
    by_cases h0 : N = 0
    · subst h0
      exact mayOpen_none 3 (by decide) (by decide) W
    · exact mayOpen_form N 3 (by decide) (by decide) (by omega) (by omega) W)
  clear h
  unfold NoBoth
  go_enter Try.func10, Try.ntmps10
  go_wp2_with fail
  refine (HM.out _).mono ?_
  rintro e w' ⟨rfl, rfl⟩
  go_wp2_with fail
  go_ret3
  exact ⟨rfl, rfl⟩
theorem both_out (w : World) (A : Option Addr) (N c : Nat) (n : Int) (N2 : N ≤ 60) (h : n < 0 ∨ 300 < n) :
    Calls Try.prog 10 #[.slice A N c, .int .i64 n] w (fun e w' => e = .returned NoBoth ∧ w = w') := by
  by_cases h8 : N % 8 ≠ 0 ∨ N = 0
  · exact both_no w A N c n N2 h8
  have HM := Lib.hid (fun W => mayOpen_yes N (N / 8) 3 (by decide) (by decide) (by omega) (by omega) (by omega) W)
  clear h8
  unfold NoBoth
  by_cases h1 : n < 0
  · clear h
    go_enter Try.func10, Try.ntmps10
    go_wp2_with fail
    refine (HM.out _).mono ?_
    rintro e w' ⟨rfl, rfl⟩
    go_wp2_with fail
    go_ret3
    exact ⟨rfl, rfl⟩
  have h2 : 300 < n := by omega
  clear h
  go_enter Try.func10, Try.ntmps10
  go_wp2_with fail
  refine (HM.out _).mono ?_
  rintro e w' ⟨rfl, rfl⟩
  go_wp2_with fail
  go_ret3
  exact ⟨rfl, rfl⟩
end Go.Proofs.Ytcelhllhdkminaa
