/- A memory that is made; the page's example of layer 7. Conditions: those that each theorem names. -/
import Derived.Test.YtcelhllhdkminaaPm5
namespace Go.Proofs.Ytcelhllhdkminaa
open Go.ChangeShapes Go.WideShapes Go.ChangeAt Go.RowKit
set_option linter.unusedVariables false
/-- What hands back a memory, and no error. -/
def MemNew (Q : Nat → Prop) (wb w0 w : World) (dv : Value) (s : MSt) (e : Ending) (w' : World) : Prop := ∃ gm pv, e = .returned (.tuple #[.pointer (some ⟨gm, 0, none⟩), .int .i64 0]) ∧ IsMem Q wb w0 w' gm dv pv s ∧ Ext w w'
def MSt.new (d : DSt) (n : Nat) : MSt := ⟨d, List.replicate n 0, 0, 0, ⟨0, 0, 0, 0, 0, false⟩⟩
theorem IsMem.made {Q : Nat → Prop} {wb w0 w : World} {gd : Addr} {d : DSt} (h : AtQ Q wb w0 w (.pointer (some gd)) d) (n : Nat) (hn : n ≤ 262144) :
    IsMem Q wb w0 ((w.alloc (.cells (madeCells #[.int .u64 0] (n * 1)) 31)).alloc (.cells #[.pointer (some gd), .slice (some ⟨w.heap.size, 0, none⟩) n n, .int .i64 0, .int .i64 0, .int .i64 0, .int .i64 0, .int .i64 0, .int .u64 0, .int .u64 0, .bool false] 97)) (w.heap.size + 1) (.pointer (some gd)) (.slice (some ⟨w.heap.size, 0, none⟩) n n) (MSt.new d n) := by
  have x := ext2 w (.cells (madeCells #[.int .u64 0] (n * 1)) 31) (.cells #[.pointer (some gd), .slice (some ⟨w.heap.size, 0, none⟩) n n, .int .i64 0, .int .i64 0, .int .i64 0, .int .i64 0, .int .i64 0, .int .u64 0, .int .u64 0, .bool false] 97)
  have hx := h.held
  have hb := Blk.new (w.alloc (.cells (madeCells #[.int .u64 0] (n * 1)) 31)) 97 [.pointer (some gd), .slice (some ⟨w.heap.size, 0, none⟩) n n, .int .i64 0, .int .i64 0, .int .i64 0, .int .i64 0, .int .i64 0, .int .u64 0, .int .u64 0, .bool false]
  have hr := (Row.made w 31 n n .u64 (Nat.le_refl _) (by omega)).ext ((Ext.refl _).alloc (.cells #[.pointer (some gd), .slice (some ⟨w.heap.size, 0, none⟩) n n, .int .i64 0, .int .i64 0, .int .i64 0, .int .i64 0, .int .i64 0, .int .u64 0, .int .u64 0, .bool false] 97))
  have hsz : (w.alloc (.cells (madeCells #[.int .u64 0] (n * 1)) 31)).heap.size = w.heap.size + 1 := by simp
  rw [hsz] at hb
  have hlt := hb.lt
  have h0 := hx.1.size
  have hown : (Value.slice (some ⟨w.heap.size, 0, none⟩) n n).ownBlock = some w.heap.size := rfl
  refine ⟨by omega, hb, hr.mono h0, ?_, by rw [hown]; simp, ?_, by simp [MSt.new]; exact hn, lim_noughts n⟩
  · refine h.turnM (S := fun _ => False) (hx.1.trans x) (Fr.of_ext x) (fun _ hs => hs.elim) (fun g hg => ?_)
    rcases hg with rfl | hg | hg
    · exact ⟨hlt, Or.inr (by omega)⟩
    · rw [hown] at hg
      have : w.heap.size = g := by simpa using hg
      exact ⟨by omega, Or.inr (by omega)⟩
    · exact ⟨Nat.lt_of_lt_of_le (hx.2 g hg).1 x.size, Or.inl hg⟩
  · intro g hg
    have hg2 := (hx.2 g hg).1
    refine ⟨by omega, ?_, (x.block g hg2).trans (hx.2 g hg).2⟩
    rw [hown]
    simp
    omega
theorem memNew_ok {Q : Nat → Prop} {wb w0 w : World} {dv : Value} {d : DSt} (h : AtQ Q wb w0 w dv d) (n : Nat) (hn : n ≤ 262144) :
    Calls Try.prog 34 #[dv, .int .i64 (n : Int)] w (MemNew Q wb w0 w dv (MSt.new d n)) := by
  have hv := h
  obtain ⟨D, rfl, _, _, _⟩ := hv
  unfold DevB.ptr at *
  have hM := IsMem.made h n hn
  rw [Nat.mul_one] at hM
  have HM := Lib.hid hM
  clear hM
  have hmk := fun W => make_words n n (Nat.le_refl _) (by omega) W
  clear h
  have u1 : ¬ (n : Int) < 0 := by omega
  have u2 : ¬ (262144 : Int) < (n : Int) := by omega
  have u3 : decide (262144 < n) = false := by simp; omega
  go_enter Try.func34, Try.ntmps34
  go_wp2_with fail
  go_ret2
  refine ⟨w.heap.size + 1, _, ?_, HM.out, ext2 w _ _⟩
  first | rfl | simp
theorem memNew_nil (n : Int) (w : World) : Calls Try.prog 34 #[.pointer none, .int .i64 n] w fun e w' => e = .returned (.tuple #[.pointer none, .int .i64 1]) ∧ w = w' := by
  go_enter Try.func34, Try.ntmps34
  go_wp2
  go_ret2
  exact ⟨rfl, rfl⟩
theorem memNew_out (g : Addr) (n : Int) (w : World) (h : n < 0 ∨ 262144 < n) : Calls Try.prog 34 #[.pointer (some g), .int .i64 n] w fun e w' => e = .returned (.tuple #[.pointer none, .int .i64 1]) ∧ w = w' := by
  by_cases h1 : n < 0
  · clear h
    go_enter Try.func34, Try.ntmps34
    go_wp2
    go_ret2
    exact ⟨rfl, rfl⟩
  · have h2 : 262144 < n := by omega
    clear h
    go_enter Try.func34, Try.ntmps34
    go_wp2
    go_ret2
    exact ⟨rfl, rfl⟩
set_option maxRecDepth 100000 in
set_option maxHeartbeats 1000000 in
theorem awake7_of (w : World) : Calls Try.prog 9 #[] w (fun e w' => e = .returned (.bool true) ∧ Ext w w') := by
  have H0 := Lib.hid (new_ok w 1 1 (by decide) (by decide) (by decide) (by decide))
  have heq := fun W => eqa_yes 3 0 3 5 5 false W
  go_enter Try.func9, Try.ntmps9
  go_wp2_with fail
  refine H0.out.mono ?_
  rintro e w1 ⟨D, rfl, h, x⟩
  have a1 : At w w1 D.ptr _ := At.mk h x
  generalize D.ptr = v at a1
  clear h x H0
  go_wp2_with fail
  refine (memNew_ok a1 1 (by decide)).mono ?_
  rintro e w2 ⟨gm, pv, rfl, m2, _⟩
  clear a1
  have c2 : Calm (MSt.new ⟨1, 1, List.replicate (1 * 8) 0, List.replicate (1 * 8) 0, List.replicate 1 0, List.replicate 1 []⟩ 1) := ⟨by decide, by decide, by decide, by decide⟩
  have s2 := memSwap_ok m2 0 3 0 5 (by decide) (by decide) (by decide) c2
  rw [show swapB (MSt.new ⟨1, 1, List.replicate (1 * 8) 0, List.replicate (1 * 8) 0, List.replicate 1 0, List.replicate 1 []⟩ 1) 3 0 = true by decide] at s2
  have S2 := Lib.hid s2
  clear s2 m2 c2
  go_wp2_with fail
  refine S2.out.mono ?_
  rintro e w3 ⟨rfl, m3⟩
  clear S2
  have c3 : Calm (MSt.swap (MSt.new ⟨1, 1, List.replicate (1 * 8) 0, List.replicate (1 * 8) 0, List.replicate 1 0, List.replicate 1 []⟩ 1) 0 3 0 5) := by unfold Calm; decide
  have s3 := memSwap_ok m3 0 3 0 5 (by decide) (by decide) (by decide) c3
  rw [show swapB (MSt.swap (MSt.new ⟨1, 1, List.replicate (1 * 8) 0, List.replicate (1 * 8) 0, List.replicate 1 0, List.replicate 1 []⟩ 1) 0 3 0 5) 3 0 = false by decide] at s3
  have S3 := Lib.hid s3
  clear s3 m3 c3
  go_wp2_with fail
  refine S3.out.mono ?_
  rintro e w4 ⟨rfl, m4⟩
  clear S3
  have l4 := memLast_ok m4
  have k4 := fun W x => memClock_ok (m4.ext (w' := W) x)
  have X4 := Lib.hid m4.lt.1
  generalize hs4 : MSt.swap _ 0 3 0 5 = s4 at l4 k4
  rw [show s4.last = ⟨3, 0, 3, 5, 5, false⟩ by rw [← hs4]; rfl] at l4
  rw [show s4.clock = 2 by rw [← hs4]; rfl] at k4
  have L4 := Lib.hid l4
  have K4 := Lib.hid k4
  clear l4 k4 hs4 m4
  go_wp2_with fail
  refine L4.out.mono ?_
  rintro e w5 ⟨rfl, x5⟩
  have XX := Lib.hid (X4.out.trans x5)
  have X5 := Lib.hid x5
  clear x5 L4
  go_wp2_with fail
  refine (K4.out _ X5.out).mono ?_
  rintro e w6 ⟨rfl, rfl⟩
  go_wp2_with fail
  go_ret
  exact ⟨rfl, XX.out⟩
end Go.Proofs.Ytcelhllhdkminaa
