/- A memory's calls: Load, Store, Swap, and what is told of a memory. Conditions: those that each theorem names. -/
import Derived.Test.YtndplpfbohigpaaGreatPm4
namespace Go.Proofs.YtndplpfbohigpaaGreat
open Go.ChangeShapes Go.WideShapes Go.ChangeAt Go.RowKit
set_option linter.unusedVariables false
/-- A memory at a pointer. -/
def MemQ (Q : Nat → Prop) (wb w0 w : World) (v : Value) (s : MSt) : Prop := ∃ gm dv pv, v = .pointer (some ⟨gm, 0, none⟩) ∧ IsMem Q wb w0 w gm dv pv s
/-- Counts that are far below what an int holds. -/
def Calm (s : MSt) : Prop := 0 ≤ s.clock ∧ s.clock ≤ 1000000000 ∧ 0 ≤ s.bad ∧ s.bad ≤ 1000000000
theorem back_note {s : MSt} {x : Acc} {b : Bool} (h : Calm s) (h2 : s.clock < 1000000000) (h3 : s.bad < 1000000000) : Calm (s.note x b) := by
  obtain ⟨a, b1, c, d⟩ := h
  unfold MSt.note
  refine ⟨?_, ?_, ?_, ?_⟩ <;> simp only <;> (try split) <;> omega
section
variable {Q : Nat → Prop} {wb w0 w w' : World} {gm : Nat} {dv pv : Value} {s : MSt}
theorem memLoad_ok (h : IsMem Q wb w0 w gm dv pv s) (t a : Int) (h0 : -9223372036854775808 ≤ a) (h1 : a < 9223372036854775808) (hc : Calm s) :
    Calls Tryz.prog 120 #[.pointer (some ⟨gm, 0, none⟩), .int .i64 t, .int .i64 a] w fun e w' => e = .returned (.int .u64 (peekV s a)) ∧ IsMem Q wb w0 w' gm dv pv (s.load t a) := by
  have x1 := (Ext.refl w).alloc (.cells #[.int .i64 1, .int .i64 t, .int .i64 a, .int .u64 0, .int .u64 0, .bool false] 177)
  cases hp : peekB s a
  · have HT := Lib.hid ((h.ext x1).touch_no 1 t a 0 (.func (.func 199) #[] #[]) h0 h1 hp hc.1 hc.2.1 hc.2.2.1 hc.2.2.2)
    have e1 : s.load t a = s.note ⟨1, t, a, 0, 0, false⟩ true := by unfold MSt.load; rw [hp]; rfl
    rw [peekV_no hp, e1]
    have hf3 := fun W => fld3 1 t a 0 0 false W
    clear hp e1 h hc x1
    go_enter Tryz.func120, Tryz.ntmps120
    go_wp2_with fail
    refine HT.out.mono ?_
    rintro e w1 ⟨rfl, m⟩
    go_wp2_with fail
    go_ret
    exact ⟨rfl, m⟩
  · have HT := Lib.hid ((h.ext x1).touchL_yes 1 t a 0 true s h0 h1 hp hc.1 hc.2.1 hc.2.2.1 hc.2.2.2 (fun Q' wb' W _ m => (loadF_any _ W).mono fun e w' ⟨he, hw⟩ => ⟨he, by rw [← hw]; exact m⟩))
    have e1 : s.load t a = s.note ⟨1, t, a, peekV s a, 0, true⟩ false := by unfold MSt.load; rw [hp]; rfl
    rw [e1]
    generalize peekV s a = y at *
    have hf3 := fun W => fld3 1 t a y 0 true W
    clear hp e1 h hc x1
    go_enter Tryz.func120, Tryz.ntmps120
    go_wp2_with fail
    refine HT.out.mono ?_
    rintro e w1 ⟨rfl, m⟩
    go_wp2_with fail
    go_ret
    exact ⟨rfl, m⟩
theorem memStore_ok (h : IsMem Q wb w0 w gm dv pv s) (t a x : Int) (h0 : -9223372036854775808 ≤ a) (h1 : a < 9223372036854775808) (hx : 0 ≤ x ∧ x < 18446744073709551616) (hc : Calm s) :
    Calls Tryz.prog 34 #[.pointer (some ⟨gm, 0, none⟩), .int .i64 t, .int .i64 a, .int .u64 x] w fun e w' => (∃ u, e = .returned u) ∧ IsMem Q wb w0 w' gm dv pv (s.store t a x) := by
  have hmf : ∀ (fn : Fn) (first cap : Array Value) (w : World), (Instr.makeFunc fn first cap).run Tryz.prog w = .ok (.func fn first cap) w := fun _ _ _ _ => rfl
  have b0 := Blk.new w 31 [.pointer (some ⟨gm, 0, none⟩)]
  have b1 := Blk.new (w.alloc (.cells #[.pointer (some ⟨gm, 0, none⟩)] 31)) 3 [.int .i64 a]
  have b0 := b0.ext ((Ext.refl _).alloc (.cells #[.int .i64 a] 3))
  have b2 := Blk.new ((w.alloc (.cells #[.pointer (some ⟨gm, 0, none⟩)] 31)).alloc (.cells #[.int .i64 a] 3)) 45 [.int .u64 x]
  have b0 := b0.ext ((Ext.refl _).alloc (.cells #[.int .u64 x] 45))
  have b1 := b1.ext ((Ext.refl _).alloc (.cells #[.int .u64 x] 45))
  have b0 := b0.ext ((Ext.refl _).alloc (.cells #[.int .i64 2, .int .i64 t, .int .i64 a, .int .u64 0, .int .u64 x, .bool false] 177))
  have b1 := b1.ext ((Ext.refl _).alloc (.cells #[.int .i64 2, .int .i64 t, .int .i64 a, .int .u64 0, .int .u64 x, .bool false] 177))
  have b2 := b2.ext ((Ext.refl _).alloc (.cells #[.int .i64 2, .int .i64 t, .int .i64 a, .int .u64 0, .int .u64 x, .bool false] 177))
  have x1 := ((((Ext.refl w).alloc (.cells #[.pointer (some ⟨gm, 0, none⟩)] 31)).alloc (.cells #[.int .i64 a] 3)).alloc (.cells #[.int .u64 x] 45)).alloc (.cells #[.int .i64 2, .int .i64 t, .int .i64 a, .int .u64 0, .int .u64 x, .bool false] 177)
  have k1 : ∀ W, Ext _ W → W.cell? ⟨w.heap.size, 0, none⟩ = some (.pointer (some ⟨gm, 0, none⟩)) := fun W xx => (b0.ext xx).cell 0
  have k2 : ∀ W, Ext _ W → W.cell? ⟨w.heap.size + 1, 0, none⟩ = some (.int .i64 a) := fun W xx => by have := (b1.ext xx).cell 0; simpa using this
  have k3 : ∀ W, Ext _ W → W.cell? ⟨w.heap.size + 1 + 1, 0, none⟩ = some (.int .u64 x) := fun W xx => by have := (b2.ext xx).cell 0; simpa using this
  clear b0 b1 b2
  cases hp : peekB s a
  · have HT := Lib.hid (fun f => (h.ext x1).touch_no 2 t a x f h0 h1 hp hc.1 hc.2.1 hc.2.2.1 hc.2.2.2)
    have e1 : s.store t a x = s.note ⟨2, t, a, 0, x, false⟩ true := by unfold MSt.store; rw [hp]; rfl
    rw [e1]
    clear hp e1 h hc x1 k1 k2 k3
    go_enter Tryz.func34, Tryz.ntmps34
    go_wp2_with fail
    refine (HT.out _).mono ?_
    rintro e w1 ⟨rfl, m⟩
    go_wp2_with fail
    refine bodyPost_end (results_none rfl _ _ _) rfl ?_
    exact ⟨⟨_, rfl⟩, m⟩
  · have HT := Lib.hid ((h.ext x1).touchS_yes 2 t a x (.pointer (some ⟨w.heap.size, 0, none⟩)) (.pointer (some ⟨w.heap.size + 1, 0, none⟩)) (.pointer (some ⟨w.heap.size + 1 + 1, 0, none⟩)) true (s.put a x) h0 h1 hp (by rw [(put_clock s a x).1]; exact hc.1) (by rw [(put_clock s a x).1]; exact hc.2.1) (by rw [(put_clock s a x).2]; exact hc.2.2.1) (by rw [(put_clock s a x).2]; exact hc.2.2.2) (fun Q' wb' W xx m => m.storeF _ a x _ _ _ h0 h1 hx hp (k1 W xx) (k2 W xx) (k3 W xx)))
    have e1 : s.store t a x = (s.put a x).note ⟨2, t, a, peekV s a, x, true⟩ false := by unfold MSt.store; rw [hp]; rfl
    rw [e1]
    generalize peekV s a = y at *
    clear hp e1 h hc x1 k1 k2 k3
    go_enter Tryz.func34, Tryz.ntmps34
    go_wp2_with fail
    refine HT.out.mono ?_
    rintro e w1 ⟨rfl, m⟩
    go_wp2_with fail
    refine bodyPost_end (results_none rfl _ _ _) rfl ?_
    exact ⟨⟨_, rfl⟩, m⟩
set_option maxRecDepth 100000 in
set_option maxHeartbeats 1000000 in
theorem memSwap_ok (h : IsMem Q wb w0 w gm dv pv s) (t a z x : Int) (h0 : -9223372036854775808 ≤ a) (h1 : a < 9223372036854775808) (hx : 0 ≤ x ∧ x < 18446744073709551616) (hc : Calm s) :
    Calls Tryz.prog 121 #[.pointer (some ⟨gm, 0, none⟩), .int .i64 t, .int .i64 a, .int .u64 z, .int .u64 x] w fun e w' => e = .returned (.bool (swapB s a z)) ∧ IsMem Q wb w0 w' gm dv pv (s.swap t a z x) := by
  have hmf : ∀ (fn : Fn) (first cap : Array Value) (w : World), (Instr.makeFunc fn first cap).run Tryz.prog w = .ok (.func fn first cap) w := fun _ _ _ _ => rfl
  have b0 := Blk.new w 31 [.pointer (some ⟨gm, 0, none⟩)]
  have b1 := Blk.new (w.alloc (.cells #[.pointer (some ⟨gm, 0, none⟩)] 31)) 3 [.int .i64 a]
  have b0 := b0.ext ((Ext.refl _).alloc (.cells #[.int .i64 a] 3))
  have b2 := Blk.new ((w.alloc (.cells #[.pointer (some ⟨gm, 0, none⟩)] 31)).alloc (.cells #[.int .i64 a] 3)) 45 [.int .u64 z]
  have b0 := b0.ext ((Ext.refl _).alloc (.cells #[.int .u64 z] 45))
  have b1 := b1.ext ((Ext.refl _).alloc (.cells #[.int .u64 z] 45))
  have b3 := Blk.new (((w.alloc (.cells #[.pointer (some ⟨gm, 0, none⟩)] 31)).alloc (.cells #[.int .i64 a] 3)).alloc (.cells #[.int .u64 z] 45)) 45 [.int .u64 x]
  have b0 := b0.ext ((Ext.refl _).alloc (.cells #[.int .u64 x] 45))
  have b1 := b1.ext ((Ext.refl _).alloc (.cells #[.int .u64 x] 45))
  have b2 := b2.ext ((Ext.refl _).alloc (.cells #[.int .u64 x] 45))
  have b0 := b0.ext ((Ext.refl _).alloc (.cells #[.int .i64 3, .int .i64 t, .int .i64 a, .int .u64 0, .int .u64 x, .bool false] 177))
  have b1 := b1.ext ((Ext.refl _).alloc (.cells #[.int .i64 3, .int .i64 t, .int .i64 a, .int .u64 0, .int .u64 x, .bool false] 177))
  have b2 := b2.ext ((Ext.refl _).alloc (.cells #[.int .i64 3, .int .i64 t, .int .i64 a, .int .u64 0, .int .u64 x, .bool false] 177))
  have b3 := b3.ext ((Ext.refl _).alloc (.cells #[.int .i64 3, .int .i64 t, .int .i64 a, .int .u64 0, .int .u64 x, .bool false] 177))
  have x1 := (((((Ext.refl w).alloc (.cells #[.pointer (some ⟨gm, 0, none⟩)] 31)).alloc (.cells #[.int .i64 a] 3)).alloc (.cells #[.int .u64 z] 45)).alloc (.cells #[.int .u64 x] 45)).alloc (.cells #[.int .i64 3, .int .i64 t, .int .i64 a, .int .u64 0, .int .u64 x, .bool false] 177)
  have k1 : ∀ W, Ext _ W → W.cell? ⟨w.heap.size, 0, none⟩ = some (.pointer (some ⟨gm, 0, none⟩)) := fun W xx => (b0.ext xx).cell 0
  have k2 : ∀ W, Ext _ W → W.cell? ⟨w.heap.size + 1, 0, none⟩ = some (.int .i64 a) := fun W xx => by have := (b1.ext xx).cell 0; simpa using this
  have k0 : ∀ W, Ext _ W → W.cell? ⟨w.heap.size + 1 + 1, 0, none⟩ = some (.int .u64 z) := fun W xx => by have := (b2.ext xx).cell 0; simpa using this
  have k3 : ∀ W, Ext _ W → W.cell? ⟨w.heap.size + 1 + 1 + 1, 0, none⟩ = some (.int .u64 x) := fun W xx => by have := (b3.ext xx).cell 0; simpa using this
  clear b0 b1 b2 b3
  cases hp : peekB s a
  · have HT := Lib.hid (fun f => (h.ext x1).touch_no 3 t a x f h0 h1 hp hc.1 hc.2.1 hc.2.2.1 hc.2.2.2)
    have e1 : s.swap t a z x = s.note ⟨3, t, a, 0, x, false⟩ true := by unfold MSt.swap; rw [hp]; rfl
    have e2 : swapB s a z = false := by unfold swapB; rw [hp]; rfl
    rw [e1, e2]
    clear e2
    have hf5 := fun W => fld5 3 t a 0 x false W
    clear hp e1 h hc x1 k0 k1 k2 k3 
    go_enter Tryz.func121, Tryz.ntmps121
    go_wp2_with fail
    refine (HT.out _).mono ?_
    rintro e w1 ⟨rfl, m⟩
    go_wp2_with fail
    go_ret
    exact ⟨rfl, m⟩
  · by_cases hy : peekV s a = z
    · have HT := Lib.hid ((h.ext x1).touchX_yes 3 t a x (.pointer (some ⟨w.heap.size + 1 + 1, 0, none⟩)) (.pointer (some ⟨w.heap.size, 0, none⟩)) (.pointer (some ⟨w.heap.size + 1, 0, none⟩)) (.pointer (some ⟨w.heap.size + 1 + 1 + 1, 0, none⟩)) true (s.put a x) h0 h1 hp (by rw [(put_clock s a x).1]; exact hc.1) (by rw [(put_clock s a x).1]; exact hc.2.1) (by rw [(put_clock s a x).2]; exact hc.2.2.1) (by rw [(put_clock s a x).2]; exact hc.2.2.2) (fun Q' wb' W xx m => m.swapF _ a x _ _ _ _ h0 h1 hx hp (by rw [hy]; exact k0 W xx) (k1 W xx) (k2 W xx) (k3 W xx)))
      have e1 : s.swap t a z x = (s.put a x).note ⟨3, t, a, peekV s a, x, true⟩ false := by unfold MSt.swap; rw [if_pos hp, if_pos hy]
      have e2 : swapB s a z = true := by unfold swapB; rw [hp, hy]; simp
      rw [e1, e2]
      clear e2 hy
      generalize peekV s a = y at *
      have hf5 := fun W => fld5 3 t a y x true W
      clear hp e1 h hc x1 k0 k1 k2 k3 
      go_enter Tryz.func121, Tryz.ntmps121
      go_wp2_with fail
      refine HT.out.mono ?_
      rintro e w1 ⟨rfl, m⟩
      go_wp2_with fail
      go_ret
      exact ⟨rfl, m⟩
    · have HT := Lib.hid ((h.ext x1).touchX_yes 3 t a x (.pointer (some ⟨w.heap.size + 1 + 1, 0, none⟩)) (.pointer (some ⟨w.heap.size, 0, none⟩)) (.pointer (some ⟨w.heap.size + 1, 0, none⟩)) (.pointer (some ⟨w.heap.size + 1 + 1 + 1, 0, none⟩)) false s h0 h1 hp hc.1 hc.2.1 hc.2.2.1 hc.2.2.2 (fun Q' wb' W xx m => (swapF_no _ z _ _ _ _ hy W (k0 W xx)).mono fun e w' ⟨he, hw⟩ => ⟨he, by rw [← hw]; exact m⟩))
      have e1 : s.swap t a z x = s.note ⟨3, t, a, peekV s a, x, false⟩ false := by unfold MSt.swap; rw [if_pos hp, if_neg hy]
      have e2 : swapB s a z = false := by unfold swapB; rw [hp, decide_eq_false hy]; rfl
      rw [e1, e2]
      clear e2 hy
      generalize peekV s a = y at *
      have hf5 := fun W => fld5 3 t a y x false W
      clear hp e1 h hc x1 k0 k1 k2 k3 
      go_enter Tryz.func121, Tryz.ntmps121
      go_wp2_with fail
      refine HT.out.mono ?_
      rintro e w1 ⟨rfl, m⟩
      go_wp2_with fail
      go_ret
      exact ⟨rfl, m⟩
theorem memClock_ok (h : IsMem Q wb w0 w gm dv pv s) : Calls Tryz.prog 66 #[.pointer (some ⟨gm, 0, none⟩)] w fun e w' => e = .returned (.int .i64 s.clock) ∧ w = w' := by
  have c : w.cell? ⟨gm, 2, none⟩ = some (.int .i64 s.clock) := h.blk.cell 2
  clear h
  go_enter Tryz.func66, Tryz.ntmps66
  go_wp2
  go_ret
  exact ⟨rfl, rfl⟩
theorem memBad_ok (h : IsMem Q wb w0 w gm dv pv s) : Calls Tryz.prog 127 #[.pointer (some ⟨gm, 0, none⟩)] w fun e w' => e = .returned (.int .i64 s.bad) ∧ w = w' := by
  have c : w.cell? ⟨gm, 3, none⟩ = some (.int .i64 s.bad) := h.blk.cell 3
  clear h
  go_enter Tryz.func127, Tryz.ntmps127
  go_wp2
  go_ret
  exact ⟨rfl, rfl⟩
theorem memDevice_ok (h : IsMem Q wb w0 w gm dv pv s) : Calls Tryz.prog 63 #[.pointer (some ⟨gm, 0, none⟩)] w fun e w' => e = .returned (dv) ∧ w = w' := by
  have c : w.cell? ⟨gm, 0, none⟩ = some (dv) := h.blk.cell 0
  clear h
  go_enter Tryz.func63, Tryz.ntmps63
  go_wp2
  go_ret
  exact ⟨rfl, rfl⟩
theorem memLast_ok (h : IsMem Q wb w0 w gm dv pv s) : Calls Tryz.prog 128 #[.pointer (some ⟨gm, 0, none⟩)] w fun e w' => e = .returned (.agg #[.int .i64 s.last.k, .int .i64 s.last.t, .int .i64 s.last.a, .int .u64 s.last.o, .int .u64 s.last.n, .bool s.last.d]) ∧ Ext w w' := by
  have c4 : w.cell? ⟨gm, 4, none⟩ = some (.int .i64 s.last.k) := h.blk.cell 4
  have c5 : w.cell? ⟨gm, 5, none⟩ = some (.int .i64 s.last.t) := h.blk.cell 5
  have c6 : w.cell? ⟨gm, 6, none⟩ = some (.int .i64 s.last.a) := h.blk.cell 6
  have c7 : w.cell? ⟨gm, 7, none⟩ = some (.int .u64 s.last.o) := h.blk.cell 7
  have c8 : w.cell? ⟨gm, 8, none⟩ = some (.int .u64 s.last.n) := h.blk.cell 8
  have c9 : w.cell? ⟨gm, 9, none⟩ = some (.bool s.last.d) := h.blk.cell 9
  have hlt := h.blk.lt
  have hne : ¬ gm = w.heap.size := by omega
  clear h
  go_enter Tryz.func128, Tryz.ntmps128
  go_wp2
  exact bodyPost_ret (v := .agg #[.int .i64 s.last.k, .int .i64 s.last.t, .int .i64 s.last.a, .int .u64 s.last.o, .int .u64 s.last.n, .bool s.last.d]) (by simp [results, Tryz.results128, go_sem]) rfl ⟨rfl, (Ext.refl w).alloc _⟩
end
end Go.Proofs.YtndplpfbohigpaaGreat
