/- A device of noughts; of no device; the page's example. Conditions: those that each theorem names. -/
import Derived.Test.YtcelhllhdkminaaDev7
namespace Go.Proofs.Ytcelhllhdkminaa
open Go.ChangeShapes Go.WideShapes Go.ChangeAt Go.RowKit
set_option linter.unusedVariables false
theorem lim_noughts (n : Nat) : Lim (List.replicate n 0) 18446744073709551616 := LM.lim_of fun z hz => by rw [(List.mem_replicate.1 hz).2]; decide
/-- What hands back a device and no error. -/
def DevNew (w : World) (s : DSt) (r : Ending) (w' : World) : Prop := ∃ D : DevB, r = .returned (.tuple #[D.ptr, .int .i64 0]) ∧ IsDev w.heap.size w' D s ∧ Ext w w'
set_option maxRecDepth 100000 in
set_option maxHeartbeats 1000000 in
theorem new_ok (w : World) (n T : Nat) (n0 : 0 < n) (n1 : n ≤ 262144) (T0 : 0 < T) (T1 : T ≤ 64) :
    Calls Try.prog 33 #[.int .i64 (n : Int), .int .i64 (T : Int)] w (DevNew w ⟨n, T, List.replicate (n * 8) 0, List.replicate (n * 8) 0, List.replicate n 0, List.replicate T []⟩) := by
  have hz : zeros (n : Int) = n := by unfold zeros; omega
  have HM := Lib.hid (fun W => mayBe_ok (T : Int) (by omega) (by omega) W)
  have HZ := zero_any w (n : Int) (by omega) (by omega)
  rw [hz] at HZ
  have hr := RowN.madeLines w n n (Nat.le_refl _) (by omega)
  generalize madeCells z8 (n * 8) = M at *
  have HO := Lib.hid (over_of w.heap.size _ w.heap.size n n T _ n0 n1 T0 T1 (lim_noughts _) (by simp) hr)
  replace HZ := Lib.hid HZ
  clear hr hz
  have t1 : decide ((n : Int) < 1) = false := by simp; omega
  have t2 : decide ((262144 : Int) < (n : Int)) = false := by simp; omega
  go_enter Try.func33, Try.ntmps33
  go_wp2_with fail
  refine (HM.out _).mono ?_
  rintro e w' ⟨rfl, rfl⟩
  go_wp2_with fail
  refine HZ.out.mono ?_
  rintro e w' ⟨rfl, rfl⟩
  go_wp2_with fail
  refine HO.out.mono ?_
  rintro e w2 ⟨D, rfl, h1, h2, h3⟩
  go_wp2_with fail
  go_ret2
  exact ⟨D, rfl, h1, ((Ext.refl w).alloc _).trans h2⟩
theorem flush_nil (t p : Int) (w : World) :
    Calls Try.prog 79 #[.pointer none, .int .i64 t, .int .i64 p] w fun e w' => e = .returned (.int .i64 1) ∧ w = w' := by
  have HC := Lib.hid (askT_nil t w)
  go_enter Try.func79, Try.ntmps79
  go_wp2_with fail
  refine HC.out.mono ?_
  rintro e w' ⟨rfl, rfl⟩
  go_wp2_with fail
  go_ret
  exact ⟨rfl, rfl⟩
/-- A device behind some calls, at a pointer; other blocks, which it has not, are as they were. -/
def AtQ (Q : Nat → Prop) (wb w0 w : World) (v : Value) (s : DSt) : Prop := ∃ D : DevB, v = D.ptr ∧ IsDev w0.heap.size w D s ∧ Ext w0 w ∧ ∀ g, Q g → g < w.heap.size ∧ ¬ D.foot g ∧ w.heap[g]? = wb.heap[g]?
abbrev At (w0 w : World) (v : Value) (s : DSt) : Prop := AtQ (fun _ => False) w0 w0 w v s
theorem At.mk {w0 w : World} {D : DevB} {s : DSt} (h : IsDev w0.heap.size w D s) (x : Ext w0 w) : At w0 w D.ptr s := ⟨D, rfl, h, x, fun _ hg => hg.elim⟩
theorem AtQ.off {Q : Nat → Prop} {wb w w' : World} {D D' : DevB} (hQ : ∀ g, Q g → g < w.heap.size ∧ ¬ D.foot g ∧ w.heap[g]? = wb.heap[g]?) (f : Fr D.foot w w') (hf : ∀ g, D'.foot g → D.foot g ∨ w.heap.size ≤ g) : ∀ g, Q g → g < w'.heap.size ∧ ¬ D'.foot g ∧ w'.heap[g]? = wb.heap[g]? := fun g hg => by
  obtain ⟨h1, h2, h3⟩ := hQ g hg
  exact ⟨Nat.lt_of_lt_of_le h1 f.size, fun h => (hf g h).elim h2 (by omega), (f.block g h1 h2).trans h3⟩
theorem AtQ.back {Q : Nat → Prop} {wb w0 w w' : World} {D : DevB} {s s' : DSt} {r r' : Ending} (h : IsDev w0.heap.size w D s) (x : Ext w0 w) (hQ : ∀ g, Q g → g < w.heap.size ∧ ¬ D.foot g ∧ w.heap[g]? = wb.heap[g]?) (b : DevBack w0.heap.size w D s' r r' w') : r' = r ∧ AtQ Q wb w0 w' D.ptr s' := by
  obtain ⟨rfl, D', e, h', f, hf⟩ := b
  exact ⟨rfl, D', by unfold DevB.ptr; rw [e], h', f.ext x (fun g hg => (h.foot_ge hg).1), AtQ.off hQ f hf⟩
section
variable {Q : Nat → Prop} {wb w0 w : World} {v : Value} {s : DSt}
theorem AtQ.store (h : AtQ Q wb w0 w v s) (p : Nat) (ha : p < s.n * 8) (x : Int) (hx : 0 ≤ x ∧ x < 18446744073709551616) :
    Calls Try.prog 99 #[v, .int .i64 (p : Int), .int .u64 x] w fun e w' => e = .returned (.int .i64 0) ∧ AtQ Q wb w0 w' v { s with seen := s.seen.set p x } := by
  obtain ⟨D, rfl, h, ext, hQ⟩ := h
  exact (store_ok _ _ _ _ h p ha x hx).mono fun _ _ b => AtQ.back h ext hQ b
theorem AtQ.flush0 (h : AtQ Q wb w0 w v s) (t p : Nat) (ht : t < s.T) (hp : p < s.n) (he : s.fl.getD t [] = []) :
    Calls Try.prog 79 #[v, .int .i64 (t : Int), .int .i64 (p : Int)] w fun e w' => e = .returned (.int .i64 0) ∧ AtQ Q wb w0 w' v { s with fl := s.fl.set t [(p : Int)] } := by
  obtain ⟨D, rfl, h, ext, hQ⟩ := h
  exact (flush_empty _ _ _ _ ext h t p ht hp he).mono fun _ _ b => AtQ.back h ext hQ b
theorem AtQ.fence (h : AtQ Q wb w0 w v s) (t : Nat) (ht : t < s.T) (hw : Few s.writes 10000000000) (hl : (s.fl.getD t []).length ≤ 1000000000) (hin : ∀ x ∈ s.fl.getD t [], 0 ≤ x ∧ x < (s.n : Int)) :
    Calls Try.prog 81 #[v, .int .i64 (t : Int)] w fun e w' => e = .returned (.int .i64 0) ∧ AtQ Q wb w0 w' v { s.backs (s.fl.getD t []) with fl := s.fl.set t [] } := by
  obtain ⟨D, rfl, h, ext, hQ⟩ := h
  exact (fence_ok _ _ _ _ h t ht hw hl hin).mono fun _ _ b => AtQ.back h ext hQ b
theorem AtQ.crash (h : AtQ Q wb w0 w v s) :
    Calls Try.prog 84 #[v] w fun e w' => (∃ u, e = .returned u) ∧ AtQ Q wb w0 w' v s.crashed := by
  obtain ⟨D, rfl, h, ext, hQ⟩ := h
  refine (crash_ok _ _ _ _ h).mono ?_
  rintro e w' ⟨he, D', e1, h', f, hf⟩
  exact ⟨he, D', by unfold DevB.ptr; rw [e1], h', f.ext ext (fun g hg => (h.foot_ge hg).1), AtQ.off hQ f (fun g hg => Or.inl (hf g hg))⟩
theorem AtQ.load (h : AtQ Q wb w0 w v s) (p : Nat) (ha : p < s.n * 8) :
    Calls Try.prog 53 #[v, .int .i64 (p : Int)] w fun e w' => e = .returned (.tuple #[.int .u64 (s.seen.getD p 0), .int .i64 0]) ∧ AtQ Q wb w0 w' v s := by
  obtain ⟨D, rfl, h, ext, hQ⟩ := h
  refine (load_ok _ _ _ _ h p ha).mono ?_
  rintro e w' ⟨he, rfl⟩
  exact ⟨he, D, rfl, h, ext, hQ⟩
theorem AtQ.writes (h : AtQ Q wb w0 w v s) (p : Nat) (ha : p < s.n) :
    Calls Try.prog 55 #[v, .int .i64 (p : Int)] w fun e w' => e = .returned (.int .i64 (s.writes.getD p 0)) ∧ AtQ Q wb w0 w' v s := by
  obtain ⟨D, rfl, h, ext, hQ⟩ := h
  refine (writes_ok _ _ _ _ h p ha).mono ?_
  rintro e w' ⟨he, rfl⟩
  exact ⟨he, D, rfl, h, ext, hQ⟩
end
end Go.Proofs.Ytcelhllhdkminaa
