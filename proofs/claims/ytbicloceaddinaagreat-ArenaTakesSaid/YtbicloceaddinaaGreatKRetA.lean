/- Package retire: where entries lie; what puts an entry, and lets it last. Conditions: those that each theorem names. -/
import Derived.Test.YtbicloceaddinaaGreatKEpA
import Derived.Test.YtbicloceaddinaaGreatKPmB
import Derived.Test.YtbicloceaddinaaGreatKPk
import Derived.Test.YtbicloceaddinaaGreatKEpB
import Derived.Lib.QuietBelow
namespace Go.Proofs.YtbicloceaddinaaGreat
open Go.ChangeShapes Go.WideShapes Go.ChangeAt Go.RowKit
set_option linter.unusedVariables false
/-- The word of a thread's entry. -/
def logN (F : Nat → Int) (t n : Int) : Int := logAt (F 4) (F 15) (F 16) (F 17) (F 2) t n
theorem logN_rng {F : Nat → Int} (ok : Okay F) (t n : Int) : -9223372036854775808 ≤ logN F t n ∧ logN F t n < 9223372036854775808 := by
  have h : -2000000000 ≤ wordAt (F 4) (F 15) (F 16) (F 17) t 0 ∧ wordAt (F 4) (F 15) (F 16) (F 17) t 0 ≤ 2000000000 := wordAt_rng ok.v0 ok.v1 ok.r15.a ok.r15.d ok.r15.m
  have h0 := ok.v0
  have h1 := ok.v1
  have h2 := ok.c2
  unfold logN logAt wordAt
  unfold wordAt at h
  by_cases hn : 0 ≤ n ∧ n < F 2
  · rw [if_pos hn]
    by_cases ht : 0 ≤ t ∧ t < F 17
    · rw [if_pos ht] at h ⊢
      omega
    · rw [if_neg ht]
      omega
  · rw [if_neg hn]
    omega
theorem log_ok {F : Nat → Int} (ok : Okay F) (gl : Nat) (t n : Int) (w : World) (hl : Blk w gl 173 (cellsF F)) :
    Calls Tryz.prog 184 #[.pointer (some ⟨gl, 0, none⟩), .int .i64 t, .int .i64 n] w fun e w' => e = .returned (.int .i64 (logN F t n)) ∧ Ext w w' :=
  tLog_any (some ⟨gl, 0, none⟩) (cellsF F) (F 4) (F 15) (F 16) (F 17) (F 2) t n w (Or.inl ⟨gl, rfl, hl⟩) (cellsF_at F 4 (by omega)) ok.v0 ok.v1 ok.r15.a ok.r15.d ok.r15.m ok.c2 (cellsF_at F 2 (by omega)) (cellsF_at F 15 (by omega)) (cellsF_at F 16 (by omega)) (cellsF_at F 17 (by omega))
theorem rlog_ok {t s l b : Nat} (c : CfgN t s l b) (a n : Int) (w : World) :
    Calls Tryz.prog 65 #[.agg #[.int .i64 t, .int .i64 s, .int .i64 l, .int .i64 b], .int .i64 a, .int .i64 n] w fun e w' => e = .returned (.int .i64 (logN (layF t s l b) a n)) ∧ Ext w w' := by
  have HA := Lib.hid (fun W => at_any t s l b 8 a n W c.t1 c.s1 c.s0 c.l1 c.b1 (by decide) (by decide) (fun h => absurd rfl h) (fun h => by omega))
  have e1 : toldF (layF t s l b) 8 a n = logN (layF t s l b) a n := rfl
  rw [e1] at HA
  have X0 := Lib.hid ((Ext.refl w).alloc (.cells #[.int .i64 t, .int .i64 s, .int .i64 l, .int .i64 b] 23))
  generalize logN (layF t s l b) a n = z at *
  clear e1 c
  go_enter Tryz.func65, Tryz.ntmps65
  go_wp2_with fail
  refine (HA.out _).mono ?_
  rintro e w1 ⟨rfl, x1⟩
  have X1 := Lib.hid (X0.out.trans x1)
  clear x1
  go_wp2_with fail
  go_ret
  exact ⟨rfl, X1.out⟩
theorem fldC2 (t s l b : Int) (w : World) : (Instr.field 23 (.agg #[.int .i64 t, .int .i64 s, .int .i64 l, .int .i64 b]) 2).run Tryz.prog w = .ok (.int .i64 l) w := by kernel_rfl
theorem conf_ok {F : Nat → Int} (gl : Nat) (w : World) (hl : Blk w gl 173 (cellsF F)) :
    Calls Tryz.prog 110 #[.pointer (some ⟨gl, 0, none⟩)] w fun e w' => e = .returned (.agg #[.int .i64 (F 0), .int .i64 (F 1), .int .i64 (F 2), .int .i64 (F 3)]) ∧ Ext w w' :=
  tConfig_any (some ⟨gl, 0, none⟩) (cellsF F) (F 0) (F 1) (F 2) (F 3) w (Or.inl ⟨gl, rfl, hl⟩) (cellsF_at F 0 (by omega)) (cellsF_at F 1 (by omega)) (cellsF_at F 2 (by omega)) (cellsF_at F 3 (by omega))
theorem cellE {w w' : World} {p : Addr} {v : Value} (h : w.cell? p = some v) (x : Ext w w') : w'.cell? p = some v := (World.cell?_of_block (x.block p.block (World.block_lt_of_cell? w p h))).trans h
theorem entry_ok {F : Nat → Int} (ok : Okay F) (gp gl : Nat) (t n : Int) (w : World) (hl : Blk w gl 173 (cellsF F)) (c0 : w.cell? ⟨gp, 0, none⟩ = some (.pointer (some ⟨gl, 0, none⟩))) (c1 : w.cell? ⟨gp, 1, none⟩ = some (.int .i64 t)) :
    Calls Tryz.prog 131 #[.pointer (some ⟨gp, 0, none⟩), .int .i64 n] w fun e w' => e = .returned (.int .i64 (logN F t n)) ∧ Ext w w' := by
  have HA := Lib.hid (fun W (x : Ext w W) => log_ok ok gl t n W (hl.ext x))
  have HP : Hid (∀ W, Ext w W → W.cell? ⟨gp, 0, none⟩ = some (.pointer (some ⟨gl, 0, none⟩)) ∧ W.cell? ⟨gp, 1, none⟩ = some (.int .i64 t)) := Lib.hid (fun W x => ⟨cellE c0 x, cellE c1 x⟩)
  have M := Lib.hid ((Ext.refl w).drew)
  generalize logN F t n = z at *
  clear ok hl
  go_enter Tryz.func131, Tryz.ntmps131
  go_wp2_with fail
  go_region_held3 (fun W => W.cell? ⟨gp, 0, none⟩ = some (.pointer (some ⟨gl, 0, none⟩)) ∧ W.cell? ⟨gp, 1, none⟩ = some (.int .i64 t)) (first | exact HP.out _ M.out | go_keep) (first
    | (go_at_call 184; refine (HA.out _ M.out).mono ?_; rintro e w1 ⟨rfl, x1⟩; replace M := Lib.hid (M.out.trans x1); clear x1))
  all_goals
    go_wp2_with fail
    go_ret
    exact ⟨rfl, M.out⟩
theorem behind_ok {F : Nat → Int} (gp gl : Nat) (n : Int) (w : World) (hl : Blk w gl 173 (cellsF F)) (c0 : w.cell? ⟨gp, 0, none⟩ = some (.pointer (some ⟨gl, 0, none⟩))) :
    Calls Tryz.prog 130 #[.pointer (some ⟨gp, 0, none⟩), .int .i64 n] w fun e w' => e = .returned (.bool (decide (F 2 ≤ n))) ∧ Ext w w' := by
  have HA := Lib.hid (conf_ok gl w hl)
  have hf := fun W => fldC2 (F 0) (F 1) (F 2) (F 3) W
  obtain ⟨L, hL⟩ : ∃ L, F 2 = L := ⟨_, rfl⟩
  rw [hL] at HA hf
  rw [hL]
  clear hl hL
  generalize F 0 = f0 at *
  generalize F 1 = f1 at *
  generalize F 3 = f3 at *
  go_enter Tryz.func130, Tryz.ntmps130
  go_wp2_with fail
  refine HA.out.mono ?_
  rintro e w1 ⟨rfl, x1⟩
  have X1 := Lib.hid x1
  clear x1 c0
  go_wp2_with fail
  go_ret
  exact ⟨rfl, X1.out⟩
section
variable {Q : Nat → Prop} {w0 w : World} {gm gp gl : Nat} {T : TypeId} {dv pv : Value} {s : MSt} {F : Nat → Int} {t place : Int} {dn : Bool} {cs : List Value}
end
end Go.Proofs.YtbicloceaddinaaGreat


/- Package retire: what each step of its machines leaves. Conditions: those that each theorem names. -/
namespace Go.Proofs.YtbicloceaddinaaGreat
open Go.ChangeShapes Go.WideShapes Go.ChangeAt Go.RowKit
set_option linter.unusedVariables false
/-- An entry's word. -/
def entN (a b : Int) : Int := (a + 1) % 4294967296 + 4294967296 * ((b + 1) % 4294967296)
/-- A Reserve: the place that it looks at, its part, whether it is done. -/
structure RvM where
  place : Int
  part : Int
  dn : Bool
deriving DecidableEq
def RvM.cells (x : RvM) (gl : Nat) (t slot : Int) : List Value := [.pointer (some ⟨gl, 0, none⟩), .int .i64 t, .bool x.dn, .int .i64 x.place, .int .i64 x.part, .int .i64 slot]
structure RvM.Wf (L : Int) (x : RvM) : Prop where
  part : (x.part = 0 ∨ x.part = 1 ∨ x.part = 2 ∨ x.part = 3) ∨ x.dn = true
  place : 0 ≤ x.place ∧ x.place ≤ L
  lt : x.dn = false → x.place < L
def rvS (F : Nat → Int) (t slot : Int) (x : RvM) (s : MSt) : RvM × MSt :=
  if x.dn = true then (x, s)
  else if x.part = 0 then (if peekV s (logN F t x.place) = 0 then ⟨x.place, 1, false⟩ else ⟨x.place + 1, 0, decide (F 2 ≤ x.place + 1)⟩, s.load t (logN F t x.place))
  else if x.part = 1 then (⟨x.place, 2, false⟩, s.store t (logN F t x.place) (entN slot (-1)))
  else if x.part = 2 then (⟨x.place, 3, false⟩, s.flush t (logN F t x.place))
  else (⟨x.place, 4, true⟩, s.fence t)
/-- A Stamp: its part, the epoch that was loaded, whether it is done. -/
structure StM where
  part : Int
  ep : Int
  dn : Bool
deriving DecidableEq
def StM.cells (x : StM) (gl : Nat) (t place slot : Int) : List Value := [.pointer (some ⟨gl, 0, none⟩), .int .i64 t, .bool x.dn, .int .i64 place, .int .i64 x.part, .int .i64 slot, .int .u64 x.ep]
structure StM.Wf (x : StM) : Prop where
  part : (x.part = 0 ∨ x.part = 1 ∨ x.part = 2 ∨ x.part = 3) ∨ x.dn = true
  ep : W64 x.ep
def stS (F : Nat → Int) (t place slot : Int) (x : StM) (s : MSt) : StM × MSt :=
  if x.dn = true then (x, s)
  else if x.part = 0 then (⟨1, peekV s (-1), false⟩, s.load t (-1))
  else if x.part = 1 then (⟨2, x.ep, false⟩, s.store t (logN F t place) (entN slot (IntKind.i64.wrap x.ep)))
  else if x.part = 2 then (⟨3, x.ep, false⟩, s.flush t (logN F t place))
  else (⟨4, x.ep, true⟩, s.fence t)
/-- A Cancel. -/
def cnCells (gl : Nat) (t place : Int) (dn : Bool) : List Value := [.pointer (some ⟨gl, 0, none⟩), .int .i64 t, .bool dn, .int .i64 place]
def cnS (F : Nat → Int) (t place : Int) (dn : Bool) (s : MSt) : MSt := if dn = true then s else s.store t (logN F t place) 0
/-- A Reclaim: what it has, and the Push that it has under way. -/
structure RcM where
  dn : Bool
  part : Int
  ep : Int
  place : Int
  slot : Int
  push : Option (Nat × PMs)
  count : Int
def RcM.ptr (x : RcM) : Option Addr := x.push.map fun q => ⟨q.1, 0, none⟩
def RcM.cells (x : RcM) (gl : Nat) (t : Int) : List Value := [.pointer (some ⟨gl, 0, none⟩), .int .i64 t, .bool x.dn, .int .i64 x.part, .int .u64 x.ep, .int .i64 x.place, .int .i64 x.slot, .pointer x.ptr, .int .i64 x.count]
/-- Nobody can look at an entry's slot any more. -/
def overB (ep w : Int) : Bool := (toN w != -1) && ((verN w - 1 != -1) && decide (verN w - 1 + 2 ≤ ep))
def RcM.goOn (F : Nat → Int) (x : RcM) (place : Int) : RcM := ⟨decide (F 2 ≤ place), 1, x.ep, place, x.slot, x.push, x.count⟩
structure RcM.Wf (L : Int) (x : RcM) : Prop where
  part : (x.part = 0 ∨ x.part = 1 ∨ x.part = 2 ∨ x.part = 3) ∨ x.dn = true
  ep : W64 x.ep
  place : 0 ≤ x.place ∧ x.place ≤ L
  lt : x.dn = false → x.place < L
  slot : I64 x.slot
  nopush : x.dn = false → x.part ≠ 3 → x.push = none
  hpush : x.dn = false → x.part = 3 → ∃ g y, x.push = some (g, y) ∧ y.Wf ∧ y.dn = false ∧ y.y = x.slot
  nodn : x.dn = true → x.push = none
  count : 0 ≤ x.count ∧ x.count ≤ x.place
/-- What a Reclaim's step leaves; g: the block of the Push that it makes, if it makes one. -/
def rcS (F : Nat → Int) (t : Int) (x : RcM) (s : MSt) (g : Nat) : RcM × MSt :=
  if x.dn = true then (x, s)
  else if x.part = 0 then ((⟨x.dn, x.part, peekV s (-1), x.place, x.slot, x.push, x.count⟩ : RcM).goOn F 0, s.load t (-1))
  else if x.part = 1 then (if overB x.ep (peekV s (logN F t x.place)) = true then ⟨false, 2, x.ep, x.place, toN (peekV s (logN F t x.place)), x.push, x.count⟩ else x.goOn F (x.place + 1), s.load t (logN F t x.place))
  else if x.part = 2 then (⟨false, 3, x.ep, x.place, x.slot, some (g, ⟨0, 0, x.slot, false⟩), x.count⟩, s.store t (logN F t x.place) 0)
  else match x.push with
    | none => (x, s)
    | some q => (if (pushS F t q.2 s).1.dn = true then (⟨x.dn, x.part, x.ep, x.place, x.slot, none, x.count + 1⟩ : RcM).goOn F (x.place + 1) else ⟨false, 3, x.ep, x.place, x.slot, some (q.1, (pushS F t q.2 s).1), x.count⟩, (pushS F t q.2 s).2)
end Go.Proofs.YtbicloceaddinaaGreat


/- Package retire: machines that are made, and what they tell; the entries that are yielded. Conditions: those that each theorem names. -/
namespace Go.Proofs.YtbicloceaddinaaGreat
open Go.ChangeShapes Go.WideShapes Go.ChangeAt Go.RowKit Go.Shelf
set_option linter.unusedVariables false
theorem doneReclaim_ok (w : World) (g : Nat) (dn : Bool) (c2 : w.cell? ⟨g, 2, none⟩ = some (.bool dn)) :
    Calls Tryz.prog 85 #[.pointer (some ⟨g, 0, none⟩)] w fun e w' => e = .returned (.bool dn) ∧ w = w' := by
  go_enter Tryz.func85, Tryz.ntmps85
  go_wp2_with fail
  go_ret
  exact ⟨rfl, rfl⟩
theorem newReclaim_ok (w : World) (gl : Nat) (t : Int) : Calls Tryz.prog 60 #[.pointer (some ⟨gl, 0, none⟩), .int .i64 t] w (NewE 206 w (RcM.cells ⟨false, 0, 0, 0, 0, none, 0⟩ gl t)) := by
  go_enter Tryz.func60, Tryz.ntmps60
  go_wp2_with fail
  go_ret
  exact ⟨w.heap.size, rfl, Nat.le_refl _, Blk.new w _ _, (Ext.refl w).alloc _⟩

/-- What a Reserve tells of its place. -/
def RvM.tells (L : Int) (x : RvM) : Int := if x.dn = true ∧ x.place < L then x.place else -1
theorem holds_nil (w : World) : Calls Tryz.prog 86 #[.pointer none] w fun e w' => e = .returned (.int .i64 (-1)) ∧ w = w' := by
  go_enter Tryz.func86, Tryz.ntmps86
  go_wp2_with fail
  go_ret
  exact ⟨rfl, rfl⟩
/-- What a Reclaim tells that it holds. -/
def RcM.tells (x : RcM) : Int := if x.push.isSome = true then x.slot else -1
theorem holds_ok (w : World) (gp gl : Nat) (x : RcM) (t : Int) (hb : Blk w gp 206 (x.cells gl t)) :
    Calls Tryz.prog 86 #[.pointer (some ⟨gp, 0, none⟩)] w fun e w' => e = .returned (.int .i64 x.tells) ∧ w = w' := by
  obtain ⟨dn, part, ep, place, slot, push, count⟩ := x
  cases push with
  | none =>
    have c7 : w.cell? ⟨gp, 7, none⟩ = some (.pointer none) := hb.cell 7
    clear hb
    go_enter Tryz.func86, Tryz.ntmps86
    go_wp2_with fail
    go_ret
    exact ⟨rfl, rfl⟩
  | some q =>
    have c7 : w.cell? ⟨gp, 7, none⟩ = some (.pointer (some ⟨q.1, 0, none⟩)) := hb.cell 7
    have c6 : w.cell? ⟨gp, 6, none⟩ = some (.int .i64 slot) := hb.cell 6
    clear hb
    go_enter Tryz.func86, Tryz.ntmps86
    go_wp2_with fail
    go_ret
    exact ⟨rfl, rfl⟩
attribute [local go_sem] Oper.semAt_some
/-- The boxes that an iterator over entries has. -/
structure EntB (w w' : World) (h gl : Nat) (t k0 : Int) : Prop where
  lo : w.heap.size ≤ h
  x : Ext w w'
  b0 : Blk w' h 30 [.pointer (some ⟨gl, 0, none⟩)]
  b1 : Blk w' (h + 1) 3 [.int .i64 t]
  b2 : Blk w' (h + 1 + 1) 3 [.int .i64 k0]
  sz : w'.heap.size = h + 3
set_option maxHeartbeats 1000000 in
theorem entries_ok (gl : Nat) (t k0 : Int) (w : World) :
    Calls Tryz.prog 128 #[.pointer (some ⟨gl, 0, none⟩), .int .i64 t, .int .i64 k0] w fun e w' => ∃ h, e = .returned (.func (.func 183) #[] #[.pointer (some ⟨h + 1 + 1, 0, none⟩), .pointer (some ⟨h, 0, none⟩), .pointer (some ⟨h + 1, 0, none⟩)]) ∧ EntB w w' h gl t k0 := by
  have hmf : ∀ (fn : Fn) (first cap : Array Value) (w : World), (Instr.makeFunc fn first cap).run Tryz.prog w = .ok (.func fn first cap) w := fun _ _ _ _ => rfl
  have b1 := (Blk.new (w.alloc (.cells #[.pointer (some ⟨gl, 0, none⟩)] 30)) 3 [.int .i64 t]).ext ((Ext.refl _).alloc (.cells #[.int .i64 k0] 3))
  have b2 := Blk.new ((w.alloc (.cells #[.pointer (some ⟨gl, 0, none⟩)] 30)).alloc (.cells #[.int .i64 t] 3)) 3 [.int .i64 k0]
  simp only [World.size_alloc] at b1 b2
  have HE : Hid (EntB w (((w.alloc (.cells #[.pointer (some ⟨gl, 0, none⟩)] 30)).alloc (.cells #[.int .i64 t] 3)).alloc (.cells #[.int .i64 k0] 3)) w.heap.size gl t k0) := Lib.hid ⟨Nat.le_refl _, (((Ext.refl w).alloc _).alloc _).alloc _, ((Blk.new w 30 [.pointer (some ⟨gl, 0, none⟩)]).ext ((Ext.refl _).alloc _)).ext ((Ext.refl _).alloc _), b1, b2, by simp⟩
  clear b1 b2
  go_enter Tryz.func128, Tryz.ntmps128
  go_wp2_with fail
  go_ret
  exact ⟨w.heap.size, rfl, HE.out⟩
set_option maxRecDepth 100000 in
set_option maxHeartbeats 2000000 in
theorem ent1_in (n : Nat) (hn : 1 ≤ n) (l B0 B1 B2 gl k0 m : Nat) (hk : k0 ≤ 1000000) (hm : m ≤ 1000000) (W : World) (F : Nat → Int) (ok : Okay F) (t L : Int) (hLm : L = (k0 : Int) + (m : Int)) (hL : F 2 = L) (S : Nat → Prop) (s0 : S B0) (s1 : S B1) (s2 : S B2) (sl : S gl) (hS : ∀ g, S g → g < W.heap.size) (J Jx : List (Fin m) → World → Prop)
    (hJ : ∀ s W W', J s W → Ext W W' → J s W')
    (hY : ∀ pre x W, J pre W → pre.length < m → YieldAt Fence.wide (n - 1) Tryz.prog l #[.int .i64 ((k0 : Int) + (x.val : Int)), .int .i64 (logN F t ((k0 : Int) + (x.val : Int)))] W fun e W' =>
      (e = .returned (.bool true) ∧ J (pre ++ [x]) W' ∧ KeepE S W W') ∨ (e = .returned (.bool false) ∧ Jx (pre ++ [x]) W'))
    (hB0 : Blk W B0 3 [.int .i64 (k0 : Int)]) (hB1 : Blk W B1 30 [.pointer (some ⟨gl, 0, none⟩)]) (hB2 : Blk W B2 3 [.int .i64 t]) (hl : Blk W gl 173 (cellsF F)) (h0 : J [] W) :
    CallsIn Fence.wide n Tryz.prog 183 #[.func (.yield l) #[] #[], .pointer (some ⟨B0, 0, none⟩), .pointer (some ⟨B1, 0, none⟩), .pointer (some ⟨B2, 0, none⟩)] W fun e W' => (∃ v, e = .returned v) ∧
      ((∃ ys, ys = List.finRange m ∧ J ys W') ∨ (∃ pre, (∃ j, pre = (List.finRange m).take j) ∧ Jx pre W')) := by
  have HK : Hid (∀ W2, KeepE S W W2 → W2.cell? ⟨B1, 0, none⟩ = some (.pointer (some ⟨gl, 0, none⟩)) ∧ W2.cell? ⟨B2, 0, none⟩ = some (.int .i64 t)) := Lib.hid (fun W2 k => by
    have b1 : Blk W2 B1 30 [.pointer (some ⟨gl, 0, none⟩)] := (k B1 s1).trans hB1
    have b2 : Blk W2 B2 3 [.int .i64 t] := (k B2 s2).trans hB2
    exact ⟨b1.cell 0, b2.cell 0⟩)
  have HC : Hid (∀ W2, KeepE S W W2 → CallsIn Fence.wide (n - 1) Tryz.prog 110 #[.pointer (some ⟨gl, 0, none⟩)] W2 fun e w' => e = .returned (.agg #[.int .i64 (F 0), .int .i64 (F 1), .int .i64 L, .int .i64 (F 3)]) ∧ Ext W2 w') := Lib.hid (fun W2 k => callsIn_wide.2 (tConfig_any (some ⟨gl, 0, none⟩) (cellsF F) (F 0) (F 1) L (F 3) W2 (Or.inl ⟨gl, rfl, (k gl sl).trans hl⟩) (cellsF_at F 0 (by omega)) (cellsF_at F 1 (by omega)) (by rw [cellsF_at F 2 (by omega), hL]) (cellsF_at F 3 (by omega))))
  have HG : Hid (∀ W2 i, KeepE S W W2 → CallsIn Fence.wide (n - 1) Tryz.prog 184 #[.pointer (some ⟨gl, 0, none⟩), .int .i64 t, .int .i64 i] W2 fun e w' => e = .returned (.int .i64 (logN F t i)) ∧ Ext W2 w') := Lib.hid (fun W2 i k => callsIn_wide.2 (log_ok ok gl t i W2 ((k gl sl).trans hl)))
  have HE : Hid (∀ W2 W3, KeepE S W W2 → Ext W2 W3 → KeepE S W W3) := Lib.hid (fun W2 W3 k x g hg => by
    have e := k g hg
    rw [Array.getElem?_eq_getElem (hS g hg)] at e
    exact (x.block g (Array.getElem?_eq_some_iff.1 e).1).trans (k g hg))
  have c0 : W.cell? ⟨B0, 0, none⟩ = some (.int .i64 (k0 : Int)) := hB0.cell 0
  have hfl := fun W => fldC2 (F 0) (F 1) L (F 3) W
  have HLm := Lib.hid hLm
  clear hB0 hB1 hB2 hl hL hLm ok
  refine callsIn_of_wp Tryz.func183 rfl trivial ?_ rfl
  simp only [Tryz.ntmps183, List.size_toArray, List.length_cons, List.length_nil, Nat.reduceAdd, Nat.reduceSub, Array.replicate_succ, Array.replicate_zero, List.push_toArray, List.append_toArray, List.nil_append, List.cons_append]
  gi_wp2
  clear c0
  gi_loopw [5] (fun i wr => ∃ k : Nat, k ≤ m ∧ i = .int .i64 ((k0 : Int) + (k : Int)) ∧ J ((List.finRange m).take k) wr ∧ KeepE S W wr)
    (fun i _ => (k0 + m) - (intOf i).toNat)
  case atStart => exact ⟨0, Nat.zero_le _, by simp, h0, KeepE.refl _ _⟩
  case round =>
    obtain ⟨k, hkm, rfl, hJs, hkp⟩ := hrel
    obtain ⟨c1, c2⟩ := HK.out wr hkp
    gi_wp2_with (first
      | (refine ⟨trivial, ?_⟩; gi_at_call 110; refine (HC.out wr hkp).mono ?_; rintro e w2 ⟨rfl, x2⟩; have hk2 := HE.out wr w2 hkp x2; obtain ⟨e1, e2⟩ := HK.out w2 hk2)
      | (refine ⟨trivial, ?_⟩; gi_at_call 184; refine (HG.out w2 _ hk2).mono ?_; rintro e w3 ⟨rfl, x3⟩))
    · have hJ2 := hJ _ _ _ hJs x2
      have hlo : (k0 : Int) + (k : Int) < L := by assumption
      have hlt : k < m := by have h := HLm.out; omega
      clear hlo
      have hk3 := HE.out w2 w3 hk2 x3
      have hJ3 := hJ _ _ _ hJ2 x3
      obtain ⟨fn, tmps, assign, body, hy, hR⟩ := hY _ ⟨k, hlt⟩ w3 hJ3 (by rw [List.length_take, List.length_finRange]; omega)
      have HT := Lib.hid (finRange_take_more m k hlt)
      gi_wp2
      refine hR.mono ?_
      rintro e W3 (⟨rfl, hJ4, hk4⟩ | ⟨rfl, hJx4⟩)
      · gi_wp2
        go_roundw
        case rel => exact ⟨k + 1, by omega, by go_num, by rw [HT.out]; exact hJ4, hk3.trans hk4⟩
        case measure => simp [intOf]; omega
      · gi_wp2
        refine bodyPost_ret (results_none rfl _ _ _) rfl ?_
        exact ⟨⟨_, rfl⟩, .inr ⟨_, ⟨k + 1, HT.out.symm⟩, hJx4⟩⟩
    · have hJ2 := hJ _ _ _ hJs x2
      have hlo : ¬ ((k0 : Int) + (k : Int) < L) := by first | assumption | omega
      obtain rfl : k = m := by have h := HLm.out; omega
      have e : (List.finRange k).take k = List.finRange k := List.take_of_length_le (by simp)
      rw [e] at hJ2
      clear e
      go_end0
      exact ⟨⟨_, rfl⟩, .inl ⟨_, rfl, hJ2⟩⟩
theorem ent_stops (n : Nat) (hn : 1 ≤ n) (B0 B1 B2 gl k0 m : Nat) (hk : k0 ≤ 1000000) (hm : m ≤ 1000000) (w : World) (F : Nat → Int) (ok : Okay F) (t L : Int) (hLm : L = (k0 : Int) + (m : Int)) (hL : F 2 = L) (S : Nat → Prop) (s0 : S B0) (s1 : S B1) (s2 : S B2) (sl : S gl) (hS : ∀ g, S g → g < w.heap.size)
    (hB0 : Blk w B0 3 [.int .i64 (k0 : Int)]) (hB1 : Blk w B1 30 [.pointer (some ⟨gl, 0, none⟩)]) (hB2 : Blk w B2 3 [.int .i64 t]) (hl : Blk w gl 173 (cellsF F)) :
    SeqStopsK Fence.wide n Tryz.prog 183 #[.pointer (some ⟨B0, 0, none⟩), .pointer (some ⟨B1, 0, none⟩), .pointer (some ⟨B2, 0, none⟩)] (fun x : Fin m => #[.int .i64 ((k0 : Int) + (x.val : Int)), .int .i64 (logN F t ((k0 : Int) + (x.val : Int)))]) (KeepE S) (fun ys => ys = List.finRange m) (fun pre => ∃ j, pre = (List.finRange m).take j) m w := fun l J Jx W hW hJ _ hY h0 =>
  have x : Ext w W := hW
  ent1_in n hn l B0 B1 B2 gl k0 m hk hm W F ok t L hLm hL S s0 s1 s2 sl (fun g hg => Nat.lt_of_lt_of_le (hS g hg) x.size) J Jx (fun s A C h e => hJ s A C none h e.grown (fun r hr => nomatch hr)) hY (hB0.ext x) (hB1.ext x) (hB2.ext x) (hl.ext x) h0
end Go.Proofs.YtbicloceaddinaaGreat

