/- The document's Take: its state, what it holds, its beginning. Conditions: those that each theorem names. -/
import Derived.Test.YtbicloceaddinaaGreatKArE
import Derived.Test.YtbicloceaddinaaGreatKRP
import Derived.Test.YtbicloceaddinaaGreatKM11
import Derived.Test.YtbicloceaddinaaGreatKR11
import Derived.Deep.RegionHeld3
namespace Go.Proofs.YtbicloceaddinaaGreat
open Go.ChangeShapes Go.WideShapes Go.ChangeAt Go.RowKit
set_option linter.unusedVariables false
/-- The document's Take. -/
structure RTk where
  part : Int
  slot : Int
  gen : Int
  empty : Int
  pop : RPo
  adv : RMa
  rcl : R11
def rtkA (t s l b : Nat) (tn part slot gen empty : Int) : List Value := [.int .i64 t, .int .i64 s, .int .i64 l, .int .i64 b, .int .i64 tn, .int .i64 part, .int .i64 slot, .int .u64 gen, .int .i64 empty]
def RTk.cells (x : RTk) (t s l b : Nat) (tn : Int) : List Value := rtkA t s l b tn x.part x.slot x.gen x.empty ++ (x.pop.cells t s l b tn ++ (x.adv.cells t s l b tn ++ x.rcl.cells t s l b tn))
theorem RG.then {B : Nat} {w0 w w' : World} {g : Nat} {R : RefB} {rv : Value} {gq : Nat} {T : TypeId} {cs cs' : List Value} {st st' : MSt} (m : RG B w0 w g R rv gq T cs st) (r : IsRMem B w' g R rv st') (hb : Blk w' gq T cs') (f : Fr (fun b => rfoot g R rv b ∨ b = gq) w w') : RG B w0 w' g R rv gq T cs' st' := ⟨r, hb, m.fr.trans f (fun b _ h => h), m.off⟩
/-- Where a generation lies. -/
theorem r12gen_ok {t s l b : Nat} (c : CfgN t s l b) (n : Int) (w : World) :
    Calls Tryz.prog 92 #[.agg #[.int .i64 t, .int .i64 s, .int .i64 l, .int .i64 b], .int .i64 9, .int .i64 n] w fun e w' => e = .returned (.int .i64 (genN (layF t s l b) n)) ∧ Ext w w' := by
  have HA := Lib.hid (fun W => at_any t s l b 9 n 0 W c.t1 c.s1 c.s0 c.l1 c.b1 (by decide) (by decide) (fun _ => rfl) (fun h => by omega))
  have e1 : toldF (layF t s l b) 9 n 0 = genN (layF t s l b) n := rfl
  rw [e1] at HA
  have X0 := Lib.hid ((Ext.refl w).alloc (.cells #[.int .i64 t, .int .i64 s, .int .i64 l, .int .i64 b] 23))
  generalize genN (layF t s l b) n = a at *
  clear e1 c
  go_enter Tryz.func92, Tryz.ntmps92
  go_wp2_with fail
  refine (HA.out _).mono ?_
  rintro e w1 ⟨rfl, x1⟩
  have X1 := Lib.hid (X0.out.trans x1)
  clear x1
  go_wp2_with fail
  go_ret
  exact ⟨rfl, X1.out⟩
def r110 : R11 := ⟨3, 1, 0, 0, -1, 0, -1, 0, none⟩
def rtk0 : RTk := ⟨1, -1, 0, -1, ⟨1, 0, 0, -1⟩, ⟨2, 1, 0, false⟩, r110⟩
theorem putL_len : ∀ (vs : List Value) (cs : List Value) (o : Nat), (putL cs o vs).length = cs.length
  | [], cs, o => rfl
  | v :: vs, cs, o => by
    show (putL (cs.set o v) (o + 1) vs).length = cs.length
    rw [putL_len vs, List.length_set]
theorem Blk.there {w : World} {g : Nat} {T : TypeId} {cs : List Value} (h : Blk w g T cs) (o n : Nat) (hn : o + n ≤ cs.length) : w.there g o n := fun j hj => by
  obtain ⟨v, hv⟩ : ∃ v, cs[o + j]? = some v := ⟨_, List.getElem?_eq_getElem (by omega)⟩
  exact ⟨by rw [h.cell (o + j), hv]; rfl, h.frozen _⟩
theorem Ext.setCells {g : Nat} : ∀ (vs : List Value) (o : Nat) {w w' : World}, Ext w w' → w.heap.size ≤ g → Ext w (w'.setCells g o vs)
  | [], _, _, _, x, _ => x
  | v :: vs, o, _, _, x, h => Ext.setCells vs (o + 1) (x.setCell (p := ⟨g, o, none⟩) h v) h
set_option maxRecDepth 100000 in
set_option maxHeartbeats 4000000 in
theorem newTake12_ok (t s l b : Nat) (tn : Int) (w : World) :
    Calls Tryz.prog 18 #[.agg #[.int .i64 t, .int .i64 s, .int .i64 l, .int .i64 b], .int .i64 tn] w fun e w' => ∃ gq, e = .returned (.pointer (some ⟨gq, 0, none⟩)) ∧ w.heap.size ≤ gq ∧ Blk w' gq 70 (rtk0.cells t s l b tn) ∧ Ext w w' := by
  have X0 := Lib.hid ((Ext.refl w).alloc (.cells #[.int .i64 t, .int .i64 s, .int .i64 l, .int .i64 b] 23))
  have B0 := Lib.hid (Blk.new w 23 [.int .i64 t, .int .i64 s, .int .i64 l, .int .i64 b])
  go_enter Tryz.func18, Tryz.ntmps18
  go_upto_region 1 with fail
  generalize w.alloc (.cells #[.int .i64 t, .int .i64 s, .int .i64 l, .int .i64 b] 23) = W0 at *
  have y0 : W0.cell? ⟨w.heap.size, 0, none⟩ = some (.int .i64 t) := B0.out.cell 0
  have y1 : W0.cell? ⟨w.heap.size, 1, none⟩ = some (.int .i64 s) := B0.out.cell 1
  have y2 : W0.cell? ⟨w.heap.size, 2, none⟩ = some (.int .i64 l) := B0.out.cell 2
  have y3 : W0.cell? ⟨w.heap.size, 3, none⟩ = some (.int .i64 b) := B0.out.cell 3
  go_upto_region 2 with fail
  have x1 := (Ext.refl W0).alloc (.cells #[.int .i64 t, .int .i64 s, .int .i64 l, .int .i64 b, .int .i64 tn, .int .i64 1, .int .i64 (-1), .int .u64 0, .int .i64 (-1), .int .i64 0, .int .i64 0, .int .i64 0, .int .i64 0, .int .i64 0, .int .i64 0, .int .u64 0, .int .u64 0, .int .i64 0, .int .i64 0, .int .i64 0, .int .i64 0, .int .i64 0, .int .i64 0, .int .i64 0, .int .i64 0, .int .u64 0, .bool false, .int .i64 0, .int .i64 0, .int .i64 0, .int .i64 0, .int .i64 0, .int .i64 0, .int .i64 0, .int .i64 0, .int .i64 0, .int .i64 0, .int .u64 0, .int .i64 0, .int .i64 0, .int .i64 0, .int .i64 0, .int .i64 0, .int .i64 0, .int .i64 0, .int .i64 0, .int .u64 0, .int .i64 0] 70)
  have b1 := Blk.new W0 70 [.int .i64 t, .int .i64 s, .int .i64 l, .int .i64 b, .int .i64 tn, .int .i64 1, .int .i64 (-1), .int .u64 0, .int .i64 (-1), .int .i64 0, .int .i64 0, .int .i64 0, .int .i64 0, .int .i64 0, .int .i64 0, .int .u64 0, .int .u64 0, .int .i64 0, .int .i64 0, .int .i64 0, .int .i64 0, .int .i64 0, .int .i64 0, .int .i64 0, .int .i64 0, .int .u64 0, .bool false, .int .i64 0, .int .i64 0, .int .i64 0, .int .i64 0, .int .i64 0, .int .i64 0, .int .i64 0, .int .i64 0, .int .i64 0, .int .i64 0, .int .u64 0, .int .i64 0, .int .i64 0, .int .i64 0, .int .i64 0, .int .i64 0, .int .i64 0, .int .i64 0, .int .i64 0, .int .u64 0, .int .i64 0]
  have hs0 := B0.out.lt
  generalize hW1 : W0.alloc (.cells #[.int .i64 t, .int .i64 s, .int .i64 l, .int .i64 b, .int .i64 tn, .int .i64 1, .int .i64 (-1), .int .u64 0, .int .i64 (-1), .int .i64 0, .int .i64 0, .int .i64 0, .int .i64 0, .int .i64 0, .int .i64 0, .int .u64 0, .int .u64 0, .int .i64 0, .int .i64 0, .int .i64 0, .int .i64 0, .int .i64 0, .int .i64 0, .int .i64 0, .int .i64 0, .int .u64 0, .bool false, .int .i64 0, .int .i64 0, .int .i64 0, .int .i64 0, .int .i64 0, .int .i64 0, .int .i64 0, .int .i64 0, .int .i64 0, .int .i64 0, .int .u64 0, .int .i64 0, .int .i64 0, .int .i64 0, .int .i64 0, .int .i64 0, .int .i64 0, .int .i64 0, .int .i64 0, .int .u64 0, .int .i64 0] 70) = W1 at *
  clear hW1
  have HNe : Hid (w.heap.size ≠ W0.heap.size ∧ w.heap.size ≤ W0.heap.size) := Lib.hid ⟨by omega, by omega⟩
  have X1 := Lib.hid (X0.out.trans x1)
  have B1 := Lib.hid (B0.out.ext x1)
  generalize W0.heap.size = gq at *
  have HB1 := Lib.hid b1
  have HW1 : Hid (W1.there gq 9 9) := Lib.hid (b1.there 9 9 (Nat.le_of_ble_eq_true rfl))
  have b2 := b1.setCells [.int .i64 t, .int .i64 s, .int .i64 l, .int .i64 b, .int .i64 tn, .int .i64 1, .int .u64 0, .int .u64 0, .int .i64 (-1)] 9
  have f2 := setCells_fr gq [.int .i64 t, .int .i64 s, .int .i64 l, .int .i64 b, .int .i64 tn, .int .i64 1, .int .u64 0, .int .u64 0, .int .i64 (-1)] 9 W1
  have HB2 := Lib.hid b2
  have BC2 := Lib.hid (B1.out.fr f2 HNe.out.1)
  have X2 := Lib.hid (Ext.setCells [.int .i64 t, .int .i64 s, .int .i64 l, .int .i64 b, .int .i64 tn, .int .i64 1, .int .u64 0, .int .u64 0, .int .i64 (-1)] 9 X1.out HNe.out.2)
  clear y0 y1 y2 y3 x1 b1 b2 f2 hs0
  have y0 : W1.cell? ⟨w.heap.size, 0, none⟩ = some (.int .i64 t) := B1.out.cell 0
  have y1 : W1.cell? ⟨w.heap.size, 1, none⟩ = some (.int .i64 s) := B1.out.cell 1
  have y2 : W1.cell? ⟨w.heap.size, 2, none⟩ = some (.int .i64 l) := B1.out.cell 2
  have y3 : W1.cell? ⟨w.heap.size, 3, none⟩ = some (.int .i64 b) := B1.out.cell 3
  go_wp2_with ((with_reducible refine (id ?_ : wpList _ _ _ ({ dst := none, op := Op.store _ _ _, type := _, pos := _, after := _, guard := _ } :: _) _ _)); refine Hid.out ?_)
  refine Lib.hid ?_
  refine wpList_store_mid rfl _ (.tmp 15) (.tmp 13) rfl gq 9 #[.int .i64 t, .int .i64 s, .int .i64 l, .int .i64 b, .int .i64 tn, .int .i64 1, .int .u64 0, .int .u64 0, .int .i64 (-1)] (by rfl) (by rfl) HW1.out (by kernel_rfl) (by simp [Value.oneCell']) ?_
  rw [show (#[.int .i64 t, .int .i64 s, .int .i64 l, .int .i64 b, .int .i64 tn, .int .i64 1, .int .u64 0, .int .u64 0, .int .i64 (-1)] : Array Value).toList = [.int .i64 t, .int .i64 s, .int .i64 l, .int .i64 b, .int .i64 tn, .int .i64 1, .int .u64 0, .int .u64 0, .int .i64 (-1)] from rfl]
  generalize W1.setCells gq 9 [.int .i64 t, .int .i64 s, .int .i64 l, .int .i64 b, .int .i64 tn, .int .i64 1, .int .u64 0, .int .u64 0, .int .i64 (-1)] = W2 at *
  clear y0 y1 y2 y3
  have HW2 : Hid (W2.there gq 18 9) := Lib.hid (HB2.out.there 18 9 (by rw [putL_len]; exact Nat.le_of_ble_eq_true rfl))
  have b3 := HB2.out.setCells [.int .i64 t, .int .i64 s, .int .i64 l, .int .i64 b, .int .i64 tn, .int .i64 2, .int .i64 1, .int .u64 0, .bool false] 18
  have f3 := setCells_fr gq [.int .i64 t, .int .i64 s, .int .i64 l, .int .i64 b, .int .i64 tn, .int .i64 2, .int .i64 1, .int .u64 0, .bool false] 18 W2
  have HB3 := Lib.hid b3
  have BC3 := Lib.hid (BC2.out.fr f3 HNe.out.1)
  have X3 := Lib.hid (Ext.setCells [.int .i64 t, .int .i64 s, .int .i64 l, .int .i64 b, .int .i64 tn, .int .i64 2, .int .i64 1, .int .u64 0, .bool false] 18 X2.out HNe.out.2)
  clear b3 f3
  have y0 : W2.cell? ⟨w.heap.size, 0, none⟩ = some (.int .i64 t) := BC2.out.cell 0
  have y1 : W2.cell? ⟨w.heap.size, 1, none⟩ = some (.int .i64 s) := BC2.out.cell 1
  have y2 : W2.cell? ⟨w.heap.size, 2, none⟩ = some (.int .i64 l) := BC2.out.cell 2
  have y3 : W2.cell? ⟨w.heap.size, 3, none⟩ = some (.int .i64 b) := BC2.out.cell 3
  go_wp2_with ((with_reducible refine (id ?_ : wpList _ _ _ ({ dst := none, op := Op.store _ _ _, type := _, pos := _, after := _, guard := _ } :: _) _ _)); refine Hid.out ?_)
  refine Lib.hid ?_
  refine wpList_store_mid rfl _ (.tmp 21) (.tmp 19) rfl gq 18 #[.int .i64 t, .int .i64 s, .int .i64 l, .int .i64 b, .int .i64 tn, .int .i64 2, .int .i64 1, .int .u64 0, .bool false] (by rfl) (by rfl) HW2.out (by kernel_rfl) (by simp [Value.oneCell']) ?_
  rw [show (#[.int .i64 t, .int .i64 s, .int .i64 l, .int .i64 b, .int .i64 tn, .int .i64 2, .int .i64 1, .int .u64 0, .bool false] : Array Value).toList = [.int .i64 t, .int .i64 s, .int .i64 l, .int .i64 b, .int .i64 tn, .int .i64 2, .int .i64 1, .int .u64 0, .bool false] from rfl]
  generalize W2.setCells gq 18 [.int .i64 t, .int .i64 s, .int .i64 l, .int .i64 b, .int .i64 tn, .int .i64 2, .int .i64 1, .int .u64 0, .bool false] = W3 at *
  clear y0 y1 y2 y3
  have HW3 : Hid (W3.there gq 27 21) := Lib.hid (HB3.out.there 27 21 (by rw [putL_len, putL_len]; exact Nat.le_of_ble_eq_true rfl))
  have b4 := HB3.out.setCells [.int .i64 t, .int .i64 s, .int .i64 l, .int .i64 b, .int .i64 tn, .int .i64 3, .int .i64 1, .int .i64 0, .int .i64 0, .int .i64 (-1), .int .u64 0, .int .i64 (-1), .int .i64 0, .int .i64 0, .int .i64 0, .int .i64 0, .int .i64 0, .int .i64 0, .int .i64 0, .int .u64 0, .int .i64 0] 27
  have HB4 := Lib.hid b4
  have X4 := Lib.hid (Ext.setCells [.int .i64 t, .int .i64 s, .int .i64 l, .int .i64 b, .int .i64 tn, .int .i64 3, .int .i64 1, .int .i64 0, .int .i64 0, .int .i64 (-1), .int .u64 0, .int .i64 (-1), .int .i64 0, .int .i64 0, .int .i64 0, .int .i64 0, .int .i64 0, .int .i64 0, .int .i64 0, .int .u64 0, .int .i64 0] 27 X3.out HNe.out.2)
  clear b4
  have y0 : W3.cell? ⟨w.heap.size, 0, none⟩ = some (.int .i64 t) := BC3.out.cell 0
  have y1 : W3.cell? ⟨w.heap.size, 1, none⟩ = some (.int .i64 s) := BC3.out.cell 1
  have y2 : W3.cell? ⟨w.heap.size, 2, none⟩ = some (.int .i64 l) := BC3.out.cell 2
  have y3 : W3.cell? ⟨w.heap.size, 3, none⟩ = some (.int .i64 b) := BC3.out.cell 3
  go_wp2_with ((with_reducible refine (id ?_ : wpList _ _ _ ({ dst := none, op := Op.store _ _ _, type := _, pos := _, after := _, guard := _ } :: _) _ _)); refine Hid.out ?_)
  refine Lib.hid ?_
  refine wpList_store_mid rfl _ (.tmp 27) (.tmp 25) rfl gq 27 #[.int .i64 t, .int .i64 s, .int .i64 l, .int .i64 b, .int .i64 tn, .int .i64 3, .int .i64 1, .int .i64 0, .int .i64 0, .int .i64 (-1), .int .u64 0, .int .i64 (-1), .int .i64 0, .int .i64 0, .int .i64 0, .int .i64 0, .int .i64 0, .int .i64 0, .int .i64 0, .int .u64 0, .int .i64 0] (by rfl) (by rfl) HW3.out (by kernel_rfl) (by simp [Value.oneCell']) ?_
  rw [show (#[.int .i64 t, .int .i64 s, .int .i64 l, .int .i64 b, .int .i64 tn, .int .i64 3, .int .i64 1, .int .i64 0, .int .i64 0, .int .i64 (-1), .int .u64 0, .int .i64 (-1), .int .i64 0, .int .i64 0, .int .i64 0, .int .i64 0, .int .i64 0, .int .i64 0, .int .i64 0, .int .u64 0, .int .i64 0] : Array Value).toList = [.int .i64 t, .int .i64 s, .int .i64 l, .int .i64 b, .int .i64 tn, .int .i64 3, .int .i64 1, .int .i64 0, .int .i64 0, .int .i64 (-1), .int .u64 0, .int .i64 (-1), .int .i64 0, .int .i64 0, .int .i64 0, .int .i64 0, .int .i64 0, .int .i64 0, .int .i64 0, .int .u64 0, .int .i64 0] from rfl]
  generalize W3.setCells gq 27 [.int .i64 t, .int .i64 s, .int .i64 l, .int .i64 b, .int .i64 tn, .int .i64 3, .int .i64 1, .int .i64 0, .int .i64 0, .int .i64 (-1), .int .u64 0, .int .i64 (-1), .int .i64 0, .int .i64 0, .int .i64 0, .int .i64 0, .int .i64 0, .int .i64 0, .int .i64 0, .int .u64 0, .int .i64 0] = W4 at *
  clear y0 y1 y2 y3
  go_wp2_with fail
  go_ret
  have e4 : putL (putL (putL [.int .i64 t, .int .i64 s, .int .i64 l, .int .i64 b, .int .i64 tn, .int .i64 1, .int .i64 (-1), .int .u64 0, .int .i64 (-1), .int .i64 0, .int .i64 0, .int .i64 0, .int .i64 0, .int .i64 0, .int .i64 0, .int .u64 0, .int .u64 0, .int .i64 0, .int .i64 0, .int .i64 0, .int .i64 0, .int .i64 0, .int .i64 0, .int .i64 0, .int .i64 0, .int .u64 0, .bool false, .int .i64 0, .int .i64 0, .int .i64 0, .int .i64 0, .int .i64 0, .int .i64 0, .int .i64 0, .int .i64 0, .int .i64 0, .int .i64 0, .int .u64 0, .int .i64 0, .int .i64 0, .int .i64 0, .int .i64 0, .int .i64 0, .int .i64 0, .int .i64 0, .int .i64 0, .int .u64 0, .int .i64 0] 9 [.int .i64 t, .int .i64 s, .int .i64 l, .int .i64 b, .int .i64 tn, .int .i64 1, .int .u64 0, .int .u64 0, .int .i64 (-1)]) 18 [.int .i64 t, .int .i64 s, .int .i64 l, .int .i64 b, .int .i64 tn, .int .i64 2, .int .i64 1, .int .u64 0, .bool false]) 27 [.int .i64 t, .int .i64 s, .int .i64 l, .int .i64 b, .int .i64 tn, .int .i64 3, .int .i64 1, .int .i64 0, .int .i64 0, .int .i64 (-1), .int .u64 0, .int .i64 (-1), .int .i64 0, .int .i64 0, .int .i64 0, .int .i64 0, .int .i64 0, .int .i64 0, .int .i64 0, .int .u64 0, .int .i64 0] = rtk0.cells t s l b tn := by kernel_rfl
  have b5 := HB4.out
  rw [e4] at b5
  exact ⟨gq, rfl, HNe.out.2, b5, X4.out⟩
section
variable {B : Nat} {w w0 : World} {g : Nat} {R : RefB} {rv : Value} {gq : Nat} {st : MSt} {t s l b : Nat} {tn : Int} {part slot gen empty : Int} {pop : RPo} {adv : RMa} {rcl : R11}
set_option maxRecDepth 100000 in
set_option maxHeartbeats 4000000 in
theorem rtkHolds_ok (hb : Blk w gq 70 (RTk.cells ⟨part, slot, gen, empty, pop, adv, rcl⟩ t s l b tn)) :
    Calls Tryz.prog 24 #[.pointer (some ⟨gq, 0, none⟩)] w fun e w' => e = .returned (.int .i64 (if 5 ≤ part ∨ (part = 0 ∧ 0 ≤ slot) then slot else rcl.holds)) ∧ w = w' := by
  obtain ⟨hv, hhv⟩ : ∃ hv, (if 5 ≤ part ∨ (part = 0 ∧ 0 ≤ slot) then slot else rcl.holds) = hv := ⟨_, rfl⟩
  rw [hhv]
  have HV := Lib.hid hhv
  have c5 : w.cell? ⟨gq, 5, none⟩ = some (.int .i64 part) := hb.cell 5
  have c6 : w.cell? ⟨gq, 6, none⟩ = some (.int .i64 slot) := hb.cell 6
  have c38 : w.cell? ⟨gq, 38, none⟩ = some (.int .i64 rcl.holds) := hb.cell 38
  have c38b : w.cell? ⟨gq, 27 + 11, none⟩ = some (.int .i64 rcl.holds) := c38
  generalize rcl.holds = rh at *
  clear hb hhv
  go_enter Tryz.func24, Tryz.ntmps24
  by_cases h5 : 5 ≤ part
  · have e := HV.out
    rw [if_pos (Or.inl h5)] at e
    have E := Lib.hid e
    have d5 : decide (5 ≤ part) = true := by simpa using h5
    clear e h5 HV
    go_wp2_with fail
    go_ret
    exact ⟨by rw [E.out]; rfl, rfl⟩
  · have d5 : decide (5 ≤ part) = false := by simpa using h5
    by_cases h0 : part = 0
    · have d0 : decide (part = 0) = true := by simpa using h0
      have d0' : (part == 0) = true := by rw [beq_iff_eq]; exact h0
      by_cases hs : 0 ≤ slot
      · have e := HV.out
        rw [if_pos (Or.inr ⟨h0, hs⟩)] at e
        have E := Lib.hid e
        have ds : decide (0 ≤ slot) = true := by simpa using hs
        clear e h5 h0 hs HV
        go_wp2_with fail
        go_ret
        exact ⟨by rw [E.out]; rfl, rfl⟩
      · have e := HV.out
        rw [if_neg (fun hh => hh.elim (fun h => h5 h) (fun h => hs h.2))] at e
        have E := Lib.hid e
        have ds : decide (0 ≤ slot) = false := by simpa using hs
        clear e h5 h0 hs HV
        go_wp2_with fail
        go_ret
        exact ⟨by rw [E.out]; rfl, rfl⟩
    · have d0 : decide (part = 0) = false := by simpa using h0
      have d0' : (part == 0) = false := by rw [beq_eq_false_iff_ne]; exact h0
      have e := HV.out
      rw [if_neg (fun hh => hh.elim (fun h => h5 h) (fun h => h0 h.1))] at e
      have E := Lib.hid e
      clear e h5 h0 HV
      go_wp2_with fail
      go_ret
      exact ⟨by rw [E.out]; rfl, rfl⟩
end
end Go.Proofs.YtbicloceaddinaaGreat


/- The document's Take: each step. Conditions: those that each theorem names. -/
namespace Go.Proofs.YtbicloceaddinaaGreat
open Go.ChangeShapes Go.WideShapes Go.ChangeAt Go.RowKit
set_option linter.unusedVariables false
section
variable {B : Nat} {w w0 : World} {g : Nat} {R : RefB} {rv : Value} {gq : Nat} {st : MSt} {t s l b : Nat} {tn : Int} {part slot gen empty : Int} {pop : RPo} {adv : RMa} {rcl : R11}
set_option maxRecDepth 100000 in
set_option maxHeartbeats 8000000 in
theorem rtkPop (h : IsRMem B w g R rv st) (sd : Sound st.dev) (hc : Calm st) (c : CfgN t s l b) (ok : Okay (layF t s l b)) (ho : ¬ rfoot g R rv gq) (hb : Blk w gq 70 (RTk.cells ⟨part, slot, gen, empty, pop, adv, rcl⟩ t s l b tn)) (hr : pop.Wf) (hU : ∀ a, W64 (peekV st a)) :
    Calls Tryz.prog 93 #[.pointer (some ⟨gq, 0, none⟩), .pointer (some ⟨g, 0, none⟩)] w (RPost B w g R rv gq 70 (RTk.cells (if ¬ (rpopS (layF t s l b) tn pop st).1.line = 0 then ⟨part, slot, gen, empty, (rpopS (layF t s l b) tn pop st).1, adv, rcl⟩ else if 0 ≤ (rpopS (layF t s l b) tn pop st).1.slot then ⟨5, (rpopS (layF t s l b) tn pop st).1.slot, gen, empty, (rpopS (layF t s l b) tn pop st).1, adv, rcl⟩ else if part = 4 then ⟨0, slot, gen, (rpopS (layF t s l b) tn pop st).2.clock, (rpopS (layF t s l b) tn pop st).1, adv, rcl⟩ else ⟨2, slot, gen, empty, (rpopS (layF t s l b) tn pop st).1, adv, rcl⟩) t s l b tn) (rpopS (layF t s l b) tn pop st).2) := by
  have M0 := Lib.hid (RG.of h hb ho)
  have HSt := Lib.hid (spop_ok (o := 9) (A := rtkA t s l b tn part slot gen empty) (Z := adv.cells t s l b tn ++ rcl.cells t s l b tn) h sd hc c ok ⟨hb, rfl⟩ ho hr hU)
  generalize rpopS (layF t s l b) tn pop st = r at *
  obtain ⟨p', st'⟩ := r
  obtain ⟨ln, tp, nx', sl'⟩ := p'
  simp only
  obtain ⟨rx, hrx⟩ : ∃ rx : RTk, (if ¬ ln = 0 then ⟨part, slot, gen, empty, ⟨ln, tp, nx', sl'⟩, adv, rcl⟩ else if 0 ≤ sl' then ⟨5, sl', gen, empty, ⟨ln, tp, nx', sl'⟩, adv, rcl⟩ else if part = 4 then ⟨0, slot, gen, st'.clock, ⟨ln, tp, nx', sl'⟩, adv, rcl⟩ else ⟨2, slot, gen, empty, ⟨ln, tp, nx', sl'⟩, adv, rcl⟩) = rx := ⟨_, rfl⟩
  rw [hrx]
  have HRx := Lib.hid hrx
  clear h hb sd hc hU hr hrx
  go_enter Tryz.func93, Tryz.ntmps93
  go_wp2_with fail
  refine HSt.out.mono ?_
  rintro e w1 ⟨⟨u, rfl⟩, rs⟩
  have M : Hid (RG B w w1 g R rv gq 70 (RTk.cells ⟨part, slot, gen, empty, ⟨ln, tp, nx', sl'⟩, adv, rcl⟩ t s l b tn) st') := Lib.hid (M0.out.then rs.ref rs.blk.blk rs.fr)
  have y14 : w1.cell? ⟨gq, 14, none⟩ = some (.int .i64 ln) := M.out.blk.cell 14
  have y14b : w1.cell? ⟨gq, 9 + 5, none⟩ = some (.int .i64 ln) := y14
  have y17 : w1.cell? ⟨gq, 17, none⟩ = some (.int .i64 sl') := M.out.blk.cell 17
  have y17b : w1.cell? ⟨gq, 9 + 8, none⟩ = some (.int .i64 sl') := y17
  have y5 : w1.cell? ⟨gq, 5, none⟩ = some (.int .i64 part) := M.out.blk.cell 5
  have z5 : w1.frozen? ⟨gq, 5, none⟩ = false := M.out.blk.frozen 5
  clear rs HSt M0
  by_cases hl : ln = 0
  · have e0 : (ln != 0) = false := by simp [hl]
    have L0 := HRx.out
    rw [if_neg (by simpa using hl)] at L0
    clear HRx
    by_cases hs : 0 ≤ sl'
    · rw [if_pos hs] at L0
      have L1 := Lib.hid L0
      have d0 : decide (0 ≤ sl') = true := by simpa using hs
      have y6 : w1.cell? ⟨gq, 6, none⟩ = some (.int .i64 slot) := M.out.blk.cell 6
      have z6 : w1.frozen? ⟨gq, 6, none⟩ = false := M.out.blk.frozen 6
      have m2 : RG B w (w1.setCell ⟨gq, 6, none⟩ (.int .i64 sl')) g R rv gq 70 (RTk.cells ⟨part, sl', gen, empty, ⟨ln, tp, nx', sl'⟩, adv, rcl⟩ t s l b tn) st' := M.out.put 6 (.int .i64 sl')
      have q5 : (w1.setCell ⟨gq, 6, none⟩ (.int .i64 sl')).cell? ⟨gq, 5, none⟩ = some (.int .i64 part) := m2.blk.cell 5
      have r5 : (w1.setCell ⟨gq, 6, none⟩ (.int .i64 sl')).frozen? ⟨gq, 5, none⟩ = false := m2.blk.frozen 5
      have M3 : Hid (RG B w ((w1.setCell ⟨gq, 6, none⟩ (.int .i64 sl')).setCell ⟨gq, 5, none⟩ (.int .i64 5)) g R rv gq 70 (RTk.cells ⟨5, sl', gen, empty, ⟨ln, tp, nx', sl'⟩, adv, rcl⟩ t s l b tn) st') := Lib.hid (m2.put 5 (.int .i64 5))
      clear m2 L0 hs hl
      go_wp2_with fail
      (first | (refine bodyPost_ret (results_none rfl _ _ _) rfl ?_) | (refine bodyPost_end (results_none rfl _ _ _) rfl ?_))
      exact ⟨⟨_, rfl⟩, by rw [← L1.out]; exact M3.out⟩
    · rw [if_neg hs] at L0
      have d0 : decide (0 ≤ sl') = false := by simpa using hs
      by_cases h4 : part = 4
      · rw [if_pos h4] at L0
        have L1 := Lib.hid L0
        subst h4
        have k2 : w1.cell? ⟨g, 2, none⟩ = some (.int .i64 st'.clock) := M.out.ref.blk.cell 2
        have y8 : w1.cell? ⟨gq, 8, none⟩ = some (.int .i64 empty) := M.out.blk.cell 8
        have z8 : w1.frozen? ⟨gq, 8, none⟩ = false := M.out.blk.frozen 8
        have m2 : RG B w (w1.setCell ⟨gq, 8, none⟩ (.int .i64 st'.clock)) g R rv gq 70 (RTk.cells ⟨4, slot, gen, st'.clock, ⟨ln, tp, nx', sl'⟩, adv, rcl⟩ t s l b tn) st' := M.out.put 8 (.int .i64 st'.clock)
        have q5 : (w1.setCell ⟨gq, 8, none⟩ (.int .i64 st'.clock)).cell? ⟨gq, 5, none⟩ = some (.int .i64 4) := m2.blk.cell 5
        have r5 : (w1.setCell ⟨gq, 8, none⟩ (.int .i64 st'.clock)).frozen? ⟨gq, 5, none⟩ = false := m2.blk.frozen 5
        have M3 : Hid (RG B w ((w1.setCell ⟨gq, 8, none⟩ (.int .i64 st'.clock)).setCell ⟨gq, 5, none⟩ (.int .i64 0)) g R rv gq 70 (RTk.cells ⟨0, slot, gen, st'.clock, ⟨ln, tp, nx', sl'⟩, adv, rcl⟩ t s l b tn) st') := Lib.hid (m2.put 5 (.int .i64 0))
        clear m2 L0 hs hl
        go_wp2_with fail
        (first | (refine bodyPost_ret (results_none rfl _ _ _) rfl ?_) | (refine bodyPost_end (results_none rfl _ _ _) rfl ?_))
        exact ⟨⟨_, rfl⟩, by rw [← L1.out]; exact M3.out⟩
      · rw [if_neg h4] at L0
        have L1 := Lib.hid L0
        have d4 : decide (part = 4) = false := by simpa using h4
        have d4' : (part == 4) = false := by rw [beq_eq_false_iff_ne]; exact h4
        have M3 : Hid (RG B w (w1.setCell ⟨gq, 5, none⟩ (.int .i64 2)) g R rv gq 70 (RTk.cells ⟨2, slot, gen, empty, ⟨ln, tp, nx', sl'⟩, adv, rcl⟩ t s l b tn) st') := Lib.hid (M.out.put 5 (.int .i64 2))
        clear L0 hs hl h4
        go_wp2_with fail
        (first | (refine bodyPost_ret (results_none rfl _ _ _) rfl ?_) | (refine bodyPost_end (results_none rfl _ _ _) rfl ?_))
        exact ⟨⟨_, rfl⟩, by rw [← L1.out]; exact M3.out⟩
  · have e0 : (ln != 0) = true := by simp [hl]
    have L0 := HRx.out
    rw [if_pos hl] at L0
    have L1 := Lib.hid L0
    clear L0 HRx hl
    go_wp2_with fail
    (first | (refine bodyPost_ret (results_none rfl _ _ _) rfl ?_) | (refine bodyPost_end (results_none rfl _ _ _) rfl ?_))
    exact ⟨⟨_, rfl⟩, by rw [← L1.out]; exact M.out⟩
set_option maxRecDepth 100000 in
set_option maxHeartbeats 8000000 in
theorem rtk_0 (h : IsRMem B w g R rv st) (sd : Sound st.dev) (hc : Calm st) (c : CfgN t s l b) (ok : Okay (layF t s l b)) (ho : ¬ rfoot g R rv gq) (hb : Blk w gq 70 (RTk.cells ⟨0, slot, gen, empty, pop, adv, rcl⟩ t s l b tn))  :
    Calls Tryz.prog 20 #[.pointer (some ⟨gq, 0, none⟩), .pointer (some ⟨g, 0, none⟩)] w (RPost B w g R rv gq 70 (RTk.cells ⟨0, slot, gen, empty, pop, adv, rcl⟩ t s l b tn) (st)) := by
  have M0 := Lib.hid (RG.of h hb ho)
  have HAt := Lib.hid (fun W => r12at_ok c tn W)
  generalize intN (layF t s l b) tn = ia at *
  have HP0 : Hid (∀ W s', RG B w W g R rv gq 70 (RTk.cells ⟨0, slot, gen, empty, pop, adv, rcl⟩ t s l b tn) s' → (W.cell? ⟨gq, 0, none⟩ = some (.int .i64 t) ∧ W.cell? ⟨gq, 1, none⟩ = some (.int .i64 s) ∧ W.cell? ⟨gq, 2, none⟩ = some (.int .i64 l) ∧ W.cell? ⟨gq, 3, none⟩ = some (.int .i64 b)) ∧ W.cell? ⟨gq, 4, none⟩ = some (.int .i64 tn)) := Lib.hid (fun W s' m => ⟨⟨m.blk.cell 0, m.blk.cell 1, m.blk.cell 2, m.blk.cell 3⟩, m.blk.cell 4⟩)
  have M := Lib.hid (M0.out.ext ((Ext.refl w).drew))
  have c0 : w.cell? ⟨gq, 0, none⟩ = some (.int .i64 t) := hb.cell 0
  have c1 : w.cell? ⟨gq, 1, none⟩ = some (.int .i64 s) := hb.cell 1
  have c2 : w.cell? ⟨gq, 2, none⟩ = some (.int .i64 l) := hb.cell 2
  have c3 : w.cell? ⟨gq, 3, none⟩ = some (.int .i64 b) := hb.cell 3
  have c4 : w.cell? ⟨gq, 4, none⟩ = some (.int .i64 tn) := hb.cell 4
  clear h hb M0 sd hc
  go_enter Tryz.func20, Tryz.ntmps20
  go_wp2_with fail
  go_region_held3 (fun W => (W.cell? ⟨gq, 0, none⟩ = some (.int .i64 t) ∧ W.cell? ⟨gq, 1, none⟩ = some (.int .i64 s) ∧ W.cell? ⟨gq, 2, none⟩ = some (.int .i64 l) ∧ W.cell? ⟨gq, 3, none⟩ = some (.int .i64 b)) ∧ W.cell? ⟨gq, 4, none⟩ = some (.int .i64 tn)) (first | exact HP0.out _ _ M.out | go_keep) (first
    | (go_at_call 92; refine (HAt.out _).mono ?_; rintro e w1 ⟨rfl, x1⟩; replace M := Lib.hid (M.out.ext x1); clear x1))
  all_goals
    have p5 : w1.cell? ⟨gq, 5, none⟩ = some (.int .i64 0) := M.out.blk.cell 5
    go_wp2_with fail
    (first | (refine bodyPost_ret (results_none rfl _ _ _) rfl ?_) | (refine bodyPost_end (results_none rfl _ _ _) rfl ?_))
    exact ⟨⟨_, rfl⟩, M.out⟩
set_option maxRecDepth 100000 in
set_option maxHeartbeats 8000000 in
theorem rtk_1 (h : IsRMem B w g R rv st) (sd : Sound st.dev) (hc : Calm st) (c : CfgN t s l b) (ok : Okay (layF t s l b)) (ho : ¬ rfoot g R rv gq) (hb : Blk w gq 70 (RTk.cells ⟨1, slot, gen, empty, pop, adv, rcl⟩ t s l b tn)) {P : World → Prop} (hS : ∀ W, RG B w W g R rv gq 70 (RTk.cells ⟨1, slot, gen, empty, pop, adv, rcl⟩ t s l b tn) st → Calls Tryz.prog 93 #[.pointer (some ⟨gq, 0, none⟩), .pointer (some ⟨g, 0, none⟩)] W fun e w' => (∃ u, e = .returned u) ∧ P w') :
    Calls Tryz.prog 20 #[.pointer (some ⟨gq, 0, none⟩), .pointer (some ⟨g, 0, none⟩)] w fun e w' => (∃ u, e = .returned u) ∧ P w' := by
  have M0 := Lib.hid (RG.of h hb ho)
  have HAt := Lib.hid (fun W => r12at_ok c tn W)
  have HS := Lib.hid hS
  generalize intN (layF t s l b) tn = ia at *
  have HP0 : Hid (∀ W s', RG B w W g R rv gq 70 (RTk.cells ⟨1, slot, gen, empty, pop, adv, rcl⟩ t s l b tn) s' → (W.cell? ⟨gq, 0, none⟩ = some (.int .i64 t) ∧ W.cell? ⟨gq, 1, none⟩ = some (.int .i64 s) ∧ W.cell? ⟨gq, 2, none⟩ = some (.int .i64 l) ∧ W.cell? ⟨gq, 3, none⟩ = some (.int .i64 b)) ∧ W.cell? ⟨gq, 4, none⟩ = some (.int .i64 tn)) := Lib.hid (fun W s' m => ⟨⟨m.blk.cell 0, m.blk.cell 1, m.blk.cell 2, m.blk.cell 3⟩, m.blk.cell 4⟩)
  have M := Lib.hid (M0.out.ext ((Ext.refl w).drew))
  have c0 : w.cell? ⟨gq, 0, none⟩ = some (.int .i64 t) := hb.cell 0
  have c1 : w.cell? ⟨gq, 1, none⟩ = some (.int .i64 s) := hb.cell 1
  have c2 : w.cell? ⟨gq, 2, none⟩ = some (.int .i64 l) := hb.cell 2
  have c3 : w.cell? ⟨gq, 3, none⟩ = some (.int .i64 b) := hb.cell 3
  have c4 : w.cell? ⟨gq, 4, none⟩ = some (.int .i64 tn) := hb.cell 4
  clear h hb M0 sd hc hS
  go_enter Tryz.func20, Tryz.ntmps20
  go_wp2_with fail
  go_region_held3 (fun W => (W.cell? ⟨gq, 0, none⟩ = some (.int .i64 t) ∧ W.cell? ⟨gq, 1, none⟩ = some (.int .i64 s) ∧ W.cell? ⟨gq, 2, none⟩ = some (.int .i64 l) ∧ W.cell? ⟨gq, 3, none⟩ = some (.int .i64 b)) ∧ W.cell? ⟨gq, 4, none⟩ = some (.int .i64 tn)) (first | exact HP0.out _ _ M.out | go_keep) (first
    | (go_at_call 92; refine (HAt.out _).mono ?_; rintro e w1 ⟨rfl, x1⟩; replace M := Lib.hid (M.out.ext x1); clear x1))
  all_goals
    have p5 : w1.cell? ⟨gq, 5, none⟩ = some (.int .i64 1) := M.out.blk.cell 5
    go_wp2_with fail
    refine (HS.out _ M.out).mono ?_
    rintro e w2 ⟨⟨u, rfl⟩, hp⟩
    have PP := Lib.hid hp
    clear hp
    go_wp2_with fail
    (first | (refine bodyPost_ret (results_none rfl _ _ _) rfl ?_) | (refine bodyPost_end (results_none rfl _ _ _) rfl ?_))
    exact ⟨⟨_, rfl⟩, PP.out⟩
set_option maxRecDepth 100000 in
set_option maxHeartbeats 8000000 in
theorem rtk_4 (h : IsRMem B w g R rv st) (sd : Sound st.dev) (hc : Calm st) (c : CfgN t s l b) (ok : Okay (layF t s l b)) (ho : ¬ rfoot g R rv gq) (hb : Blk w gq 70 (RTk.cells ⟨4, slot, gen, empty, pop, adv, rcl⟩ t s l b tn)) {P : World → Prop} (hS : ∀ W, RG B w W g R rv gq 70 (RTk.cells ⟨4, slot, gen, empty, pop, adv, rcl⟩ t s l b tn) st → Calls Tryz.prog 93 #[.pointer (some ⟨gq, 0, none⟩), .pointer (some ⟨g, 0, none⟩)] W fun e w' => (∃ u, e = .returned u) ∧ P w') :
    Calls Tryz.prog 20 #[.pointer (some ⟨gq, 0, none⟩), .pointer (some ⟨g, 0, none⟩)] w fun e w' => (∃ u, e = .returned u) ∧ P w' := by
  have M0 := Lib.hid (RG.of h hb ho)
  have HAt := Lib.hid (fun W => r12at_ok c tn W)
  have HS := Lib.hid hS
  generalize intN (layF t s l b) tn = ia at *
  have HP0 : Hid (∀ W s', RG B w W g R rv gq 70 (RTk.cells ⟨4, slot, gen, empty, pop, adv, rcl⟩ t s l b tn) s' → (W.cell? ⟨gq, 0, none⟩ = some (.int .i64 t) ∧ W.cell? ⟨gq, 1, none⟩ = some (.int .i64 s) ∧ W.cell? ⟨gq, 2, none⟩ = some (.int .i64 l) ∧ W.cell? ⟨gq, 3, none⟩ = some (.int .i64 b)) ∧ W.cell? ⟨gq, 4, none⟩ = some (.int .i64 tn)) := Lib.hid (fun W s' m => ⟨⟨m.blk.cell 0, m.blk.cell 1, m.blk.cell 2, m.blk.cell 3⟩, m.blk.cell 4⟩)
  have M := Lib.hid (M0.out.ext ((Ext.refl w).drew))
  have c0 : w.cell? ⟨gq, 0, none⟩ = some (.int .i64 t) := hb.cell 0
  have c1 : w.cell? ⟨gq, 1, none⟩ = some (.int .i64 s) := hb.cell 1
  have c2 : w.cell? ⟨gq, 2, none⟩ = some (.int .i64 l) := hb.cell 2
  have c3 : w.cell? ⟨gq, 3, none⟩ = some (.int .i64 b) := hb.cell 3
  have c4 : w.cell? ⟨gq, 4, none⟩ = some (.int .i64 tn) := hb.cell 4
  clear h hb M0 sd hc hS
  go_enter Tryz.func20, Tryz.ntmps20
  go_wp2_with fail
  go_region_held3 (fun W => (W.cell? ⟨gq, 0, none⟩ = some (.int .i64 t) ∧ W.cell? ⟨gq, 1, none⟩ = some (.int .i64 s) ∧ W.cell? ⟨gq, 2, none⟩ = some (.int .i64 l) ∧ W.cell? ⟨gq, 3, none⟩ = some (.int .i64 b)) ∧ W.cell? ⟨gq, 4, none⟩ = some (.int .i64 tn)) (first | exact HP0.out _ _ M.out | go_keep) (first
    | (go_at_call 92; refine (HAt.out _).mono ?_; rintro e w1 ⟨rfl, x1⟩; replace M := Lib.hid (M.out.ext x1); clear x1))
  all_goals
    have p5 : w1.cell? ⟨gq, 5, none⟩ = some (.int .i64 4) := M.out.blk.cell 5
    go_wp2_with fail
    refine (HS.out _ M.out).mono ?_
    rintro e w2 ⟨⟨u, rfl⟩, hp⟩
    have PP := Lib.hid hp
    clear hp
    go_wp2_with fail
    (first | (refine bodyPost_ret (results_none rfl _ _ _) rfl ?_) | (refine bodyPost_end (results_none rfl _ _ _) rfl ?_))
    exact ⟨⟨_, rfl⟩, PP.out⟩
set_option maxRecDepth 100000 in
set_option maxHeartbeats 8000000 in
theorem rtk_2 (h : IsRMem B w g R rv st) (sd : Sound st.dev) (hc : Calm st) (c : CfgN t s l b) (ok : Okay (layF t s l b)) (ho : ¬ rfoot g R rv gq) (hb : Blk w gq 70 (RTk.cells ⟨2, slot, gen, empty, pop, adv, rcl⟩ t s l b tn)) {P : RMa → MSt → Prop} (hS : ∀ W, RG B w W g R rv gq 70 (RTk.cells ⟨2, slot, gen, empty, pop, adv, rcl⟩ t s l b tn) st → Calls Tryz.prog 94 #[.pointer (some ⟨gq, 18, none⟩), .pointer (some ⟨g, 0, none⟩)] W fun e w' => (∃ u, e = .returned u) ∧ ∃ (adv' : RMa) (st' : MSt), RG B w w' g R rv gq 70 (RTk.cells ⟨2, slot, gen, empty, pop, adv', rcl⟩ t s l b tn) st' ∧ P adv' st') :
    Calls Tryz.prog 20 #[.pointer (some ⟨gq, 0, none⟩), .pointer (some ⟨g, 0, none⟩)] w fun e w' => (∃ u, e = .returned u) ∧ ∃ (adv' : RMa) (st' : MSt), RG B w w' g R rv gq 70 (RTk.cells ⟨if adv'.line = 0 then 3 else 2, slot, gen, empty, pop, adv', rcl⟩ t s l b tn) st' ∧ P adv' st' := by
  have M0 := Lib.hid (RG.of h hb ho)
  have HAt := Lib.hid (fun W => r12at_ok c tn W)
  have HS := Lib.hid hS
  generalize intN (layF t s l b) tn = ia at *
  have HP0 : Hid (∀ W s', RG B w W g R rv gq 70 (RTk.cells ⟨2, slot, gen, empty, pop, adv, rcl⟩ t s l b tn) s' → (W.cell? ⟨gq, 0, none⟩ = some (.int .i64 t) ∧ W.cell? ⟨gq, 1, none⟩ = some (.int .i64 s) ∧ W.cell? ⟨gq, 2, none⟩ = some (.int .i64 l) ∧ W.cell? ⟨gq, 3, none⟩ = some (.int .i64 b)) ∧ W.cell? ⟨gq, 4, none⟩ = some (.int .i64 tn)) := Lib.hid (fun W s' m => ⟨⟨m.blk.cell 0, m.blk.cell 1, m.blk.cell 2, m.blk.cell 3⟩, m.blk.cell 4⟩)
  have M := Lib.hid (M0.out.ext ((Ext.refl w).drew))
  have c0 : w.cell? ⟨gq, 0, none⟩ = some (.int .i64 t) := hb.cell 0
  have c1 : w.cell? ⟨gq, 1, none⟩ = some (.int .i64 s) := hb.cell 1
  have c2 : w.cell? ⟨gq, 2, none⟩ = some (.int .i64 l) := hb.cell 2
  have c3 : w.cell? ⟨gq, 3, none⟩ = some (.int .i64 b) := hb.cell 3
  have c4 : w.cell? ⟨gq, 4, none⟩ = some (.int .i64 tn) := hb.cell 4
  clear h hb M0 sd hc hS
  go_enter Tryz.func20, Tryz.ntmps20
  go_wp2_with fail
  go_region_held3 (fun W => (W.cell? ⟨gq, 0, none⟩ = some (.int .i64 t) ∧ W.cell? ⟨gq, 1, none⟩ = some (.int .i64 s) ∧ W.cell? ⟨gq, 2, none⟩ = some (.int .i64 l) ∧ W.cell? ⟨gq, 3, none⟩ = some (.int .i64 b)) ∧ W.cell? ⟨gq, 4, none⟩ = some (.int .i64 tn)) (first | exact HP0.out _ _ M.out | go_keep) (first
    | (go_at_call 92; refine (HAt.out _).mono ?_; rintro e w1 ⟨rfl, x1⟩; replace M := Lib.hid (M.out.ext x1); clear x1))
  all_goals
    have p5 : w1.cell? ⟨gq, 5, none⟩ = some (.int .i64 2) := M.out.blk.cell 5
    go_wp2_with fail
    refine (HS.out _ M.out).mono ?_
    rintro e w2 ⟨⟨u, rfl⟩, adv', st', m2, hp⟩
    obtain ⟨kd, ln, nw, mv⟩ := adv'
    have PP := Lib.hid hp
    replace M := Lib.hid m2
    have y24 : w2.cell? ⟨gq, 24, none⟩ = some (.int .i64 ln) := M.out.blk.cell 24
    have y24b : w2.cell? ⟨gq, 18 + 6, none⟩ = some (.int .i64 ln) := y24
    clear hp m2 p5
    by_cases hl : ln = 0
    · have e1 : (ln == 0) = true := by rw [beq_iff_eq]; exact hl
      have e0 : decide (ln = 0) = true := by simpa using hl
      have y5 : w2.cell? ⟨gq, 5, none⟩ = some (.int .i64 2) := M.out.blk.cell 5
      have z5 : w2.frozen? ⟨gq, 5, none⟩ = false := M.out.blk.frozen 5
      have M3 : Hid (RG B w (w2.setCell ⟨gq, 5, none⟩ (.int .i64 3)) g R rv gq 70 (RTk.cells ⟨3, slot, gen, empty, pop, ⟨kd, ln, nw, mv⟩, rcl⟩ t s l b tn) st') := Lib.hid (M.out.put 5 (.int .i64 3))
      have L1 : Hid ((if ln = 0 then (3 : Int) else 2) = 3) := Lib.hid (if_pos hl)
      clear hl
      go_wp2_with fail
      (first | (refine bodyPost_ret (results_none rfl _ _ _) rfl ?_) | (refine bodyPost_end (results_none rfl _ _ _) rfl ?_))
      exact ⟨⟨_, rfl⟩, ⟨kd, ln, nw, mv⟩, st', by rw [L1.out]; exact M3.out, PP.out⟩
    · have e1 : (ln == 0) = false := by rw [beq_eq_false_iff_ne]; exact hl
      have e0 : decide (ln = 0) = false := by simpa using hl
      have L1 : Hid ((if ln = 0 then (3 : Int) else 2) = 2) := Lib.hid (if_neg hl)
      clear hl
      go_wp2_with fail
      (first | (refine bodyPost_ret (results_none rfl _ _ _) rfl ?_) | (refine bodyPost_end (results_none rfl _ _ _) rfl ?_))
      exact ⟨⟨_, rfl⟩, ⟨kd, ln, nw, mv⟩, st', by rw [L1.out]; exact M.out, PP.out⟩
set_option maxRecDepth 100000 in
set_option maxHeartbeats 8000000 in
theorem rtk_3 (h : IsRMem B w g R rv st) (sd : Sound st.dev) (hc : Calm st) (c : CfgN t s l b) (ok : Okay (layF t s l b)) (ho : ¬ rfoot g R rv gq) (hb : Blk w gq 70 (RTk.cells ⟨3, slot, gen, empty, pop, adv, rcl⟩ t s l b tn)) {P : R11 → MSt → Prop} (hS : ∀ W, RG B w W g R rv gq 70 (RTk.cells ⟨3, slot, gen, empty, pop, adv, rcl⟩ t s l b tn) st → Calls Tryz.prog 11 #[.pointer (some ⟨gq, 27, none⟩), .pointer (some ⟨g, 0, none⟩)] W fun e w' => (∃ u, e = .returned u) ∧ ∃ (rcl' : R11) (st' : MSt), RG B w w' g R rv gq 70 (RTk.cells ⟨3, slot, gen, empty, pop, adv, rcl'⟩ t s l b tn) st' ∧ P rcl' st') :
    Calls Tryz.prog 20 #[.pointer (some ⟨gq, 0, none⟩), .pointer (some ⟨g, 0, none⟩)] w fun e w' => (∃ u, e = .returned u) ∧ ∃ (rcl' : R11) (st' : MSt), RG B w w' g R rv gq 70 (RTk.cells ⟨if rcl'.line = 0 then 4 else 3, slot, gen, empty, if rcl'.line = 0 then ⟨1, 0, 0, -1⟩ else pop, adv, rcl'⟩ t s l b tn) st' ∧ P rcl' st' := by
  have M0 := Lib.hid (RG.of h hb ho)
  have HAt := Lib.hid (fun W => r12at_ok c tn W)
  have HS := Lib.hid hS
  generalize intN (layF t s l b) tn = ia at *
  have HP0 : Hid (∀ W s', RG B w W g R rv gq 70 (RTk.cells ⟨3, slot, gen, empty, pop, adv, rcl⟩ t s l b tn) s' → (W.cell? ⟨gq, 0, none⟩ = some (.int .i64 t) ∧ W.cell? ⟨gq, 1, none⟩ = some (.int .i64 s) ∧ W.cell? ⟨gq, 2, none⟩ = some (.int .i64 l) ∧ W.cell? ⟨gq, 3, none⟩ = some (.int .i64 b)) ∧ W.cell? ⟨gq, 4, none⟩ = some (.int .i64 tn)) := Lib.hid (fun W s' m => ⟨⟨m.blk.cell 0, m.blk.cell 1, m.blk.cell 2, m.blk.cell 3⟩, m.blk.cell 4⟩)
  have M := Lib.hid (M0.out.ext ((Ext.refl w).drew))
  have c0 : w.cell? ⟨gq, 0, none⟩ = some (.int .i64 t) := hb.cell 0
  have c1 : w.cell? ⟨gq, 1, none⟩ = some (.int .i64 s) := hb.cell 1
  have c2 : w.cell? ⟨gq, 2, none⟩ = some (.int .i64 l) := hb.cell 2
  have c3 : w.cell? ⟨gq, 3, none⟩ = some (.int .i64 b) := hb.cell 3
  have c4 : w.cell? ⟨gq, 4, none⟩ = some (.int .i64 tn) := hb.cell 4
  clear h hb M0 sd hc hS
  go_enter Tryz.func20, Tryz.ntmps20
  go_wp2_with fail
  go_region_held3 (fun W => (W.cell? ⟨gq, 0, none⟩ = some (.int .i64 t) ∧ W.cell? ⟨gq, 1, none⟩ = some (.int .i64 s) ∧ W.cell? ⟨gq, 2, none⟩ = some (.int .i64 l) ∧ W.cell? ⟨gq, 3, none⟩ = some (.int .i64 b)) ∧ W.cell? ⟨gq, 4, none⟩ = some (.int .i64 tn)) (first | exact HP0.out _ _ M.out | go_keep) (first
    | (go_at_call 92; refine (HAt.out _).mono ?_; rintro e w1 ⟨rfl, x1⟩; replace M := Lib.hid (M.out.ext x1); clear x1))
  all_goals
    have p5 : w1.cell? ⟨gq, 5, none⟩ = some (.int .i64 3) := M.out.blk.cell 5
    go_wp2_with fail
    refine (HS.out _ M.out).mono ?_
    rintro e w2 ⟨⟨u, rfl⟩, rcl', st', m2, hp⟩
    have PP := Lib.hid hp
    replace M := Lib.hid m2
    have y33 : w2.cell? ⟨gq, 33, none⟩ = some (.int .i64 rcl'.line) := M.out.blk.cell 33
    have y33b : w2.cell? ⟨gq, 27 + 6, none⟩ = some (.int .i64 rcl'.line) := y33
    obtain ⟨ln, hln⟩ : ∃ ln, rcl'.line = ln := ⟨_, rfl⟩
    rw [hln] at y33 y33b
    have HLn := Lib.hid hln
    clear hp m2 p5 hln
    by_cases hl : ln = 0
    · have e1 : (ln == 0) = true := by rw [beq_iff_eq]; exact hl
      have e0 : decide (ln = 0) = true := by simpa using hl
      have y5 : w2.cell? ⟨gq, 5, none⟩ = some (.int .i64 3) := M.out.blk.cell 5
      have z5 : w2.frozen? ⟨gq, 5, none⟩ = false := M.out.blk.frozen 5
      have M3 : Hid (RG B w (w2.setCell ⟨gq, 5, none⟩ (.int .i64 4)) g R rv gq 70 (RTk.cells ⟨4, slot, gen, empty, pop, adv, rcl'⟩ t s l b tn) st') := Lib.hid (M.out.put 5 (.int .i64 4))
      have L1 : Hid (rcl'.line = 0) := Lib.hid (HLn.out.trans hl)
      clear hl
      go_upto_region 11 with fail
      generalize w2.setCell ⟨gq, 5, none⟩ (.int .i64 4) = w4 at *
      clear y5 z5 y33 y33b M
      have y0 : w4.cell? ⟨gq, 0, none⟩ = some (.int .i64 t) := M3.out.blk.cell 0
      have y1 : w4.cell? ⟨gq, 1, none⟩ = some (.int .i64 s) := M3.out.blk.cell 1
      have y2 : w4.cell? ⟨gq, 2, none⟩ = some (.int .i64 l) := M3.out.blk.cell 2
      have y3 : w4.cell? ⟨gq, 3, none⟩ = some (.int .i64 b) := M3.out.blk.cell 3
      have y4 : w4.cell? ⟨gq, 4, none⟩ = some (.int .i64 tn) := M3.out.blk.cell 4
      have q9 : w4.cell? ⟨gq, 9, none⟩ = some (.int .i64 t) := M3.out.blk.cell 9
      have f9 : w4.frozen? ⟨gq, 9, none⟩ = false := M3.out.blk.frozen 9
      have q10 : w4.cell? ⟨gq, 10, none⟩ = some (.int .i64 s) := M3.out.blk.cell 10
      have f10 : w4.frozen? ⟨gq, 10, none⟩ = false := M3.out.blk.frozen 10
      have q11 : w4.cell? ⟨gq, 11, none⟩ = some (.int .i64 l) := M3.out.blk.cell 11
      have f11 : w4.frozen? ⟨gq, 11, none⟩ = false := M3.out.blk.frozen 11
      have q12 : w4.cell? ⟨gq, 12, none⟩ = some (.int .i64 b) := M3.out.blk.cell 12
      have f12 : w4.frozen? ⟨gq, 12, none⟩ = false := M3.out.blk.frozen 12
      have q13 : w4.cell? ⟨gq, 13, none⟩ = some (.int .i64 tn) := M3.out.blk.cell 13
      have f13 : w4.frozen? ⟨gq, 13, none⟩ = false := M3.out.blk.frozen 13
      have q14 : w4.cell? ⟨gq, 14, none⟩ = some (.int .i64 pop.line) := M3.out.blk.cell 14
      have f14 : w4.frozen? ⟨gq, 14, none⟩ = false := M3.out.blk.frozen 14
      have q15 : w4.cell? ⟨gq, 15, none⟩ = some (.int .u64 pop.top) := M3.out.blk.cell 15
      have f15 : w4.frozen? ⟨gq, 15, none⟩ = false := M3.out.blk.frozen 15
      have q16 : w4.cell? ⟨gq, 16, none⟩ = some (.int .u64 pop.nx) := M3.out.blk.cell 16
      have f16 : w4.frozen? ⟨gq, 16, none⟩ = false := M3.out.blk.frozen 16
      have q17 : w4.cell? ⟨gq, 17, none⟩ = some (.int .i64 pop.slot) := M3.out.blk.cell 17
      have f17 : w4.frozen? ⟨gq, 17, none⟩ = false := M3.out.blk.frozen 17
      have M4 : Hid (RG B w (((((((((w4.setCell ⟨gq, 9, none⟩ (.int .i64 t)).setCell ⟨gq, 9 + 1, none⟩ (.int .i64 s)).setCell ⟨gq, 9 + 2, none⟩ (.int .i64 l)).setCell ⟨gq, 9 + 3, none⟩ (.int .i64 b)).setCell ⟨gq, 9 + 4, none⟩ (.int .i64 tn)).setCell ⟨gq, 9 + 5, none⟩ (.int .i64 1)).setCell ⟨gq, 9 + 6, none⟩ (.int .u64 0)).setCell ⟨gq, 9 + 7, none⟩ (.int .u64 0)).setCell ⟨gq, 9 + 8, none⟩ (.int .i64 (-1))).drew g R rv gq 70 (RTk.cells ⟨4, slot, gen, empty, ⟨1, 0, 0, -1⟩, adv, rcl'⟩ t s l b tn) st') := Lib.hid (((((((((M3.out.put 9 (.int .i64 t)).put 10 (.int .i64 s)).put 11 (.int .i64 l)).put 12 (.int .i64 b)).put 13 (.int .i64 tn)).put 14 (.int .i64 1)).put 15 (.int .u64 0)).put 16 (.int .u64 0)).put 17 (.int .i64 (-1)) |>.ext ((Ext.refl _).drew))
      have HP4 : Hid (((((((((((w4.setCell ⟨gq, 9, none⟩ (.int .i64 t)).setCell ⟨gq, 9 + 1, none⟩ (.int .i64 s)).setCell ⟨gq, 9 + 2, none⟩ (.int .i64 l)).setCell ⟨gq, 9 + 3, none⟩ (.int .i64 b)).setCell ⟨gq, 9 + 4, none⟩ (.int .i64 tn)).setCell ⟨gq, 9 + 5, none⟩ (.int .i64 1)).setCell ⟨gq, 9 + 6, none⟩ (.int .u64 0)).setCell ⟨gq, 9 + 7, none⟩ (.int .u64 0)).setCell ⟨gq, 9 + 8, none⟩ (.int .i64 (-1))).drew.cell? ⟨gq, 0, none⟩ = some (.int .i64 t) ∧ (((((((((w4.setCell ⟨gq, 9, none⟩ (.int .i64 t)).setCell ⟨gq, 9 + 1, none⟩ (.int .i64 s)).setCell ⟨gq, 9 + 2, none⟩ (.int .i64 l)).setCell ⟨gq, 9 + 3, none⟩ (.int .i64 b)).setCell ⟨gq, 9 + 4, none⟩ (.int .i64 tn)).setCell ⟨gq, 9 + 5, none⟩ (.int .i64 1)).setCell ⟨gq, 9 + 6, none⟩ (.int .u64 0)).setCell ⟨gq, 9 + 7, none⟩ (.int .u64 0)).setCell ⟨gq, 9 + 8, none⟩ (.int .i64 (-1))).drew.cell? ⟨gq, 1, none⟩ = some (.int .i64 s) ∧ (((((((((w4.setCell ⟨gq, 9, none⟩ (.int .i64 t)).setCell ⟨gq, 9 + 1, none⟩ (.int .i64 s)).setCell ⟨gq, 9 + 2, none⟩ (.int .i64 l)).setCell ⟨gq, 9 + 3, none⟩ (.int .i64 b)).setCell ⟨gq, 9 + 4, none⟩ (.int .i64 tn)).setCell ⟨gq, 9 + 5, none⟩ (.int .i64 1)).setCell ⟨gq, 9 + 6, none⟩ (.int .u64 0)).setCell ⟨gq, 9 + 7, none⟩ (.int .u64 0)).setCell ⟨gq, 9 + 8, none⟩ (.int .i64 (-1))).drew.cell? ⟨gq, 2, none⟩ = some (.int .i64 l) ∧ (((((((((w4.setCell ⟨gq, 9, none⟩ (.int .i64 t)).setCell ⟨gq, 9 + 1, none⟩ (.int .i64 s)).setCell ⟨gq, 9 + 2, none⟩ (.int .i64 l)).setCell ⟨gq, 9 + 3, none⟩ (.int .i64 b)).setCell ⟨gq, 9 + 4, none⟩ (.int .i64 tn)).setCell ⟨gq, 9 + 5, none⟩ (.int .i64 1)).setCell ⟨gq, 9 + 6, none⟩ (.int .u64 0)).setCell ⟨gq, 9 + 7, none⟩ (.int .u64 0)).setCell ⟨gq, 9 + 8, none⟩ (.int .i64 (-1))).drew.cell? ⟨gq, 3, none⟩ = some (.int .i64 b)) ∧ (((((((((w4.setCell ⟨gq, 9, none⟩ (.int .i64 t)).setCell ⟨gq, 9 + 1, none⟩ (.int .i64 s)).setCell ⟨gq, 9 + 2, none⟩ (.int .i64 l)).setCell ⟨gq, 9 + 3, none⟩ (.int .i64 b)).setCell ⟨gq, 9 + 4, none⟩ (.int .i64 tn)).setCell ⟨gq, 9 + 5, none⟩ (.int .i64 1)).setCell ⟨gq, 9 + 6, none⟩ (.int .u64 0)).setCell ⟨gq, 9 + 7, none⟩ (.int .u64 0)).setCell ⟨gq, 9 + 8, none⟩ (.int .i64 (-1))).drew.cell? ⟨gq, 4, none⟩ = some (.int .i64 tn)) := Lib.hid ⟨⟨M4.out.blk.cell 0, M4.out.blk.cell 1, M4.out.blk.cell 2, M4.out.blk.cell 3⟩, M4.out.blk.cell 4⟩
      go_wp2_with fail
      go_region_held3 (fun W => (W.cell? ⟨gq, 0, none⟩ = some (.int .i64 t) ∧ W.cell? ⟨gq, 1, none⟩ = some (.int .i64 s) ∧ W.cell? ⟨gq, 2, none⟩ = some (.int .i64 l) ∧ W.cell? ⟨gq, 3, none⟩ = some (.int .i64 b)) ∧ W.cell? ⟨gq, 4, none⟩ = some (.int .i64 tn)) (first | (with_reducible exact HP4.out) | go_keep) (fail)
      generalize (((((((((w4.setCell ⟨gq, 9, none⟩ (.int .i64 t)).setCell ⟨gq, 9 + 1, none⟩ (.int .i64 s)).setCell ⟨gq, 9 + 2, none⟩ (.int .i64 l)).setCell ⟨gq, 9 + 3, none⟩ (.int .i64 b)).setCell ⟨gq, 9 + 4, none⟩ (.int .i64 tn)).setCell ⟨gq, 9 + 5, none⟩ (.int .i64 1)).setCell ⟨gq, 9 + 6, none⟩ (.int .u64 0)).setCell ⟨gq, 9 + 7, none⟩ (.int .u64 0)).setCell ⟨gq, 9 + 8, none⟩ (.int .i64 (-1))).drew = w5 at *
      clear HP4
      go_wp2_with fail
      (first | (refine bodyPost_ret (results_none rfl _ _ _) rfl ?_) | (refine bodyPost_end (results_none rfl _ _ _) rfl ?_))
      exact ⟨⟨_, rfl⟩, rcl', st', by rw [if_pos L1.out, if_pos L1.out]; exact M4.out, PP.out⟩
    · have e1 : (ln == 0) = false := by rw [beq_eq_false_iff_ne]; exact hl
      have e0 : decide (ln = 0) = false := by simpa using hl
      have L1 : Hid (¬ rcl'.line = 0) := Lib.hid (by rw [HLn.out]; exact hl)
      clear hl
      go_wp2_with fail
      (first | (refine bodyPost_ret (results_none rfl _ _ _) rfl ?_) | (refine bodyPost_end (results_none rfl _ _ _) rfl ?_))
      exact ⟨⟨_, rfl⟩, rcl', st', by rw [if_neg L1.out, if_neg L1.out]; exact M.out, PP.out⟩
set_option maxRecDepth 100000 in
set_option maxHeartbeats 8000000 in
theorem rtk_5 (h : IsRMem B w g R rv st) (sd : Sound st.dev) (hc : Calm st) (c : CfgN t s l b) (ok : Okay (layF t s l b)) (ho : ¬ rfoot g R rv gq) (hb : Blk w gq 70 (RTk.cells ⟨5, slot, gen, empty, pop, adv, rcl⟩ t s l b tn)) (hs : 0 ≤ slot ∧ slot < 4294967295) :
    Calls Tryz.prog 20 #[.pointer (some ⟨gq, 0, none⟩), .pointer (some ⟨g, 0, none⟩)] w (RPost B w g R rv gq 70 (RTk.cells ⟨6, slot, gen, empty, pop, adv, rcl⟩ t s l b tn) (st.store tn (intN (layF t s l b) tn) (slot + 1))) := by
  have M0 := Lib.hid (RG.of h hb ho)
  have HAt := Lib.hid (fun W => r12at_ok c tn W)
  have har := intN_rng ok tn
  have HL : Hid (∀ W, RG B w W g R rv gq 70 (RTk.cells ⟨5, slot, gen, empty, pop, adv, rcl⟩ t s l b tn) st → Calls Tryz.prog 50 #[.pointer (some ⟨g, 0, none⟩), .int .i64 2, .int .i64 tn, .int .i64 (intN (layF t s l b) tn), .int .u64 0, .int .u64 (slot + 1)] W fun e w' => (∃ u, e = .returned u) ∧ RG B w w' g R rv gq 70 (RTk.cells ⟨5, slot, gen, empty, pop, adv, rcl⟩ t s l b tn) (st.store tn (intN (layF t s l b) tn) (slot + 1))) := Lib.hid (fun W m => (refStore7v m.ref sd hc tn _ 0 _ har.1 har.2).mono (by rintro e w' ⟨rfl, r1, f1⟩; exact ⟨⟨_, rfl⟩, m.to r1 f1⟩))
  generalize st.store tn (intN (layF t s l b) tn) (slot + 1) = st1 at *
  have HP : Hid (∀ W s', RG B w W g R rv gq 70 (RTk.cells ⟨5, slot, gen, empty, pop, adv, rcl⟩ t s l b tn) s' → (W.cell? ⟨gq, 0, none⟩ = some (.int .i64 t) ∧ W.cell? ⟨gq, 1, none⟩ = some (.int .i64 s) ∧ W.cell? ⟨gq, 2, none⟩ = some (.int .i64 l) ∧ W.cell? ⟨gq, 3, none⟩ = some (.int .i64 b)) ∧ W.cell? ⟨gq, 4, none⟩ = some (.int .i64 tn) ∧ W.cell? ⟨gq, 6, none⟩ = some (.int .i64 slot)) := Lib.hid (fun W s' m => ⟨⟨m.blk.cell 0, m.blk.cell 1, m.blk.cell 2, m.blk.cell 3⟩, m.blk.cell 4, m.blk.cell 6⟩)
  have ws : IntKind.i64.wrap (slot + 1) = slot + 1 := i64w _ (by omega) (by omega)
  have wu : IntKind.u64.wrap (slot + 1) = slot + 1 := u64w _ (by omega) (by omega)
  generalize intN (layF t s l b) tn = ia at *
  have HP0 : Hid (∀ W s', RG B w W g R rv gq 70 (RTk.cells ⟨5, slot, gen, empty, pop, adv, rcl⟩ t s l b tn) s' → (W.cell? ⟨gq, 0, none⟩ = some (.int .i64 t) ∧ W.cell? ⟨gq, 1, none⟩ = some (.int .i64 s) ∧ W.cell? ⟨gq, 2, none⟩ = some (.int .i64 l) ∧ W.cell? ⟨gq, 3, none⟩ = some (.int .i64 b)) ∧ W.cell? ⟨gq, 4, none⟩ = some (.int .i64 tn)) := Lib.hid (fun W s' m => ⟨⟨m.blk.cell 0, m.blk.cell 1, m.blk.cell 2, m.blk.cell 3⟩, m.blk.cell 4⟩)
  have M := Lib.hid (M0.out.ext ((Ext.refl w).drew))
  have c0 : w.cell? ⟨gq, 0, none⟩ = some (.int .i64 t) := hb.cell 0
  have c1 : w.cell? ⟨gq, 1, none⟩ = some (.int .i64 s) := hb.cell 1
  have c2 : w.cell? ⟨gq, 2, none⟩ = some (.int .i64 l) := hb.cell 2
  have c3 : w.cell? ⟨gq, 3, none⟩ = some (.int .i64 b) := hb.cell 3
  have c4 : w.cell? ⟨gq, 4, none⟩ = some (.int .i64 tn) := hb.cell 4
  clear h hb M0 sd hc har hs
  go_enter Tryz.func20, Tryz.ntmps20
  go_wp2_with fail
  go_region_held3 (fun W => (W.cell? ⟨gq, 0, none⟩ = some (.int .i64 t) ∧ W.cell? ⟨gq, 1, none⟩ = some (.int .i64 s) ∧ W.cell? ⟨gq, 2, none⟩ = some (.int .i64 l) ∧ W.cell? ⟨gq, 3, none⟩ = some (.int .i64 b)) ∧ W.cell? ⟨gq, 4, none⟩ = some (.int .i64 tn)) (first | exact HP0.out _ _ M.out | go_keep) (first
    | (go_at_call 92; refine (HAt.out _).mono ?_; rintro e w1 ⟨rfl, x1⟩; replace M := Lib.hid (M.out.ext x1); clear x1))
  all_goals
    have p5 : w1.cell? ⟨gq, 5, none⟩ = some (.int .i64 5) := M.out.blk.cell 5
    skip
    have y0 : w1.cell? ⟨gq, 0, none⟩ = some (.int .i64 t) := M.out.blk.cell 0
    have y1 : w1.cell? ⟨gq, 1, none⟩ = some (.int .i64 s) := M.out.blk.cell 1
    have y2 : w1.cell? ⟨gq, 2, none⟩ = some (.int .i64 l) := M.out.blk.cell 2
    have y3 : w1.cell? ⟨gq, 3, none⟩ = some (.int .i64 b) := M.out.blk.cell 3
    have y4 : w1.cell? ⟨gq, 4, none⟩ = some (.int .i64 tn) := M.out.blk.cell 4
    have y6 : w1.cell? ⟨gq, 6, none⟩ = some (.int .i64 slot) := M.out.blk.cell 6
    have HM := Lib.hid M.out
    replace M := Lib.hid (HM.out.ext ((Ext.refl w1).drew))
    clear HM
    go_wp2_with fail
    go_region_held3 (fun W => (W.cell? ⟨gq, 0, none⟩ = some (.int .i64 t) ∧ W.cell? ⟨gq, 1, none⟩ = some (.int .i64 s) ∧ W.cell? ⟨gq, 2, none⟩ = some (.int .i64 l) ∧ W.cell? ⟨gq, 3, none⟩ = some (.int .i64 b)) ∧ W.cell? ⟨gq, 4, none⟩ = some (.int .i64 tn) ∧ W.cell? ⟨gq, 6, none⟩ = some (.int .i64 slot)) (first | exact HP.out _ _ M.out | go_keep) (first
      | (go_at_call 50; refine (HL.out _ M.out).mono ?_; rintro e w2 ⟨⟨u, rfl⟩, m1⟩; replace M := Lib.hid m1; clear m1))
    all_goals
      have y5 : w2.cell? ⟨gq, 5, none⟩ = some (.int .i64 5) := M.out.blk.cell 5
      have z5 : w2.frozen? ⟨gq, 5, none⟩ = false := M.out.blk.frozen 5
      have M2 : Hid (RG B w (w2.setCell ⟨gq, 5, none⟩ (.int .i64 6)) g R rv gq 70 (RTk.cells ⟨6, slot, gen, empty, pop, adv, rcl⟩ t s l b tn) st1) := Lib.hid (M.out.put 5 (.int .i64 6))
      go_wp2_with fail
      (first | (refine bodyPost_ret (results_none rfl _ _ _) rfl ?_) | (refine bodyPost_end (results_none rfl _ _ _) rfl ?_))
      exact ⟨⟨_, rfl⟩, M2.out⟩
set_option maxRecDepth 100000 in
set_option maxHeartbeats 8000000 in
theorem rtk_6 (h : IsRMem B w g R rv st) (sd : Sound st.dev) (hc : Calm st) (c : CfgN t s l b) (ok : Okay (layF t s l b)) (ho : ¬ rfoot g R rv gq) (hb : Blk w gq 70 (RTk.cells ⟨6, slot, gen, empty, pop, adv, rcl⟩ t s l b tn)) {i : Nat} (hi : i ≤ 1000) (fine : Fine i st.dev) :
    Calls Tryz.prog 20 #[.pointer (some ⟨gq, 0, none⟩), .pointer (some ⟨g, 0, none⟩)] w (RPost B w g R rv gq 70 (RTk.cells ⟨7, slot, gen, empty, pop, adv, rcl⟩ t s l b tn) (st.flush tn (intN (layF t s l b) tn))) := by
  have M0 := Lib.hid (RG.of h hb ho)
  have HAt := Lib.hid (fun W => r12at_ok c tn W)
  have har := intN_rng ok tn
  have HL : Hid (∀ W, RG B w W g R rv gq 70 (RTk.cells ⟨6, slot, gen, empty, pop, adv, rcl⟩ t s l b tn) st → Calls Tryz.prog 50 #[.pointer (some ⟨g, 0, none⟩), .int .i64 4, .int .i64 tn, .int .i64 (intN (layF t s l b) tn), .int .u64 0, .int .u64 (0)] W fun e w' => (∃ u, e = .returned u) ∧ RG B w w' g R rv gq 70 (RTk.cells ⟨6, slot, gen, empty, pop, adv, rcl⟩ t s l b tn) (st.flush tn (intN (layF t s l b) tn))) := Lib.hid (fun W m => (refFlush7 m.ref sd hi fine hc tn _ 0 0 har.1 har.2).mono (by rintro e w' ⟨⟨u, rfl⟩, r1, f1⟩; exact ⟨⟨_, rfl⟩, m.to r1 f1⟩))
  generalize st.flush tn (intN (layF t s l b) tn) = st1 at *
  generalize intN (layF t s l b) tn = ia at *
  have HP0 : Hid (∀ W s', RG B w W g R rv gq 70 (RTk.cells ⟨6, slot, gen, empty, pop, adv, rcl⟩ t s l b tn) s' → (W.cell? ⟨gq, 0, none⟩ = some (.int .i64 t) ∧ W.cell? ⟨gq, 1, none⟩ = some (.int .i64 s) ∧ W.cell? ⟨gq, 2, none⟩ = some (.int .i64 l) ∧ W.cell? ⟨gq, 3, none⟩ = some (.int .i64 b)) ∧ W.cell? ⟨gq, 4, none⟩ = some (.int .i64 tn)) := Lib.hid (fun W s' m => ⟨⟨m.blk.cell 0, m.blk.cell 1, m.blk.cell 2, m.blk.cell 3⟩, m.blk.cell 4⟩)
  have M := Lib.hid (M0.out.ext ((Ext.refl w).drew))
  have c0 : w.cell? ⟨gq, 0, none⟩ = some (.int .i64 t) := hb.cell 0
  have c1 : w.cell? ⟨gq, 1, none⟩ = some (.int .i64 s) := hb.cell 1
  have c2 : w.cell? ⟨gq, 2, none⟩ = some (.int .i64 l) := hb.cell 2
  have c3 : w.cell? ⟨gq, 3, none⟩ = some (.int .i64 b) := hb.cell 3
  have c4 : w.cell? ⟨gq, 4, none⟩ = some (.int .i64 tn) := hb.cell 4
  clear h hb M0 sd hc har hi fine
  go_enter Tryz.func20, Tryz.ntmps20
  go_wp2_with fail
  go_region_held3 (fun W => (W.cell? ⟨gq, 0, none⟩ = some (.int .i64 t) ∧ W.cell? ⟨gq, 1, none⟩ = some (.int .i64 s) ∧ W.cell? ⟨gq, 2, none⟩ = some (.int .i64 l) ∧ W.cell? ⟨gq, 3, none⟩ = some (.int .i64 b)) ∧ W.cell? ⟨gq, 4, none⟩ = some (.int .i64 tn)) (first | exact HP0.out _ _ M.out | go_keep) (first
    | (go_at_call 92; refine (HAt.out _).mono ?_; rintro e w1 ⟨rfl, x1⟩; replace M := Lib.hid (M.out.ext x1); clear x1))
  all_goals
    have p5 : w1.cell? ⟨gq, 5, none⟩ = some (.int .i64 6) := M.out.blk.cell 5
    have y4 : w1.cell? ⟨gq, 4, none⟩ = some (.int .i64 tn) := M.out.blk.cell 4
    go_wp2_with fail
    refine (HL.out _ M.out).mono ?_
    rintro e w2 ⟨⟨u, rfl⟩, m1⟩
    replace M := Lib.hid m1
    clear m1 p5 y4
    have y5 : w2.cell? ⟨gq, 5, none⟩ = some (.int .i64 6) := M.out.blk.cell 5
    have z5 : w2.frozen? ⟨gq, 5, none⟩ = false := M.out.blk.frozen 5
    have M2 : Hid (RG B w (w2.setCell ⟨gq, 5, none⟩ (.int .i64 7)) g R rv gq 70 (RTk.cells ⟨7, slot, gen, empty, pop, adv, rcl⟩ t s l b tn) st1) := Lib.hid (M.out.put 5 (.int .i64 7))
    go_wp2_with fail
    (first | (refine bodyPost_ret (results_none rfl _ _ _) rfl ?_) | (refine bodyPost_end (results_none rfl _ _ _) rfl ?_))
    exact ⟨⟨_, rfl⟩, M2.out⟩
set_option maxRecDepth 100000 in
set_option maxHeartbeats 8000000 in
theorem rtk_7 (h : IsRMem B w g R rv st) (sd : Sound st.dev) (hc : Calm st) (c : CfgN t s l b) (ok : Okay (layF t s l b)) (ho : ¬ rfoot g R rv gq) (hb : Blk w gq 70 (RTk.cells ⟨7, slot, gen, empty, pop, adv, rcl⟩ t s l b tn)) {i : Nat} (hi : i ≤ 1000) (fine : Fine i st.dev) :
    Calls Tryz.prog 20 #[.pointer (some ⟨gq, 0, none⟩), .pointer (some ⟨g, 0, none⟩)] w (RPost B w g R rv gq 70 (RTk.cells ⟨8, slot, gen, empty, pop, adv, rcl⟩ t s l b tn) (st.fence tn)) := by
  have M0 := Lib.hid (RG.of h hb ho)
  have HAt := Lib.hid (fun W => r12at_ok c tn W)
  have HL : Hid (∀ W, RG B w W g R rv gq 70 (RTk.cells ⟨7, slot, gen, empty, pop, adv, rcl⟩ t s l b tn) st → Calls Tryz.prog 50 #[.pointer (some ⟨g, 0, none⟩), .int .i64 5, .int .i64 tn, .int .i64 (0), .int .u64 0, .int .u64 (0)] W fun e w' => (∃ u, e = .returned u) ∧ RG B w w' g R rv gq 70 (RTk.cells ⟨7, slot, gen, empty, pop, adv, rcl⟩ t s l b tn) (st.fence tn)) := Lib.hid (fun W m => (refFence7 m.ref sd hi fine hc tn 0 0 0 (by decide) (by decide)).mono (by rintro e w' ⟨⟨u, rfl⟩, r1, f1⟩; exact ⟨⟨_, rfl⟩, m.to r1 f1⟩))
  generalize st.fence tn = st1 at *
  generalize intN (layF t s l b) tn = ia at *
  have HP0 : Hid (∀ W s', RG B w W g R rv gq 70 (RTk.cells ⟨7, slot, gen, empty, pop, adv, rcl⟩ t s l b tn) s' → (W.cell? ⟨gq, 0, none⟩ = some (.int .i64 t) ∧ W.cell? ⟨gq, 1, none⟩ = some (.int .i64 s) ∧ W.cell? ⟨gq, 2, none⟩ = some (.int .i64 l) ∧ W.cell? ⟨gq, 3, none⟩ = some (.int .i64 b)) ∧ W.cell? ⟨gq, 4, none⟩ = some (.int .i64 tn)) := Lib.hid (fun W s' m => ⟨⟨m.blk.cell 0, m.blk.cell 1, m.blk.cell 2, m.blk.cell 3⟩, m.blk.cell 4⟩)
  have M := Lib.hid (M0.out.ext ((Ext.refl w).drew))
  have c0 : w.cell? ⟨gq, 0, none⟩ = some (.int .i64 t) := hb.cell 0
  have c1 : w.cell? ⟨gq, 1, none⟩ = some (.int .i64 s) := hb.cell 1
  have c2 : w.cell? ⟨gq, 2, none⟩ = some (.int .i64 l) := hb.cell 2
  have c3 : w.cell? ⟨gq, 3, none⟩ = some (.int .i64 b) := hb.cell 3
  have c4 : w.cell? ⟨gq, 4, none⟩ = some (.int .i64 tn) := hb.cell 4
  clear h hb M0 sd hc hi fine
  go_enter Tryz.func20, Tryz.ntmps20
  go_wp2_with fail
  go_region_held3 (fun W => (W.cell? ⟨gq, 0, none⟩ = some (.int .i64 t) ∧ W.cell? ⟨gq, 1, none⟩ = some (.int .i64 s) ∧ W.cell? ⟨gq, 2, none⟩ = some (.int .i64 l) ∧ W.cell? ⟨gq, 3, none⟩ = some (.int .i64 b)) ∧ W.cell? ⟨gq, 4, none⟩ = some (.int .i64 tn)) (first | exact HP0.out _ _ M.out | go_keep) (first
    | (go_at_call 92; refine (HAt.out _).mono ?_; rintro e w1 ⟨rfl, x1⟩; replace M := Lib.hid (M.out.ext x1); clear x1))
  all_goals
    have p5 : w1.cell? ⟨gq, 5, none⟩ = some (.int .i64 7) := M.out.blk.cell 5
    have y4 : w1.cell? ⟨gq, 4, none⟩ = some (.int .i64 tn) := M.out.blk.cell 4
    go_wp2_with fail
    refine (HL.out _ M.out).mono ?_
    rintro e w2 ⟨⟨u, rfl⟩, m1⟩
    replace M := Lib.hid m1
    clear m1 p5 y4
    have y5 : w2.cell? ⟨gq, 5, none⟩ = some (.int .i64 7) := M.out.blk.cell 5
    have z5 : w2.frozen? ⟨gq, 5, none⟩ = false := M.out.blk.frozen 5
    have M2 : Hid (RG B w (w2.setCell ⟨gq, 5, none⟩ (.int .i64 8)) g R rv gq 70 (RTk.cells ⟨8, slot, gen, empty, pop, adv, rcl⟩ t s l b tn) st1) := Lib.hid (M.out.put 5 (.int .i64 8))
    go_wp2_with fail
    (first | (refine bodyPost_ret (results_none rfl _ _ _) rfl ?_) | (refine bodyPost_end (results_none rfl _ _ _) rfl ?_))
    exact ⟨⟨_, rfl⟩, M2.out⟩
set_option maxRecDepth 100000 in
set_option maxHeartbeats 8000000 in
theorem rtk_8 (h : IsRMem B w g R rv st) (sd : Sound st.dev) (hc : Calm st) (c : CfgN t s l b) (ok : Okay (layF t s l b)) (ho : ¬ rfoot g R rv gq) (hb : Blk w gq 70 (RTk.cells ⟨8, slot, gen, empty, pop, adv, rcl⟩ t s l b tn))  :
    Calls Tryz.prog 20 #[.pointer (some ⟨gq, 0, none⟩), .pointer (some ⟨g, 0, none⟩)] w (RPost B w g R rv gq 70 (RTk.cells ⟨9, slot, (peekV st (genN (layF t s l b) slot)), empty, pop, adv, rcl⟩ t s l b tn) (st.load tn (genN (layF t s l b) slot))) := by
  have M0 := Lib.hid (RG.of h hb ho)
  have HAt := Lib.hid (fun W => r12at_ok c tn W)
  have har := genN_rng ok slot
  have HGn := Lib.hid (fun W => r12gen_ok c slot W)
  have HL : Hid (∀ W, RG B w W g R rv gq 70 (RTk.cells ⟨8, slot, gen, empty, pop, adv, rcl⟩ t s l b tn) st → Calls Tryz.prog 50 #[.pointer (some ⟨g, 0, none⟩), .int .i64 1, .int .i64 tn, .int .i64 (genN (layF t s l b) slot), .int .u64 0, .int .u64 (0)] W fun e w' => e = .returned (accV (st.load tn (genN (layF t s l b) slot)).last) ∧ RG B w w' g R rv gq 70 (RTk.cells ⟨8, slot, gen, empty, pop, adv, rcl⟩ t s l b tn) (st.load tn (genN (layF t s l b) slot))) := Lib.hid (fun W m => (refLoad7v m.ref sd hc tn _ 0 0 har.1 har.2).mono (by rintro e w' ⟨rfl, r1, f1⟩; exact ⟨rfl, m.to r1 f1⟩))
  obtain ⟨a1, a2, a3, a4, a5, ha⟩ := load_tells st tn (genN (layF t s l b) slot)
  rw [ha] at HL
  have hf3 := fun W => fldA3 a1 a2 a3 (peekV st (genN (layF t s l b) slot)) a4 a5 W
  generalize peekV st (genN (layF t s l b) slot) = v at *
  generalize st.load tn (genN (layF t s l b) slot) = st1 at *
  generalize genN (layF t s l b) slot = ga at *
  have HP : Hid (∀ W s', RG B w W g R rv gq 70 (RTk.cells ⟨8, slot, gen, empty, pop, adv, rcl⟩ t s l b tn) s' → (W.cell? ⟨gq, 0, none⟩ = some (.int .i64 t) ∧ W.cell? ⟨gq, 1, none⟩ = some (.int .i64 s) ∧ W.cell? ⟨gq, 2, none⟩ = some (.int .i64 l) ∧ W.cell? ⟨gq, 3, none⟩ = some (.int .i64 b)) ∧ W.cell? ⟨gq, 4, none⟩ = some (.int .i64 tn) ∧ W.cell? ⟨gq, 6, none⟩ = some (.int .i64 slot)) := Lib.hid (fun W s' m => ⟨⟨m.blk.cell 0, m.blk.cell 1, m.blk.cell 2, m.blk.cell 3⟩, m.blk.cell 4, m.blk.cell 6⟩)
  have HP2 : Hid (∀ W s' u, RG B w W g R rv gq 70 (RTk.cells ⟨8, slot, gen, empty, pop, adv, rcl⟩ t s l b tn) s' → ((W.setCell ⟨gq, 7, none⟩ u).cell? ⟨gq, 0, none⟩ = some (.int .i64 t) ∧ (W.setCell ⟨gq, 7, none⟩ u).cell? ⟨gq, 1, none⟩ = some (.int .i64 s) ∧ (W.setCell ⟨gq, 7, none⟩ u).cell? ⟨gq, 2, none⟩ = some (.int .i64 l) ∧ (W.setCell ⟨gq, 7, none⟩ u).cell? ⟨gq, 3, none⟩ = some (.int .i64 b)) ∧ (W.setCell ⟨gq, 7, none⟩ u).cell? ⟨gq, 4, none⟩ = some (.int .i64 tn) ∧ (W.setCell ⟨gq, 7, none⟩ u).cell? ⟨gq, 6, none⟩ = some (.int .i64 slot)) := Lib.hid (fun W s' u m => ⟨⟨(m.put 7 u).blk.cell 0, (m.put 7 u).blk.cell 1, (m.put 7 u).blk.cell 2, (m.put 7 u).blk.cell 3⟩, (m.put 7 u).blk.cell 4, (m.put 7 u).blk.cell 6⟩)
  generalize intN (layF t s l b) tn = ia at *
  have HP0 : Hid (∀ W s', RG B w W g R rv gq 70 (RTk.cells ⟨8, slot, gen, empty, pop, adv, rcl⟩ t s l b tn) s' → (W.cell? ⟨gq, 0, none⟩ = some (.int .i64 t) ∧ W.cell? ⟨gq, 1, none⟩ = some (.int .i64 s) ∧ W.cell? ⟨gq, 2, none⟩ = some (.int .i64 l) ∧ W.cell? ⟨gq, 3, none⟩ = some (.int .i64 b)) ∧ W.cell? ⟨gq, 4, none⟩ = some (.int .i64 tn)) := Lib.hid (fun W s' m => ⟨⟨m.blk.cell 0, m.blk.cell 1, m.blk.cell 2, m.blk.cell 3⟩, m.blk.cell 4⟩)
  have M := Lib.hid (M0.out.ext ((Ext.refl w).drew))
  have c0 : w.cell? ⟨gq, 0, none⟩ = some (.int .i64 t) := hb.cell 0
  have c1 : w.cell? ⟨gq, 1, none⟩ = some (.int .i64 s) := hb.cell 1
  have c2 : w.cell? ⟨gq, 2, none⟩ = some (.int .i64 l) := hb.cell 2
  have c3 : w.cell? ⟨gq, 3, none⟩ = some (.int .i64 b) := hb.cell 3
  have c4 : w.cell? ⟨gq, 4, none⟩ = some (.int .i64 tn) := hb.cell 4
  clear h hb M0 sd hc har ha
  go_enter Tryz.func20, Tryz.ntmps20
  go_wp2_with fail
  go_region_held3 (fun W => (W.cell? ⟨gq, 0, none⟩ = some (.int .i64 t) ∧ W.cell? ⟨gq, 1, none⟩ = some (.int .i64 s) ∧ W.cell? ⟨gq, 2, none⟩ = some (.int .i64 l) ∧ W.cell? ⟨gq, 3, none⟩ = some (.int .i64 b)) ∧ W.cell? ⟨gq, 4, none⟩ = some (.int .i64 tn)) (first | exact HP0.out _ _ M.out | go_keep) (first
    | (go_at_call 92; refine (HAt.out _).mono ?_; rintro e w1 ⟨rfl, x1⟩; replace M := Lib.hid (M.out.ext x1); clear x1))
  all_goals
    have p5 : w1.cell? ⟨gq, 5, none⟩ = some (.int .i64 8) := M.out.blk.cell 5
    have y0 : w1.cell? ⟨gq, 0, none⟩ = some (.int .i64 t) := M.out.blk.cell 0
    have y1 : w1.cell? ⟨gq, 1, none⟩ = some (.int .i64 s) := M.out.blk.cell 1
    have y2 : w1.cell? ⟨gq, 2, none⟩ = some (.int .i64 l) := M.out.blk.cell 2
    have y3 : w1.cell? ⟨gq, 3, none⟩ = some (.int .i64 b) := M.out.blk.cell 3
    have y4 : w1.cell? ⟨gq, 4, none⟩ = some (.int .i64 tn) := M.out.blk.cell 4
    have y6 : w1.cell? ⟨gq, 6, none⟩ = some (.int .i64 slot) := M.out.blk.cell 6
    have HM := Lib.hid M.out
    replace M := Lib.hid (HM.out.ext ((Ext.refl w1).drew))
    clear HM
    go_wp2_with fail
    go_region_held3 (fun W => (W.cell? ⟨gq, 0, none⟩ = some (.int .i64 t) ∧ W.cell? ⟨gq, 1, none⟩ = some (.int .i64 s) ∧ W.cell? ⟨gq, 2, none⟩ = some (.int .i64 l) ∧ W.cell? ⟨gq, 3, none⟩ = some (.int .i64 b)) ∧ W.cell? ⟨gq, 4, none⟩ = some (.int .i64 tn) ∧ W.cell? ⟨gq, 6, none⟩ = some (.int .i64 slot)) (first | exact HP.out _ _ M.out | exact HP2.out _ _ _ M.out | go_keep) (first
      | (go_at_call 92; refine (HGn.out _).mono ?_; rintro e w2 ⟨rfl, x1⟩; replace M := Lib.hid (M.out.ext x1); clear x1)
      | (go_at_call 50; refine (HL.out _ M.out).mono ?_; rintro e w2 ⟨rfl, m1⟩; replace M := Lib.hid m1; have y7 : w2.cell? ⟨gq, 7, none⟩ = some (.int .u64 gen) := M.out.blk.cell 7; have z7 : w2.frozen? ⟨gq, 7, none⟩ = false := M.out.blk.frozen 7; clear m1))
    all_goals
      have m2 : RG B w (w2.setCell ⟨gq, 7, none⟩ (.int .u64 v)) g R rv gq 70 (RTk.cells ⟨8, slot, v, empty, pop, adv, rcl⟩ t s l b tn) st1 := M.out.put 7 (.int .u64 v)
      have y5 : (w2.setCell ⟨gq, 7, none⟩ (.int .u64 v)).cell? ⟨gq, 5, none⟩ = some (.int .i64 8) := m2.blk.cell 5
      have z5 : (w2.setCell ⟨gq, 7, none⟩ (.int .u64 v)).frozen? ⟨gq, 5, none⟩ = false := m2.blk.frozen 5
      have M2 : Hid (RG B w ((w2.setCell ⟨gq, 7, none⟩ (.int .u64 v)).setCell ⟨gq, 5, none⟩ (.int .i64 9)) g R rv gq 70 (RTk.cells ⟨9, slot, v, empty, pop, adv, rcl⟩ t s l b tn) st1) := Lib.hid (m2.put 5 (.int .i64 9))
      clear m2
      go_wp2_with fail
      (first | (refine bodyPost_ret (results_none rfl _ _ _) rfl ?_) | (refine bodyPost_end (results_none rfl _ _ _) rfl ?_))
      exact ⟨⟨_, rfl⟩, M2.out⟩
set_option maxRecDepth 100000 in
set_option maxHeartbeats 8000000 in
theorem rtk_9 (h : IsRMem B w g R rv st) (sd : Sound st.dev) (hc : Calm st) (c : CfgN t s l b) (ok : Okay (layF t s l b)) (ho : ¬ rfoot g R rv gq) (hb : Blk w gq 70 (RTk.cells ⟨9, slot, gen, empty, pop, adv, rcl⟩ t s l b tn))  :
    Calls Tryz.prog 20 #[.pointer (some ⟨gq, 0, none⟩), .pointer (some ⟨g, 0, none⟩)] w (RPost B w g R rv gq 70 (RTk.cells ⟨0, slot, gen, empty, pop, adv, rcl⟩ t s l b tn) (st.store tn (genN (layF t s l b) slot) (IntKind.u64.wrap (gen + 1)))) := by
  have M0 := Lib.hid (RG.of h hb ho)
  have HAt := Lib.hid (fun W => r12at_ok c tn W)
  have har := genN_rng ok slot
  have HGn := Lib.hid (fun W => r12gen_ok c slot W)
  have HL : Hid (∀ W, RG B w W g R rv gq 70 (RTk.cells ⟨9, slot, gen, empty, pop, adv, rcl⟩ t s l b tn) st → Calls Tryz.prog 50 #[.pointer (some ⟨g, 0, none⟩), .int .i64 2, .int .i64 tn, .int .i64 (genN (layF t s l b) slot), .int .u64 0, .int .u64 (IntKind.u64.wrap (gen + 1))] W fun e w' => (∃ u, e = .returned u) ∧ RG B w w' g R rv gq 70 (RTk.cells ⟨9, slot, gen, empty, pop, adv, rcl⟩ t s l b tn) (st.store tn (genN (layF t s l b) slot) (IntKind.u64.wrap (gen + 1)))) := Lib.hid (fun W m => (refStore7v m.ref sd hc tn _ 0 _ har.1 har.2).mono (by rintro e w' ⟨rfl, r1, f1⟩; exact ⟨⟨_, rfl⟩, m.to r1 f1⟩))
  generalize st.store tn (genN (layF t s l b) slot) (IntKind.u64.wrap (gen + 1)) = st1 at *
  generalize genN (layF t s l b) slot = ga at *
  obtain ⟨gw, hgw⟩ : ∃ gw, IntKind.u64.wrap (gen + 1) = gw := ⟨_, rfl⟩
  rw [hgw] at HL
  have HP : Hid (∀ W s', RG B w W g R rv gq 70 (RTk.cells ⟨9, slot, gen, empty, pop, adv, rcl⟩ t s l b tn) s' → (W.cell? ⟨gq, 0, none⟩ = some (.int .i64 t) ∧ W.cell? ⟨gq, 1, none⟩ = some (.int .i64 s) ∧ W.cell? ⟨gq, 2, none⟩ = some (.int .i64 l) ∧ W.cell? ⟨gq, 3, none⟩ = some (.int .i64 b)) ∧ W.cell? ⟨gq, 4, none⟩ = some (.int .i64 tn) ∧ W.cell? ⟨gq, 6, none⟩ = some (.int .i64 slot) ∧ W.cell? ⟨gq, 7, none⟩ = some (.int .u64 gen)) := Lib.hid (fun W s' m => ⟨⟨m.blk.cell 0, m.blk.cell 1, m.blk.cell 2, m.blk.cell 3⟩, m.blk.cell 4, m.blk.cell 6, m.blk.cell 7⟩)
  generalize intN (layF t s l b) tn = ia at *
  have HP0 : Hid (∀ W s', RG B w W g R rv gq 70 (RTk.cells ⟨9, slot, gen, empty, pop, adv, rcl⟩ t s l b tn) s' → (W.cell? ⟨gq, 0, none⟩ = some (.int .i64 t) ∧ W.cell? ⟨gq, 1, none⟩ = some (.int .i64 s) ∧ W.cell? ⟨gq, 2, none⟩ = some (.int .i64 l) ∧ W.cell? ⟨gq, 3, none⟩ = some (.int .i64 b)) ∧ W.cell? ⟨gq, 4, none⟩ = some (.int .i64 tn)) := Lib.hid (fun W s' m => ⟨⟨m.blk.cell 0, m.blk.cell 1, m.blk.cell 2, m.blk.cell 3⟩, m.blk.cell 4⟩)
  have M := Lib.hid (M0.out.ext ((Ext.refl w).drew))
  have c0 : w.cell? ⟨gq, 0, none⟩ = some (.int .i64 t) := hb.cell 0
  have c1 : w.cell? ⟨gq, 1, none⟩ = some (.int .i64 s) := hb.cell 1
  have c2 : w.cell? ⟨gq, 2, none⟩ = some (.int .i64 l) := hb.cell 2
  have c3 : w.cell? ⟨gq, 3, none⟩ = some (.int .i64 b) := hb.cell 3
  have c4 : w.cell? ⟨gq, 4, none⟩ = some (.int .i64 tn) := hb.cell 4
  clear h hb M0 sd hc har
  go_enter Tryz.func20, Tryz.ntmps20
  go_wp2_with fail
  go_region_held3 (fun W => (W.cell? ⟨gq, 0, none⟩ = some (.int .i64 t) ∧ W.cell? ⟨gq, 1, none⟩ = some (.int .i64 s) ∧ W.cell? ⟨gq, 2, none⟩ = some (.int .i64 l) ∧ W.cell? ⟨gq, 3, none⟩ = some (.int .i64 b)) ∧ W.cell? ⟨gq, 4, none⟩ = some (.int .i64 tn)) (first | exact HP0.out _ _ M.out | go_keep) (first
    | (go_at_call 92; refine (HAt.out _).mono ?_; rintro e w1 ⟨rfl, x1⟩; replace M := Lib.hid (M.out.ext x1); clear x1))
  all_goals
    have p5 : w1.cell? ⟨gq, 5, none⟩ = some (.int .i64 9) := M.out.blk.cell 5
    have y0 : w1.cell? ⟨gq, 0, none⟩ = some (.int .i64 t) := M.out.blk.cell 0
    have y1 : w1.cell? ⟨gq, 1, none⟩ = some (.int .i64 s) := M.out.blk.cell 1
    have y2 : w1.cell? ⟨gq, 2, none⟩ = some (.int .i64 l) := M.out.blk.cell 2
    have y3 : w1.cell? ⟨gq, 3, none⟩ = some (.int .i64 b) := M.out.blk.cell 3
    have y4 : w1.cell? ⟨gq, 4, none⟩ = some (.int .i64 tn) := M.out.blk.cell 4
    have y6 : w1.cell? ⟨gq, 6, none⟩ = some (.int .i64 slot) := M.out.blk.cell 6
    have y7 : w1.cell? ⟨gq, 7, none⟩ = some (.int .u64 gen) := M.out.blk.cell 7
    have HM := Lib.hid M.out
    replace M := Lib.hid (HM.out.ext ((Ext.refl w1).drew))
    clear HM
    go_wp2_with fail
    go_region_held3 (fun W => (W.cell? ⟨gq, 0, none⟩ = some (.int .i64 t) ∧ W.cell? ⟨gq, 1, none⟩ = some (.int .i64 s) ∧ W.cell? ⟨gq, 2, none⟩ = some (.int .i64 l) ∧ W.cell? ⟨gq, 3, none⟩ = some (.int .i64 b)) ∧ W.cell? ⟨gq, 4, none⟩ = some (.int .i64 tn) ∧ W.cell? ⟨gq, 6, none⟩ = some (.int .i64 slot) ∧ W.cell? ⟨gq, 7, none⟩ = some (.int .u64 gen)) (first | exact HP.out _ _ M.out | go_keep) (first
      | (go_at_call 92; refine (HGn.out _).mono ?_; rintro e w2 ⟨rfl, x1⟩; replace M := Lib.hid (M.out.ext x1); clear x1)
      | (go_at_call 50; refine (HL.out _ M.out).mono ?_; rintro e w2 ⟨⟨u, rfl⟩, m1⟩; replace M := Lib.hid m1; clear m1))
    all_goals
      have y5 : w2.cell? ⟨gq, 5, none⟩ = some (.int .i64 9) := M.out.blk.cell 5
      have z5 : w2.frozen? ⟨gq, 5, none⟩ = false := M.out.blk.frozen 5
      have M2 : Hid (RG B w (w2.setCell ⟨gq, 5, none⟩ (.int .i64 0)) g R rv gq 70 (RTk.cells ⟨0, slot, gen, empty, pop, adv, rcl⟩ t s l b tn) st1) := Lib.hid (M.out.put 5 (.int .i64 0))
      go_wp2_with fail
      (first | (refine bodyPost_ret (results_none rfl _ _ _) rfl ?_) | (refine bodyPost_end (results_none rfl _ _ _) rfl ?_))
      exact ⟨⟨_, rfl⟩, M2.out⟩
end
end Go.Proofs.YtbicloceaddinaaGreat


/- A Take of the program beside the document's: what a step leaves of both. Conditions: those that each theorem names. -/
namespace Go.Proofs.YtbicloceaddinaaGreat
open Go.ChangeShapes Go.WideShapes Go.ChangeAt Go.RowKit
set_option linter.unusedVariables false
structure RelT (T L : Nat) (x : TkM) (r : RTk) : Prop where
  wf : x.Wf T L
  part : r.part = (x.part : Int)
  slot : r.slot = if x.part = 0 ∨ 5 ≤ x.part then toN x.pop.top else -1
  gen : r.gen = x.gen
  g64 : W64 r.gen
  empty : r.empty = if x.dry = true then x.empty else -1
  pop : x.part = 1 ∨ x.part = 4 → Rel x.pop r.pop
  adv1 : x.part = 1 → r.adv = ⟨2, 1, 0, false⟩
  adv : ∀ q, x.adv = some q → RelA T q.2 r.adv
  rec0 : x.rc = none → r.rcl = r110
  rel : ∀ q, x.rc = some q → Rel11 (L : Int) 0 0 (.rc q.1 q.2) r.rcl
  rng : I64 r.rcl.slot ∧ W64 r.rcl.now
theorem Rel.zero0 : Rel pm0 ⟨1, 0, 0, -1⟩ := ⟨PMs.wf0, ⟨Or.inr (Or.inl rfl), w64_0, w64_0⟩, rfl, rfl, fun (e : (0 : Int) = 2) => absurd e (by decide), rfl⟩
theorem RelT.zero (T L gu : Nat) : RelT T L ⟨1, gu, pm0, none, none, none, false, 0, 0⟩ rtk0 :=
  ⟨tkNew_wf, rfl, rfl, rfl, w64_0, rfl, fun _ => Rel.zero0, fun _ => rfl, fun q e => (by cases e), fun _ => rfl, fun q e => (by cases e), ⟨i64_0, w64_0⟩⟩
theorem RelT.partB {T L : Nat} {x : TkM} {r : RTk} (h : RelT T L x r) : (r.part == 0) = decide (x.part = 0) := by
  rw [h.part, Bool.eq_iff_iff, beq_iff_eq, decide_eq_true_eq]
  omega
theorem RelT.tookE {T L : Nat} {x : TkM} {r : RTk} (h : RelT T L x r) : (if r.part = 0 then r.slot else -1) = if x.part = 0 then toN x.pop.top else -1 := by
  by_cases h0 : x.part = 0
  · rw [if_pos h0, if_pos (by rw [h.part, h0]; rfl), h.slot, if_pos (Or.inl h0)]
  · rw [if_neg h0, if_neg (by rw [h.part]; omega)]
theorem RelT.recE {T L : Nat} {x : TkM} {r : RTk} (h : RelT T L x r) : x.holds = if (if x.pop.dn = true then toN x.pop.top else -1) = -1 then r.rcl.holds else (if x.pop.dn = true then toN x.pop.top else -1) := by
  unfold TkM.holds
  cases e : x.rc with
  | none => rw [h.rec0 e]; rfl
  | some q =>
    have h2 := (h.rel q e).holdsE
    rw [h2]
    rfl
theorem RelT.holdsE {T L : Nat} {x : TkM} {r : RTk} (h : RelT T L x r) : (if 5 ≤ r.part ∨ (r.part = 0 ∧ 0 ≤ r.slot) then r.slot else r.rcl.holds) = x.holds := by
  have hp := h.part
  have hs := h.slot
  have hr := h.recE
  rw [hr]
  have h9 := h.wf.part
  by_cases h5 : 5 ≤ x.part
  · have hw := h.wf.p5 h5
    rw [if_pos (Or.inr h5)] at hs
    rw [if_pos (Or.inl (by omega)), if_pos hw.1, if_neg (by omega), hs]
  · by_cases h0 : x.part = 0
    · have hd := h.wf.p0 h0
      rw [if_pos (Or.inl h0)] at hs
      rw [if_pos hd, ← hs]
      by_cases hn : r.slot = -1
      · rw [if_pos hn, if_neg (fun hh => hh.elim (fun a => by omega) (fun a => by omega))]
      · have hw := toN_rng h.wf.pop.top
        rw [if_neg hn, if_pos (Or.inr ⟨by omega, by omega⟩)]
    · rw [if_neg (fun hh => hh.elim (fun a => by omega) (fun a => by omega))]
      by_cases h14 : x.part = 1 ∨ x.part = 4
      · rw [h.wf.p14 h14]; simp
      · have hw := h.wf.p23 (by omega)
        rw [if_pos hw.1, if_pos hw.2]
/-- What a step of the document's Take leaves beside the program's. -/
def RTPost (B : Nat) (w : World) (g : Nat) (R : RefB) (rv : Value) (gq : Nat) (t s l b : Nat) (tn : Int) (x : TkM) (st : MSt) (e : Ending) (w' : World) : Prop :=
  (∃ u, e = .returned u) ∧ ∃ (r' : RTk) (st' : MSt), (∀ n1 n2, (tkS (layF t s l b) t tn x st n1 n2).2 = st' ∧ RelT t l (tkS (layF t s l b) t tn x st n1 n2).1 r') ∧ RG B w w' g R rv gq 70 (r'.cells t s l b tn) st'
section
variable {B : Nat} {w w0 : World} {g : Nat} {R : RefB} {rv : Value} {gq : Nat} {st : MSt} {t s l b : Nat} {tn : Int} {x : TkM} {r : RTk}
abbrev RTGoal (B : Nat) (w : World) (g : Nat) (R : RefB) (rv : Value) (gq : Nat) (t s l b : Nat) (tn : Int) (x : TkM) (st : MSt) : Prop :=
  Calls Tryz.prog 20 #[.pointer (some ⟨gq, 0, none⟩), .pointer (some ⟨g, 0, none⟩)] w (RTPost B w g R rv gq t s l b tn x st)
/-- The first Pop, and the second. -/
theorem rt_pop {part : Nat} (hpt : part = 1 ∨ part = 4) (hx : x.part = part) {n : Int} (hr : RelT t l x r) (h : IsRMem B w g R rv st) (sd : Sound st.dev) (hc : Calm st) (hcn : CalmN n st) (c : CfgN t s l b) (ok : Okay (layF t s l b)) (ho : ¬ rfoot g R rv gq) (h0l : 0 < l) (hb : Blk w gq 70 (r.cells t s l b tn)) (hU : ∀ a, W64 (peekV st a)) : RTGoal B w g R rv gq t s l b tn x st := by
  have hwf := fun n1 n2 => (tkS_wf (F := layF t s l b) (t := tn) (n1 := n1) (n2 := n2) rfl h0l hU hr.wf hcn).1
  have hpop := hr.pop (hx ▸ hpt)
  obtain ⟨e2, hrel⟩ := hpop.step (F := layF t s l b) (t := tn) (s := st) hU
  have hpw := hpop.rw
  obtain ⟨xp, gu, pop, av, adv, rc, dry, em, g0⟩ := x
  obtain ⟨rp, sl, gn, re, rpop, ra, rr⟩ := r
  simp only at hx
  subst hx
  obtain ⟨h1, h2, h3, h4, h5, h6, h7, h8, h9, h10, h11, h12⟩ := hr
  simp only at h2 h3 h4 h5 h6 h7 h8 h9 h10 h11 h12 e2 hrel hpw
  subst h2 h4 h6
  have hs1 : sl = -1 := by rw [h3, if_neg (by omega)]
  subst hs1
  have hS : ∀ W, RG B w W g R rv gq 70 (RTk.cells ⟨(xp : Int), -1, gn, if dry = true then em else -1, rpop, ra, rr⟩ t s l b tn) st → Calls Tryz.prog 93 #[.pointer (some ⟨gq, 0, none⟩), .pointer (some ⟨g, 0, none⟩)] W fun e w' => (∃ u, e = .returned u) ∧ ∃ (r' : RTk) (st' : MSt), (∀ n1 n2, (tkS (layF t s l b) t tn ⟨xp, gu, pop, av, adv, rc, dry, em, gn⟩ st n1 n2).2 = st' ∧ RelT t l (tkS (layF t s l b) t tn ⟨xp, gu, pop, av, adv, rc, dry, em, gn⟩ st n1 n2).1 r') ∧ RG B w w' g R rv gq 70 (r'.cells t s l b tn) st' := by
    intro W m
    refine (rtkPop m.ref sd hc c ok ho m.blk hpw hU).mono ?_
    rintro e w' ⟨⟨u, rfl⟩, rg⟩
    refine ⟨⟨_, rfl⟩, _, _, ?_, m.then rg.ref rg.blk rg.fr⟩
    intro n1 n2
    have hw2 := hwf n1 n2
    rw [e2]
    have hlb : (rpopS (layF t s l b) tn rpop st).1.line = if (popS (layF t s l b) tn pop st).1.dn = true then 0 else (popS (layF t s l b) tn pop st).1.part + 1 := hrel.line
    have hsl := hrel.slot
    have hdp := hrel.xw.part
    have htw := toN_rng hrel.xw.top
    rcases hpt with e | e
    · have e' : xp = 1 := e
      subst e'
      have e1 : tkS (layF t s l b) t tn ⟨1, gu, pop, av, adv, rc, dry, em, gn⟩ st n1 n2 = tk1 ⟨1, gu, pop, av, adv, rc, dry, em, gn⟩ (popS (layF t s l b) tn pop st) n1 n2 := rfl
      rw [e1] at hw2 ⊢
      generalize popS (layF t s l b) tn pop st = p at *
      generalize rpopS (layF t s l b) tn rpop st = q at *
      obtain ⟨p1, p2⟩ := p
      obtain ⟨q1, q2⟩ := q
      simp only at e2 hrel hlb hsl hdp htw hw2 ⊢
      have ha1 := h8 rfl
      have hrn := (h1.p1 rfl).1
      have han := (h1.p1 rfl).2
      simp only at hrn han
      subst hrn han
      have hr0 := h10 rfl
      subst ha1 hr0
      unfold tk1 at hw2 ⊢
      simp only at hw2 ⊢
      by_cases hd : p1.dn = false
      · rw [if_pos hd] at hw2 ⊢
        rw [if_pos (show ¬ q1.line = 0 by rw [hlb, if_neg (by rw [hd]; decide)]; rcases hdp with hh | hh | hh <;> omega)]
        exact ⟨(by first | trivial | rfl), hw2, rfl, rfl, rfl, h5, rfl, fun _ => hrel, fun _ => rfl, fun q e => (by cases e), fun _ => rfl, fun q e => (by cases e), h12⟩
      · have hd' : p1.dn = true := by simpa using hd
        rw [if_pos hd'] at hlb hsl
        rw [if_neg hd] at hw2 ⊢
        rw [if_neg (show ¬ ¬ q1.line = 0 by rw [hlb]; simp), hsl]
        by_cases hn : toN p1.top = -1
        · rw [if_pos hn] at hw2 ⊢
          rw [if_neg (show ¬ 0 ≤ toN p1.top by rw [hn]; decide), if_neg (show ¬ ((1 : Nat) : Int) = 4 by decide)]
          exact ⟨(by first | trivial | rfl), hw2, rfl, rfl, rfl, h5, rfl, fun hh => hh.elim (fun (e : (2 : Nat) = 1) => absurd e (by decide)) (fun (e : (2 : Nat) = 4) => absurd e (by decide)), fun (e : (2 : Nat) = 1) => absurd e (by decide), fun q e => (by injection e with e; subst e; exact RelA.zero t), fun e => (by cases e), fun q e => (by injection e with e; subst e; exact Rel11.new h0l 3 0 0 n2), h12⟩
        · rw [if_neg hn] at hw2 ⊢
          rw [if_pos (show 0 ≤ toN p1.top by omega)]
          exact ⟨(by first | trivial | rfl), hw2, rfl, rfl, rfl, h5, rfl, fun hh => hh.elim (fun (e : (5 : Nat) = 1) => absurd e (by decide)) (fun (e : (5 : Nat) = 4) => absurd e (by decide)), fun (e : (5 : Nat) = 1) => absurd e (by decide), fun q e => (by cases e), fun _ => rfl, fun q e => (by cases e), h12⟩
    · have e' : xp = 4 := e
      subst e'
      have e1 : tkS (layF t s l b) t tn ⟨4, gu, pop, av, adv, rc, dry, em, gn⟩ st n1 n2 = tk4 ⟨4, gu, pop, av, adv, rc, dry, em, gn⟩ (popS (layF t s l b) tn pop st) := rfl
      rw [e1] at hw2 ⊢
      generalize popS (layF t s l b) tn pop st = p at *
      generalize rpopS (layF t s l b) tn rpop st = q at *
      obtain ⟨p1, p2⟩ := p
      obtain ⟨q1, q2⟩ := q
      simp only at e2 hrel hlb hsl hdp htw hw2 ⊢
      unfold tk4 at hw2 ⊢
      simp only at hw2 ⊢
      by_cases hd : p1.dn = false
      · rw [if_pos hd] at hw2 ⊢
        rw [if_pos (show ¬ q1.line = 0 by rw [hlb, if_neg (by rw [hd]; decide)]; rcases hdp with hh | hh | hh <;> omega)]
        exact ⟨(by first | trivial | rfl), hw2, rfl, rfl, rfl, h5, rfl, fun _ => hrel, fun (e : (4 : Nat) = 1) => absurd e (by decide), h9, h10, h11, h12⟩
      · have hd' : p1.dn = true := by simpa using hd
        rw [if_pos hd'] at hlb hsl
        rw [if_neg hd] at hw2 ⊢
        rw [if_neg (show ¬ ¬ q1.line = 0 by rw [hlb]; simp), hsl]
        by_cases hn : toN p1.top = -1
        · rw [if_pos hn] at hw2 ⊢
          rw [if_neg (show ¬ 0 ≤ toN p1.top by rw [hn]; decide), if_pos (show ((4 : Nat) : Int) = 4 from rfl)]
          exact ⟨(by first | trivial | rfl), hw2, rfl, (by show (-1 : Int) = toN p1.top; rw [hn]), rfl, h5, rfl, fun hh => hh.elim (fun (e : (0 : Nat) = 1) => absurd e (by decide)) (fun (e : (0 : Nat) = 4) => absurd e (by decide)), fun (e : (0 : Nat) = 1) => absurd e (by decide), h9, h10, h11, h12⟩
        · rw [if_neg hn] at hw2 ⊢
          rw [if_pos (show 0 ≤ toN p1.top by omega)]
          exact ⟨(by first | trivial | rfl), hw2, rfl, rfl, rfl, h5, rfl, fun hh => hh.elim (fun (e : (5 : Nat) = 1) => absurd e (by decide)) (fun (e : (5 : Nat) = 4) => absurd e (by decide)), fun (e : (5 : Nat) = 1) => absurd e (by decide), h9, h10, h11, h12⟩
  rcases hpt with e | e
  · have e' : xp = 1 := e
    subst e'
    exact rtk_1 h sd hc c ok ho hb hS
  · have e' : xp = 4 := e
    subst e'
    exact rtk_4 h sd hc c ok ho hb hS
/-- The Advance. -/
theorem rt_adv (hx : x.part = 2) {n : Int} (hr : RelT t l x r) (h : IsRMem B w g R rv st) (sd : Sound st.dev) (hc : Calm st) (hcn : CalmN n st) (c : CfgN t s l b) (ht : t ≤ 1000) (ok : Okay (layF t s l b)) (ho : ¬ rfoot g R rv gq) (h0l : 0 < l) (hb : Blk w gq 70 (r.cells t s l b tn)) (hU : ∀ a, W64 (peekV st a)) : RTGoal B w g R rv gq t s l b tn x st := by
  have hwf := fun n1 n2 => (tkS_wf (F := layF t s l b) (t := tn) (n1 := n1) (n2 := n2) rfl h0l hU hr.wf hcn).1
  obtain ⟨ga, a, gr, ea, _, _, _, _⟩ := hr.wf.p2 hx
  have hra := hr.adv _ ea
  obtain ⟨xp, gu, pop, av, adv, rc, dry, em, g0⟩ := x
  obtain ⟨rp, sl, gn, re, rpop, ra, rr⟩ := r
  simp only at hx ea hra
  subst hx ea
  obtain ⟨h1, h2, h3, h4, h5, h6, h7, h8, h9, h10, h11, h12⟩ := hr
  simp only at h2 h3 h4 h5 h6 h7 h8 h9 h10 h11 h12
  have h2' : rp = 2 := h2
  subst h2' h4 h6
  have hs1 : sl = -1 := by rw [h3, if_neg (by omega)]
  subst hs1
  refine (rtk_2 (P := fun adv' st' => st' = (advS (layF t s l b) t tn a st).2 ∧ RelA t (advS (layF t s l b) t tn a st).1 adv') h sd hc c ok ho hb (fun W m => ?_)).mono ?_
  · obtain ⟨r', hrel, hrm⟩ := sadv_ok (w := W) (o := 18) (A := rtkA t s l b tn 2 (-1) gn (if dry = true then em else -1) ++ rpop.cells t s l b tn) (Z := rr.cells t s l b tn) (T := 70) hra m.ref sd hc c ht ok ⟨m.blk, rfl⟩ ho hU
    refine hrm.mono ?_
    rintro e w' ⟨⟨u, rfl⟩, rs⟩
    exact ⟨⟨_, rfl⟩, r', _, m.then rs.ref rs.blk.blk rs.fr, rfl, hrel⟩
  · rintro e w' ⟨⟨u, rfl⟩, adv', st', rg, rfl, hrel⟩
    refine ⟨⟨_, rfl⟩, _, _, ?_, rg⟩
    intro n1 n2
    have hw2 := hwf n1 n2
    have e1 : tkS (layF t s l b) t tn ⟨2, gu, pop, av, some (ga, a), rc, dry, em, gn⟩ st n1 n2 = tk2 ⟨2, gu, pop, av, some (ga, a), rc, dry, em, gn⟩ ga (advS (layF t s l b) t tn a st) := rfl
    rw [e1] at hw2 ⊢
    have hlb := hrel.lineB
    generalize advS (layF t s l b) t tn a st = p at *
    obtain ⟨p1, p2⟩ := p
    simp only at hlb hrel hw2 ⊢
    unfold tk2 at hw2 ⊢
    simp only at hw2 ⊢
    by_cases hd : p1.dn = false
    · rw [hd, beq_eq_false_iff_ne] at hlb
      rw [if_pos hd] at hw2 ⊢
      rw [if_neg (show ¬ adv'.line = 0 from hlb)]
      exact ⟨(by first | trivial | rfl), hw2, rfl, rfl, rfl, h5, rfl, fun hh => hh.elim (fun (e : (2 : Nat) = 1) => absurd e (by decide)) (fun (e : (2 : Nat) = 4) => absurd e (by decide)), fun (e : (2 : Nat) = 1) => absurd e (by decide), fun q e => (by injection e with e; subst e; exact hrel), h10, h11, h12⟩
    · have hd' : p1.dn = true := by simpa using hd
      rw [hd', beq_iff_eq] at hlb
      rw [if_neg hd] at hw2 ⊢
      rw [if_pos (show adv'.line = 0 from hlb)]
      exact ⟨(by first | trivial | rfl), hw2, rfl, rfl, rfl, h5, rfl, fun hh => hh.elim (fun (e : (3 : Nat) = 1) => absurd e (by decide)) (fun (e : (3 : Nat) = 4) => absurd e (by decide)), fun (e : (3 : Nat) = 1) => absurd e (by decide), fun q e => (by cases e), h10, h11, h12⟩
/-- The Reclaim. -/
theorem rt_rcl (hx : x.part = 3) {n : Int} {i : Nat} (hr : RelT t l x r) (h : IsRMem B w g R rv st) (sd : Sound st.dev) (hc : Calm st) (hi : i ≤ 1000) (fine : Fine i st.dev) (hcn : CalmN n st) (c : CfgN t s l b) (ok : Okay (layF t s l b)) (ho : ¬ rfoot g R rv gq) (h0l : 0 < l) (hl5 : l ≤ 500) (hb : Blk w gq 70 (r.cells t s l b tn)) (hU : ∀ a, W64 (peekV st a)) : RTGoal B w g R rv gq t s l b tn x st := by
  have hwf := fun n1 n2 => (tkS_wf (F := layF t s l b) (t := tn) (n1 := n1) (n2 := n2) rfl h0l hU hr.wf hcn).1
  obtain ⟨gr, y, ea, hy, hyd, _⟩ := hr.wf.p3 hx
  have hrr := hr.rel _ ea
  have hw11 := hrr.r11wf i64_0 hr.rng.1 hr.rng.2
  have hstep := fun gn => Rel11.step (gn := gn) (F := layF t s l b) (t := tn) rfl h0l hU hcn hrr
  have hrng := r11S_rng (F := layF t s l b) (tn := tn) hU hr.rng.1 hr.rng.2
  obtain ⟨xp, gu, pop, av, adv, rc, dry, em, g0⟩ := x
  obtain ⟨rp, sl, gn, re, rpop, ra, rr⟩ := r
  simp only at hx ea hrr hw11 hstep hrng
  subst hx ea
  obtain ⟨h1, h2, h3, h4, h5, h6, h7, h8, h9, h10, h11, h12⟩ := hr
  simp only at h2 h3 h4 h5 h6 h7 h8 h9 h10 h11 h12
  have h2' : rp = 3 := h2
  subst h2' h4 h6
  have hs1 : sl = -1 := by rw [h3, if_neg (by omega)]
  subst hs1
  refine (rtk_3 (P := fun rcl' st' => rcl' = (r11S (layF t s l b) tn rr st).1 ∧ st' = (r11S (layF t s l b) tn rr st).2) h sd hc c ok ho hb (fun W m => ?_)).mono ?_
  · refine (mach11_ok (w := W) (L := l) (o := 27) (A := rtkA t s l b tn 3 (-1) gn (if dry = true then em else -1) ++ (rpop.cells t s l b tn ++ ra.cells t s l b tn)) (Z := []) (T := 70) m.ref sd hc hi fine c ok ho hl5 hw11 ⟨by rw [List.append_nil]; exact m.blk, rfl⟩ hU).mono ?_
    rintro e w' ⟨⟨u, rfl⟩, rs⟩
    have hbk := rs.blk.blk
    rw [List.append_nil] at hbk
    exact ⟨⟨_, rfl⟩, _, _, m.then rs.ref hbk rs.fr, rfl, rfl⟩
  · rintro e w' ⟨⟨u, rfl⟩, rcl', st', rg, rfl, rfl⟩
    refine ⟨⟨_, rfl⟩, _, _, ?_, rg⟩
    intro n1 n2
    have hw2 := hwf n1 n2
    have e1 : tkS (layF t s l b) t tn ⟨3, gu, pop, av, adv, some (gr, y), dry, em, gn⟩ st n1 n2 = tk3 ⟨3, gu, pop, av, adv, some (gr, y), dry, em, gn⟩ gr (rcS (layF t s l b) tn y st n1) n2 := rfl
    rw [e1] at hw2 ⊢
    have hs := hstep n1
    have hlb := hs.2.lineB
    have hs1 : (r11S (layF t s l b) tn rr st).2 = (rcS (layF t s l b) tn y st n1).2 := hs.1
    have hs2 : Rel11 (l : Int) 0 0 (.rc gr (rcS (layF t s l b) tn y st n1).1) (r11S (layF t s l b) tn rr st).1 := hs.2
    have hlb2 : ((r11S (layF t s l b) tn rr st).1.line == 0) = (rcS (layF t s l b) tn y st n1).1.dn := hlb
    clear hs hlb hstep
    generalize rcS (layF t s l b) tn y st n1 = p at *
    generalize r11S (layF t s l b) tn rr st = q at *
    obtain ⟨p1, p2⟩ := p
    obtain ⟨q1, q2⟩ := q
    simp only at hs1 hs2 hlb2 hw2 hrng ⊢
    subst hs1
    unfold tk3 at hw2 ⊢
    simp only at hw2 ⊢
    by_cases hd : p1.dn = false
    · rw [hd, beq_eq_false_iff_ne] at hlb2
      rw [if_pos hd] at hw2 ⊢
      rw [if_neg hlb2, if_neg hlb2]
      exact ⟨(by first | trivial | rfl), hw2, rfl, rfl, rfl, h5, rfl, fun hh => hh.elim (fun (e : (3 : Nat) = 1) => absurd e (by decide)) (fun (e : (3 : Nat) = 4) => absurd e (by decide)), fun (e : (3 : Nat) = 1) => absurd e (by decide), h9, fun e => (by cases e), fun q e => (by injection e with e; subst e; exact hs2), hrng⟩
    · have hd' : p1.dn = true := by simpa using hd
      rw [hd', beq_iff_eq] at hlb2
      rw [if_neg hd] at hw2 ⊢
      rw [if_pos hlb2, if_pos hlb2]
      exact ⟨(by first | trivial | rfl), hw2, rfl, rfl, rfl, h5, rfl, fun _ => Rel.zero0, fun (e : (4 : Nat) = 1) => absurd e (by decide), h9, fun e => (by cases e), fun q e => (by injection e with e; subst e; exact hs2), hrng⟩
/-- **A STEP OF THE DOCUMENT'S TAKE.** -/
theorem rtake_ok {n : Int} {i : Nat} (hr : RelT t l x r) (h : IsRMem B w g R rv st) (sd : Sound st.dev) (hc : Calm st) (hi : i ≤ 1000) (fine : Fine i st.dev) (hcn : CalmN n st) (c : CfgN t s l b) (ht : t ≤ 1000) (ok : Okay (layF t s l b)) (ho : ¬ rfoot g R rv gq) (h0l : 0 < l) (hl5 : l ≤ 500) (hb : Blk w gq 70 (r.cells t s l b tn)) (hU : ∀ a, W64 (peekV st a)) : RTGoal B w g R rv gq t s l b tn x st := by
  have h9p := hr.wf.part
  have hcs : x.part = 0 ∨ (x.part = 1 ∨ x.part = 4) ∨ x.part = 2 ∨ x.part = 3 ∨ 5 ≤ x.part := by omega
  rcases hcs with e | e | e | e | e
  · have hwf := hr.wf
    obtain ⟨xp, gu, pop, av, adv, rc, dry, em, g0⟩ := x
    obtain ⟨rp, sl, gn, re, rpop, ra, rr⟩ := r
    have e' : xp = 0 := e
    subst e'
    have hp : rp = 0 := hr.part
    subst hp
    refine (rtk_0 h sd hc c ok ho hb).mono ?_
    rintro e w' ⟨hu, rg⟩
    exact ⟨hu, _, _, fun _ _ => ⟨rfl, hr⟩, rg⟩
  · exact rt_pop e rfl hr h sd hc hcn c ok ho h0l hb hU
  · exact rt_adv e hr h sd hc hcn c ht ok ho h0l hb hU
  · exact rt_rcl e hr h sd hc hi fine hcn c ok ho h0l hl5 hb hU
  · have hwf := fun n1 n2 => (tkS_wf (F := layF t s l b) (t := tn) (n1 := n1) (n2 := n2) rfl h0l hU hr.wf hcn).1
    have hp5 := hr.wf.p5 e
    have htr := toN_rng hr.wf.pop.top
    obtain ⟨xp, gu, pop, av, adv, rc, dry, em, g0⟩ := x
    obtain ⟨rp, sl, gn, re, rpop, ra, rr⟩ := r
    obtain ⟨h1, h2, h3, h4, h5, h6, h7, h8, h9, h10, h11, h12⟩ := hr
    simp only at e h9p hp5 htr h2 h3 h4 h5 h6 h7 h8 h9 h10 h11 h12
    rw [if_pos (Or.inr e)] at h3
    have hcs : xp = 5 ∨ xp = 6 ∨ xp = 7 ∨ xp = 8 ∨ xp = 9 := by omega
    subst h3 h4 h6
    rcases hcs with rfl | rfl | rfl | rfl | rfl
    · have h2' : rp = 5 := h2
      subst h2'
      refine (rtk_5 h sd hc c ok ho hb ⟨hp5.2, htr.2⟩).mono ?_
      rintro e w' ⟨hu, rg⟩
      refine ⟨hu, _, _, ?_, rg⟩
      intro n1 n2
      exact ⟨rfl, hwf n1 n2, rfl, rfl, rfl, h5, rfl, fun hh => hh.elim (fun (e : (6 : Nat) = 1) => absurd e (by decide)) (fun (e : (6 : Nat) = 4) => absurd e (by decide)), fun (e : (6 : Nat) = 1) => absurd e (by decide), h9, h10, h11, h12⟩
    · have h2' : rp = 6 := h2
      subst h2'
      refine (rtk_6 h sd hc c ok ho hb hi fine).mono ?_
      rintro e w' ⟨hu, rg⟩
      refine ⟨hu, _, _, ?_, rg⟩
      intro n1 n2
      exact ⟨rfl, hwf n1 n2, rfl, rfl, rfl, h5, rfl, fun hh => hh.elim (fun (e : (7 : Nat) = 1) => absurd e (by decide)) (fun (e : (7 : Nat) = 4) => absurd e (by decide)), fun (e : (7 : Nat) = 1) => absurd e (by decide), h9, h10, h11, h12⟩
    · have h2' : rp = 7 := h2
      subst h2'
      refine (rtk_7 h sd hc c ok ho hb hi fine).mono ?_
      rintro e w' ⟨hu, rg⟩
      refine ⟨hu, _, _, ?_, rg⟩
      intro n1 n2
      exact ⟨rfl, hwf n1 n2, rfl, rfl, rfl, h5, rfl, fun hh => hh.elim (fun (e : (8 : Nat) = 1) => absurd e (by decide)) (fun (e : (8 : Nat) = 4) => absurd e (by decide)), fun (e : (8 : Nat) = 1) => absurd e (by decide), h9, h10, h11, h12⟩
    · have h2' : rp = 8 := h2
      subst h2'
      refine (rtk_8 h sd hc c ok ho hb).mono ?_
      rintro e w' ⟨hu, rg⟩
      refine ⟨hu, _, _, ?_, rg⟩
      intro n1 n2
      exact ⟨rfl, hwf n1 n2, rfl, rfl, rfl, hU _, rfl, fun hh => hh.elim (fun (e : (9 : Nat) = 1) => absurd e (by decide)) (fun (e : (9 : Nat) = 4) => absurd e (by decide)), fun (e : (9 : Nat) = 1) => absurd e (by decide), h9, h10, h11, h12⟩
    · have h2' : rp = 9 := h2
      subst h2'
      refine (rtk_9 h sd hc c ok ho hb).mono ?_
      rintro e w' ⟨hu, rg⟩
      refine ⟨hu, _, _, ?_, rg⟩
      intro n1 n2
      exact ⟨rfl, hwf n1 n2, rfl, rfl, rfl, h5, rfl, fun hh => hh.elim (fun (e : (0 : Nat) = 1) => absurd e (by decide)) (fun (e : (0 : Nat) = 4) => absurd e (by decide)), fun (e : (0 : Nat) = 1) => absurd e (by decide), h9, h10, h11, h12⟩
end
end Go.Proofs.YtbicloceaddinaaGreat

