/- Layer 8: pairs that are read, keys, find. Conditions: those that each theorem names. -/
import Derived.Test.YthbngenjcgclgaaFr
import Derived.Laws.StructEq
import Derived.Laws.EntriesVeiled
namespace Go.Proofs.Ythbngenjcgclgaa
open Go.ChangeShapes Go.WideShapes Go.ChangeAt Go.RowKit
set_option linter.unusedVariables false
abbrev Pr := Int × Int
/-- Pairs, read at an address. -/
def PAt (w : World) (A : Option Addr) (ps : List Pr) : Prop := 0 < ps.length → ∃ ad, A = some ad ∧ ad.block < w.heap.size ∧ ∀ i, i < ps.length → w.cell? (ad.add (i * 2)) = some (.int .u32 (ps.getD i (0, 0)).1) ∧ w.cell? ⟨(ad.add (i * 2)).block, (ad.add (i * 2)).off + 1, none⟩ = some (.int .u32 (ps.getD i (0, 0)).2)
theorem PAt.ext {w w' : World} {A : Option Addr} {ps : List Pr} (h : PAt w A ps) (x : Ext w w') : PAt w' A ps := fun h0 => by
  obtain ⟨ad, rfl, hb, hc⟩ := h h0
  refine ⟨ad, rfl, Nat.lt_of_lt_of_le hb x.size, fun i hi => ?_⟩
  obtain ⟨c0, c1⟩ := hc i hi
  have e' : w'.heap[(ad.add (i * 2)).block]? = w.heap[(ad.add (i * 2)).block]? := by rw [add_block]; exact x.block ad.block hb
  have kk : ∀ q : Addr, q.block = (ad.add (i * 2)).block → w'.cell? q = w.cell? q := fun q hq => World.cell?_of_block (by rw [hq]; exact e')
  exact ⟨(by refine Eq.trans (kk _ ?_) c0; rfl), (by refine Eq.trans (kk _ ?_) c1; rfl)⟩
theorem keyOf_ok (k v : Int) (w : World) : Calls Try.prog 16 #[.agg #[.int .u32 k, .int .u32 v]] w fun e w' => e = .returned (.int .u32 k) ∧ Ext w w' := by
  go_enter Try.func16, Try.ntmps16
  go_wp2
  go_ret
  exact ⟨rfl, by first | exact Ext.refl w | exact (Ext.refl w).alloc _⟩
theorem itself_ok (k : Int) (w : World) : Calls Try.prog 14 #[.int .u32 k] w fun e w' => e = .returned (.int .u32 k) ∧ w = w' := by
  go_enter Try.func14, Try.ntmps14
  go_wp2
  go_ret
  exact ⟨rfl, rfl⟩
/-- The first pair of a key. -/
def findP : List Pr → Int → Pr
  | [], _ => (0, 0)
  | p :: l, k => if p.1 = k then p else findP l k
def hasP : List Pr → Int → Bool
  | [], _ => false
  | p :: l, k => if p.1 = k then true else hasP l k
theorem find_at : ∀ (l : List Pr) (k : Int) (i : Nat), i < l.length → (∀ j, j < i → (l.getD j (0, 0)).1 ≠ k) → (l.getD i (0, 0)).1 = k → findP l k = l.getD i (0, 0) ∧ hasP l k = true
  | [], _, _, h, _, _ => absurd h (by simp)
  | p :: l, k, 0, _, _, h => by
    have h' : p.1 = k := h
    unfold findP hasP
    rw [if_pos h', if_pos h']
    exact ⟨rfl, rfl⟩
  | p :: l, k, i + 1, h, hn, he => by
    have h0 : ¬ p.1 = k := hn 0 (by omega)
    unfold findP hasP
    rw [if_neg h0, if_neg h0]
    exact find_at l k i (by simpa using h) (fun j hj => hn (j + 1) (by omega)) he
theorem find_none : ∀ (l : List Pr) (k : Int), (∀ j, j < l.length → (l.getD j (0, 0)).1 ≠ k) → findP l k = (0, 0) ∧ hasP l k = false
  | [], _, _ => ⟨rfl, rfl⟩
  | p :: l, k, hn => by
    have h0 : ¬ p.1 = k := hn 0 (by simp)
    unfold findP hasP
    rw [if_neg h0, if_neg h0]
    exact find_none l k (fun j hj => hn (j + 1) (by simpa using hj))
set_option maxRecDepth 100000 in
set_option maxHeartbeats 2000000 in
theorem findP_ok (w : World) (A : Option Addr) (n c : Nat) (ps : List Pr) (key : Int) (hl : ps.length = n) (hn : n ≤ 1000000) (h : PAt w A ps) :
    Calls Try.prog 29 #[.slice A n c, .int .u32 key, .func (.func 16) #[] #[]] w fun e w' => e = .returned (.tuple #[.agg #[.int .u32 (findP ps key).1, .int .u32 (findP ps key).2], .bool (hasP ps key)]) ∧ Ext w w' := by
  have HP := Lib.hid h
  have HL := Lib.hid hl
  have b0 := Blk.new w 46 [.int .u32 0, .int .u32 0]
  have HB : Hid (∀ W, Ext (w.alloc (.cells #[.int .u32 0, .int .u32 0] 46)) W → Blk W w.heap.size 46 [.int .u32 0, .int .u32 0]) := Lib.hid (fun W x => b0.ext x)
  clear h hl b0
  go_enter Try.func29, Try.ntmps29
  go_wp2_with fail
  go_loopw [13] (fun i wr => ∃ k : Nat, k ≤ n ∧ i = .int .i64 k ∧ Ext (w.alloc (.cells #[.int .u32 0, .int .u32 0] 46)) wr ∧ ∀ j, j < k → (ps.getD j (0, 0)).1 ≠ key) (fun i _ => n - (intOf i).toNat)
  case atStart => exact ⟨0, Nat.zero_le _, rfl, Ext.refl _, fun j hj => absurd hj (by omega)⟩
  case round =>
    obtain ⟨k, hk, rfl, xk, hne⟩ := hrel
    have XK := Lib.hid xk
    have NE := Lib.hid hne
    have hb := HB.out wr xk
    have y0 : wr.cell? ⟨w.heap.size, 0, none⟩ = some (.int .u32 0) := hb.cell 0
    have y1 : wr.cell? ⟨w.heap.size, 1, none⟩ = some (.int .u32 0) := hb.cell 1
    have z0 : wr.frozen? ⟨w.heap.size, 0, none⟩ = false := hb.frozen 0
    have z1 : wr.frozen? ⟨w.heap.size, 1, none⟩ = false := hb.frozen 1
    have hlt0 := hb.lt
    have hne0 : ¬ w.heap.size = wr.heap.size := by omega
    have HBB := Lib.hid hb
    clear xk hne hb
    by_cases hlt : k < n
    · have v1 : decide (k < n) = true := by simp; omega
      have hll := HL.out
      obtain ⟨ad, hA, hbl, hc⟩ := (HP.out.ext (((Ext.refl w).alloc _).trans XK.out)) (by omega)
      obtain ⟨q0, q1⟩ := hc k (by omega)
      generalize hz : ps.getD k (0, 0) = z at *
      have HZ := Lib.hid hz
      obtain ⟨za, zb⟩ := z
      simp only at q0 q1
      clear hc hll hz
      subst hA
      have b9 := Blk.new wr 46 [.int .u32 za, .int .u32 zb]
      have B9 := Lib.hid b9
      clear b9
      go_wp2_with fail
      refine (keyOf_ok za zb _).mono ?_
      rintro e w2 ⟨rfl, x2⟩
      have b9 := B9.out.ext x2
      have b6 := (HBB.out.ext ((Ext.refl wr).alloc _)).ext x2
      have X2 := Lib.hid x2
      have B6 := Lib.hid b6
      clear y0 y1 z0 z1 q0 q1 hlt0 hne0 x2 B9 HBB
      have k0 : w2.cell? ⟨wr.heap.size, 0, none⟩ = some (.int .u32 za) := b9.cell 0
      have k1 : w2.cell? ⟨wr.heap.size, 1, none⟩ = some (.int .u32 zb) := b9.cell 1
      have y0 : w2.cell? ⟨w.heap.size, 0, none⟩ = some (.int .u32 0) := b6.cell 0
      have y1 : w2.cell? ⟨w.heap.size, 1, none⟩ = some (.int .u32 0) := b6.cell 1
      have z0 : w2.frozen? ⟨w.heap.size, 0, none⟩ = false := b6.frozen 0
      have z1 : w2.frozen? ⟨w.heap.size, 1, none⟩ = false := b6.frozen 1
      clear b9 b6
      by_cases he : za = key
      · subst he
        go_wp2_with fail
        have L5 : Blk ((w2.setCell ⟨w.heap.size, 0, none⟩ (.int .u32 za)).setCell ⟨w.heap.size, 1, none⟩ (.int .u32 zb)) w.heap.size 46 [.int .u32 za, .int .u32 zb] := (B6.out.set 0 (.int .u32 za)).set 1 (.int .u32 zb)
        have XX : Hid (Ext w ((w2.setCell ⟨w.heap.size, 0, none⟩ (.int .u32 za)).setCell ⟨w.heap.size, 1, none⟩ (.int .u32 zb))) := Lib.hid (((((Ext.refl w).alloc _).trans (XK.out.trans (((Ext.refl wr).alloc _).trans X2.out))).setCell (p := ⟨w.heap.size, 0, none⟩) (Nat.le_refl _) _).setCell (p := ⟨w.heap.size, 1, none⟩) (Nat.le_refl _) _)
        obtain ⟨f1, f2⟩ := find_at ps za k (by rw [HL.out]; exact hlt) NE.out (by rw [HZ.out])
        rw [f1, f2, HZ.out]
        clear f1 f2
        generalize (w2.setCell ⟨w.heap.size, 0, none⟩ (.int .u32 za)).setCell ⟨w.heap.size, 1, none⟩ (.int .u32 zb) = W5 at *
        have r0 : W5.cell? ⟨w.heap.size, 0, none⟩ = some (.int .u32 za) := L5.cell 0
        have r1 : W5.cell? ⟨w.heap.size, 1, none⟩ = some (.int .u32 zb) := L5.cell 1
        exact bodyPost_ret (v := .tuple #[.agg #[.int .u32 za, .int .u32 zb], .bool true]) (by simp [results, Try.results29, go_sem, r0, r1]) rfl ⟨rfl, XX.out⟩
      · have he2 : (za == key) = false := by simp [he]
        have he3 : decide (za = key) = false := by simp [he]
        go_wp2_with fail
        go_roundw
        case rel =>
          refine ⟨k + 1, by omega, by go_num, XK.out.trans (((Ext.refl wr).alloc _).trans X2.out), fun j hj => ?_⟩
          by_cases hjk : j < k
          · exact NE.out j hjk
          · obtain rfl : j = k := by omega
            rw [HZ.out]
            exact he
        case measure => simp [intOf]; omega
    · have v1 : decide (k < n) = false := by simp; omega
      obtain rfl : k = n := by omega
      go_wp2_with fail
      have L5 : Blk (((wr.setCell ⟨w.heap.size, 0, none⟩ (.int .u32 0)).setCell ⟨w.heap.size, 1, none⟩ (.int .u32 0)).alloc (.cells #[.int .u32 0, .int .u32 0] 46)) w.heap.size 46 [.int .u32 0, .int .u32 0] := ((HBB.out.set 0 (.int .u32 0)).set 1 (.int .u32 0)).ext ((Ext.refl _).alloc _)
      have XX : Hid (Ext w (((wr.setCell ⟨w.heap.size, 0, none⟩ (.int .u32 0)).setCell ⟨w.heap.size, 1, none⟩ (.int .u32 0)).alloc (.cells #[.int .u32 0, .int .u32 0] 46))) := Lib.hid ((((((Ext.refl w).alloc _).trans XK.out).setCell (p := ⟨w.heap.size, 0, none⟩) (Nat.le_refl _) _).setCell (p := ⟨w.heap.size, 1, none⟩) (Nat.le_refl _) _).alloc _)
      obtain ⟨f1, f2⟩ := find_none ps key (by rw [HL.out]; exact NE.out)
      rw [f1, f2]
      clear f1 f2
      generalize (((wr.setCell ⟨w.heap.size, 0, none⟩ (.int .u32 0)).setCell ⟨w.heap.size, 1, none⟩ (.int .u32 0)).alloc (.cells #[.int .u32 0, .int .u32 0] 46)) = W5 at *
      have r0 : W5.cell? ⟨w.heap.size, 0, none⟩ = some (.int .u32 0) := L5.cell 0
      have r1 : W5.cell? ⟨w.heap.size, 1, none⟩ = some (.int .u32 0) := L5.cell 1
      exact bodyPost_ret (v := .tuple #[.agg #[.int .u32 0, .int .u32 0], .bool false]) (by simp [results, Try.results29, go_sem, r0, r1]) rfl ⟨rfl, XX.out⟩
end Go.Proofs.Ythbngenjcgclgaa
