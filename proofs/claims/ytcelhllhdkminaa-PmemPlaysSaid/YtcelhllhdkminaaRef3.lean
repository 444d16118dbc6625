/- The document's device over the state of the program's, and the document's memory: New. Conditions: those that each theorem names. -/
import Derived.Test.YtcelhllhdkminaaRef2
import Derived.Test.YtcelhllhdkminaaPm6
namespace Go.Proofs.Ytcelhllhdkminaa
open Go.ChangeShapes Go.WideShapes Go.ChangeAt Go.RowKit
set_option linter.unusedVariables false
theorem RowE.mono {w : World} {B B' : Nat} {e : TypeId} {v : Value} {us : List Value} (h : RowE w B e v us) (hB : B' ≤ B) : RowE w B' e v us := by
  refine ⟨h.1, ?_⟩
  rcases h.2 with h2 | ⟨g, cap, cur, hv, hg, r⟩
  · exact Or.inl h2
  · exact Or.inr ⟨g, cap, cur, hv, Nat.le_trans hB hg, r⟩
theorem rows_mem {l : List Nat} {t : Nat} (h : t < l.length) : l.getD t 0 ∈ l := by
  rw [List.getD_eq_getElem?_getD, List.getElem?_eq_getElem h]
  exact List.getElem_mem h
section
variable {B n : Nat} {w w' : World} {R : RefB} {kept seen writes : List Int} {fl : Nat → Nat → Bool} {S : Nat → Prop}
theorem IsRef.fr (h : IsRef B w R n kept seen writes fl) (f : Fr S w w') (hS : ∀ b, R.foot b → ¬ S b) : IsRef B w' R n kept seen writes fl where
  blk := h.blk.fr f (hS _ (Or.inl rfl))
  kept := h.kept.fr f (fun b hb => hS b (Or.inr (Or.inl hb)))
  seen := h.seen.fr f (fun b hb => hS b (Or.inr (Or.inr (Or.inl hb))))
  writes := h.writes.fr f (fun b hb => hS b (Or.inr (Or.inr (Or.inr (Or.inl (by simpa [Value.ownBlock] using hb.symm))))))
  flr := h.flr.fr f (fun b hb => hS b (Or.inr (Or.inr (Or.inr (Or.inr (Or.inl hb))))))
  row := fun t ht => (h.row t ht).fr f (hS _ (Or.inr (Or.inr (Or.inr (Or.inr (Or.inr (rows_mem ht)))))))
  nd := h.nd
  ks := h.ks
  bg := h.bg
  br := h.br
theorem IsRef.ext (h : IsRef B w R n kept seen writes fl) (x : Ext w w') : IsRef B w' R n kept seen writes fl := h.fr (S := fun _ => False) (Fr.of_ext x) (fun _ _ hs => hs)
theorem IsRef.mono {B' : Nat} (h : IsRef B w R n kept seen writes fl) (hB : B' ≤ B) : IsRef B' w R n kept seen writes fl :=
  ⟨h.blk, h.kept.mono hB, h.seen.mono hB, h.writes.mono hB, h.flr.mono hB, h.row, h.nd, h.ks, Nat.le_trans hB h.bg, fun b hb => Nat.le_trans hB (h.br b hb)⟩
theorem IsRef.foot_lt (h : IsRef B w R n kept seen writes fl) {b : Nat} (hb : R.foot b) : B ≤ b ∧ b < w.heap.size := by
  rcases hb with rfl | hb | hb | rfl | hb | hb
  · exact ⟨h.bg, h.blk.lt⟩
  · exact World.ownsRow.lt h.kept b hb
  · exact World.ownsRow.lt h.seen b hb
  · exact World.ownsRow.lt h.writes _ rfl
  · exact h.flr.lt b hb
  · refine ⟨h.br b hb, ?_⟩
    obtain ⟨t, ht, rfl⟩ := List.getElem_of_mem hb
    have := (h.row t ht).lt
    rwa [List.getD_eq_getElem?_getD, List.getElem?_eq_getElem ht] at this
end
/-- Which lines a thread flushes. -/
def DSt.flag (s : DSt) (t p : Nat) : Bool := (s.fl.getD t []).contains (p : Int)
/-- The document's device, over the state of the program's. -/
structure RefAt (B : Nat) (w : World) (R : RefB) (s : DSt) : Prop where
  is : IsRef B w R s.n s.kept s.seen s.writes s.flag
  lr : R.rows.length = s.T
  lk : s.kept.length = s.n * 8
  ls : s.seen.length = s.n * 8
def DSt.new (m T : Nat) (zs : List Int) : DSt := ⟨m, T, zs, zs, List.replicate m 0, List.replicate T []⟩
theorem DSt.new_flag (m T : Nat) (zs : List Int) : (DSt.new m T zs).flag = fun _ _ => false := by
  funext t p
  unfold DSt.flag DSt.new
  simp only [List.getD_eq_getElem?_getD, List.getElem?_replicate]
  split <;> rfl
section
variable {B : Nat} {w w' : World} {R : RefB} {s : DSt} {S : Nat → Prop}
theorem RefAt.fr (h : RefAt B w R s) (f : Fr S w w') (hS : ∀ b, R.foot b → ¬ S b) : RefAt B w' R s := ⟨h.is.fr f hS, h.lr, h.lk, h.ls⟩
theorem RefAt.ext (h : RefAt B w R s) (x : Ext w w') : RefAt B w' R s := ⟨h.is.ext x, h.lr, h.lk, h.ls⟩
theorem RefAt.mono {B' : Nat} (h : RefAt B w R s) (hB : B' ≤ B) : RefAt B' w R s := ⟨h.is.mono hB, h.lr, h.lk, h.ls⟩
theorem RefAt.new {m T : Nat} {zs : List Int} (h : IsRef B w R m zs zs (List.replicate m 0) (fun _ _ => false)) (hr : R.rows.length = T) (hl : zs.length = m * 8) : RefAt B w R (DSt.new m T zs) :=
  ⟨by rw [DSt.new_flag]; exact h, hr, hl, hl⟩
end
/-- What a memory of the document's has. -/
def rfoot (g : Nat) (R : RefB) (pv : Value) (b : Nat) : Prop := b = g ∨ pv.ownBlock = some b ∨ R.foot b
structure IsRMem (B : Nat) (w : World) (g : Nat) (R : RefB) (pv : Value) (s : MSt) : Prop where
  bg : B ≤ g
  blk : Blk w g 48 (memCells R.ptr pv s)
  pas : Row w B 31 .u64 pv s.pas
  dev : RefAt B w R s.dev
  pk : ∀ b, pv.ownBlock = some b → R.vk.ownBlock ≠ some b ∧ R.vs.ownBlock ≠ some b
  lp : s.pas.length ≤ 262144
section
variable {B g : Nat} {w w' : World} {R : RefB} {pv : Value} {s : MSt} {S : Nat → Prop}
theorem IsRMem.fr (h : IsRMem B w g R pv s) (f : Fr S w w') (hS : ∀ b, rfoot g R pv b → ¬ S b) : IsRMem B w' g R pv s :=
  ⟨h.bg, h.blk.fr f (hS _ (Or.inl rfl)), h.pas.fr f (fun b hb => hS b (Or.inr (Or.inl hb))), h.dev.fr f (fun b hb => hS b (Or.inr (Or.inr hb))), h.pk, h.lp⟩
theorem IsRMem.ext (h : IsRMem B w g R pv s) (x : Ext w w') : IsRMem B w' g R pv s := h.fr (S := fun _ => False) (Fr.of_ext x) (fun _ _ hs => hs)
theorem IsRMem.foot_lt (h : IsRMem B w g R pv s) {b : Nat} (hb : rfoot g R pv b) : B ≤ b ∧ b < w.heap.size := by
  rcases hb with rfl | hb | hb
  · exact ⟨h.bg, h.blk.lt⟩
  · exact World.ownsRow.lt h.pas b hb
  · exact h.dev.is.foot_lt hb
/-- Nothing of it has turned, though more is there. -/
theorem IsRMem.kept (h : IsRMem B w g R pv s) (f : Fr (fun b => ¬ rfoot g R pv b) w w') : IsRMem B w' g R pv s := h.fr f (fun b hb hs => hs hb)
theorem IsRMem.made {d : DSt} {n : Nat} (hd : RefAt B w R d) (hp : Row w B 31 .u64 pv (List.replicate n 0)) (hB : B ≤ w.heap.size) (pk : ∀ b, pv.ownBlock = some b → R.vk.ownBlock ≠ some b ∧ R.vs.ownBlock ≠ some b) (hn : n ≤ 262144) :
    IsRMem B (w.alloc (.cells #[R.ptr, pv, .int .i64 0, .int .i64 0, .int .i64 0, .int .i64 0, .int .i64 0, .int .u64 0, .int .u64 0, .bool false] 48)) w.heap.size R pv (MSt.new d n) := by
  have x := (Ext.refl w).alloc (.cells #[R.ptr, pv, .int .i64 0, .int .i64 0, .int .i64 0, .int .i64 0, .int .i64 0, .int .u64 0, .int .u64 0, .bool false] 48)
  exact ⟨hB, Blk.new w _ [R.ptr, pv, .int .i64 0, .int .i64 0, .int .i64 0, .int .i64 0, .int .i64 0, .int .u64 0, .int .u64 0, .bool false], hp.ext x, hd.ext x, pk, by simp [MSt.new]; exact hn⟩
end
def RMemNew (w : World) (s : MSt) (e : Ending) (w' : World) : Prop := ∃ g R pv, e = .returned (.pointer (some ⟨g, 0, none⟩)) ∧ IsRMem w.heap.size w' g R pv s ∧ Ext w w'
theorem RMemNew.first {w w1 : World} {R : RefB} {m T n : Nat} {zs : List Int} (hl : zs.length = m * 8) (hr : R.rows.length = T) (hn : n ≤ 262144) (h : IsRef w.heap.size w1 R m zs zs (List.replicate m 0) (fun _ _ => false)) (x : Ext w w1) :
    RMemNew w (MSt.new (DSt.new m T zs) n) (.returned (.pointer (some ⟨w1.heap.size + 1, 0, none⟩))) ((w1.alloc (.cells (madeCells #[.int .u64 0] n) 31)).alloc (.cells #[R.ptr, .slice (some ⟨w1.heap.size, 0, none⟩) n n, .int .i64 0, .int .i64 0, .int .i64 0, .int .i64 0, .int .i64 0, .int .u64 0, .int .u64 0, .bool false] 48)) := by
  have hp := Row.made w1 31 n n .u64 (Nat.le_refl _) (by omega)
  rw [Nat.mul_one] at hp
  have y := (Ext.refl w1).alloc (.cells (madeCells #[.int .u64 0] n) 31)
  have hM := IsRMem.made (RefAt.new (h.ext y) hr hl) (hp.mono x.size) (x.trans y).size (fun b hb => by
    have e : w1.heap.size = b := by simpa [Value.ownBlock] using hb
    subst e
    exact ⟨fun hk => by have := (World.ownsRow.lt h.kept _ hk).2; omega, fun hk => by have := (World.ownsRow.lt h.seen _ hk).2; omega⟩) hn
  have hsz : (w1.alloc (.cells (madeCells #[.int .u64 0] n) 31)).heap.size = w1.heap.size + 1 := by simp
  rw [hsz] at hM
  exact ⟨_, _, _, rfl, hM, (x.trans y).alloc _⟩
theorem RMemNew.second {w w1 : World} {R : RefB} {m T n : Nat} {zs : List Int} (hl : zs.length = m * 8) (hr : R.rows.length = T) (hn : n ≤ 262144) (h : IsRef (w.heap.size + 1) w1 R m zs zs (List.replicate m 0) (fun _ _ => false)) (x : Ext (w.alloc (.cells (madeCells #[.int .u64 0] n) 31)) w1) :
    RMemNew w (MSt.new (DSt.new m T zs) n) (.returned (.pointer (some ⟨w1.heap.size, 0, none⟩))) (w1.alloc (.cells #[R.ptr, .slice (some ⟨w.heap.size, 0, none⟩) n n, .int .i64 0, .int .i64 0, .int .i64 0, .int .i64 0, .int .i64 0, .int .u64 0, .int .u64 0, .bool false] 48)) := by
  have hp := Row.made w 31 n n .u64 (Nat.le_refl _) (by omega)
  rw [Nat.mul_one] at hp
  have y := (Ext.refl w).alloc (.cells (madeCells #[.int .u64 0] n) 31)
  have hM := IsRMem.made (RefAt.new (h.mono (Nat.le_succ _)) hr hl) (hp.ext x) (y.trans x).size (fun b hb => by
    have e : w.heap.size = b := by simpa [Value.ownBlock] using hb
    subst e
    exact ⟨fun hk => by have := (World.ownsRow.lt h.kept _ hk).1; omega, fun hk => by have := (World.ownsRow.lt h.seen _ hk).1; omega⟩) hn
  exact ⟨_, _, _, rfl, hM, (y.trans x).alloc _⟩
set_option maxRecDepth 100000 in
set_option maxHeartbeats 2000000 in
theorem refNew_ok (w : World) (A : Option Addr) (N m c T n : Nat) (zs : List Int) (hN : m * 8 = N) (N2 : N ≤ 2400) (m0 : 0 < m) (hl : zs.length = N) (hz : Lim zs 18446744073709551616) (hA : Ints w .u64 A zs) (T0 : 0 < T) (T1 : T ≤ 64) (hn : n ≤ 262144) :
    Calls Try.prog 38 #[.slice A N c, .int .i64 (T : Int), .int .i64 (n : Int)] w (RMemNew w (MSt.new (DSt.new m T zs) n)) := by
  have HO := Lib.hid (fun (W : World) (x : Ext w W) => refOpen_ok W A N m c T zs hN N2 m0 hl hz (hA.ext x) T0 T1)
  have hmk := fun W => make_words n n (Nat.le_refl _) (by omega) W
  have H1 := Lib.hid (fun (w1 : World) (R : RefB) (hr : R.rows.length = T) => RMemNew.first (w := w) (w1 := w1) (R := R) (m := m) (T := T) (n := n) (zs := zs) (by omega) hr hn)
  have H2 := Lib.hid (fun (w1 : World) (R : RefB) (hr : R.rows.length = T) => RMemNew.second (w := w) (w1 := w1) (R := R) (m := m) (T := T) (n := n) (zs := zs) (by omega) hr hn)
  have hwn : IntKind.i64.wrap (n : Int) = (n : Int) := IntWalk.i64_in _ (by omega)
  simp only [Nat.mul_one] at hmk
  clear hA hz hN hl
  go_enter Try.func38, Try.ntmps38
  go_wp2_with fail
  go_region_with (go_at_call 74; refine (HO.out _ (by first | exact (Ext.refl w).drew | exact ((Ext.refl w).drew).alloc _ | exact ((Ext.refl w).alloc _).drew | exact (((Ext.refl w).alloc _).alloc _).drew)).mono ?_; rintro e w1 ⟨R, rfl, hr, hR, x1⟩; replace hr := Lib.hid hr; replace hR := Lib.hid hR; replace x1 := Lib.hid x1; simp only [RefB.ptr])
  all_goals
    go_wp2_with fail
    go_ret
    first
      | exact H1.out w1 R hr.out hR.out (((Ext.refl w).drew).trans x1.out)
      | exact H2.out w1 R hr.out (hR.out.mono (by simp)) (((Ext.refl (w.alloc (.cells (madeCells #[.int .u64 0] n) 31))).drew).trans x1.out)
      | exact H2.out w1 R hr.out (hR.out.mono (by simp [World.drew])) ((show Ext (w.alloc (.cells (madeCells #[.int .u64 0] n) 31)) (w.drew.alloc (.cells (madeCells #[.int .u64 0] n) 31)) from ⟨rfl, rfl, rfl, Nat.le_refl _, fun _ _ => rfl⟩).trans x1.out)
end Go.Proofs.Ytcelhllhdkminaa
