/- Package free: the slots of the free list, and the document's. Conditions: those that each theorem names. -/
import Derived.Test.YtbicloceaddinaaGreatKFreeA
import Derived.Test.YtbicloceaddinaaGreatKGr
import Derived.Test.YtbicloceaddinaaGreatKAt
namespace Go.Proofs.YtbicloceaddinaaGreat
open Go.ChangeShapes Go.WideShapes Go.ChangeAt Go.RowKit
set_option linter.unusedVariables false
def nextS (F : Nat → Int) (s : MSt) (cur : Int) : Int := toN (peekV s (aft F cur))
section
variable {Q : Nat → Prop} {wb w0 w : World} {gm gl : Nat} {dv pv : Value} {s : MSt} {F : Nat → Int}
end
end Go.Proofs.YtbicloceaddinaaGreat


/- The document's slots of the free list. Conditions: those that each theorem names. -/
namespace Go.Proofs.YtbicloceaddinaaGreat
open Go.ChangeShapes Go.WideShapes Go.ChangeAt Go.RowKit
set_option linter.unusedVariables false
/-- A config of a ground, in bounds. -/
structure CfgN (t s l b : Nat) : Prop where
  t1 : t ≤ 12
  s1 : s ≤ 60
  s0 : 1 ≤ s
  l1 : l ≤ 64
  b1 : b ≤ 64
theorem rafter_ok {t s l b : Nat} (c : CfgN t s l b) (n : Int) (w : World) :
    Calls Tryz.prog 190 #[.agg #[.int .i64 t, .int .i64 s, .int .i64 l, .int .i64 b], .int .i64 n] w fun e w' => e = .returned (.int .i64 (aft (layF t s l b) n)) ∧ Ext w w' := by
  have HA := Lib.hid (fun W => at_any t s l b 17 n 0 W c.t1 c.s1 c.s0 c.l1 c.b1 (by decide) (by decide) (fun _ => rfl) (fun h => by omega))
  have e1 : toldF (layF t s l b) 17 n 0 = aft (layF t s l b) n := rfl
  rw [e1] at HA
  have X0 := Lib.hid ((Ext.refl w).alloc (.cells #[.int .i64 t, .int .i64 s, .int .i64 l, .int .i64 b] 23))
  generalize aft (layF t s l b) n = a at *
  clear e1 c
  go_enter Tryz.func190, Tryz.ntmps190
  go_wp2_with fail
  refine (HA.out _).mono ?_
  rintro e w1 ⟨rfl, x1⟩
  have X1 := Lib.hid (X0.out.trans x1)
  clear x1
  go_wp2_with fail
  go_ret
  exact ⟨rfl, X1.out⟩
end Go.Proofs.YtbicloceaddinaaGreat


/- Grounds that are made of a list of slots. Conditions: those that each theorem names. -/
namespace Go.Proofs.YtbicloceaddinaaGreat
open Go.ChangeShapes Go.WideShapes Go.ChangeAt Go.RowKit
set_option linter.unusedVariables false
def flatQ : List Put → List Value
  | [] => []
  | p :: l => [Value.int .i64 p.1, .int .u64 p.2] ++ flatQ l
theorem flatQ_append : ∀ l m : List Put, flatQ (l ++ m) = flatQ l ++ flatQ m
  | [], _ => rfl
  | p :: l, m => by simp [flatQ, flatQ_append l m]
theorem flatQ_get : ∀ (l : List Put) (i : Nat), i < l.length → (flatQ l)[i * 2]? = some (.int .i64 (l.getD i (0, 0)).1) ∧ (flatQ l)[i * 2 + 1]? = some (.int .u64 (l.getD i (0, 0)).2)
  | [], i, h => absurd h (by simp)
  | p :: l, 0, _ => by simp [flatQ]
  | p :: l, i + 1, h => by
    have h := flatQ_get l i (by simpa using h)
    rw [show (i + 1) * 2 = i * 2 + 1 + 1 by omega]
    simpa [flatQ] using h
theorem put_info : (Tryz.prog.info? 114).map (fun i => (i.zero, i.size, i.bytes)) = some (some (.agg #[.int .i64 0, .int .u64 0]), 2, 16) := by kernel_rfl
/-- A row of puts of the call's own. -/
def PutRow (w : World) (B : Nat) (v : Value) (ys : List Put) : Prop := w.ownsRow B 114 2 v ys.length (flatQ ys)
theorem PutRow.nil (w : World) (B : Nat) : PutRow w B (.slice none 0 0) [] := World.ownsRow_nil w B _ 2
theorem owns_keep9 {w w' : World} {B : Nat} {e : TypeId} {size n : Nat} {v : Value} {xs : List Value} (h : w.ownsRow B e size v n xs) (hk : ∀ g, v.ownBlock = some g → w'.heap[g]? = w.heap[g]?) : w'.ownsRow B e size v n xs := by
  refine ⟨h.1, ?_⟩
  rcases h.2 with h2 | ⟨g, cap, cur, hv, hg, hh, r⟩
  · exact Or.inl h2
  · refine Or.inr ⟨g, cap, cur, hv, hg, ?_, r⟩
    rw [hk g (by rw [hv]; rfl)]; exact hh
theorem PutRow.ext {w w' : World} {B : Nat} {v : Value} {ys : List Put} (h : PutRow w B v ys) (x : Ext w w') : PutRow w' B v ys := owns_keep9 h (fun g hg => x.block g (World.ownsRow.lt h g hg).2)
theorem PutRow.far {w : World} {B : Nat} {v : Value} {ys : List Put} (h : PutRow w B v ys) {p : Addr} (hp : v.ownBlock ≠ some p.block) (u : Value) : PutRow (w.setCell p u) B v ys := owns_keep9 h (fun g hg => Below.heap_setCell w p u g (fun e => hp (by rw [hg, e])))
/-- The numbers of a put that are none too great. -/
def PutFit (p : Put) : Prop := (-9223372036854775808 ≤ p.1 ∧ p.1 < 9223372036854775808) ∧ (0 ≤ p.2 ∧ p.2 < 18446744073709551616)
theorem PutRow.form {w : World} {B : Nat} {v : Value} {ys : List Put} (h : PutRow w B v ys) (hf : ∀ i, i < ys.length → PutFit (ys.getD i (0, 0))) : ∃ A c, v = .slice A ys.length c ∧ ys.length ≤ c ∧ c ≤ maxLen ∧ PutsAt w A ys := by
  have hl := h.1
  rcases h.2 with ⟨rfl, hn⟩ | ⟨g, cap, cur, rfl, hB, hh, hnc, hcm, hcs, ht⟩
  · exact ⟨none, 0, by rw [hn], by omega, Nat.zero_le _, fun h0 => absurd h0 (by omega)⟩
  · refine ⟨_, cap, rfl, hnc, hcm, fun h0 => ⟨⟨g, 0, none⟩, rfl, (Array.getElem?_eq_some_iff.1 hh).1, fun i hi => ?_⟩⟩
    have hc : ∀ j, j < ys.length * 2 → w.cell? ⟨g, j, none⟩ = (flatQ ys)[j]? := fun j hj => by
      have h1 : w.cell? ⟨g, j, none⟩ = cur[j]? := cell_of_row w g j cur 114 (0, 0) hh
      rw [h1, ← ht, List.getElem?_take, if_pos hj, Array.getElem?_toList]
    obtain ⟨g1, g2⟩ := flatQ_get ys i hi
    rw [at0]
    refine ⟨⟨?_, ?_⟩, hf i hi⟩
    · rw [hc _ (by omega)]; exact g1
    · show w.cell? ⟨g, i * 2 + 1, none⟩ = _
      rw [hc _ (by omega)]; exact g2
theorem step_pushPut {P : Program} {ops : Array Oper} {o : Oper} {a : Act} {K : Act → World → Prop} {Q : Exit → Act → World → Prop} {E : Prop} (hgd : o.guard = none) (s x : Operand) (t : TypeId)
    (ho : o.op = .call { callee := .builtin .append, args := #[s, x], argTypes := #[t, t] })
    (e : TypeId) (hinfo : (P.info? e).map (fun i => (i.zero, i.size, i.bytes)) = some (some (.agg #[.int .i64 0, .int .u64 0]), 2, 16)) (ht : P.underlying t = some (.slice e))
    (w0 W : World) (v : Value) (n : Nat) (us : List Value) (r0 r1 : Int) (hs : a.eval s = v) (hrow : W.ownsRow w0.heap.size e 2 v n us) (ext : Ext w0 W)
    (hx : a.eval x = .slice (some ⟨W.heap.size, 0, none⟩) 1 1) (hlen : n < 1000000)
    (h : ∀ g cap w', w'.ownsRow w0.heap.size e 2 (.slice (some ⟨g, 0, none⟩) (n + 1) cap) (n + 1) (us ++ [.int .i64 r0, .int .u64 r1]) → Ext w0 w' → Fr (fun b => v.ownBlock = some b) W w' → (v.ownBlock = some g ∨ W.heap.size ≤ g) → K (a.put o.dst (.slice (some ⟨g, 0, none⟩) (n + 1) cap)) w') :
    if Region.wanted o (yielded ops a.tmps) = true then Oper.wp P o a (W.alloc (.cells #[.int .i64 r0, .int .u64 r1] e)).drew K Q else E := by
  obtain ⟨i, hi, hz1, hz2, hz3⟩ := info_parts hinfo
  refine step_append_lies _ hgd s x t ho w0.heap.size e i (.agg #[.int .i64 0, .int .u64 0]) 2 16 ht hi hz1 hz2 hz3 rfl (by decide) v n us hs ((World.ownsRow.alloc hrow _).drew) ⟨W.heap.size, 0, none⟩ 1 1 [.int .i64 r0, .int .u64 r1] hx rfl ?_ ?_ (by omega) ?_ ?_ ?_ _ rfl ?_
  · intro j u' hj
    have hb := Blk.new W e [.int .i64 r0, .int .u64 r1]
    rw [at0]
    show (W.alloc (.cells #[.int .i64 r0, .int .u64 r1] e)).cell? ⟨W.heap.size, j, none⟩ = _
    rw [hb.cell j]
    exact hj
  · intro u' hu'
    simp at hu'
    rcases hu' with rfl | rfl <;> rfl
  · unfold maxLen; omega
  · omega
  · have := ext.size; simp; omega
  · intro g cap w' hown hg hat _
    have hlt := World.ownsRow.lt hrow
    refine h g cap w' hown ?_ ?_ ?_
    · exact Ext.of (((Below.alloc ext.below ext.size _).drew).grown hg (by have := ext.size; simp; omega) (fun q hq => (hlt q hq).1))
    · have hsz := hg.size
      simp at hsz
      refine ⟨hg.os, hg.tape, hg.output, by omega, fun b hb hne => (hg.block b (by simp; omega) (fun e => hne e.symm)).trans (Below.heap_alloc _ _ _ hb)⟩
    · rcases hat with h | h
      · exact Or.inl h
      · right
        rw [h]
        simp
/-- Where the k-th word of a list of slots is put, and which one. -/
def rowP (F : Nat → Int) (zs : List Int) (k : Nat) : Put := (if k = 0 then -2 else aft F (zs.getD (k - 1) 0), zs.getD k 0 + 1)
def rowPs (F : Nat → Int) (zs : List Int) (k : Nat) : List Put := (List.range k).map (rowP F zs)
theorem rowPs_len (F : Nat → Int) (zs : List Int) (k : Nat) : (rowPs F zs k).length = k := by simp [rowPs]
theorem rowPs_succ (F : Nat → Int) (zs : List Int) (k : Nat) : rowPs F zs (k + 1) = rowPs F zs k ++ [rowP F zs k] := by simp [rowPs, List.range_succ]
def RowsPost (w : World) (t s l b : Nat) (ys : List Put) (e : Ending) (w' : World) : Prop := ∃ (A : Option Addr) (c : Nat), e = .returned (.agg #[.int .i64 t, .int .i64 s, .int .i64 l, .int .i64 b, .slice A ys.length c]) ∧ PutsAt w' A ys ∧ Ext w w'
set_option maxRecDepth 100000 in
set_option maxHeartbeats 4000000 in
theorem rows_ok {t s l b : Nat} (c : CfgN t s l b) (ok : Okay (layF t s l b)) (w : World) (A : Option Addr) (n cc : Nat) (zs : List Int) (hl : zs.length = n) (hn : n ≤ 100) (hA : Ints w .i64 A zs) (hz : ∀ i, i < n → 0 ≤ zs.getD i 0 ∧ zs.getD i 0 < 1000000) :
    Calls Tryz.prog 155 #[.agg #[.int .i64 t, .int .i64 s, .int .i64 l, .int .i64 b], .slice A n cc] w (RowsPost w t s l b (rowPs (layF t s l b) zs n)) := by
  have HAf := Lib.hid (fun W a => rafter_ok c a W)
  have HAr := Lib.hid (aft_rng ok)
  have b0 := ((Blk.new w 23 [.int .i64 t, .int .i64 s, .int .i64 l, .int .i64 b]).ext ((Ext.refl _).alloc (.cells #[.int .i64 0, .int .i64 0, .int .i64 0, .int .i64 0, .slice none 0 0] 26))).ext ((Ext.refl _).alloc (.cells #[.int .i64 t, .int .i64 s, .int .i64 l, .int .i64 b, .slice none 0 0] 26))
  have b1 := (Blk.new (w.alloc (.cells #[.int .i64 t, .int .i64 s, .int .i64 l, .int .i64 b] 23)) 26 [.int .i64 0, .int .i64 0, .int .i64 0, .int .i64 0, .slice none 0 0]).ext ((Ext.refl _).alloc (.cells #[.int .i64 t, .int .i64 s, .int .i64 l, .int .i64 b, .slice none 0 0] 26))
  have b2 := Blk.new ((w.alloc (.cells #[.int .i64 t, .int .i64 s, .int .i64 l, .int .i64 b] 23)).alloc (.cells #[.int .i64 0, .int .i64 0, .int .i64 0, .int .i64 0, .slice none 0 0] 26)) 26 [.int .i64 t, .int .i64 s, .int .i64 l, .int .i64 b, .slice none 0 0]
  simp only [World.size_alloc] at b1 b2
  have B0 := Lib.hid b0
  have B1 := Lib.hid b1
  have B2 := Lib.hid b2
  have X0 := Lib.hid ((((Ext.refl w).alloc (.cells #[.int .i64 t, .int .i64 s, .int .i64 l, .int .i64 b] 23)).alloc (.cells #[.int .i64 0, .int .i64 0, .int .i64 0, .int .i64 0, .slice none 0 0] 26)).alloc (.cells #[.int .i64 t, .int .i64 s, .int .i64 l, .int .i64 b, .slice none 0 0] 26))
  have HI := Lib.hid hA
  have HZ := Lib.hid hz
  generalize hF : layF t s l b = F at *
  clear c ok b0 b1 b2 hA hz
  go_enter Tryz.func155, Tryz.ntmps155
  go_upto_region 3 with fail
  generalize ((w.alloc (.cells #[.int .i64 t, .int .i64 s, .int .i64 l, .int .i64 b] 23)).alloc (.cells #[.int .i64 0, .int .i64 0, .int .i64 0, .int .i64 0, .slice none 0 0] 26)).alloc (.cells #[.int .i64 t, .int .i64 s, .int .i64 l, .int .i64 b, .slice none 0 0] 26) = W0 at *
  go_wp2_with fail
  go_loopw [6, 7] (fun a i wr => ∃ (k : Nat) (v : Value), k ≤ n ∧ i = .int .i64 k ∧ a = .int .i64 (rowP F zs k).1 ∧ PutRow wr w.heap.size v (rowPs F zs k) ∧ Ext w wr ∧ Blk wr w.heap.size 23 [.int .i64 t, .int .i64 s, .int .i64 l, .int .i64 b] ∧ Blk wr (w.heap.size + 1) 26 [.int .i64 0, .int .i64 0, .int .i64 0, .int .i64 0, .slice none 0 0] ∧ Blk wr (w.heap.size + 1 + 1) 26 [.int .i64 t, .int .i64 s, .int .i64 l, .int .i64 b, v] ∧ (v.ownBlock ≠ some w.heap.size ∧ v.ownBlock ≠ some (w.heap.size + 1) ∧ v.ownBlock ≠ some (w.heap.size + 1 + 1))) (fun _ i _ => n - (intOf i).toNat)
  case atStart => exact ⟨0, _, Nat.zero_le _, rfl, rfl, PutRow.nil _ _, X0.out, B0.out, B1.out, B2.out, by simp [Value.ownBlock], by simp [Value.ownBlock], by simp [Value.ownBlock]⟩
  case round =>
    obtain ⟨k, v, hk, rfl, rfl, row, xk, k0, k1, k2, o0, o1, o2⟩ := hrel
    have RW := Lib.hid row
    have XK := Lib.hid xk
    have K0 := Lib.hid k0
    have K1 := Lib.hid k1
    have K2 := Lib.hid k2
    have hs2 : w.heap.size + 1 + 1 < wr.heap.size := k2.lt
    have OO := Lib.hid (And.intro o0 (And.intro o1 o2))
    clear row xk k0 k1 k2 o0 o1 o2 B0 B1 B2 X0
    by_cases hlt : k < n
    · have v1 : decide (k < n) = true := by simp; omega
      obtain ⟨ad, hA, hbl, hc⟩ := (HI.out.ext XK.out) (by omega)
      have q0 := hc k (by omega)
      obtain ⟨z0, z1⟩ := HZ.out k hlt
      have HN : Hid ((rowP F zs (k + 1)).1 = aft F (zs.getD k 0)) := Lib.hid (by unfold rowP; simp)
      have HP2 : Hid ((rowP F zs k).2 = zs.getD k 0 + 1) := Lib.hid rfl
      have HSu := Lib.hid (rowPs_succ F zs k)
      have hkeep : Hid (∀ W, Ext w W → W.cell? (ad.add k) = some (.int .i64 (zs.getD k 0))) := Lib.hid (fun W x => by
        obtain ⟨ad', e, _, hc'⟩ := (HI.out.ext x) (by omega)
        rw [hA] at e
        injection e with e
        subst e
        exact hc' k (by omega))
      have hpe : rowP F zs k = ((rowP F zs k).1, (rowP F zs k).2) := rfl
      rw [hpe, HP2.out] at HSu
      generalize (rowP F zs k).1 = a at *
      generalize zs.getD k 0 = z at *
      clear hc hpe HP2
      subst hA
      have g4 : wr.cell? ⟨w.heap.size + 1 + 1, 4, none⟩ = some v := K2.out.cell 4
      have f4 : wr.frozen? ⟨w.heap.size + 1 + 1, 4, none⟩ = false := K2.out.frozen 4
      have ng : ¬ w.heap.size + 1 + 1 = wr.heap.size := by omega
      have wz : IntKind.u64.wrap z = z := u64w z z0 (by omega)
      have wz1 : IntKind.u64.wrap (z + 1) = z + 1 := u64w (z + 1) (by omega) (by omega)
      have nb : ¬ (ad.add k).block = wr.heap.size := by rw [add_block]; omega
      go_wp2_with fail
      go_region_law ((refine step_pushPut (by rfl) _ _ 24 (by rfl) 114 put_info Tryz.underlying24 w wr _ _ _ a (z + 1) (by rfl) RW.out XK.out (by rfl) (by rw [rowPs_len]; omega) ?_; intro g' cap' w' hrow' hext' hfr ho; have c4' : w'.cell? ⟨w.heap.size + 1 + 1, 4, none⟩ = some v := (by exact (K2.out.fr hfr OO.out.2.2).cell 4); have f4' : w'.frozen? ⟨w.heap.size + 1 + 1, 4, none⟩ = false := (K2.out.fr hfr OO.out.2.2).frozen 4))
      all_goals
        rw [rowPs_len] at hrow' ⊢
        have m0 : g' ≠ w.heap.size := by
          rcases ho with e | e
          · exact fun x => OO.out.1 (by rw [e, x])
          · omega
        have m1 : g' ≠ w.heap.size + 1 := by
          rcases ho with e | e
          · exact fun x => OO.out.2.1 (by rw [e, x])
          · omega
        have m2 : g' ≠ w.heap.size + 1 + 1 := by
          rcases ho with e | e
          · exact fun x => OO.out.2.2 (by rw [e, x])
          · omega
        have OV : Hid ((Value.slice (some ⟨g', 0, none⟩) (k + 1) cap').ownBlock ≠ some w.heap.size ∧ (Value.slice (some ⟨g', 0, none⟩) (k + 1) cap').ownBlock ≠ some (w.heap.size + 1) ∧ (Value.slice (some ⟨g', 0, none⟩) (k + 1) cap').ownBlock ≠ some (w.heap.size + 1 + 1)) := Lib.hid ⟨fun e => m0 (by simpa [Value.ownBlock] using e), fun e => m1 (by simpa [Value.ownBlock] using e), fun e => m2 (by simpa [Value.ownBlock] using e)⟩
        have RR0 : PutRow w' w.heap.size (.slice (some ⟨g', 0, none⟩) (k + 1) cap') (rowPs F zs (k + 1)) := by
          unfold PutRow
          rw [HSu.out, flatQ_append, List.length_append, rowPs_len]
          exact hrow'
        have RR := Lib.hid (RR0.far (p := ⟨w.heap.size + 1 + 1, 4, none⟩) OV.out.2.2 (.slice (some ⟨g', 0, none⟩) (k + 1) cap'))
        have XW := Lib.hid (hext'.setCell (p := ⟨w.heap.size + 1 + 1, 4, none⟩) (by show w.heap.size ≤ w.heap.size + 1 + 1; omega) (.slice (some ⟨g', 0, none⟩) (k + 1) cap'))
        have KK0 := Lib.hid ((K0.out.fr hfr OO.out.1).far (p := ⟨w.heap.size + 1 + 1, 4, none⟩) (by show w.heap.size ≠ w.heap.size + 1 + 1; omega) (.slice (some ⟨g', 0, none⟩) (k + 1) cap'))
        have KK1 := Lib.hid ((K1.out.fr hfr OO.out.2.1).far (p := ⟨w.heap.size + 1 + 1, 4, none⟩) (by show w.heap.size + 1 ≠ w.heap.size + 1 + 1; omega) (.slice (some ⟨g', 0, none⟩) (k + 1) cap'))
        have KK2 := Lib.hid ((K2.out.fr hfr OO.out.2.2).set 4 (.slice (some ⟨g', 0, none⟩) (k + 1) cap'))
        clear c4' f4' g4 f4 hrow' hext' hfr ho RR0 m0 m1 m2 K0 K1 K2 RW XK OO q0
        generalize w'.setCell ⟨w.heap.size + 1 + 1, 4, none⟩ (.slice (some ⟨g', 0, none⟩) (k + 1) cap') = W6 at *
        have HS7 : Hid (∀ W, Ext W6 W → W.cell? ⟨w.heap.size, 0, none⟩ = some (.int .i64 t) ∧ W.cell? ⟨w.heap.size, 1, none⟩ = some (.int .i64 s) ∧ W.cell? ⟨w.heap.size, 2, none⟩ = some (.int .i64 l) ∧ W.cell? ⟨w.heap.size, 3, none⟩ = some (.int .i64 b) ∧ W.cell? (ad.add k) = some (.int .i64 z)) := Lib.hid (fun W x => ⟨(KK0.out.ext x).cell 0, (KK0.out.ext x).cell 1, (KK0.out.ext x).cell 2, (KK0.out.ext x).cell 3, hkeep.out W (XW.out.trans x)⟩)
        have xt : Ext W6 W6.drew := (Ext.refl W6).drew
        obtain ⟨y0, y1, y2, y3, y4⟩ := HS7.out W6 (Ext.refl _)
        go_wp2_with fail
        go_region_held3 (fun W => W.cell? ⟨w.heap.size, 0, none⟩ = some (.int .i64 t) ∧ W.cell? ⟨w.heap.size, 1, none⟩ = some (.int .i64 s) ∧ W.cell? ⟨w.heap.size, 2, none⟩ = some (.int .i64 l) ∧ W.cell? ⟨w.heap.size, 3, none⟩ = some (.int .i64 b) ∧ W.cell? (ad.add k) = some (.int .i64 z)) (first | exact HS7.out _ xt | go_keep) (first
          | (go_at_call 190; refine (HAf.out _ z).mono ?_; rintro e w7 ⟨rfl, x7⟩; replace xt := xt.trans x7; clear x7))
        all_goals
          have XT := Lib.hid xt
          clear xt y0 y1 y2 y3 y4
          go_wp2_with fail
          go_roundw
          case rel => exact ⟨k + 1, .slice (some ⟨g', 0, none⟩) (k + 1) cap', by omega, by go_num, by rw [HN.out], RR.out.ext XT.out, XW.out.trans XT.out, KK0.out.ext XT.out, KK1.out.ext XT.out, KK2.out.ext XT.out, OV.out⟩
          case measure => simp [intOf]; omega
    · have v1 : decide (k < n) = false := by simp; omega
      obtain rfl : n = k := by omega
      have hfit : ∀ i, i < (rowPs F zs n).length → PutFit ((rowPs F zs n).getD i (0, 0)) := fun i hi => by
        rw [rowPs_len] at hi
        have e : (rowPs F zs n).getD i (0, 0) = rowP F zs i := by
          unfold rowPs
          rw [List.getD_eq_getElem?_getD, List.getElem?_map, List.getElem?_range hi]
          rfl
        rw [e]
        have hz := HZ.out i hi
        unfold rowP PutFit
        refine ⟨?_, by simp only; omega⟩
        simp only
        split
        · exact ⟨by decide, by decide⟩
        · exact HAr.out _
      obtain ⟨A', c', rfl, -, -, -⟩ := RW.out.form hfit
      rw [rowPs_len] at *
      have g0 : wr.cell? ⟨w.heap.size + 1 + 1, 0, none⟩ = some (.int .i64 t) := K2.out.cell 0
      have g1 : wr.cell? ⟨w.heap.size + 1 + 1, 1, none⟩ = some (.int .i64 s) := K2.out.cell 1
      have g2 : wr.cell? ⟨w.heap.size + 1 + 1, 2, none⟩ = some (.int .i64 l) := K2.out.cell 2
      have g3 : wr.cell? ⟨w.heap.size + 1 + 1, 3, none⟩ = some (.int .i64 b) := K2.out.cell 3
      have g4 : wr.cell? ⟨w.heap.size + 1 + 1, 4, none⟩ = some (.slice A' n c') := K2.out.cell 4
      have d0 : wr.cell? ⟨w.heap.size + 1, 0, none⟩ = some (.int .i64 0) := K1.out.cell 0
      have d1 : wr.cell? ⟨w.heap.size + 1, 1, none⟩ = some (.int .i64 0) := K1.out.cell 1
      have d2 : wr.cell? ⟨w.heap.size + 1, 2, none⟩ = some (.int .i64 0) := K1.out.cell 2
      have d3 : wr.cell? ⟨w.heap.size + 1, 3, none⟩ = some (.int .i64 0) := K1.out.cell 3
      have d4 : wr.cell? ⟨w.heap.size + 1, 4, none⟩ = some (.slice none 0 0) := K1.out.cell 4
      have f0 : wr.frozen? ⟨w.heap.size + 1, 0, none⟩ = false := K1.out.frozen 0
      have f1 : wr.frozen? ⟨w.heap.size + 1, 1, none⟩ = false := K1.out.frozen 1
      have f2 : wr.frozen? ⟨w.heap.size + 1, 2, none⟩ = false := K1.out.frozen 2
      have f3 : wr.frozen? ⟨w.heap.size + 1, 3, none⟩ = false := K1.out.frozen 3
      have f4 : wr.frozen? ⟨w.heap.size + 1, 4, none⟩ = false := K1.out.frozen 4
      have o1 := OO.out.2.1
      go_wp2_with fail
      have R7 : PutRow (((((wr.setCell ⟨w.heap.size + 1, 0, none⟩ (.int .i64 t)).setCell ⟨w.heap.size + 1, 1, none⟩ (.int .i64 s)).setCell ⟨w.heap.size + 1, 2, none⟩ (.int .i64 l)).setCell ⟨w.heap.size + 1, 3, none⟩ (.int .i64 b)).setCell ⟨w.heap.size + 1, 4, none⟩ (.slice A' n c')) w.heap.size (.slice A' n c') (rowPs F zs n) := ((((RW.out.far (p := ⟨w.heap.size + 1, 0, none⟩) o1 _).far (p := ⟨w.heap.size + 1, 1, none⟩) o1 _).far (p := ⟨w.heap.size + 1, 2, none⟩) o1 _).far (p := ⟨w.heap.size + 1, 3, none⟩) o1 _).far (p := ⟨w.heap.size + 1, 4, none⟩) o1 _
      have X7 : Ext w (((((wr.setCell ⟨w.heap.size + 1, 0, none⟩ (.int .i64 t)).setCell ⟨w.heap.size + 1, 1, none⟩ (.int .i64 s)).setCell ⟨w.heap.size + 1, 2, none⟩ (.int .i64 l)).setCell ⟨w.heap.size + 1, 3, none⟩ (.int .i64 b)).setCell ⟨w.heap.size + 1, 4, none⟩ (.slice A' n c')) := ((((XK.out.setCell (p := ⟨w.heap.size + 1, 0, none⟩) (by show w.heap.size ≤ w.heap.size + 1; omega) _).setCell (p := ⟨w.heap.size + 1, 1, none⟩) (by show w.heap.size ≤ w.heap.size + 1; omega) _).setCell (p := ⟨w.heap.size + 1, 2, none⟩) (by show w.heap.size ≤ w.heap.size + 1; omega) _).setCell (p := ⟨w.heap.size + 1, 3, none⟩) (by show w.heap.size ≤ w.heap.size + 1; omega) _).setCell (p := ⟨w.heap.size + 1, 4, none⟩) (by show w.heap.size ≤ w.heap.size + 1; omega) _
      have b7 := ((((K1.out.set 0 (.int .i64 t)).set 1 (.int .i64 s)).set 2 (.int .i64 l)).set 3 (.int .i64 b)).set 4 (.slice A' n c')
      clear g0 g1 g2 g3 g4 d0 d1 d2 d3 d4 f0 f1 f2 f3 f4
      generalize (((((wr.setCell ⟨w.heap.size + 1, 0, none⟩ (.int .i64 t)).setCell ⟨w.heap.size + 1, 1, none⟩ (.int .i64 s)).setCell ⟨w.heap.size + 1, 2, none⟩ (.int .i64 l)).setCell ⟨w.heap.size + 1, 3, none⟩ (.int .i64 b)).setCell ⟨w.heap.size + 1, 4, none⟩ (.slice A' n c')) = W7 at *
      have q0 : W7.cell? ⟨w.heap.size + 1, 0, none⟩ = some (.int .i64 t) := b7.cell 0
      have q1 : W7.cell? ⟨w.heap.size + 1, 1, none⟩ = some (.int .i64 s) := b7.cell 1
      have q2 : W7.cell? ⟨w.heap.size + 1, 2, none⟩ = some (.int .i64 l) := b7.cell 2
      have q3 : W7.cell? ⟨w.heap.size + 1, 3, none⟩ = some (.int .i64 b) := b7.cell 3
      have q4 : W7.cell? ⟨w.heap.size + 1, 4, none⟩ = some (.slice A' n c') := b7.cell 4
      obtain ⟨A2, c2, hv2, -, -, hp2⟩ := R7.form (by rw [rowPs_len]; exact hfit)
      exact bodyPost_ret (v := .agg #[.int .i64 t, .int .i64 s, .int .i64 l, .int .i64 b, .slice A' n c']) (by simp [results, Tryz.results155, go_sem, q0, q1, q2, q3, q4]) rfl ⟨A2, c2, by rw [hv2], hp2, X7⟩
end Go.Proofs.YtbicloceaddinaaGreat


/- Package free: machines that are made, their steps as one, and the page's example reckoned. Conditions: those that each theorem names. -/
namespace Go.Proofs.YtbicloceaddinaaGreat
open Go.ChangeShapes Go.WideShapes Go.ChangeAt Go.RowKit
set_option linter.unusedVariables false
def NewM (T : TypeId) (w : World) (gl : Nat) (t y : Int) (e : Ending) (w' : World) : Prop := ∃ g, e = .returned (.pointer (some ⟨g, 0, none⟩)) ∧ w.heap.size ≤ g ∧ Blk w' g T (fcells gl t 0 0 false y) ∧ Ext w w'
theorem newPop_ok (w : World) (gl : Nat) (t : Int) : Calls Tryz.prog 90 #[.pointer (some ⟨gl, 0, none⟩), .int .i64 t] w (NewM 217 w gl t 0) := by
  go_enter Tryz.func90, Tryz.ntmps90
  go_wp2_with fail
  go_ret
  exact ⟨w.heap.size, rfl, Nat.le_refl _, Blk.new w _ _, (Ext.refl w).alloc _⟩
theorem newPush_ok (w : World) (gl : Nat) (t y : Int) : Calls Tryz.prog 188 #[.pointer (some ⟨gl, 0, none⟩), .int .i64 t, .int .i64 y] w (NewM 259 w gl t y) := by
  go_enter Tryz.func188, Tryz.ntmps188
  go_wp2_with fail
  go_ret
  exact ⟨w.heap.size, rfl, Nat.le_refl _, Blk.new w _ _, (Ext.refl w).alloc _⟩
theorem popSlot_ok (w : World) (g : Nat) (top : Int) (dn : Bool) (ht : W64 top) (c3 : w.cell? ⟨g, 3, none⟩ = some (.int .u64 top)) (c4 : w.cell? ⟨g, 4, none⟩ = some (.bool dn)) :
    Calls Tryz.prog 95 #[.pointer (some ⟨g, 0, none⟩)] w fun e w' => e = .returned (.int .i64 (if dn = true then toN top else -1)) ∧ Ext w w' := by
  have HF := Lib.hid (first_ok w g top ht c3)
  clear ht c3
  cases dn
  · go_enter Tryz.func95, Tryz.ntmps95
    go_wp2_with fail
    go_ret
    exact ⟨rfl, Ext.refl w⟩
  · go_enter Tryz.func95, Tryz.ntmps95
    go_wp2_with fail
    refine HF.out.mono ?_
    rintro e w1 ⟨rfl, x1⟩
    have X1 := Lib.hid x1
    clear x1
    go_wp2_with fail
    go_ret
    exact ⟨rfl, X1.out⟩
/-- A machine: which part comes next, the top that was loaded, a slot, whether it is done. -/
structure PMs where
  part : Int
  top : Int
  y : Int
  dn : Bool
deriving DecidableEq
def PMs.cells (x : PMs) (gl : Nat) (t : Int) : List Value := fcells gl t x.part x.top x.dn x.y
structure PMs.Wf (x : PMs) : Prop where
  part : x.part = 0 ∨ x.part = 1 ∨ x.part = 2
  top : W64 x.top
  y : I64 x.y
def popS (F : Nat → Int) (t : Int) (x : PMs) (s : MSt) : PMs × MSt :=
  if x.dn = true then (x, s)
  else if x.part = 0 then (⟨1, peekV s (-2), x.y, toN (peekV s (-2)) == -1⟩, s.load t (-2))
  else if x.part = 1 then (⟨2, x.top, toN (peekV s (aft F (toN x.top))), false⟩, s.load t (aft F (toN x.top)))
  else (⟨0, x.top, x.y, swapB s (-2) x.top⟩, s.swap t (-2) x.top (topN x.y (ver1 x.top)))
def pushS (F : Nat → Int) (t : Int) (x : PMs) (s : MSt) : PMs × MSt :=
  if x.dn = true then (x, s)
  else if x.part = 0 then (⟨1, peekV s (-2), x.y, false⟩, s.load t (-2))
  else if x.part = 1 then (⟨2, x.top, x.y, false⟩, s.store t (aft F x.y) (toN x.top + 1))
  else (⟨0, x.top, x.y, swapB s (-2) x.top⟩, s.swap t (-2) x.top (topN x.y (ver1 x.top)))
section
variable {Q : Nat → Prop} {w0 w : World} {gm gp gl : Nat} {dv pv : Value} {s : MSt} {F : Nat → Int} {t : Int} {x : PMs}
theorem popStep_ok (h : IsMem Q w w0 w gm dv pv s) (hc : Calm s) (ok : Okay F) (hx : x.Wf) (hb : Blk w gp 217 (x.cells gl t)) (hl : Blk w gl 173 (cellsF F)) (hF : F 22 = -2) (qp : Q gp) (ql : Q gl) (p0 : w0.heap.size ≤ gp) :
    Calls Tryz.prog 157 #[.pointer (some ⟨gp, 0, none⟩), .pointer (some ⟨gm, 0, none⟩)] w (StepPost Q w0 w gm gp 217 dv pv (popS F t x s).2 (popS F t x s).1.dn ((popS F t x s).1.cells gl t)) := by
  obtain ⟨part, top, y, dn⟩ := x
  obtain ⟨hp, ht, hy⟩ := hx
  simp only at hp ht hy
  cases dn
  · rcases hp with rfl | rfl | rfl
    · exact popStep_0 h hc ok ht hb hl hF qp ql p0
    · exact popStep_1 h hc ok ht hb hl hF qp ql p0
    · exact popStep_2 h hc ok ht hb hl hF qp ql p0 hy
  · exact popStep_done h hc ok ht hb hl hF qp ql p0
theorem pushStep_ok (h : IsMem Q w w0 w gm dv pv s) (hc : Calm s) (ok : Okay F) (hx : x.Wf) (hb : Blk w gp 259 (x.cells gl t)) (hl : Blk w gl 173 (cellsF F)) (hF : F 22 = -2) (qp : Q gp) (ql : Q gl) (p0 : w0.heap.size ≤ gp) :
    Calls Tryz.prog 189 #[.pointer (some ⟨gp, 0, none⟩), .pointer (some ⟨gm, 0, none⟩)] w (StepPost Q w0 w gm gp 259 dv pv (pushS F t x s).2 (pushS F t x s).1.dn ((pushS F t x s).1.cells gl t)) := by
  obtain ⟨part, top, y, dn⟩ := x
  obtain ⟨hp, ht, hy⟩ := hx
  simp only at hp ht hy
  cases dn
  · rcases hp with rfl | rfl | rfl
    · exact pushStep_0 h hc ok ht hb hl hF qp ql p0
    · exact pushStep_1 h hc ok ht hb hl hF qp ql p0
    · exact pushStep_2 h hc ok ht hb hl hF qp ql p0 hy
  · exact pushStep_done h hc ok ht hb hl hF qp ql p0
end
/-- So many steps of one machine, alone. -/
def steps (f : PMs → MSt → PMs × MSt) (p : PMs × MSt) : Nat → PMs × MSt
  | 0 => p
  | k + 1 => f (steps f p k).1 (steps f p k).2
/-- The page's example. -/
def F9 : Nat → Int := layF 1 2 1 1
def s9 : MSt := groundSt 1 2 1 1 (rowPs F9 [0, 1] 2)
def p9 (k : Nat) : PMs × MSt := steps (popS F9 0) (⟨0, 0, 0, false⟩, s9) k
def q9 (k : Nat) : PMs × MSt := steps (pushS F9 0) (⟨0, 0, 0, false⟩, (p9 3).2) k
end Go.Proofs.YtbicloceaddinaaGreat


/- The page's example of layer 9. Conditions: none. -/
namespace Go.Proofs.YtbicloceaddinaaGreat
open Go.ChangeShapes Go.WideShapes Go.ChangeAt Go.RowKit
set_option linter.unusedVariables false
end Go.Proofs.YtbicloceaddinaaGreat

